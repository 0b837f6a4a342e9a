/- NamesWords, NamesRefIs, CurRefName, ValCalls, ValGet, CurRefNum, joined. -/
import Derived.Test.YtbdalbpackfejaaGreatDoorMFormatOf02
import Derived.Deep.RegionHeld3
set_option maxHeartbeats 16000000
set_option maxRecDepth 100000
namespace Go.Proofs.YtbdalbpackfejaaGreatDoor
section
open Go.RowKit NamesSpec Go.Lib
set_option maxRecDepth 100000
theorem Qcs (w:World):Calls Tryz.prog 142 #[] w (RetStrs w kwS):=by
 go_enter Tryz.func142,Tryz.ntmps142;go_wp2;go_ret;exact ⟨_,rfl,Rd.lit (cs:=(strV kwS).toArray) rfl,(Below.refl _ _).alloc (Nat.le_refl _) _⟩
theorem QcK (s:ByteArray):s.toList=s.data.toList:=ByteArray.toList_eq s
theorem Jz {s:ByteArray} {x:List UInt8} (h:(s.toList == x) = true) (hx:isKw x = true):isKw s.data.toList = true:=by
 rw [<- QcK,eq_of_beq h]; exact hx
theorem kw_no {s:ByteArray} (h:∀ x ∈ kw,(s.toList == x) = false):isKw s.data.toList = false:=by
 rw [<- QcK];unfold isKw;rw [Bool.eq_false_iff];intro hc;have hm:=List.contains_iff_mem.1 hc;have:=h _ hm;simp at this
theorem Qds (s:ByteArray) (w:World):Calls Tryz.prog 119 #[.string s] w fun e w' => e = .returned (.bool (isKw s.data.toList)) /\ w = w':=by
 rcases h0:(s.toList==[99,104,97,114,116]) with _ | _
 case true =>
  go_enter Tryz.func119,Tryz.ntmps119;go_wp2;go_ret;exact ⟨Qg (Jz h0 (by decide)).symm,rfl⟩
 rcases h1:(s.toList==[101,118,101,110,116]) with _ | _
 case true =>
  go_enter Tryz.func119,Tryz.ntmps119;go_wp2;go_ret;exact ⟨Qg (Jz h1 (by decide)).symm,rfl⟩
 rcases h2:(s.toList==[118,97,114]) with _ | _
 case true =>
  go_enter Tryz.func119,Tryz.ntmps119;go_wp2;go_ret;exact ⟨Qg (Jz h2 (by decide)).symm,rfl⟩
 rcases h3:(s.toList==[108,101,97,102]) with _ | _
 case true =>
  go_enter Tryz.func119,Tryz.ntmps119;go_wp2;go_ret;exact ⟨Qg (Jz h3 (by decide)).symm,rfl⟩
 rcases h4:(s.toList==[111,114]) with _ | _
 case true =>
  go_enter Tryz.func119,Tryz.ntmps119;go_wp2;go_ret;exact ⟨Qg (Jz h4 (by decide)).symm,rfl⟩
 rcases h5:(s.toList==[97,110,100]) with _ | _
 case true =>
  go_enter Tryz.func119,Tryz.ntmps119;go_wp2;go_ret;exact ⟨Qg (Jz h5 (by decide)).symm,rfl⟩
 rcases h6:(s.toList==[101,110,116,101,114]) with _ | _
 case true =>
  go_enter Tryz.func119,Tryz.ntmps119;go_wp2;go_ret;exact ⟨Qg (Jz h6 (by decide)).symm,rfl⟩
 rcases h7:(s.toList==[101,120,105,116]) with _ | _
 case true =>
  go_enter Tryz.func119,Tryz.ntmps119;go_wp2;go_ret;exact ⟨Qg (Jz h7 (by decide)).symm,rfl⟩
 rcases h8:(s.toList==[111,110]) with _ | _
 case true =>
  go_enter Tryz.func119,Tryz.ntmps119;go_wp2;go_ret;exact ⟨Qg (Jz h8 (by decide)).symm,rfl⟩
 rcases h9:(s.toList==[97,117,116,111]) with _ | _
 case true =>
  go_enter Tryz.func119,Tryz.ntmps119;go_wp2;go_ret;exact ⟨Qg (Jz h9 (by decide)).symm,rfl⟩
 rcases h10:(s.toList==[97,110,121]) with _ | _
 case true =>
  go_enter Tryz.func119,Tryz.ntmps119;go_wp2;go_ret;exact ⟨Qg (Jz h10 (by decide)).symm,rfl⟩
 rcases h11:(s.toList==[105,110]) with _ | _
 case true =>
  go_enter Tryz.func119,Tryz.ntmps119;go_wp2;go_ret;exact ⟨Qg (Jz h11 (by decide)).symm,rfl⟩
 rcases h12:(s.toList==[109,105,110]) with _ | _
 case true =>
  go_enter Tryz.func119,Tryz.ntmps119;go_wp2;go_ret;exact ⟨Qg (Jz h12 (by decide)).symm,rfl⟩
 rcases h13:(s.toList==[109,97,120]) with _ | _
 case true =>
  go_enter Tryz.func119,Tryz.ntmps119;go_wp2;go_ret;exact ⟨Qg (Jz h13 (by decide)).symm,rfl⟩
 rcases h14:(s.toList==[110,111,116]) with _ | _
 case true =>
  go_enter Tryz.func119,Tryz.ntmps119;go_wp2;go_ret;exact ⟨Qg (Jz h14 (by decide)).symm,rfl⟩
 rcases h15:(s.toList==[116,114,117,101]) with _ | _
 case true =>
  go_enter Tryz.func119,Tryz.ntmps119;go_wp2;go_ret;exact ⟨Qg (Jz h15 (by decide)).symm,rfl⟩
 rcases h16:(s.toList==[102,97,108,115,101]) with _ | _
 case true =>
  go_enter Tryz.func119,Tryz.ntmps119;go_wp2;go_ret;exact ⟨Qg (Jz h16 (by decide)).symm,rfl⟩
 have HK:Hid (isKw s.data.toList = false):=qh (kw_no (by
  intro x hx;simp only [kw,List.mem_cons,List.not_mem_nil,or_false] at hx
  rcases hx with rfl | rfl | rfl | rfl | rfl | rfl | rfl | rfl | rfl | rfl | rfl | rfl | rfl | rfl | rfl | rfl | rfl<;>assumption))
 go_enter Tryz.func119,Tryz.ntmps119;go_wp2;go_ret;exact ⟨Qg HK.o.symm,rfl⟩
def begB (r:Int):Bool:=decide (97<=r)&&decide (r<=122)
def goB (r:Int):Bool:=begB r||decide (48<=r)&&decide (r<=57)||decide (r=95)
theorem Qja (r:Int) (w:World):Calls Tryz.prog 120 #[.int .i32 r] w fun e w' => e = .returned (.bool (begB r)) /\ w = w':=by
 by_cases h1:97<=r<;>by_cases h2:r<=122
 all_goals
  go_enter Tryz.func120,Tryz.ntmps120;go_wp2;go_ret;exact ⟨Qg (by unfold begB; simp [h1,h2]),rfl⟩
theorem QcG {r:Int} {b:Bool} (h:begB r = b) (w:World):Calls Tryz.prog 120 #[.int .i32 r] w fun e w' => e = .returned (.bool b) /\ w = w':=by
 subst h; exact Qja r w
theorem QiE (r:Int) (w:World):Calls Tryz.prog 121 #[.int .i32 r] w fun e w' => e = .returned (.bool (goB r)) /\ w = w':=by
 rcases hb:begB r with _ | _
 all_goals
  have HB:=qh hb;clear hb
  by_cases h1:48<=r<;>by_cases h2:r<=57<;>by_cases h3:r=95
  all_goals first
   | (exfalso; omega)
   | (try subst h3
      go_enter Tryz.func121,Tryz.ntmps121;go_wp2_with (go_at_call 120; refine (QcG HB.o _).mono ?_; rintro e w' ⟨rfl,rfl⟩);go_ret;exact ⟨Qg (by unfold goB; rw [HB.o,Bool.eq_iff_iff]; simp; try omega),rfl⟩)
theorem QcR {r:Int} {b:Bool} (h:goB r = b) (w:World):Calls Tryz.prog 121 #[.int .i32 r] w fun e w' => e = .returned (.bool b) /\ w = w':=by
 subst h; exact QiE r w
theorem get_bang (s:ByteArray) (i:Nat) (h:i < s.size):s.get! i = s[i]:=by
 simp [ByteArray.get!,getElem!_pos,h]; rfl
theorem dec_big (s:ByteArray) (i:Nat) (h:i < s.size) (hb:128 <= s[i].toNat):128 <= (Utf8.decode s i).1:=by
 unfold Utf8.decode;simp only [Nat.add_zero,get_bang s i h];rw [if_neg (by omega)]
 repeat' split
 all_goals (try simp only [Utf8.runeError])<;>(try simp only [Bool.and_eq_true,decide_eq_true_eq,ge_iff_le] at *)<;>omega
theorem goB_of (c:UInt8):goB (c.toNat:Int) = later c:=by
 rw [Bool.eq_iff_iff];simp [goB,begB,later,letter,UInt8.le_iff_toNat_le,<- UInt8.toNat_inj];omega
theorem begB_of (c:UInt8):begB (c.toNat:Int) = letter c:=by
 rw [Bool.eq_iff_iff];simp [begB,letter,UInt8.le_iff_toNat_le];omega
theorem Qbk {c:UInt8} (h:later c = true):c.toNat < 128:=by
 simp [later,letter,UInt8.le_iff_toNat_le,<- UInt8.toNat_inj] at h;omega
theorem dec_later (s:ByteArray) (i:Nat) (h:i < s.size):goB ((Utf8.decode s i).1:Int) = later s[i]:=by
 by_cases hb:s[i].toNat<128
 ·rw [decode_ascii s i h hb]; exact goB_of _
 ·have h1:=dec_big s i h (by omega)
  have h2:later s[i] = false:=by
   rw [<- Bool.not_eq_true]; intro hc; exact hb (Qbk hc)
  rw [h2,<- Bool.not_eq_true];simp [goB,begB];omega
theorem QiW (s:ByteArray) (i:Nat) (h:i < s.size):begB ((Utf8.decode s i).1:Int) = letter s[i]:=by
 by_cases hb:s[i].toNat<128
 ·rw [decode_ascii s i h hb]; exact begB_of _
 ·have h1:=dec_big s i h (by omega)
  have h2:letter s[i] = false:=by
   rw [<- Bool.not_eq_true]; intro hc; exact hb (Qbk (JO hc))
  rw [h2,<- Bool.not_eq_true];simp [begB];omega
theorem dec_one (s:ByteArray) (i:Nat) (h:i<s.size) (hl:later s[i]=true):(Utf8.decode s i).2=1:=by rw [decode_ascii s i h (Qbk hl)]
theorem byte_at (s:ByteArray) (i:Nat) (h:i < s.size):s.data.toList[i]? = some s[i]:=by
 rw [List.getElem?_eq_getElem (by simpa using h)]; rfl
theorem Qa1 {s:ByteArray} (h:s.size = 0):s.toList = []:=by
 rw [ByteArray.toList_eq,<- List.length_eq_zero_iff]; exact h
theorem QdB {s:ByteArray} (h:0 < s.size):s.toList.isEmpty = false:=by
 have e:s.toList.length=s.size:=by rw [ByteArray.toList_eq]; rfl
 cases h':s.toList with
 | nil => rw [h'] at e; simp at e; omega
 | cons a l => rfl
theorem J7 (s:ByteArray):s.data.toList.length=s.size:=rfl
def IsRel (W:World) (s:ByteArray) (wr:World):Prop:=∃ pos,pos<=s.size/\wr.heap[W.heap.size]?=some (.stringIter s pos)/\Below W.heap.size W wr/\(s.data.toList.take pos).all later=true/\(0<pos->∀ c,s.data.toList[0]?=some c->letter c=true)
theorem QjA {W wr:World} {s:ByteArray} {pos:Nat} (hp:pos < s.size) (hit:wr.heap[W.heap.size]? = some (.stringIter s pos)) (hb:Below W.heap.size W wr) (ha:(s.data.toList.take pos).all later = true)
 (h0:0<pos->∀ c,s.data.toList[0]?=some c->letter c=true) (hl:later s[pos]=true) (hz:pos=0->letter s[pos]=true):IsRel W s (wr.iterAt W.heap.size s (pos+1)):=by
 refine ⟨pos+1,by omega,iterAt_heap _ _ _ _ _ hit,below_iterAt hb (Nat.le_refl _) _ _,?_,fun _ c hc=>?_⟩
 ·rw [QA (byte_at s pos hp),List.all_append,ha]; simpa using hl
 ·rcases Nat.eq_zero_or_pos pos with h | h
  ·subst h
   rw [byte_at s 0 hp] at hc
   injection hc with hc
   exact hc ▸ hz rfl
  ·exact h0 h c hc
theorem QeH (s:ByteArray) (w:World) (hs:s.size <= 9223372036854775807):Calls Tryz.prog 79 #[.string s] w fun e w' => e = .returned (.bool (isName s.data.toList)) /\ Below w.heap.size w w':=by
 rcases Nat.eq_zero_or_pos s.size with h0 | h0
 ·have HE:Hid (isName s.data.toList = false):=qh (ZZ (.inl h0))
  have hnil:=Qa1 h0;clear h0 hs;go_enter Tryz.func79,Tryz.ntmps79;go_wp2;go_ret;exact ⟨Qg HE.o.symm,Below.refl _ _⟩
 ·have hne:=QdB h0
  by_cases h12:12<s.size
  ·have HE:Hid (isName s.data.toList = false):=qh (ZZ (.inr h12))
   go_enter Tryz.func79,Tryz.ntmps79;go_wp2;go_ret;exact ⟨Qg HE.o.symm,Below.refl _ _⟩
  ·rcases hk:isKw s.data.toList with _ | _
   case true =>
    have HE:Hid (isName s.data.toList=false):=qh (QfJ hk);have HC:=qh (hk ▸ Qds s w);clear hk;go_enter Tryz.func79,Tryz.ntmps79;go_wp2_with (go_at_call 119; refine HC.o.mono ?_; rintro e w' ⟨rfl,rfl⟩);go_ret;exact ⟨Qg HE.o.symm,Below.refl _ _⟩
   have HC:=qh (hk ▸ Qds s w);have HK:=qh hk;clear hk;go_enter Tryz.func79,Tryz.ntmps79;go_wp2_with (go_at_call 119; refine HC.o.mono ?_; rintro e w' ⟨rfl,rfl⟩)
   go_loopw [] (fun wr=>IsRel w s wr) (fun wr=>s.size-wr.iterPos w.heap.size)
   case atStart=>exact ⟨0,Nat.zero_le _,World.iter_heap w s 0,(Below.refl _ w).alloc (Nat.le_refl _) _,rfl,fun h=>absurd h (by omega)⟩
   case round =>
    obtain ⟨pos,hps,hit,hbw,hall,hhead⟩:=hrel
    by_cases hp:pos<s.size
    ·have hnx:∀ ty,(Instr.next (.pointer (some ⟨w.heap.size,0,none⟩)) true ty).run Tryz.prog wr = _:=fun ty => Lib.run_next_any_at wr w.heap.size s pos ty hit hp
     have hgo:=dec_later s pos hp;have hbe:=QiW s pos hp;have hw1:=dec_one s pos hp;have hat:=byte_at s pos hp;have hrel:=QjA hp hit hbw hall hhead
     have HM:Hid (s.size - (wr.iterAt w.heap.size s (pos + 1)).iterPos w.heap.size < s.size - wr.iterPos w.heap.size):=qh (by
      simp only [World.iterPos,iterAt_heap _ _ _ _ _ hit,hit]; omega)
     obtain ⟨c,hc⟩:∃ c,c=s[pos]:=⟨_,rfl⟩;rw [<- hc] at hgo hbe hw1 hat hrel;clear hc;obtain ⟨r,hr⟩:∃ r,r=(Utf8.decode s pos).1:=⟨_,rfl⟩;obtain ⟨wd,hwd⟩:∃ wd,wd=(Utf8.decode s pos).2:=⟨_,rfl⟩;rw [<- hr] at hgo hbe hnx;rw [<- hwd] at hw1 hnx;clear hr hwd hall hhead;have HB:=qh hbw;have HA:=qh hat;clear hat hit hbw
     rcases Nat.eq_zero_or_pos pos with hz | hz
     ·subst hz
      rcases hl:letter c with _ | _
      ·have HE:Hid (isName s.data.toList = false):=qh (Qc8 HA.o hl)
       have HBc:=qh (QcG (hbe.trans hl));clear hl hbe hgo hw1 hrel HM;go_wp2_with (go_at_call 120; refine (HBc.o _).mono ?_; rintro e w' ⟨rfl,rfl⟩);go_ret;exact ⟨Qg HE.o.symm,below_iterAt HB.o (Nat.le_refl _) _ _⟩
      ·have HBc:=qh (QcG (hbe.trans hl))
       have HGc:=qh (QcR (hgo.trans (JO hl)));have HR:=qh (hrel (JO hl) (fun _=>hl));obtain rfl:wd=1:=hw1 (JO hl);clear hl hbe hgo hrel hw1;go_wp2_with (first | (go_at_call 120; refine (HBc.o _).mono ?_; rintro e w' ⟨rfl,rfl⟩) | (go_at_call 121; refine (HGc.o _).mono ?_; rintro e w' ⟨rfl,rfl⟩))
       go_roundw
       case rel=>exact HR.o
       case measure=>exact HM.o
     ·have hz':((pos:Int) == 0) = false:=by simp; omega
      rcases hl:later c with _ | _
      ·have HE:Hid (isName s.data.toList = false):=qh (QbY HA.o hl)
       have HGc:=qh (QcR (hgo.trans hl));clear hl hbe hgo hw1 hrel HM;go_wp2_with (go_at_call 121; refine (HGc.o _).mono ?_; rintro e w' ⟨rfl,rfl⟩);go_ret;exact ⟨Qg HE.o.symm,below_iterAt HB.o (Nat.le_refl _) _ _⟩
      ·have HGc:=qh (QcR (hgo.trans hl))
       have HR:=qh (hrel hl (fun h=>absurd h (by omega)));obtain rfl:wd=1:=hw1 hl;clear hl hbe hgo hrel hw1;go_wp2_with (go_at_call 121; refine (HGc.o _).mono ?_; rintro e w' ⟨rfl,rfl⟩)
       go_roundw
       case rel=>exact HR.o
       case measure=>exact HM.o
    ·have hnx:∀ ty,(Instr.next (.pointer (some ⟨w.heap.size,0,none⟩)) true ty).run Tryz.prog wr = _:=fun ty => Lib.run_next_end_at wr w.heap.size s pos ty hit hp
     have hall':s.data.toList.all later=true:=by rw [List.take_of_length_le (by rw [J7]; omega)] at hall; exact hall
     have HE:Hid (isName s.data.toList=true):=qh (QeC (by rw [J7]; omega) (by rw [J7]; omega) HK.o hall' (hhead (by omega)));clear hall hall' hhead;go_wp2;go_ret;exact ⟨Qg HE.o.symm,hbw⟩
end
section
open Go.RowKit NamesSpec Go.Lib
set_option maxRecDepth 100000
theorem QeP (c:UInt8):letter c = true ↔ 97 <= (c.toNat:Int) /\ (c.toNat:Int) <= 122:=by
 simp [letter,UInt8.le_iff_toNat_le]; omega
theorem later_iff (c:UInt8):later c = true ↔ (97 <= (c.toNat:Int) /\ (c.toNat:Int) <= 122) \/ (48 <= (c.toNat:Int) /\ (c.toNat:Int) <= 57) \/ (c.toNat:Int) = 95:=by
 rw [later,Bool.or_eq_true,Bool.or_eq_true,QeP];simp [UInt8.le_iff_toNat_le,<- UInt8.toNat_inj]; omega
theorem Qdf {s:ByteArray} {b:Bool} (h:isKw s.data.toList=b):decide (0<=idxOfS kwS s)=b:=by rw [place_kw,h]
def RIsRel (s:ByteArray) (i:Value):Prop:=∃ k:Nat,k<=s.size/\i = .int .i64 k/\(s.data.toList.take k).all later=true/\(0<k->∀ c,s.data.toList[0]?=some c->letter c=true)
theorem Qhy {s:ByteArray} {k:Nat} (hp:k < s.size) (ha:(s.data.toList.take k).all later = true) (h0:0 < k -> ∀ c,s.data.toList[0]? = some c -> letter c = true) (hl:later s[k] = true) (hz:k = 0 -> letter s[k] = true):RIsRel s (.int .i64 (k + 1:Nat)):=by
 refine ⟨k+1,by omega,rfl,?_,fun _ c hc=>?_⟩
 ·rw [QA (byte_at s k hp),List.all_append,ha]; simpa using hl
 ·rcases Nat.eq_zero_or_pos k with h | h
  ·subst h
   rw [byte_at s 0 hp] at hc
   injection hc with hc
   exact hc ▸ hz rfl
  ·exact h0 h c hc
theorem ris_any (s:ByteArray) (w:World) (hs:s.size <= 9223372036854775807):Calls Tryz.prog 105 #[.string s] w fun e w' => e = .returned (.bool (isName s.data.toList)) /\ Below w.heap.size w w':=by
 by_cases h0:s.size<1
 ·have HE:Hid (isName s.data.toList = false):=qh (ZZ (.inl (by rw [J7]; omega)))
  go_enter Tryz.func105,Tryz.ntmps105;go_wp2;go_ret;exact ⟨Qg HE.o.symm,Below.refl _ _⟩
 by_cases h12:12<s.size
 ·have HE:Hid (isName s.data.toList = false):=qh (ZZ (.inr h12))
  go_enter Tryz.func105,Tryz.ntmps105;go_wp2;go_ret;exact ⟨Qg HE.o.symm,Below.refl _ _⟩
 rcases hk:isKw s.data.toList with _ | _
 case true =>
  have HE:Hid (isName s.data.toList=false):=qh (QfJ hk);have hpl:=Qdf hk;clear hk;go_enter Tryz.func105,Tryz.ntmps105
  go_wp2_with (first
   | (go_at_call 142; refine (Qcs _).mono ?_; rintro e w' ⟨v,rfl,hrd,hbw⟩)
   | (go_at_call 141; refine (Jd _ kwS s _ hrd (by decide)).mono ?_; rintro e w' ⟨rfl,rfl⟩))
  go_ret;exact ⟨Qg HE.o.symm,hbw⟩
 have hpl:=Qdf hk;have HK:=qh hk;clear hk;go_enter Tryz.func105,Tryz.ntmps105
 go_wp2_with (first
  | (go_at_call 142; refine (Qcs _).mono ?_; rintro e w' ⟨v,rfl,hrd,hbw⟩)
  | (go_at_call 141; refine (Jd _ kwS s _ hrd (by decide)).mono ?_; rintro e w' ⟨rfl,rfl⟩))
 clear hrd hpl
 go_loop [3] (fun i=>RIsRel s i) (fun i=>s.size-(RowKit.intOf i).toNat)
 case atStart=>exact ⟨0,Nat.zero_le _,rfl,rfl,fun h=>absurd h (by omega)⟩
 case round =>
  obtain ⟨k,hks,rfl,hall,hhead⟩:=hrel
  by_cases hp:k<s.size
  ·have hrel:=Qhy hp hall hhead
   have hat:=byte_at s k hp;have hli:=QeP s[k];have hla:=later_iff s[k];have hub:(s[k].toNat:Int)<=255:=by have:=s[k].toNat_lt; omega
   have hlb:0<=(s[k].toNat:Int):=by omega
   by_cases hL:letter s[k]=true
   ·have HR:=qh (hrel (JO hL) (fun _ => hL))
    obtain ⟨g1,g2⟩:=hli.1 hL;clear hrel hat hli hla hL hall hhead;go_wp2
    go_round
    case rel=>exact HR.o
    case measure=>simp [RowKit.intOf]; omega
   ·rcases Nat.eq_zero_or_pos k with hz | hz
    ·subst hz
     have HE:Hid (isName s.data.toList=false):=qh (Qc8 hat (by simpa using hL));have g:¬ (97<=(s[0].toNat:Int)/\(s[0].toNat:Int)<=122):=fun h=>hL (hli.2 h)
     clear hrel hat hli hla hL hall hhead
     by_cases g1:97<=(s[0].toNat:Int)
     ·have g2:122 < (s[0].toNat:Int):=by omega
      clear g;go_wp2;go_ret;exact ⟨Qg HE.o.symm,hbw⟩
     ·clear g
      go_wp2;go_ret;exact ⟨Qg HE.o.symm,hbw⟩
    ·have hz':((k:Int) == 0) = false:=by simp; omega
     have g:¬ (97<=(s[k].toNat:Int)/\(s[k].toNat:Int)<=122):=fun h=>hL (hli.2 h)
     by_cases hla':later s[k]=true
     ·have HR:=qh (hrel hla' (fun h => absurd h (by omega)))
      have g3:=hla.1 hla';clear hrel hat hli hla hL hall hhead hla';have g4:(48<=(s[k].toNat:Int)/\(s[k].toNat:Int)<=57)\/(s[k].toNat:Int)=95:=by omega
      clear g3
      rcases g4 with ⟨g5,g6⟩ | g5
      ·have g1:¬ 97 <= (s[k].toNat:Int):=by omega
       have g7:((s[k].toNat:Int) != 95)=true:=by simp; omega
       clear g;go_wp2
       go_round
       case rel=>exact HR.o
       case measure=>simp [RowKit.intOf]; omega
      ·have g1:¬ 97 <= (s[k].toNat:Int):=by omega
       have g7:((s[k].toNat:Int) != 95)=false:=by simp; omega
       clear g g5;go_wp2
       go_round
       case rel=>exact HR.o
       case measure=>simp [RowKit.intOf]; omega
     ·have HE:Hid (isName s.data.toList = false):=qh (QbY hat (by simpa using hla'))
      have g3:¬ ((48<=(s[k].toNat:Int)/\(s[k].toNat:Int)<=57)\/(s[k].toNat:Int)=95):=fun h=>hla' (hla.2 (.inr h))
      have g7:((s[k].toNat:Int) != 95)=true:=by simp; omega
      clear hrel hat hli hla hL hall hhead hla'
      by_cases g1:97<=(s[k].toNat:Int)
      ·have g2:122 < (s[k].toNat:Int):=by omega
       have g6:¬ (s[k].toNat:Int)<48:=by omega
       have g8:57<(s[k].toNat:Int):=by have:¬ (s[k].toNat:Int)<=122:=fun h=>g ⟨g1,h⟩; omega
       clear g g3;go_wp2;go_ret;exact ⟨Qg HE.o.symm,hbw⟩
      ·clear g
       by_cases g6:(s[k].toNat:Int)<48
       ·clear g3
        go_wp2;go_ret;exact ⟨Qg HE.o.symm,hbw⟩
       ·have g8:57 < (s[k].toNat:Int):=by omega
        clear g3;go_wp2;go_ret;exact ⟨Qg HE.o.symm,hbw⟩
  ·have hall':s.data.toList.all later = true:=by rw [List.take_of_length_le (by rw [J7]; omega)] at hall; exact hall
   have HE:Hid (isName s.data.toList=true):=qh (QeC (by rw [J7]; omega) (by rw [J7]; omega) HK.o hall' (hhead (by omega)));clear hall hall' hhead;go_wp2;go_ret;exact ⟨Qg HE.o.symm,hbw⟩
end
section
open Go.RowKit CurSpec NamesSpec
set_option maxRecDepth 100000
def RetCurS (W0 W:World) (c:Cur) (s:ByteArray) (e:Ending) (w':World):Prop :=
 ∃ A n cp,e = .returned (.tuple #[.agg #[.slice A n cp,.int .i64 c.w1,.int .i64 c.w2,.int .i64 c.a1,.int .i64 c.a2,.int .i64 c.bad],.string s])/\Toks W0 (.slice A n cp) c.L/\Below W.heap.size W w'
theorem Qgp {s:ByteArray} {b:Bool} (hb:isName s.data.toList = b) (hs:s.size <= 9223372036854775807) (w:World):Calls Tryz.prog 105 #[.string s] w (RetBool w b):=by
 subst hb;exact ris_any s w hs
theorem QcN {c:Cur} (h0:c.bad=0) (h1:(next c).k=1) (h2:isName (next c).t.data.toList=true):nameB c=true:=by simp [nameB,h0,h1,h2]
theorem Qcu {c:Cur} (h1:(next c).k≠1):nameB c=false:=by simp [nameB,h1]
theorem Qcy {c:Cur} (h1:isName (next c).t.data.toList=false):nameB c=false:=by simp [nameB,h1]
theorem JZ (c:Cur) (ok:Ok c) (A:Option Addr) (n cp:Nat) (W0 w:World) (h:Toks W0 (.slice A n cp) c.L) (hw:Below W0.heap.size W0 w) :
 Calls Tryz.prog 56 #[.agg #[.slice A n cp,.int .i64 c.w1,.int .i64 c.w2,.int .i64 c.a1,.int .i64 c.a2,.int .i64 c.bad]] w (RetCurS W0 w (nameC c) (nameS c)):=by
 have HT:=qh h;have HW:=qh hw;have HN:=qh (fun W h=>Q4 c A n cp W h);have HO:=qh (fun W hw=>Ji c A n cp W0 W h hw);have HF:=qh (fun W hw=>Jw c 2 A n cp W0 W h hw);clear h hw;obtain ⟨d,hd⟩:∃ d,d=nameC c:=⟨_,rfl⟩;obtain ⟨u,hu⟩:∃ u,u=nameS c:=⟨_,rfl⟩;obtain ⟨t,ht⟩:∃ t,t=next c:=⟨_,rfl⟩;have HI:=qh (fun b hb W=>Qgp (s:=(next c).t) (b:=b) hb ok.next W);rw [<- hd,<- hu];rw [<- ht] at HN HI
 by_cases h0:c.bad=0
 ·have e0:(c.bad == 0) = true:=by simpa using h0
  by_cases h1:t.k=1
  ·have e1:(t.k == 1) = true:=by simpa using h1
   by_cases h2:isName t.t.data.toList=true
   ·have hB:nameB c = true:=QcN h0 (by rw [<- ht]; exact h1) (by rw [<- ht]; exact h2)
    have hc:on c=d:=by rw [hd]; unfold nameC; rw [if_pos hB]
    have hs:t.t=u:=by rw [hu]; unfold nameS; rw [if_pos hB,ht]
    have HI2:=qh (HI.o true h2);rw [hc] at HO;have HS:=qh hs;clear HI hs hc hB hd hu ht h0 h1 h2 HF;go_enter Tryz.func56,Tryz.ntmps56;go_wp2_with (go_at_call 104; go_fit (HN.o _ (((HT.o.keep HW.o).alloc _).alloc _)));rintro e x2 ⟨rfl,hb2⟩;obtain ⟨k1,k2,hB,hz⟩:=Qz hb2;have hz':w.heap.size<x2.heap.size:=by omega
    have HK1:=qh k1;have HK2:=qh k2;have HB:=qh hB;obtain ⟨c0,c1,c2,c3,c4,c5⟩:=Qc k1;clear hb2 k1 k2 hB;go_wp2_with (go_at_call 105; go_fit (HI2.o _));rintro e x3 ⟨rfl,hb3⟩;obtain ⟨k3,hB3,hz3⟩:=Qy hb3;have HB3:=qh (Qa HB.o hB3);have HB1:=qh (Qe HK1.o hB3);have HK3:=qh (Qe HK2.o hB3);have HBt:=qh k3;clear c0 c1 c2 c3 c4 c5 hb3 hB3 k3;obtain ⟨c0,c1,c2,c3,c4,c5⟩:=Qc HB1.o;obtain ⟨t0,t1,t2,t3⟩:=Qi HBt.o;have hne1:¬ x2.heap.size=w.heap.size+1:=by omega
    have hne2:¬ w.heap.size+1=x2.heap.size:=by omega
    go_wp2_with fail
    go_region_held3 (fun w' => w'.cell? ⟨w.heap.size,0,none⟩ = some (.slice A n cp) /\ w'.cell? ⟨w.heap.size,1,none⟩ = some (.int .i64 c.w1) /\ w'.cell? ⟨w.heap.size,2,none⟩ = some (.int .i64 c.w2) /\ w'.cell? ⟨w.heap.size,3,none⟩ = some (.int .i64 c.a1) /\ w'.cell? ⟨w.heap.size,4,none⟩ = some (.int .i64 c.a2) /\ w'.cell? ⟨w.heap.size,5,none⟩ = some (.int .i64 c.bad) /\ w'.cell? ⟨x2.heap.size,1,none⟩ = some (.string t.t)) (go_keep)
     ((go_at_call 63; refine (HO.o _ (Qa HW.o HB3.o.drew)).mono ?_; rintro e x4 ⟨A',n',cp',rfl,hT4,hb4'⟩; have hb4:=undrew hb4'; clear hb4'; have k4:=Qe HK3.o hb4; obtain ⟨d0,d1,d2,d3,d4,d5⟩:=Qc k4; obtain ⟨g0,g1,g2,g3,g4,g5⟩:=Qk k4; have HB4:=qh hb4; have HK4:=qh (QD k4 (n:=6) rfl); have HT4:=qh hT4; obtain ⟨p0,p1,p2,p3,p4,p5⟩:=Qc (Qe HB1.o hb4); obtain ⟨r0,r1,r2,r3⟩:=Qi (Qe HBt.o hb4); clear hb4 k4 hT4))
    go_wp2_with fail;obtain ⟨q0,q1,q2,q3,q4,q5⟩:=Qq HK4.o (.slice A' n' cp') (.int .i64 d.w1) (.int .i64 d.w2) (.int .i64 d.a1) (.int .i64 d.a2) (.int .i64 d.bad);refine bodyPost_ret (v:=.tuple #[.agg #[.slice A' n' cp',.int .i64 d.w1,.int .i64 d.w2,.int .i64 d.a1,.int .i64 d.a2,.int .i64 d.bad],.string t.t]) (by simp [results,Tryz.results56,go_sem,q0,q1,q2,q3,q4,q5]) rfl ?_;rw [HS.o];exact ⟨A',n',cp',rfl,HT4.o,QL (Qa HB3.o HB4.o) (by omega) _ _ _ _ _ _⟩
   ·have h2':isName t.t.data.toList = false:=by simpa using h2
    have hB:nameB c=false:=Qcy (by rw [<- ht]; exact h2');have hc:fail c 2=d:=by rw [hd]; unfold nameC; rw [hB]; rfl
    have hs:(⟨#[]⟩:ByteArray)=u:=by rw [hu]; unfold nameS; rw [hB]; rfl
    have HI2:=qh (HI.o false h2');rw [hc] at HF;have HS:=qh hs;clear HI hs hc hB hd hu ht h0 h1 h2 h2' HO;go_enter Tryz.func56,Tryz.ntmps56;go_wp2_with (go_at_call 104; go_fit (HN.o _ (((HT.o.keep HW.o).alloc _).alloc _)));rintro e x2 ⟨rfl,hb2⟩;obtain ⟨k1,k2,hB,hz⟩:=Qz hb2;have hz':w.heap.size<x2.heap.size:=by omega
    have HK1:=qh k1;have HK2:=qh k2;have HB:=qh hB;obtain ⟨c0,c1,c2,c3,c4,c5⟩:=Qc k1;clear hb2 k1 k2 hB;go_wp2_with (go_at_call 105; go_fit (HI2.o _));rintro e x3 ⟨rfl,hb3⟩;obtain ⟨k3,hB3,hz3⟩:=Qy hb3;have HB3:=qh (Qa HB.o hB3);have HB1:=qh (Qe HK1.o hB3);have HK3:=qh (Qe HK2.o hB3);have HBt:=qh k3;clear c0 c1 c2 c3 c4 c5 hb3 hB3 k3;obtain ⟨c0,c1,c2,c3,c4,c5⟩:=Qc HB1.o;obtain ⟨t0,t1,t2,t3⟩:=Qi HBt.o;go_wp2_with (go_at_call 64; go_fit (HF.o _ (Qa HW.o HB3.o)));rintro e x4 ⟨A',n',cp',rfl,hT4,hb4⟩;have k4:=Qe HK3.o hb4;have HB4:=qh (Qa HB3.o hb4);have HT4:=qh hT4;have HK4:=qh (QD k4 (n:=6) rfl);obtain ⟨d0,d1,d2,d3,d4,d5⟩:=Qc k4;obtain ⟨g0,g1,g2,g3,g4,g5⟩:=Qk k4;clear hT4 hb4 k4 c0 c1 c2 c3 c4 c5;go_wp2_with fail;obtain ⟨q0,q1,q2,q3,q4,q5⟩:=Qq HK4.o (.slice A' n' cp') (.int .i64 d.w1) (.int .i64 d.w2) (.int .i64 d.a1) (.int .i64 d.a2) (.int .i64 d.bad);refine bodyPost_ret (v:=.tuple #[.agg #[.slice A' n' cp',.int .i64 d.w1,.int .i64 d.w2,.int .i64 d.a1,.int .i64 d.a2,.int .i64 d.bad],.string ⟨#[]⟩]) (by simp [results,Tryz.results56,go_sem,q0,q1,q2,q3,q4,q5]) rfl ?_;rw [HS.o];exact ⟨A',n',cp',rfl,HT4.o,QL HB4.o (by omega) _ _ _ _ _ _⟩
  ·have e1:(t.k == 1) = false:=by simpa using h1
   have hB:nameB c=false:=Qcu (by rw [<- ht]; exact h1);have hc:fail c 2=d:=by rw [hd]; unfold nameC; rw [hB]; rfl
   have hs:(⟨#[]⟩:ByteArray)=u:=by rw [hu]; unfold nameS; rw [hB]; rfl
   rw [hc] at HF;have HS:=qh hs;clear HI hs hc hB hd hu ht h0 h1 HO;go_enter Tryz.func56,Tryz.ntmps56;go_wp2_with (go_at_call 104; go_fit (HN.o _ (((HT.o.keep HW.o).alloc _).alloc _)));rintro e x2 ⟨rfl,hb2⟩;obtain ⟨k1,k2,hB,hz⟩:=Qz hb2;have hz':w.heap.size<x2.heap.size:=by omega
   have HK1:=qh k1;have HK2:=qh k2;have HB:=qh hB;obtain ⟨c0,c1,c2,c3,c4,c5⟩:=Qc k1;clear hb2 k1 k2 hB;go_wp2_with (go_at_call 64; go_fit (HF.o _ (Qa HW.o (HB.o.alloc (Nat.le_trans (Nat.le_succ _) (Nat.le_of_lt hz)) _))));rintro e x4 ⟨A',n',cp',rfl,hT4,hb4⟩;have k4:=Qe ((heap_alloc_old _ _ hz).trans HK2.o) hb4;have HB4:=qh (Qa (HB.o.alloc (Nat.le_trans (Nat.le_succ _) (Nat.le_of_lt hz)) _) hb4);have HT4:=qh hT4;have HK4:=qh (QD k4 (n:=6) rfl);obtain ⟨d0,d1,d2,d3,d4,d5⟩:=Qc k4;obtain ⟨g0,g1,g2,g3,g4,g5⟩:=Qk k4;clear hT4 hb4 k4 c0 c1 c2 c3 c4 c5;go_wp2_with fail;obtain ⟨q0,q1,q2,q3,q4,q5⟩:=Qq HK4.o (.slice A' n' cp') (.int .i64 d.w1) (.int .i64 d.w2) (.int .i64 d.a1) (.int .i64 d.a2) (.int .i64 d.bad);refine bodyPost_ret (v:=.tuple #[.agg #[.slice A' n' cp',.int .i64 d.w1,.int .i64 d.w2,.int .i64 d.a1,.int .i64 d.a2,.int .i64 d.bad],.string ⟨#[]⟩]) (by simp [results,Tryz.results56,go_sem,q0,q1,q2,q3,q4,q5]) rfl ?_;rw [HS.o];exact ⟨A',n',cp',rfl,HT4.o,QL HB4.o (by omega) _ _ _ _ _ _⟩
 ·have e0:(c.bad == 0) = false:=by simpa using h0
  have hB:nameB c=false:=QaQ h0;have hc:fail c 2=d:=by rw [hd]; unfold nameC; rw [hB]; rfl
  have hs:(⟨#[]⟩:ByteArray)=u:=by rw [hu]; unfold nameS; rw [hB]; rfl
  rw [hc] at HF;have HS:=qh hs;clear HI hs hc hB hd hu ht h0 HO;go_enter Tryz.func56,Tryz.ntmps56;go_wp2_with (go_at_call 104; go_fit (HN.o _ (((HT.o.keep HW.o).alloc _).alloc _)));rintro e x2 ⟨rfl,hb2⟩;obtain ⟨k1,k2,hB,hz⟩:=Qz hb2;have hz':w.heap.size<x2.heap.size:=by omega
  have HK1:=qh k1;have HK2:=qh k2;have HB:=qh hB;obtain ⟨c0,c1,c2,c3,c4,c5⟩:=Qc k1;clear hb2 k1 k2 hB;go_wp2_with (go_at_call 64; go_fit (HF.o _ (Qa HW.o (HB.o.alloc (Nat.le_trans (Nat.le_succ _) (Nat.le_of_lt hz)) _))));rintro e x4 ⟨A',n',cp',rfl,hT4,hb4⟩;have k4:=Qe ((heap_alloc_old _ _ hz).trans HK2.o) hb4;have HB4:=qh (Qa (HB.o.alloc (Nat.le_trans (Nat.le_succ _) (Nat.le_of_lt hz)) _) hb4);have HT4:=qh hT4;have HK4:=qh (QD k4 (n:=6) rfl);obtain ⟨d0,d1,d2,d3,d4,d5⟩:=Qc k4;obtain ⟨g0,g1,g2,g3,g4,g5⟩:=Qk k4;clear hT4 hb4 k4 c0 c1 c2 c3 c4 c5;go_wp2_with fail;obtain ⟨q0,q1,q2,q3,q4,q5⟩:=Qq HK4.o (.slice A' n' cp') (.int .i64 d.w1) (.int .i64 d.w2) (.int .i64 d.a1) (.int .i64 d.a2) (.int .i64 d.bad);refine bodyPost_ret (v:=.tuple #[.agg #[.slice A' n' cp',.int .i64 d.w1,.int .i64 d.w2,.int .i64 d.a1,.int .i64 d.a2,.int .i64 d.bad],.string ⟨#[]⟩]) (by simp [results,Tryz.results56,go_sem,q0,q1,q2,q3,q4,q5]) rfl ?_;rw [HS.o];exact ⟨A',n',cp',rfl,HT4.o,QL HB4.o (by omega) _ _ _ _ _ _⟩
end
section
open Go.RowKit ValSpec
end
section
open Go.RowKit ValSpec
set_option maxRecDepth 100000
theorem str_nil {s:ByteArray} (h:s.size = 0):s.toList = []:=by
 rw [ByteArray.toList_eq,<- List.length_eq_zero_iff]; exact h
theorem str_ne {s:ByteArray} (h:0 < s.size):s.toList.isEmpty = false:=by
 have e:s.toList.length=s.size:=by rw [ByteArray.toList_eq]; rfl
 cases h':s.toList with
 | nil => rw [h'] at e; simp at e; omega
 | cons a l => rfl
theorem Qa2 {a b:Bool} (h:a=b):Ending.returned (.bool a) = .returned (.bool b):=by rw [h]
theorem J4 {a b c d:Int} (h:a=b) (h':c=d):Ending.returned (.tuple #[.int .i64 a,.int .i64 c]) = .returned (.tuple #[.int .i64 b,.int .i64 d]):=by rw [h,h']
theorem Qbo (s:ByteArray) (k:Nat) (h:k < s.size):s.data.toList.take (k + 1) = s.data.toList.take k ++ [s[k]]:=by
 rw [List.take_succ_eq_append_getElem (by simpa using h)]; rfl
theorem Qbe (s:ByteArray):s.data.toList.take s.size=s.data.toList:=by rw [List.take_of_length_le (by simp)]
theorem cons_of {s:ByteArray} (h:0 < s.size):∃ tl,s.data.toList = s[0] :: tl /\ tl.length + 1 = s.size:=by
 have e:s.data.toList.length=s.size:=rfl
 cases h':s.data.toList with
 | nil => rw [h'] at e; simp at e; omega
 | cons a l =>
   rw [h'] at e;refine ⟨l,?_,by simpa using e⟩;have:s.data.toList[0]'(by rw [h']; simp)=s[0]:=rfl;rw [<- this];simp [h']
theorem QhD {s:ByteArray} (h:0 < s.size) (h0:(s[0].toNat:Int) = 48) (h1:1 < s.size):isNum s.data.toList = false:=by
 obtain ⟨tl,e,hl⟩:=cons_of h;have e0:s[0]=48:=UInt8.toNat_inj.mp (by show _=48; omega);rw [e,e0];have:1<=tl.length:=by omega
 simp [isNum];intro h2; subst h2; simp at this
theorem QhB {s:ByteArray} (h:0 < s.size) (h0:¬ (s[0].toNat:Int) = 48 \/ s.size <= 1):isNum s.data.toList = s.data.toList.all isDig:=by
 obtain ⟨tl,e,hl⟩:=cons_of h;rw [e];unfold isNum;have e1:(!(s[0]::tl).isEmpty)=true:=rfl;rw [e1]
 rcases h0 with h0 | h0
 ·have:((s[0] :: tl).head? == some 48) = false:=by
   rw [beq_eq_false_iff_ne]; intro h2; simp at h2; exact h0 (by rw [h2]; rfl)
  rw [this]; simp
 ·have:tl = []:=by rw [<- List.length_eq_zero_iff]; omega
  subst this; simp
theorem Qdq {s:ByteArray} {k:Nat} (h:k < s.size) (hc:isDig s[k] = false):s.data.toList.all isDig = false:=by
 rw [List.all_eq_false];exact ⟨s[k],by rw [<- Array.mem_def]; exact Array.getElem_mem _,by simp [hc]⟩
theorem QgP (s:ByteArray) (w:World) (hs:s.size <= 9223372036854775807) (hp:0 < s.size) (h0:¬ (s[0].toNat:Int) = 48 \/ s.size <= 1) :
 Calls Tryz.prog 190 #[.string s] w fun e w'=>e = .returned (.bool (isNum s.data.toList))/\w=w':=by
 have he:=str_ne hp;have HN:=qh (QhB hp h0);have hz:¬ ((s[0].toNat:Int)=48/\1<(s.size:Int)):=by omega
 by_cases hs0:(s[0].toNat:Int)=48
 all_goals
  (first | (have h1:(s.size:Int)<=1:=by omega) | skip)
  clear h0 hz;go_enter Tryz.func190,Tryz.ntmps190;go_wp2_with fail
  go_loop [18] (fun i=>∃ k:Nat,k<=s.size/\i = .int .i64 k/\(s.data.toList.take k).all isDig=true) (fun i=>s.size-(intOf i).toNat)
  case atStart=>exact ⟨0,Nat.zero_le _,rfl,rfl⟩
  case round =>
   obtain ⟨k,hk,rfl,hall⟩:=hrel;have HA:=qh hall;clear hall
   by_cases hlt:k<s.size
   ·by_cases hc1:(s[k].toNat:Int) < 48
    ·go_wp2_with fail
     go_ret;exact ⟨Qa2 (by rw [HN.o,Qdq hlt (Qeg hc1)]),rfl⟩
    ·by_cases hc2:57 < (s[k].toNat:Int)
     ·go_wp2_with fail
      go_ret;exact ⟨Qa2 (by rw [HN.o,Qdq hlt (Qd1 hc2)]),rfl⟩
     ·go_wp2_with fail
      go_round
      case rel=>exact ⟨k+1,by omega,by go_num,by rw [Qbo s k hlt,List.all_append,HA.o]; simp [dig_mk (c:=s[k]) (by omega) (by omega)]⟩
      case measure=>simp [intOf]; omega
   ·go_wp2_with fail
    go_ret
    exact ⟨Qa2 (by have:k = s.size:=by omega
                   rw [HN.o,<- Qbe s,<- this,HA.o]),rfl⟩
theorem Qdd (s:ByteArray) (w:World) (hs:s.size <= maxLen) :
 Calls Tryz.prog 190 #[.string s] w fun e w'=>e = .returned (.bool (isNum s.data.toList))/\w=w':=by
 unfold maxLen at hs
 by_cases h0:s.size=0
 ·have he:=str_nil h0
  have:s.data.toList=[]:=by rw [<- ByteArray.toList_eq]; exact he
  have HE:=qh this;clear this;go_enter Tryz.func190,Tryz.ntmps190;go_wp2_with fail;go_ret;exact ⟨Qa2 (by rw [HE.o]; rfl),rfl⟩
 ·have hp:0 < s.size:=by omega
  by_cases h1:(s[0].toNat:Int)=48/\1<s.size
  ·obtain ⟨h1,h2⟩:=h1
   have he:=str_ne hp;have HZ:=qh (QhD hp h1 h2);go_enter Tryz.func190,Tryz.ntmps190;go_wp2_with fail;go_ret;exact ⟨Qa2 HZ.o.symm,rfl⟩
  ·exact QgP s w hs hp (by omega)
theorem all_at {s:ByteArray} {k:Nat} (h:k < s.size) (ha:s.data.toList.all isDig = true):isDig s[k] = true:=by
 rw [List.all_eq_true] at ha;exact ha _ (by rw [<- Array.mem_def]; exact Array.getElem_mem _)
theorem get_any (s:ByteArray) (w:World) (hs:s.size <= maxLen) :
 Calls Tryz.prog 181 #[.string s] w fun e w'=>e = .returned (.tuple #[.int .i64 (getN s.data.toList),.int .i64 (getE s.data.toList)])/\w=w':=by
 have hs':s.size<=9223372036854775807:=hs
 by_cases hn:isNum s.data.toList=true
 ·have ha:=Qc4 hn
  have HAll:=qh ha;have HNum:=qh hn;go_enter Tryz.func181,Tryz.ntmps181;go_wp2_with (go_at_call 190; refine (Qdd _ _ hs).mono ?_; rintro e w' ⟨rfl,rfl⟩);clear hn ha
  go_loop [4,11] (fun n i=>∃ k:Nat,k<=s.size/\i = .int .i64 k/\n = .int .i64 (says (s.data.toList.take k))/\says (s.data.toList.take k)<=1000000) (fun _ i=>s.size-(intOf i).toNat)
  case atStart=>exact ⟨0,Nat.zero_le _,rfl,rfl,by show (0:Int)<=1000000; omega⟩
  case round =>
   obtain ⟨k,hk,rfl,rfl,hbig⟩:=hrel;have hlo:=Qbb _ (Qah k HAll.o)
   by_cases hlt:k<s.size
   ·obtain ⟨b1,b2⟩:=dig_bd (all_at hlt HAll.o)
    have hsn:says (s.data.toList.take (k+1))=10*says (s.data.toList.take k)+((s[k].toNat:Int)-48):=by rw [Qbo s k hlt,Qe9]
    have HS:=qh hsn;have hle:=Qf5 s.data.toList (k+1) HAll.o;rw [hsn] at hle;have HL:=qh hle;clear hsn hle
    by_cases hb:1000000<10*says (s.data.toList.take k)+((s[k].toNat:Int)-48)
    ·go_wp2_with fail
     go_ret2
     exact ⟨J4 (by unfold getN; rw [if_pos HNum.o,if_pos (by have:=HL.o; omega)]) (by unfold getE; rw [if_pos HNum.o,if_pos (by have:=HL.o; omega)]),rfl⟩
    ·go_wp2_with fail
     go_round
     case rel=>exact ⟨k+1,by omega,by go_num,by rw [HS.o],by rw [HS.o]; omega⟩
     case measure=>simp [intOf]; omega
   ·have hks:k = s.size:=by omega
    have hsa:says (s.data.toList.take k)=says s.data.toList:=by rw [hks,Qbe]
    have HE:=qh hsa;clear hsa hks;go_wp2_with fail
    go_ret2
    exact ⟨J4 (by rw [HE.o]; unfold getN; rw [if_pos HNum.o,if_neg (by rw [<- HE.o]; omega)]) (by unfold getE; rw [if_pos HNum.o,if_neg (by rw [<- HE.o]; omega)]),rfl⟩
 ·have hf:isNum s.data.toList = false:=by simpa using hn
  clear hn;have HF:=qh hf;go_enter Tryz.func181,Tryz.ntmps181;go_wp2_with (go_at_call 190; refine (Qdd _ _ hs).mono ?_; rintro e w' ⟨rfl,rfl⟩)
  go_ret2
  exact ⟨J4 (by unfold getN; rw [HF.o]; rfl) (by unfold getE; rw [HF.o]; rfl),rfl⟩
theorem num_ok {s:ByteArray} (h:0 < s.size) (ha:s.data.toList.all isDig = true) (h0:(s[0].toNat:Int) = 48 -> s.size <= 1):isNum s.data.toList = true:=by
 rw [QhB h (by by_cases e:(s[0].toNat:Int)=48; exact .inr (h0 e); exact .inl e),ha]
theorem num_no {s:ByteArray} {k:Nat} (h:k < s.size) (hc:isDig s[k] = false):isNum s.data.toList = false:=by
 cases e:isNum s.data.toList with
 | false => rfl
 | true => have:=all_at h (Qc4 e); rw [hc] at this; cases this
def RGet (s:ByteArray) (z:Int) (n i:Value):Prop:=∃ (k:Nat) (m:Int),k<=s.size/\i = .int .i64 k/\n = .int .i64 m/\0<=m/\m<=10000009/\(s.data.toList.take k).all isDig=true/\(m<=1000000->m=says (s.data.toList.take k))/\(1000000<m->1000000<says (s.data.toList.take k))/\(z=48->k<=1)
theorem rget_any (s:ByteArray) (w:World) (hs:s.size <= maxLen) :
 Calls Tryz.prog 167 #[.string s] w fun e w'=>e = .returned (.tuple #[.int .i64 (getN s.data.toList),.int .i64 (getE s.data.toList)])/\w=w':=by
 have hs':s.size<=9223372036854775807:=hs
 by_cases h0:s.size=0
 ·have he:s.data.toList = []:=by rw [<- ByteArray.toList_eq]; exact str_nil h0
  have HE:=qh he;clear he hs;go_enter Tryz.func167,Tryz.ntmps167;go_wp2_with fail
  go_ret2
  exact ⟨J4 (by rw [HE.o]; rfl) (by rw [HE.o]; rfl),rfl⟩
 ·have hp:0 < s.size:=by omega
  have hp':(0:Int)<(s.size:Int):=by omega
  clear hs;go_enter Tryz.func167,Tryz.ntmps167;go_wp2_with fail
  go_loop [4,5] (fun n i=>RGet s (s[0].toNat:Int) n i) (fun _ i=>s.size-(intOf i).toNat)
  case atStart=>exact ⟨0,0,Nat.zero_le _,rfl,rfl,by omega,by omega,rfl,fun _=>rfl,fun h=>by omega,fun _=>by omega⟩
  case round =>
   obtain ⟨k,m,hk,rfl,rfl,m0,m1,hall,hm1,hm2,hz⟩:=hrel;have HA:=qh hall;have H1:=qh hm1;have H2:=qh hm2;have HZ:=qh hz;clear hall hm1 hm2 hz
   by_cases hlt:k<s.size
   ·by_cases hc1:(s[k].toNat:Int) < 48
    ·have HN:=qh (num_no hlt (Qeg hc1))
     go_wp2_with fail
     go_ret2
     exact ⟨J4 (by unfold getN; rw [HN.o]; rfl) (by unfold getE; rw [HN.o]; rfl),rfl⟩
    ·by_cases hc2:57 < (s[k].toNat:Int)
     ·have HN:=qh (num_no hlt (Qd1 hc2))
      go_wp2_with fail
      go_ret2
      exact ⟨J4 (by unfold getN; rw [HN.o]; rfl) (by unfold getE; rw [HN.o]; rfl),rfl⟩
     ·by_cases hc3:k = 1 /\ (s[0].toNat:Int) = 48
      ·obtain ⟨rfl,hc3⟩:=hc3
       have HN:=qh (QhD hp hc3 hlt);go_wp2_with fail
       go_ret2
       exact ⟨J4 (by unfold getN; rw [HN.o]; rfl) (by unfold getE; rw [HN.o]; rfl),rfl⟩
      ·have HZ2:Hid ((s[0].toNat:Int) = 48 -> k + 1 <= 1):=qh fun e => by have:=HZ.o e; omega
       have hsn:says (s.data.toList.take (k+1))=10*says (s.data.toList.take k)+((s[k].toNat:Int)-48):=by rw [Qbo s k hlt,Qe9]
       have HS:=qh hsn;have HA2:Hid ((s.data.toList.take (k+1)).all isDig=true):=qh (by rw [Qbo s k hlt,List.all_append,HA.o]; simp [dig_mk (c:=s[k]) (by omega) (by omega)]);clear hsn
       by_cases hk1:k=1
       ·have hc4:¬ (s[0].toNat:Int) = 48:=fun e => hc3 ⟨hk1,e⟩
        clear hc3;subst hk1
        by_cases hb:m<=1000000
        all_goals
         go_wp2_with fail
         go_round
         case rel => first
          | exact ⟨2,_,by omega,by go_num,rfl,by omega,by omega,HA2.o,fun _ => by rw [HS.o,<- H1.o (by omega)]; omega,fun _ => by rw [HS.o,<- H1.o (by omega)]; omega,HZ2.o⟩
          | exact ⟨2,_,by omega,by go_num,rfl,by omega,by omega,HA2.o,fun _ => by omega,fun _ => by have:=H2.o (by omega); rw [HS.o]; omega,HZ2.o⟩
         case measure=>simp [intOf]; omega
       ·clear hc3
        have hk2:((k:Int)==1)=false:=by rw [beq_eq_false_iff_ne]; omega
        by_cases hb:m<=1000000
        all_goals
         go_wp2_with fail
         go_round
         case rel => first
          | exact ⟨k + 1,_,by omega,by go_num,rfl,by omega,by omega,HA2.o,fun _ => by rw [HS.o,<- H1.o (by omega)]; omega,fun _ => by rw [HS.o,<- H1.o (by omega)]; omega,HZ2.o⟩
          | exact ⟨k + 1,_,by omega,by go_num,rfl,by omega,by omega,HA2.o,fun _ => by omega,fun _ => by have:=H2.o (by omega); rw [HS.o]; omega,HZ2.o⟩
         case measure=>simp [intOf]; omega
   ·have hks:k = s.size:=by omega
    subst hks;have HA2:Hid (s.data.toList.all isDig=true):=qh (by rw [<- Qbe s]; exact HA.o);have HN:Hid (isNum s.data.toList=true):=qh (num_ok hp HA2.o HZ.o);have H3:Hid (m<=1000000->m=says s.data.toList):=qh (by have:=H1.o; rwa [Qbe] at this);have H4:Hid (1000000<m->1000000<says s.data.toList):=qh (by have:=H2.o; rwa [Qbe] at this);clear HA HA2 HZ H1 H2
    by_cases hb:1000000<m
    ·go_wp2_with fail
     go_ret2
     exact ⟨J4 (by unfold getN; rw [HN.o,if_pos rfl,if_pos (H4.o hb)]) (by unfold getE; rw [HN.o,if_pos rfl,if_pos (H4.o hb)]),rfl⟩
    ·go_wp2_with fail
     go_ret2
     have e:=H3.o (by omega);exact ⟨J4 (by unfold getN; rw [HN.o,if_pos rfl,if_neg (by omega)]; exact e) (by unfold getE; rw [HN.o,if_pos rfl,if_neg (by omega)]),rfl⟩
end
section
open Go.RowKit CurSpec ValSpec
set_option maxRecDepth 100000
def RetCurN (W0 W:World) (c:Cur) (m:Int) (e:Ending) (w':World):Prop :=
 ∃ A n cp,e = .returned (.tuple #[.agg #[.slice A n cp,.int .i64 c.w1,.int .i64 c.w2,.int .i64 c.a1,.int .i64 c.a2,.int .i64 c.bad],.int .i64 m])/\Toks W0 (.slice A n cp) c.L/\Below W.heap.size W w'
def RetGet (W:World) (n er:Int) (e:Ending) (w':World):Prop:=e = .returned (.tuple #[.int .i64 n,.int .i64 er])/\W=w'
theorem rget_say {s:ByteArray} {n er:Int} (hn:getN s.data.toList = n) (he:getE s.data.toList = er) (hs:s.size <= 9223372036854775807) (w:World):Calls Tryz.prog 167 #[.string s] w (RetGet w n er):=by
 subst hn he;exact rget_any s w hs
theorem QaY {c:Cur} {m er:Int} (h:numE c m = er) (hne:er ≠ 0):numC c m = fail c er /\ numN c m = 0:=by
 subst h;unfold numC numN;rw [if_neg hne,if_neg hne];exact ⟨rfl,rfl⟩
theorem Qfw {c:Cur} {m:Int} (h:(next c).k≠2):numE c m=2:=if_neg (fun h'=>h h'.2)
theorem QhU {c:Cur} {m:Int} (h0:c.bad = 0) (h:(next c).k = 2) (hE:getE (next c).t.data.toList ≠ 0):numE c m = getE (next c).t.data.toList:=by
 unfold numE;rw [if_pos ⟨h0,h⟩,if_neg hE]
theorem QfQ {c:Cur} {m:Int} (h0:c.bad = 0) (h:(next c).k = 2) (hE:getE (next c).t.data.toList = 0) (hm:m < getN (next c).t.data.toList):numE c m = 3:=by
 unfold numE;rw [if_pos ⟨h0,h⟩,if_pos hE,if_pos hm]
theorem Qe5 {c:Cur} {m:Int} (h0:c.bad = 0) (h:(next c).k = 2) (hE:getE (next c).t.data.toList = 0) (hm:¬ m < getN (next c).t.data.toList):numE c m = 0:=by
 unfold numE;rw [if_pos ⟨h0,h⟩,if_pos hE,if_neg hm]
theorem QdR (c:Cur) (m:Int) (ok:Ok c) (A:Option Addr) (n cp:Nat) (W0 w:World) (h:Toks W0 (.slice A n cp) c.L) (hw:Below W0.heap.size W0 w) :
 Calls Tryz.prog 143 #[.agg #[.slice A n cp,.int .i64 c.w1,.int .i64 c.w2,.int .i64 c.a1,.int .i64 c.a2,.int .i64 c.bad],.int .i64 m] w (RetCurN W0 w (numC c m) (numN c m)):=by
 have HT:=qh h;have HW:=qh hw;have HN:=qh (fun W h=>Q4 c A n cp W h);have HO:=qh (fun W hw=>Ji c A n cp W0 W h hw);have HFa:=qh (fun er W hw=>Jw c er A n cp W0 W h hw);clear h hw;obtain ⟨d,hd⟩:∃ d,d=numC c m:=⟨_,rfl⟩;obtain ⟨u,hu⟩:∃ u,u=numN c m:=⟨_,rfl⟩;obtain ⟨t,ht⟩:∃ t,t=next c:=⟨_,rfl⟩;have HG:=qh (fun W=>rget_say (s:=(next c).t) rfl rfl ok.next W);rw [<- hd,<- hu];rw [<- ht] at HN HG
 by_cases h0:c.bad=0
 ·have e0:(c.bad != 0) = false:=by simpa using h0
  by_cases h1:t.k=2
  ·have e1:(t.k != 2) = false:=by simpa using h1
   obtain ⟨N,hN⟩:∃ N,N=getN t.t.data.toList:=⟨_,rfl⟩;obtain ⟨E,hE⟩:∃ E,E=getE t.t.data.toList:=⟨_,rfl⟩;rw [<- hN,<- hE] at HG
   by_cases h2:E=0
   ·have e2:(E != 0) = false:=by simpa using h2
    by_cases h3:m<N
    ·have hB:=QaY (QfQ (m:=m) h0 (by rw [<- ht]; exact h1) (by rw [<- ht,<- hE]; exact h2) (by rw [<- ht,<- hN]; exact h3)) (by decide)
     have hc:fail c 3=d:=by rw [hd,hB.1]
     have HS:Hid ((0:Int)=u):=qh (by rw [hu,hB.2]);have HF:=qh (fun W hw=>HFa.o 3 W hw);rw [hc] at HF;clear hc hB hd hu ht h0 h1 h2 hN hE HO HFa;go_enter Tryz.func143,Tryz.ntmps143;go_wp2_with (go_at_call 104; go_fit (HN.o _ (((HT.o.keep HW.o).alloc _).alloc _)));rintro e x2 ⟨rfl,hb2⟩;obtain ⟨k1,k2,hB,hz⟩:=Qz hb2;have hz':w.heap.size<x2.heap.size:=by omega
     have HK1:=qh k1;have HK2:=qh k2;have HB:=qh hB;obtain ⟨c0,c1,c2,c3,c4,c5⟩:=Qc k1;clear hb2 k1 k2 hB;go_wp2_with (go_at_call 167; go_fit (HG.o _));rintro e w' ⟨rfl,rfl⟩;go_wp2_with (go_at_call 64; go_fit (HF.o _ (Qa HW.o (HB.o.alloc (Nat.le_trans (Nat.le_succ _) (Nat.le_of_lt hz)) _))));rintro e x4 ⟨A',n',cp',rfl,hT4,hb4⟩;have k4:=Qe ((heap_alloc_old _ _ hz).trans HK2.o) hb4;have HB4:=qh (Qa (HB.o.alloc (Nat.le_trans (Nat.le_succ _) (Nat.le_of_lt hz)) _) hb4);have HT4:=qh hT4;have HK4:=qh (QD k4 (n:=6) rfl);obtain ⟨d0,d1,d2,d3,d4,d5⟩:=Qc k4;obtain ⟨g0,g1,g2,g3,g4,g5⟩:=Qk k4;clear hT4 hb4 k4 c0 c1 c2 c3 c4 c5;go_wp2_with fail;obtain ⟨q0,q1,q2,q3,q4,q5⟩:=Qq HK4.o (.slice A' n' cp') (.int .i64 d.w1) (.int .i64 d.w2) (.int .i64 d.a1) (.int .i64 d.a2) (.int .i64 d.bad);refine bodyPost_ret (v:=.tuple #[.agg #[.slice A' n' cp',.int .i64 d.w1,.int .i64 d.w2,.int .i64 d.a1,.int .i64 d.a2,.int .i64 d.bad],.int .i64 0]) (by simp [results,Tryz.results143,go_sem,q0,q1,q2,q3,q4,q5]) rfl ?_;rw [HS.o];exact ⟨A',n',cp',rfl,HT4.o,QL HB4.o (by omega) _ _ _ _ _ _⟩
    ·have hB:=Qe5 (m:=m) h0 (by rw [<- ht]; exact h1) (by rw [<- ht,<- hE]; exact h2) (by rw [<- ht,<- hN]; exact h3)
     have hc:on c=d:=by rw [hd]; unfold numC; rw [if_pos hB]
     have HS:Hid (N=u):=qh (by rw [hu]; unfold numN; rw [if_pos hB,<- ht,hN]);have HF:=HO;rw [hc] at HF;have e3:N<=m:=by omega
     clear hc hB hd hu ht h0 h1 h2 h3 hN hE HO HFa;go_enter Tryz.func143,Tryz.ntmps143;go_wp2_with (go_at_call 104; go_fit (HN.o _ (((HT.o.keep HW.o).alloc _).alloc _)));rintro e x2 ⟨rfl,hb2⟩;obtain ⟨k1,k2,hB,hz⟩:=Qz hb2;have hz':w.heap.size<x2.heap.size:=by omega
     have HK1:=qh k1;have HK2:=qh k2;have HB:=qh hB;obtain ⟨c0,c1,c2,c3,c4,c5⟩:=Qc k1;clear hb2 k1 k2 hB;go_wp2_with (go_at_call 167; go_fit (HG.o _));rintro e w' ⟨rfl,rfl⟩;go_wp2_with (go_at_call 63; go_fit (HF.o _ (Qa HW.o (HB.o.alloc (Nat.le_trans (Nat.le_succ _) (Nat.le_of_lt hz)) _))));rintro e x4 ⟨A',n',cp',rfl,hT4,hb4⟩;have k4:=Qe ((heap_alloc_old _ _ hz).trans HK2.o) hb4;have HB4:=qh (Qa (HB.o.alloc (Nat.le_trans (Nat.le_succ _) (Nat.le_of_lt hz)) _) hb4);have HT4:=qh hT4;have HK4:=qh (QD k4 (n:=6) rfl);obtain ⟨d0,d1,d2,d3,d4,d5⟩:=Qc k4;obtain ⟨g0,g1,g2,g3,g4,g5⟩:=Qk k4;clear hT4 hb4 k4 c0 c1 c2 c3 c4 c5;go_wp2_with fail;obtain ⟨q0,q1,q2,q3,q4,q5⟩:=Qq HK4.o (.slice A' n' cp') (.int .i64 d.w1) (.int .i64 d.w2) (.int .i64 d.a1) (.int .i64 d.a2) (.int .i64 d.bad);refine bodyPost_ret (v:=.tuple #[.agg #[.slice A' n' cp',.int .i64 d.w1,.int .i64 d.w2,.int .i64 d.a1,.int .i64 d.a2,.int .i64 d.bad],.int .i64 N]) (by simp [results,Tryz.results143,go_sem,q0,q1,q2,q3,q4,q5]) rfl ?_;rw [HS.o];exact ⟨A',n',cp',rfl,HT4.o,QL HB4.o (by omega) _ _ _ _ _ _⟩
   ·have e2:(E != 0) = true:=by simpa using h2
    have hB:=QaY (QhU (m:=m) h0 (by rw [<- ht]; exact h1) (by rw [<- ht,<- hE]; exact h2)) (by rw [<- ht,<- hE]; exact h2);rw [<- ht,<- hE] at hB;have hc:fail c E=d:=by rw [hd,hB.1]
    have HS:Hid ((0:Int)=u):=qh (by rw [hu,hB.2]);have HF:=qh (fun W hw=>HFa.o E W hw);rw [hc] at HF;clear hc hB hd hu ht h0 h1 h2 hN hE HO HFa;go_enter Tryz.func143,Tryz.ntmps143;go_wp2_with (go_at_call 104; go_fit (HN.o _ (((HT.o.keep HW.o).alloc _).alloc _)));rintro e x2 ⟨rfl,hb2⟩;obtain ⟨k1,k2,hB,hz⟩:=Qz hb2;have hz':w.heap.size<x2.heap.size:=by omega
    have HK1:=qh k1;have HK2:=qh k2;have HB:=qh hB;obtain ⟨c0,c1,c2,c3,c4,c5⟩:=Qc k1;clear hb2 k1 k2 hB;go_wp2_with (go_at_call 167; go_fit (HG.o _));rintro e w' ⟨rfl,rfl⟩;go_wp2_with (go_at_call 64; go_fit (HF.o _ (Qa HW.o (HB.o.alloc (Nat.le_trans (Nat.le_succ _) (Nat.le_of_lt hz)) _))));rintro e x4 ⟨A',n',cp',rfl,hT4,hb4⟩;have k4:=Qe ((heap_alloc_old _ _ hz).trans HK2.o) hb4;have HB4:=qh (Qa (HB.o.alloc (Nat.le_trans (Nat.le_succ _) (Nat.le_of_lt hz)) _) hb4);have HT4:=qh hT4;have HK4:=qh (QD k4 (n:=6) rfl);obtain ⟨d0,d1,d2,d3,d4,d5⟩:=Qc k4;obtain ⟨g0,g1,g2,g3,g4,g5⟩:=Qk k4;clear hT4 hb4 k4 c0 c1 c2 c3 c4 c5;go_wp2_with fail;obtain ⟨q0,q1,q2,q3,q4,q5⟩:=Qq HK4.o (.slice A' n' cp') (.int .i64 d.w1) (.int .i64 d.w2) (.int .i64 d.a1) (.int .i64 d.a2) (.int .i64 d.bad);refine bodyPost_ret (v:=.tuple #[.agg #[.slice A' n' cp',.int .i64 d.w1,.int .i64 d.w2,.int .i64 d.a1,.int .i64 d.a2,.int .i64 d.bad],.int .i64 0]) (by simp [results,Tryz.results143,go_sem,q0,q1,q2,q3,q4,q5]) rfl ?_;rw [HS.o];exact ⟨A',n',cp',rfl,HT4.o,QL HB4.o (by omega) _ _ _ _ _ _⟩
  ·have e1:(t.k != 2) = true:=by simpa using h1
   have hB:=QaY (Qfw (m:=m) (by rw [<- ht]; exact h1)) (by decide);have hc:fail c 2=d:=by rw [hd,hB.1]
   have HS:Hid ((0:Int)=u):=qh (by rw [hu,hB.2]);have HF:=qh (fun W hw=>HFa.o 2 W hw);rw [hc] at HF;clear hc hB hd hu ht h0 h1 HO HFa HG;go_enter Tryz.func143,Tryz.ntmps143;go_wp2_with (go_at_call 104; go_fit (HN.o _ (((HT.o.keep HW.o).alloc _).alloc _)));rintro e x2 ⟨rfl,hb2⟩;obtain ⟨k1,k2,hB,hz⟩:=Qz hb2;have hz':w.heap.size<x2.heap.size:=by omega
   have HK1:=qh k1;have HK2:=qh k2;have HB:=qh hB;obtain ⟨c0,c1,c2,c3,c4,c5⟩:=Qc k1;clear hb2 k1 k2 hB;go_wp2_with (go_at_call 64; go_fit (HF.o _ (Qa HW.o (HB.o.alloc (Nat.le_trans (Nat.le_succ _) (Nat.le_of_lt hz)) _))));rintro e x4 ⟨A',n',cp',rfl,hT4,hb4⟩;have k4:=Qe ((heap_alloc_old _ _ hz).trans HK2.o) hb4;have HB4:=qh (Qa (HB.o.alloc (Nat.le_trans (Nat.le_succ _) (Nat.le_of_lt hz)) _) hb4);have HT4:=qh hT4;have HK4:=qh (QD k4 (n:=6) rfl);obtain ⟨d0,d1,d2,d3,d4,d5⟩:=Qc k4;obtain ⟨g0,g1,g2,g3,g4,g5⟩:=Qk k4;clear hT4 hb4 k4 c0 c1 c2 c3 c4 c5;go_wp2_with fail;obtain ⟨q0,q1,q2,q3,q4,q5⟩:=Qq HK4.o (.slice A' n' cp') (.int .i64 d.w1) (.int .i64 d.w2) (.int .i64 d.a1) (.int .i64 d.a2) (.int .i64 d.bad);refine bodyPost_ret (v:=.tuple #[.agg #[.slice A' n' cp',.int .i64 d.w1,.int .i64 d.w2,.int .i64 d.a1,.int .i64 d.a2,.int .i64 d.bad],.int .i64 0]) (by simp [results,Tryz.results143,go_sem,q0,q1,q2,q3,q4,q5]) rfl ?_;rw [HS.o];exact ⟨A',n',cp',rfl,HT4.o,QL HB4.o (by omega) _ _ _ _ _ _⟩
 ·have e0:(c.bad != 0) = true:=by simpa using h0
  have hB:=QaY (Qe8 m h0) (by decide);have hc:fail c 2=d:=by rw [hd,hB.1]
  have HS:Hid ((0:Int)=u):=qh (by rw [hu,hB.2]);have HF:=qh (fun W hw=>HFa.o 2 W hw);rw [hc] at HF;clear hc hB hd hu ht h0 HO HFa HG;go_enter Tryz.func143,Tryz.ntmps143;go_wp2_with (go_at_call 104; go_fit (HN.o _ (((HT.o.keep HW.o).alloc _).alloc _)));rintro e x2 ⟨rfl,hb2⟩;obtain ⟨k1,k2,hB,hz⟩:=Qz hb2;have hz':w.heap.size<x2.heap.size:=by omega
  have HK1:=qh k1;have HK2:=qh k2;have HB:=qh hB;obtain ⟨c0,c1,c2,c3,c4,c5⟩:=Qc k1;clear hb2 k1 k2 hB;go_wp2_with (go_at_call 64; go_fit (HF.o _ (Qa HW.o (HB.o.alloc (Nat.le_trans (Nat.le_succ _) (Nat.le_of_lt hz)) _))));rintro e x4 ⟨A',n',cp',rfl,hT4,hb4⟩;have k4:=Qe ((heap_alloc_old _ _ hz).trans HK2.o) hb4;have HB4:=qh (Qa (HB.o.alloc (Nat.le_trans (Nat.le_succ _) (Nat.le_of_lt hz)) _) hb4);have HT4:=qh hT4;have HK4:=qh (QD k4 (n:=6) rfl);obtain ⟨d0,d1,d2,d3,d4,d5⟩:=Qc k4;obtain ⟨g0,g1,g2,g3,g4,g5⟩:=Qk k4;clear hT4 hb4 k4 c0 c1 c2 c3 c4 c5;go_wp2_with fail;obtain ⟨q0,q1,q2,q3,q4,q5⟩:=Qq HK4.o (.slice A' n' cp') (.int .i64 d.w1) (.int .i64 d.w2) (.int .i64 d.a1) (.int .i64 d.a2) (.int .i64 d.bad);refine bodyPost_ret (v:=.tuple #[.agg #[.slice A' n' cp',.int .i64 d.w1,.int .i64 d.w2,.int .i64 d.a1,.int .i64 d.a2,.int .i64 d.bad],.int .i64 0]) (by simp [results,Tryz.results143,go_sem,q0,q1,q2,q3,q4,q5]) rfl ?_;rw [HS.o];exact ⟨A',n',cp',rfl,HT4.o,QL HB4.o (by omega) _ _ _ _ _ _⟩
end
end Go.Proofs.YtbdalbpackfejaaGreatDoor
