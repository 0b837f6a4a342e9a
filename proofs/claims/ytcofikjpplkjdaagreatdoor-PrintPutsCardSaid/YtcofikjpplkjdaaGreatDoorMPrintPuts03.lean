/- NamesWords, NamesRefIs, CurRefName, ValCalls, ValGet, CurRefNum, CurCalls, TermArity, TermMay, joined. -/
import Derived.Test.YtcofikjpplkjdaaGreatDoorMPrintPuts01
import Derived.Lib.OthersKept
import Derived.Test.YtcofikjpplkjdaaGreatDoorMPrintPuts02
import Derived.Deep.RegionHeld3
import Derived.Test.YtcofikjpplkjdaaGreatDoorRows
import Derived.Test.YtcofikjpplkjdaaGreatDoorMPrintPuts00
import Derived.WalkKit
import Derived.WalkSpells
import Derived.Lib.Hide
import Derived.Laws.StructEq
namespace Go.Proofs.YtcofikjpplkjdaaGreatDoor
open Go.RowKit NamesSpec Go.Lib
set_option maxRecDepth 100000
theorem keywords_any (w:World):Calls Tryz.prog 46 #[] w (RetStrs w kwS):=by
 go_enter Tryz.func46,Tryz.ntmps46
 go_wp2
 go_ret
 exact ⟨_,rfl,Rd.lit (cs:=(strV kwS).toArray) rfl,(Below.refl _ _).alloc (Nat.le_refl _) _⟩
theorem toList_of (s:ByteArray):s.toList = s.data.toList:=ByteArray.toList_eq s
theorem kw_yes {s:ByteArray} {x:List UInt8} (h:(s.toList == x) = true) (hx:isKw x = true):isKw s.data.toList = true:=by
 rw [← toList_of,eq_of_beq h]; exact hx
theorem kw_no {s:ByteArray} (h:∀ x ∈ kw,(s.toList == x) = false):isKw s.data.toList = false:=by
 rw [← toList_of]
 unfold isKw
 rw [Bool.eq_false_iff]
 intro hc
 have hm:=List.contains_iff_mem.1 hc
 have:=h _ hm
 simp at this
set_option maxHeartbeats 800000 in
theorem keyword_any (s:ByteArray) (w:World):Calls Tryz.prog 85 #[.string s] w fun e w' => e = .returned (.bool (isKw s.data.toList)) ∧ w = w':=by
 rcases h0:(s.toList == [99,104,97,114,116]) with _ | _
 case true =>
  go_enter Tryz.func85,Tryz.ntmps85
  go_wp2
  go_ret
  exact ⟨ret_bool (kw_yes h0 (by decide)).symm,rfl⟩
 rcases h1:(s.toList == [101,118,101,110,116]) with _ | _
 case true =>
  go_enter Tryz.func85,Tryz.ntmps85
  go_wp2
  go_ret
  exact ⟨ret_bool (kw_yes h1 (by decide)).symm,rfl⟩
 rcases h2:(s.toList == [118,97,114]) with _ | _
 case true =>
  go_enter Tryz.func85,Tryz.ntmps85
  go_wp2
  go_ret
  exact ⟨ret_bool (kw_yes h2 (by decide)).symm,rfl⟩
 rcases h3:(s.toList == [108,101,97,102]) with _ | _
 case true =>
  go_enter Tryz.func85,Tryz.ntmps85
  go_wp2
  go_ret
  exact ⟨ret_bool (kw_yes h3 (by decide)).symm,rfl⟩
 rcases h4:(s.toList == [111,114]) with _ | _
 case true =>
  go_enter Tryz.func85,Tryz.ntmps85
  go_wp2
  go_ret
  exact ⟨ret_bool (kw_yes h4 (by decide)).symm,rfl⟩
 rcases h5:(s.toList == [97,110,100]) with _ | _
 case true =>
  go_enter Tryz.func85,Tryz.ntmps85
  go_wp2
  go_ret
  exact ⟨ret_bool (kw_yes h5 (by decide)).symm,rfl⟩
 rcases h6:(s.toList == [101,110,116,101,114]) with _ | _
 case true =>
  go_enter Tryz.func85,Tryz.ntmps85
  go_wp2
  go_ret
  exact ⟨ret_bool (kw_yes h6 (by decide)).symm,rfl⟩
 rcases h7:(s.toList == [101,120,105,116]) with _ | _
 case true =>
  go_enter Tryz.func85,Tryz.ntmps85
  go_wp2
  go_ret
  exact ⟨ret_bool (kw_yes h7 (by decide)).symm,rfl⟩
 rcases h8:(s.toList == [111,110]) with _ | _
 case true =>
  go_enter Tryz.func85,Tryz.ntmps85
  go_wp2
  go_ret
  exact ⟨ret_bool (kw_yes h8 (by decide)).symm,rfl⟩
 rcases h9:(s.toList == [97,117,116,111]) with _ | _
 case true =>
  go_enter Tryz.func85,Tryz.ntmps85
  go_wp2
  go_ret
  exact ⟨ret_bool (kw_yes h9 (by decide)).symm,rfl⟩
 rcases h10:(s.toList == [97,110,121]) with _ | _
 case true =>
  go_enter Tryz.func85,Tryz.ntmps85
  go_wp2
  go_ret
  exact ⟨ret_bool (kw_yes h10 (by decide)).symm,rfl⟩
 rcases h11:(s.toList == [105,110]) with _ | _
 case true =>
  go_enter Tryz.func85,Tryz.ntmps85
  go_wp2
  go_ret
  exact ⟨ret_bool (kw_yes h11 (by decide)).symm,rfl⟩
 rcases h12:(s.toList == [109,105,110]) with _ | _
 case true =>
  go_enter Tryz.func85,Tryz.ntmps85
  go_wp2
  go_ret
  exact ⟨ret_bool (kw_yes h12 (by decide)).symm,rfl⟩
 rcases h13:(s.toList == [109,97,120]) with _ | _
 case true =>
  go_enter Tryz.func85,Tryz.ntmps85
  go_wp2
  go_ret
  exact ⟨ret_bool (kw_yes h13 (by decide)).symm,rfl⟩
 rcases h14:(s.toList == [110,111,116]) with _ | _
 case true =>
  go_enter Tryz.func85,Tryz.ntmps85
  go_wp2
  go_ret
  exact ⟨ret_bool (kw_yes h14 (by decide)).symm,rfl⟩
 rcases h15:(s.toList == [116,114,117,101]) with _ | _
 case true =>
  go_enter Tryz.func85,Tryz.ntmps85
  go_wp2
  go_ret
  exact ⟨ret_bool (kw_yes h15 (by decide)).symm,rfl⟩
 rcases h16:(s.toList == [102,97,108,115,101]) with _ | _
 case true =>
  go_enter Tryz.func85,Tryz.ntmps85
  go_wp2
  go_ret
  exact ⟨ret_bool (kw_yes h16 (by decide)).symm,rfl⟩
 have HK:Hid (isKw s.data.toList = false):=Lib.hid (kw_no (by
  intro x hx
  simp only [kw,List.mem_cons,List.not_mem_nil,or_false] at hx
  rcases hx with rfl | rfl | rfl | rfl | rfl | rfl | rfl | rfl | rfl | rfl | rfl | rfl | rfl | rfl | rfl | rfl | rfl <;> assumption))
 go_enter Tryz.func85,Tryz.ntmps85
 go_wp2
 go_ret
 exact ⟨ret_bool HK.out.symm,rfl⟩
def begB (r:Int):Bool:=decide (97 ≤ r) && decide (r ≤ 122)
def goB (r:Int):Bool:=begB r || decide (48 ≤ r) && decide (r ≤ 57) || decide (r = 95)
theorem begins_any (r:Int) (w:World):Calls Tryz.prog 86 #[.int .i32 r] w fun e w' => e = .returned (.bool (begB r)) ∧ w = w':=by
 by_cases h1:97 ≤ r <;> by_cases h2:r ≤ 122
 all_goals
  go_enter Tryz.func86,Tryz.ntmps86
  go_wp2
  go_ret
  exact ⟨ret_bool (by unfold begB; simp [h1,h2]),rfl⟩
theorem begins_is {r:Int} {b:Bool} (h:begB r = b) (w:World):Calls Tryz.prog 86 #[.int .i32 r] w fun e w' => e = .returned (.bool b) ∧ w = w':=by
 subst h; exact begins_any r w
theorem goesOn_any (r:Int) (w:World):Calls Tryz.prog 87 #[.int .i32 r] w fun e w' => e = .returned (.bool (goB r)) ∧ w = w':=by
 rcases hb:begB r with _ | _
 all_goals
  have HB:=Lib.hid hb
  clear hb
  by_cases h1:48 ≤ r <;> by_cases h2:r ≤ 57 <;> by_cases h3:r = 95
  all_goals first
   | (exfalso; omega)
   | (try subst h3
      go_enter Tryz.func87,Tryz.ntmps87
      go_wp2_with (go_at_call 86; refine (begins_is HB.out _).mono ?_; rintro e w' ⟨rfl,rfl⟩)
      go_ret
      exact ⟨ret_bool (by unfold goB; rw [HB.out,Bool.eq_iff_iff]; simp; try omega),rfl⟩)
theorem goesOn_is {r:Int} {b:Bool} (h:goB r = b) (w:World):Calls Tryz.prog 87 #[.int .i32 r] w fun e w' => e = .returned (.bool b) ∧ w = w':=by
 subst h; exact goesOn_any r w
theorem get_bang (s:ByteArray) (i:Nat) (h:i < s.size):s.get! i = s[i]:=by
 simp [ByteArray.get!,getElem!_pos,h]; rfl
theorem dec_big (s:ByteArray) (i:Nat) (h:i < s.size) (hb:128 ≤ s[i].toNat):128 ≤ (Utf8.decode s i).1:=by
 unfold Utf8.decode
 simp only [Nat.add_zero,get_bang s i h]
 rw [if_neg (by omega)]
 repeat' split
 all_goals (try simp only [Utf8.runeError]) <;> (try simp only [Bool.and_eq_true,decide_eq_true_eq,ge_iff_le] at *) <;> omega
theorem goB_of (c:UInt8):goB (c.toNat:Int) = later c:=by
 rw [Bool.eq_iff_iff]
 simp [goB,begB,later,letter,UInt8.le_iff_toNat_le,← UInt8.toNat_inj]
 omega
theorem begB_of (c:UInt8):begB (c.toNat:Int) = letter c:=by
 rw [Bool.eq_iff_iff]
 simp [begB,letter,UInt8.le_iff_toNat_le]
 omega
theorem later_small {c:UInt8} (h:later c = true):c.toNat < 128:=by
 simp [later,letter,UInt8.le_iff_toNat_le,← UInt8.toNat_inj] at h
 omega
theorem dec_later (s:ByteArray) (i:Nat) (h:i < s.size):goB ((Utf8.decode s i).1:Int) = later s[i]:=by
 by_cases hb:s[i].toNat < 128
 ·rw [decode_ascii s i h hb]; exact goB_of _
 ·have h1:=dec_big s i h (by omega)
  have h2:later s[i] = false:=by
   rw [← Bool.not_eq_true]; intro hc; exact hb (later_small hc)
  rw [h2,← Bool.not_eq_true]
  simp [goB,begB]
  omega
theorem dec_letter (s:ByteArray) (i:Nat) (h:i < s.size):begB ((Utf8.decode s i).1:Int) = letter s[i]:=by
 by_cases hb:s[i].toNat < 128
 ·rw [decode_ascii s i h hb]; exact begB_of _
 ·have h1:=dec_big s i h (by omega)
  have h2:letter s[i] = false:=by
   rw [← Bool.not_eq_true]; intro hc; exact hb (later_small (letter_later hc))
  rw [h2,← Bool.not_eq_true]
  simp [begB]
  omega
theorem dec_one (s:ByteArray) (i:Nat) (h:i < s.size) (hl:later s[i] = true):(Utf8.decode s i).2 = 1:=by rw [decode_ascii s i h (later_small hl)]
theorem byte_at (s:ByteArray) (i:Nat) (h:i < s.size):s.data.toList[i]? = some s[i]:=by
 rw [List.getElem?_eq_getElem (by simpa using h)]; rfl
theorem str_nil' {s:ByteArray} (h:s.size = 0):s.toList = []:=by
 rw [ByteArray.toList_eq,← List.length_eq_zero_iff]; exact h
theorem str_ne' {s:ByteArray} (h:0 < s.size):s.toList.isEmpty = false:=by
 have e:s.toList.length = s.size:=by rw [ByteArray.toList_eq]; rfl
 cases h':s.toList with
 | nil => rw [h'] at e; simp at e; omega
 | cons a l => rfl
theorem size_list (s:ByteArray):s.data.toList.length = s.size:=rfl
def IsRel (W:World) (s:ByteArray) (wr:World):Prop:=∃ pos,pos ≤ s.size ∧ wr.heap[W.heap.size]? = some (.stringIter s pos) ∧ Below W.heap.size W wr ∧ (s.data.toList.take pos).all later = true ∧ (0 < pos → ∀ c,s.data.toList[0]? = some c → letter c = true)
theorem isRel_next {W wr:World} {s:ByteArray} {pos:Nat} (hp:pos < s.size) (hit:wr.heap[W.heap.size]? = some (.stringIter s pos)) (hb:Below W.heap.size W wr) (ha:(s.data.toList.take pos).all later = true)
 (h0:0 < pos → ∀ c,s.data.toList[0]? = some c → letter c = true) (hl:later s[pos] = true) (hz:pos = 0 → letter s[pos] = true):IsRel W s (wr.iterAt W.heap.size s (pos + 1)):=by
 refine ⟨pos + 1,by omega,iterAt_heap _ _ _ _ _ hit,below_iterAt hb (Nat.le_refl _) _ _,?_,fun _ c hc => ?_⟩
 ·rw [take_next (byte_at s pos hp),List.all_append,ha]; simpa using hl
 ·rcases Nat.eq_zero_or_pos pos with h | h
  ·subst h
   rw [byte_at s 0 hp] at hc
   injection hc with hc
   exact hc ▸ hz rfl
  ·exact h0 h c hc
set_option maxHeartbeats 1600000 in
theorem is_any (s:ByteArray) (w:World) (hs:s.size ≤ 9223372036854775807):Calls Tryz.prog 50 #[.string s] w fun e w' => e = .returned (.bool (isName s.data.toList)) ∧ Below w.heap.size w w':=by
 rcases Nat.eq_zero_or_pos s.size with h0 | h0
 ·have HE:Hid (isName s.data.toList = false):=Lib.hid (isName_size (.inl h0))
  have hnil:=str_nil' h0
  clear h0 hs
  go_enter Tryz.func50,Tryz.ntmps50
  go_wp2
  go_ret
  exact ⟨ret_bool HE.out.symm,Below.refl _ _⟩
 ·have hne:=str_ne' h0
  by_cases h12:12 < s.size
  ·have HE:Hid (isName s.data.toList = false):=Lib.hid (isName_size (.inr h12))
   go_enter Tryz.func50,Tryz.ntmps50
   go_wp2
   go_ret
   exact ⟨ret_bool HE.out.symm,Below.refl _ _⟩
  ·rcases hk:isKw s.data.toList with _ | _
   case true =>
    have HE:Hid (isName s.data.toList = false):=Lib.hid (isName_kw hk)
    have HC:=Lib.hid (hk ▸ keyword_any s w)
    clear hk
    go_enter Tryz.func50,Tryz.ntmps50
    go_wp2_with (go_at_call 85; refine HC.out.mono ?_; rintro e w' ⟨rfl,rfl⟩)
    go_ret
    exact ⟨ret_bool HE.out.symm,Below.refl _ _⟩
   have HC:=Lib.hid (hk ▸ keyword_any s w)
   have HK:=Lib.hid hk
   clear hk
   go_enter Tryz.func50,Tryz.ntmps50
   go_wp2_with (go_at_call 85; refine HC.out.mono ?_; rintro e w' ⟨rfl,rfl⟩)
   go_loopw [] (fun wr => IsRel w s wr) (fun wr => s.size - wr.iterPos w.heap.size)
   case atStart => exact ⟨0,Nat.zero_le _,World.iter_heap w s 0,(Below.refl _ w).alloc (Nat.le_refl _) _,rfl,fun h => absurd h (by omega)⟩
   case round =>
    obtain ⟨pos,hps,hit,hbw,hall,hhead⟩:=hrel
    by_cases hp:pos < s.size
    ·have hnx:∀ ty,(Instr.next (.pointer (some ⟨w.heap.size,0,none⟩)) true ty).run Tryz.prog wr = _:=fun ty => Lib.run_next_any_at wr w.heap.size s pos ty hit hp
     have hgo:=dec_later s pos hp
     have hbe:=dec_letter s pos hp
     have hw1:=dec_one s pos hp
     have hat:=byte_at s pos hp
     have hrel:=isRel_next hp hit hbw hall hhead
     have HM:Hid (s.size - (wr.iterAt w.heap.size s (pos + 1)).iterPos w.heap.size < s.size - wr.iterPos w.heap.size):=Lib.hid (by
      simp only [World.iterPos,iterAt_heap _ _ _ _ _ hit,hit]; omega)
     obtain ⟨c,hc⟩:∃ c,c = s[pos]:=⟨_,rfl⟩
     rw [← hc] at hgo hbe hw1 hat hrel
     clear hc
     obtain ⟨r,hr⟩:∃ r,r = (Utf8.decode s pos).1:=⟨_,rfl⟩
     obtain ⟨wd,hwd⟩:∃ wd,wd = (Utf8.decode s pos).2:=⟨_,rfl⟩
     rw [← hr] at hgo hbe hnx
     rw [← hwd] at hw1 hnx
     clear hr hwd hall hhead
     have HB:=Lib.hid hbw
     have HA:=Lib.hid hat
     clear hat hit hbw
     rcases Nat.eq_zero_or_pos pos with hz | hz
     ·subst hz
      rcases hl:letter c with _ | _
      ·have HE:Hid (isName s.data.toList = false):=Lib.hid (isName_head HA.out hl)
       have HBc:=Lib.hid (begins_is (hbe.trans hl))
       clear hl hbe hgo hw1 hrel HM
       go_wp2_with (go_at_call 86; refine (HBc.out _).mono ?_; rintro e w' ⟨rfl,rfl⟩)
       go_ret
       exact ⟨ret_bool HE.out.symm,below_iterAt HB.out (Nat.le_refl _) _ _⟩
      ·have HBc:=Lib.hid (begins_is (hbe.trans hl))
       have HGc:=Lib.hid (goesOn_is (hgo.trans (letter_later hl)))
       have HR:=Lib.hid (hrel (letter_later hl) (fun _ => hl))
       obtain rfl:wd = 1:=hw1 (letter_later hl)
       clear hl hbe hgo hrel hw1
       go_wp2_with (first | (go_at_call 86; refine (HBc.out _).mono ?_; rintro e w' ⟨rfl,rfl⟩) | (go_at_call 87; refine (HGc.out _).mono ?_; rintro e w' ⟨rfl,rfl⟩))
       go_roundw
       case rel => exact HR.out
       case measure => exact HM.out
     ·have hz':((pos:Int) == 0) = false:=by simp; omega
      rcases hl:later c with _ | _
      ·have HE:Hid (isName s.data.toList = false):=Lib.hid (isName_later HA.out hl)
       have HGc:=Lib.hid (goesOn_is (hgo.trans hl))
       clear hl hbe hgo hw1 hrel HM
       go_wp2_with (go_at_call 87; refine (HGc.out _).mono ?_; rintro e w' ⟨rfl,rfl⟩)
       go_ret
       exact ⟨ret_bool HE.out.symm,below_iterAt HB.out (Nat.le_refl _) _ _⟩
      ·have HGc:=Lib.hid (goesOn_is (hgo.trans hl))
       have HR:=Lib.hid (hrel hl (fun h => absurd h (by omega)))
       obtain rfl:wd = 1:=hw1 hl
       clear hl hbe hgo hrel hw1
       go_wp2_with (go_at_call 87; refine (HGc.out _).mono ?_; rintro e w' ⟨rfl,rfl⟩)
       go_roundw
       case rel => exact HR.out
       case measure => exact HM.out
    ·have hnx:∀ ty,(Instr.next (.pointer (some ⟨w.heap.size,0,none⟩)) true ty).run Tryz.prog wr = _:=fun ty => Lib.run_next_end_at wr w.heap.size s pos ty hit hp
     have hall':s.data.toList.all later = true:=by rw [List.take_of_length_le (by rw [size_list]; omega)] at hall; exact hall
     have HE:Hid (isName s.data.toList = true):=Lib.hid (isName_yes (by rw [size_list]; omega) (by rw [size_list]; omega) HK.out hall' (hhead (by omega)))
     clear hall hall' hhead
     go_wp2
     go_ret
     exact ⟨ret_bool HE.out.symm,hbw⟩
end Go.Proofs.YtcofikjpplkjdaaGreatDoor
namespace Go.Proofs.YtcofikjpplkjdaaGreatDoor
open Go.RowKit NamesSpec Go.Lib
set_option maxRecDepth 100000
theorem letter_iff (c:UInt8):letter c = true ↔ 97 ≤ (c.toNat:Int) ∧ (c.toNat:Int) ≤ 122:=by
 simp [letter,UInt8.le_iff_toNat_le]; omega
theorem later_iff (c:UInt8):later c = true ↔ (97 ≤ (c.toNat:Int) ∧ (c.toNat:Int) ≤ 122) ∨ (48 ≤ (c.toNat:Int) ∧ (c.toNat:Int) ≤ 57) ∨ (c.toNat:Int) = 95:=by
 rw [later,Bool.or_eq_true,Bool.or_eq_true,letter_iff]
 simp [UInt8.le_iff_toNat_le,← UInt8.toNat_inj]; omega
theorem kw_place_is {s:ByteArray} {b:Bool} (h:isKw s.data.toList = b):decide (0 ≤ idxOfS kwS s) = b:=by rw [place_kw,h]
def RIsRel (s:ByteArray) (i:Value):Prop:=∃ k:Nat,k ≤ s.size ∧ i = .int .i64 k ∧ (s.data.toList.take k).all later = true ∧ (0 < k → ∀ c,s.data.toList[0]? = some c → letter c = true)
theorem risRel_next {s:ByteArray} {k:Nat} (hp:k < s.size) (ha:(s.data.toList.take k).all later = true) (h0:0 < k → ∀ c,s.data.toList[0]? = some c → letter c = true) (hl:later s[k] = true) (hz:k = 0 → letter s[k] = true):RIsRel s (.int .i64 (k + 1:Nat)):=by
 refine ⟨k + 1,by omega,rfl,?_,fun _ c hc => ?_⟩
 ·rw [take_next (byte_at s k hp),List.all_append,ha]; simpa using hl
 ·rcases Nat.eq_zero_or_pos k with h | h
  ·subst h
   rw [byte_at s 0 hp] at hc
   injection hc with hc
   exact hc ▸ hz rfl
  ·exact h0 h c hc
set_option maxHeartbeats 1600000 in
theorem ris_any (s:ByteArray) (w:World) (hs:s.size ≤ 9223372036854775807):Calls Tryz.prog 18 #[.string s] w fun e w' => e = .returned (.bool (isName s.data.toList)) ∧ Below w.heap.size w w':=by
 by_cases h0:s.size < 1
 ·have HE:Hid (isName s.data.toList = false):=Lib.hid (isName_size (.inl (by rw [size_list]; omega)))
  go_enter Tryz.func18,Tryz.ntmps18
  go_wp2
  go_ret
  exact ⟨ret_bool HE.out.symm,Below.refl _ _⟩
 by_cases h12:12 < s.size
 ·have HE:Hid (isName s.data.toList = false):=Lib.hid (isName_size (.inr h12))
  go_enter Tryz.func18,Tryz.ntmps18
  go_wp2
  go_ret
  exact ⟨ret_bool HE.out.symm,Below.refl _ _⟩
 rcases hk:isKw s.data.toList with _ | _
 case true =>
  have HE:Hid (isName s.data.toList = false):=Lib.hid (isName_kw hk)
  have hpl:=kw_place_is hk
  clear hk
  go_enter Tryz.func18,Tryz.ntmps18
  go_wp2_with (first
   | (go_at_call 46; refine (keywords_any _).mono ?_; rintro e w' ⟨v,rfl,hrd,hbw⟩)
   | (go_at_call 37; refine (rplace_any _ kwS s _ hrd (by decide)).mono ?_; rintro e w' ⟨rfl,rfl⟩))
  go_ret
  exact ⟨ret_bool HE.out.symm,hbw⟩
 have hpl:=kw_place_is hk
 have HK:=Lib.hid hk
 clear hk
 go_enter Tryz.func18,Tryz.ntmps18
 go_wp2_with (first
  | (go_at_call 46; refine (keywords_any _).mono ?_; rintro e w' ⟨v,rfl,hrd,hbw⟩)
  | (go_at_call 37; refine (rplace_any _ kwS s _ hrd (by decide)).mono ?_; rintro e w' ⟨rfl,rfl⟩))
 clear hrd hpl
 go_loop [3] (fun i => RIsRel s i) (fun i => s.size - (RowKit.intOf i).toNat)
 case atStart => exact ⟨0,Nat.zero_le _,rfl,rfl,fun h => absurd h (by omega)⟩
 case round =>
  obtain ⟨k,hks,rfl,hall,hhead⟩:=hrel
  by_cases hp:k < s.size
  ·have hrel:=risRel_next hp hall hhead
   have hat:=byte_at s k hp
   have hli:=letter_iff s[k]
   have hla:=later_iff s[k]
   have hub:(s[k].toNat:Int) ≤ 255:=by have:=s[k].toNat_lt; omega
   have hlb:0 ≤ (s[k].toNat:Int):=by omega
   by_cases hL:letter s[k] = true
   ·have HR:=Lib.hid (hrel (letter_later hL) (fun _ => hL))
    obtain ⟨g1,g2⟩:=hli.1 hL
    clear hrel hat hli hla hL hall hhead
    go_wp2
    go_round
    case rel => exact HR.out
    case measure => simp [RowKit.intOf]; omega
   ·rcases Nat.eq_zero_or_pos k with hz | hz
    ·subst hz
     have HE:Hid (isName s.data.toList = false):=Lib.hid (isName_head hat (by simpa using hL))
     have g:¬ (97 ≤ (s[0].toNat:Int) ∧ (s[0].toNat:Int) ≤ 122):=fun h => hL (hli.2 h)
     clear hrel hat hli hla hL hall hhead
     by_cases g1:97 ≤ (s[0].toNat:Int)
     ·have g2:122 < (s[0].toNat:Int):=by omega
      clear g
      go_wp2
      go_ret
      exact ⟨ret_bool HE.out.symm,hbw⟩
     ·clear g
      go_wp2
      go_ret
      exact ⟨ret_bool HE.out.symm,hbw⟩
    ·have hz':((k:Int) == 0) = false:=by simp; omega
     have g:¬ (97 ≤ (s[k].toNat:Int) ∧ (s[k].toNat:Int) ≤ 122):=fun h => hL (hli.2 h)
     by_cases hla':later s[k] = true
     ·have HR:=Lib.hid (hrel hla' (fun h => absurd h (by omega)))
      have g3:=hla.1 hla'
      clear hrel hat hli hla hL hall hhead hla'
      have g4:(48 ≤ (s[k].toNat:Int) ∧ (s[k].toNat:Int) ≤ 57) ∨ (s[k].toNat:Int) = 95:=by omega
      clear g3
      rcases g4 with ⟨g5,g6⟩ | g5
      ·have g1:¬ 97 ≤ (s[k].toNat:Int):=by omega
       have g7:((s[k].toNat:Int) != 95) = true:=by simp; omega
       clear g
       go_wp2
       go_round
       case rel => exact HR.out
       case measure => simp [RowKit.intOf]; omega
      ·have g1:¬ 97 ≤ (s[k].toNat:Int):=by omega
       have g7:((s[k].toNat:Int) != 95) = false:=by simp; omega
       clear g g5
       go_wp2
       go_round
       case rel => exact HR.out
       case measure => simp [RowKit.intOf]; omega
     ·have HE:Hid (isName s.data.toList = false):=Lib.hid (isName_later hat (by simpa using hla'))
      have g3:¬ ((48 ≤ (s[k].toNat:Int) ∧ (s[k].toNat:Int) ≤ 57) ∨ (s[k].toNat:Int) = 95):=fun h => hla' (hla.2 (.inr h))
      have g7:((s[k].toNat:Int) != 95) = true:=by simp; omega
      clear hrel hat hli hla hL hall hhead hla'
      by_cases g1:97 ≤ (s[k].toNat:Int)
      ·have g2:122 < (s[k].toNat:Int):=by omega
       have g6:¬ (s[k].toNat:Int) < 48:=by omega
       have g8:57 < (s[k].toNat:Int):=by have:¬ (s[k].toNat:Int) ≤ 122:=fun h => g ⟨g1,h⟩; omega
       clear g g3
       go_wp2
       go_ret
       exact ⟨ret_bool HE.out.symm,hbw⟩
      ·clear g
       by_cases g6:(s[k].toNat:Int) < 48
       ·clear g3
        go_wp2
        go_ret
        exact ⟨ret_bool HE.out.symm,hbw⟩
       ·have g8:57 < (s[k].toNat:Int):=by omega
        clear g3
        go_wp2
        go_ret
        exact ⟨ret_bool HE.out.symm,hbw⟩
  ·have hall':s.data.toList.all later = true:=by rw [List.take_of_length_le (by rw [size_list]; omega)] at hall; exact hall
   have HE:Hid (isName s.data.toList = true):=Lib.hid (isName_yes (by rw [size_list]; omega) (by rw [size_list]; omega) HK.out hall' (hhead (by omega)))
   clear hall hall' hhead
   go_wp2
   go_ret
   exact ⟨ret_bool HE.out.symm,hbw⟩
end Go.Proofs.YtcofikjpplkjdaaGreatDoor
namespace Go.Proofs.YtcofikjpplkjdaaGreatDoor
open Go.RowKit CurSpec NamesSpec
set_option maxRecDepth 100000
theorem nameB_yes {c:Cur} (h0:c.bad = 0) (h1:(next c).k = 1) (h2:isName (next c).t.data.toList = true):nameB c = true:=by simp [nameB,h0,h1,h2]
theorem nameB_no1 {c:Cur} (h1:(next c).k ≠ 1):nameB c = false:=by simp [nameB,h1]
theorem nameB_no2 {c:Cur} (h1:isName (next c).t.data.toList = false):nameB c = false:=by simp [nameB,h1]
end Go.Proofs.YtcofikjpplkjdaaGreatDoor
namespace Go.Proofs.YtcofikjpplkjdaaGreatDoor
open Go.RowKit ValSpec
end Go.Proofs.YtcofikjpplkjdaaGreatDoor
namespace Go.Proofs.YtcofikjpplkjdaaGreatDoor
open Go.RowKit ValSpec
set_option maxRecDepth 100000
theorem str_nil {s:ByteArray} (h:s.size = 0):s.toList = []:=by
 rw [ByteArray.toList_eq,← List.length_eq_zero_iff]; exact h
theorem str_ne {s:ByteArray} (h:0 < s.size):s.toList.isEmpty = false:=by
 have e:s.toList.length = s.size:=by rw [ByteArray.toList_eq]; rfl
 cases h':s.toList with
 | nil => rw [h'] at e; simp at e; omega
 | cons a l => rfl
theorem val_bool {a b:Bool} (h:a = b):Ending.returned (.bool a) = .returned (.bool b):=by rw [h]
theorem val_pair {a b c d:Int} (h:a = b) (h':c = d):Ending.returned (.tuple #[.int .i64 a,.int .i64 c]) = .returned (.tuple #[.int .i64 b,.int .i64 d]):=by rw [h,h']
theorem take_snoc (s:ByteArray) (k:Nat) (h:k < s.size):s.data.toList.take (k + 1) = s.data.toList.take k ++ [s[k]]:=by
 rw [List.take_succ_eq_append_getElem (by simpa using h)]; rfl
theorem take_all (s:ByteArray):s.data.toList.take s.size = s.data.toList:=by rw [List.take_of_length_le (by simp)]
theorem cons_of {s:ByteArray} (h:0 < s.size):∃ tl,s.data.toList = s[0] :: tl ∧ tl.length + 1 = s.size:=by
 have e:s.data.toList.length = s.size:=rfl
 cases h':s.data.toList with
 | nil => rw [h'] at e; simp at e; omega
 | cons a l =>
   rw [h'] at e
   refine ⟨l,?_,by simpa using e⟩
   have:s.data.toList[0]'(by rw [h']; simp) = s[0]:=rfl
   rw [← this]
   simp [h']
theorem num_zero {s:ByteArray} (h:0 < s.size) (h0:(s[0].toNat:Int) = 48) (h1:1 < s.size):isNum s.data.toList = false:=by
 obtain ⟨tl,e,hl⟩:=cons_of h
 have e0:s[0] = 48:=UInt8.toNat_inj.mp (by show _ = 48; omega)
 rw [e,e0]
 have:1 ≤ tl.length:=by omega
 simp [isNum]
 intro h2; subst h2; simp at this
theorem num_else {s:ByteArray} (h:0 < s.size) (h0:¬ (s[0].toNat:Int) = 48 ∨ s.size ≤ 1):isNum s.data.toList = s.data.toList.all isDig:=by
 obtain ⟨tl,e,hl⟩:=cons_of h
 rw [e]
 unfold isNum
 have e1:(!(s[0] :: tl).isEmpty) = true:=rfl
 rw [e1]
 rcases h0 with h0 | h0
 ·have:((s[0] :: tl).head? == some 48) = false:=by
   rw [beq_eq_false_iff_ne]; intro h2; simp at h2; exact h0 (by rw [h2]; rfl)
  rw [this]; simp
 ·have:tl = []:=by rw [← List.length_eq_zero_iff]; omega
  subst this; simp
theorem all_take_no {s:ByteArray} {k:Nat} (h:k < s.size) (hc:isDig s[k] = false):s.data.toList.all isDig = false:=by
 rw [List.all_eq_false]
 exact ⟨s[k],by rw [← Array.mem_def]; exact Array.getElem_mem _,by simp [hc]⟩
set_option maxHeartbeats 400000 in
theorem numeral_loop (s:ByteArray) (w:World) (hs:s.size ≤ 9223372036854775807) (hp:0 < s.size) (h0:¬ (s[0].toNat:Int) = 48 ∨ s.size ≤ 1) :
 Calls Tryz.prog 170 #[.string s] w fun e w' => e = .returned (.bool (isNum s.data.toList)) ∧ w = w':=by
 have he:=str_ne hp
 have HN:=Lib.hid (num_else hp h0)
 have hz:¬ ((s[0].toNat:Int) = 48 ∧ 1 < (s.size:Int)):=by omega
 by_cases hs0:(s[0].toNat:Int) = 48
 all_goals
  (first | (have h1:(s.size:Int) ≤ 1:=by omega) | skip)
  clear h0 hz
  go_enter Tryz.func170,Tryz.ntmps170
  go_wp2_with fail
  go_loop [18] (fun i => ∃ k:Nat,k ≤ s.size ∧ i = .int .i64 k ∧ (s.data.toList.take k).all isDig = true) (fun i => s.size - (intOf i).toNat)
  case atStart => exact ⟨0,Nat.zero_le _,rfl,rfl⟩
  case round =>
   obtain ⟨k,hk,rfl,hall⟩:=hrel
   have HA:=Lib.hid hall
   clear hall
   by_cases hlt:k < s.size
   ·by_cases hc1:(s[k].toNat:Int) < 48
    ·go_wp2_with fail
     go_ret
     exact ⟨val_bool (by rw [HN.out,all_take_no hlt (not_dig_lo hc1)]),rfl⟩
    ·by_cases hc2:57 < (s[k].toNat:Int)
     ·go_wp2_with fail
      go_ret
      exact ⟨val_bool (by rw [HN.out,all_take_no hlt (not_dig_hi hc2)]),rfl⟩
     ·go_wp2_with fail
      go_round
      case rel => exact ⟨k + 1,by omega,by go_num,by rw [take_snoc s k hlt,List.all_append,HA.out]; simp [dig_mk (c:=s[k]) (by omega) (by omega)]⟩
      case measure => simp [intOf]; omega
   ·go_wp2_with fail
    go_ret
    exact ⟨val_bool (by have:k = s.size:=by omega
                        rw [HN.out,← take_all s,← this,HA.out]),rfl⟩
theorem numeral_any (s:ByteArray) (w:World) (hs:s.size ≤ maxLen) :
 Calls Tryz.prog 170 #[.string s] w fun e w' => e = .returned (.bool (isNum s.data.toList)) ∧ w = w':=by
 unfold maxLen at hs
 by_cases h0:s.size = 0
 ·have he:=str_nil h0
  have:s.data.toList = []:=by rw [← ByteArray.toList_eq]; exact he
  have HE:=Lib.hid this
  clear this
  go_enter Tryz.func170,Tryz.ntmps170
  go_wp2_with fail
  go_ret
  exact ⟨val_bool (by rw [HE.out]; rfl),rfl⟩
 ·have hp:0 < s.size:=by omega
  by_cases h1:(s[0].toNat:Int) = 48 ∧ 1 < s.size
  ·obtain ⟨h1,h2⟩:=h1
   have he:=str_ne hp
   have HZ:=Lib.hid (num_zero hp h1 h2)
   go_enter Tryz.func170,Tryz.ntmps170
   go_wp2_with fail
   go_ret
   exact ⟨val_bool HZ.out.symm,rfl⟩
  ·exact numeral_loop s w hs hp (by omega)
theorem all_at {s:ByteArray} {k:Nat} (h:k < s.size) (ha:s.data.toList.all isDig = true):isDig s[k] = true:=by
 rw [List.all_eq_true] at ha
 exact ha _ (by rw [← Array.mem_def]; exact Array.getElem_mem _)
set_option maxHeartbeats 400000 in
theorem get_any (s:ByteArray) (w:World) (hs:s.size ≤ maxLen) :
 Calls Tryz.prog 162 #[.string s] w fun e w' => e = .returned (.tuple #[.int .i64 (getN s.data.toList),.int .i64 (getE s.data.toList)]) ∧ w = w':=by
 have hs':s.size ≤ 9223372036854775807:=hs
 by_cases hn:isNum s.data.toList = true
 ·have ha:=isNum_all hn
  have HAll:=Lib.hid ha
  have HNum:=Lib.hid hn
  go_enter Tryz.func162,Tryz.ntmps162
  go_wp2_with (go_at_call 170; refine (numeral_any _ _ hs).mono ?_; rintro e w' ⟨rfl,rfl⟩)
  clear hn ha
  go_loop [4,11] (fun n i => ∃ k:Nat,k ≤ s.size ∧ i = .int .i64 k ∧ n = .int .i64 (says (s.data.toList.take k)) ∧ says (s.data.toList.take k) ≤ 1000000) (fun _ i => s.size - (intOf i).toNat)
  case atStart => exact ⟨0,Nat.zero_le _,rfl,rfl,by show (0:Int) ≤ 1000000; omega⟩
  case round =>
   obtain ⟨k,hk,rfl,rfl,hbig⟩:=hrel
   have hlo:=says_nonneg _ (all_take k HAll.out)
   by_cases hlt:k < s.size
   ·obtain ⟨b1,b2⟩:=dig_bd (all_at hlt HAll.out)
    have hsn:says (s.data.toList.take (k + 1)) = 10 * says (s.data.toList.take k) + ((s[k].toNat:Int) - 48):=by rw [take_snoc s k hlt,says_snoc]
    have HS:=Lib.hid hsn
    have hle:=says_take_le s.data.toList (k + 1) HAll.out
    rw [hsn] at hle
    have HL:=Lib.hid hle
    clear hsn hle
    by_cases hb:1000000 < 10 * says (s.data.toList.take k) + ((s[k].toNat:Int) - 48)
    ·go_wp2_with fail
     go_ret2
     exact ⟨val_pair (by unfold getN; rw [if_pos HNum.out,if_pos (by have:=HL.out; omega)]) (by unfold getE; rw [if_pos HNum.out,if_pos (by have:=HL.out; omega)]),rfl⟩
    ·go_wp2_with fail
     go_round
     case rel => exact ⟨k + 1,by omega,by go_num,by rw [HS.out],by rw [HS.out]; omega⟩
     case measure => simp [intOf]; omega
   ·have hks:k = s.size:=by omega
    have hsa:says (s.data.toList.take k) = says s.data.toList:=by rw [hks,take_all]
    have HE:=Lib.hid hsa
    clear hsa hks
    go_wp2_with fail
    go_ret2
    exact ⟨val_pair (by rw [HE.out]; unfold getN; rw [if_pos HNum.out,if_neg (by rw [← HE.out]; omega)]) (by unfold getE; rw [if_pos HNum.out,if_neg (by rw [← HE.out]; omega)]),rfl⟩
 ·have hf:isNum s.data.toList = false:=by simpa using hn
  clear hn
  have HF:=Lib.hid hf
  go_enter Tryz.func162,Tryz.ntmps162
  go_wp2_with (go_at_call 170; refine (numeral_any _ _ hs).mono ?_; rintro e w' ⟨rfl,rfl⟩)
  go_ret2
  exact ⟨val_pair (by unfold getN; rw [HF.out]; rfl) (by unfold getE; rw [HF.out]; rfl),rfl⟩
end Go.Proofs.YtcofikjpplkjdaaGreatDoor
namespace Go.Proofs.YtcofikjpplkjdaaGreatDoor
open Go.RowKit CurSpec ValSpec
def RetGet (W:World) (n er:Int) (e:Ending) (w':World):Prop:=e = .returned (.tuple #[.int .i64 n,.int .i64 er]) ∧ W = w'
theorem num_fail {c:Cur} {m er:Int} (h:numE c m = er) (hne:er ≠ 0):numC c m = fail c er ∧ numN c m = 0:=by
 subst h
 unfold numC numN
 rw [if_neg hne,if_neg hne]
 exact ⟨rfl,rfl⟩
theorem numE_kind {c:Cur} {m:Int} (h:(next c).k ≠ 2):numE c m = 2:=if_neg (fun h' => h h'.2)
theorem numE_get {c:Cur} {m:Int} (h0:c.bad = 0) (h:(next c).k = 2) (hE:getE (next c).t.data.toList ≠ 0):numE c m = getE (next c).t.data.toList:=by
 unfold numE
 rw [if_pos ⟨h0,h⟩,if_neg hE]
theorem numE_most {c:Cur} {m:Int} (h0:c.bad = 0) (h:(next c).k = 2) (hE:getE (next c).t.data.toList = 0) (hm:m < getN (next c).t.data.toList):numE c m = 3:=by
 unfold numE
 rw [if_pos ⟨h0,h⟩,if_pos hE,if_pos hm]
theorem numE_good {c:Cur} {m:Int} (h0:c.bad = 0) (h:(next c).k = 2) (hE:getE (next c).t.data.toList = 0) (hm:¬ m < getN (next c).t.data.toList):numE c m = 0:=by
 unfold numE
 rw [if_pos ⟨h0,h⟩,if_pos hE,if_neg hm]
end Go.Proofs.YtcofikjpplkjdaaGreatDoor
namespace Go.Proofs.YtcofikjpplkjdaaGreatDoor
open Go.RowKit CurSpec NamesSpec ValSpec
set_option maxRecDepth 100000
def RetAtB (W:World) (B:Nat) (c:Cur) (b:Bool) (e:Ending) (w':World):Prop:=e = .returned (.bool b) ∧ CurAt w' B c ∧ W.grownBy w' (some B)
def RetAtS (W:World) (B:Nat) (c:Cur) (s:ByteArray) (e:Ending) (w':World):Prop:=e = .returned (.string s) ∧ CurAt w' B c ∧ W.grownBy w' (some B)
def RetAtN (W:World) (B:Nat) (c:Cur) (n:Int) (e:Ending) (w':World):Prop:=e = .returned (.int .i64 n) ∧ CurAt w' B c ∧ W.grownBy w' (some B)
set_option maxHeartbeats 1000000 in
theorem take_at (B:Nat) (c:Cur) (k:Int) (s:ByteArray) (w:World) (h:CurAt w B c):Calls Tryz.prog 62 #[.pointer (some ⟨B,0,none⟩),.int .i64 k,.string s] w (RetAtB w B (take c k s) (isB c k s)):=by
 have HI:=Lib.hid (is_at B c k s w h)
 have HC:=Lib.hid h
 clear h
 by_cases hb:isB c k s = true
 ·have HT:Hid (take c k s = on c):=Lib.hid (by unfold take; rw [if_pos hb])
  rw [hb] at HI ⊢
  clear hb
  go_enter Tryz.func62,Tryz.ntmps62
  go_wp2_with (go_at_call 104; (with_reducible refine HI.out.mono ?_))
  rintro e x2 ⟨rfl,hb2⟩
  have HB:=Lib.hid hb2
  clear hb2
  go_wp2_with (go_at_call 95; (with_reducible refine (pass_at _ _ _ (HC.out.keep HB.out)).mono ?_))
  rintro e x3 ⟨rfl,hC3,hb3⟩
  have HE:=Lib.hid (And.intro hC3 (but_trans (but_below HB.out) hb3))
  clear hC3 hb3
  go_wp2_with fail
  go_ret
  exact ⟨rfl,by rw [HT.out]; exact HE.out.1,HE.out.2⟩
 ·have HT:Hid (take c k s = c):=Lib.hid (by unfold take; rw [if_neg hb])
  have hb':isB c k s = false:=by simpa using hb
  rw [hb'] at HI ⊢
  clear hb hb'
  go_enter Tryz.func62,Tryz.ntmps62
  go_wp2_with (go_at_call 104; (with_reducible refine HI.out.mono ?_))
  rintro e x2 ⟨rfl,hb2⟩
  have HB:=Lib.hid hb2
  clear hb2
  go_wp2_with fail
  go_ret
  exact ⟨rfl,by rw [HT.out]; exact HC.out.keep HB.out,but_below HB.out⟩
set_option maxHeartbeats 1000000 in
theorem want_at (B:Nat) (c:Cur) (k:Int) (s:ByteArray) (w:World) (h:CurAt w B c):Calls Tryz.prog 26 #[.pointer (some ⟨B,0,none⟩),.int .i64 k,.string s] w (RetAt w B (want c k s)):=by
 have HI:=Lib.hid (take_at B c k s w h)
 clear h
 by_cases hb:isB c k s = true
 ·have HT:Hid (want c k s = take c k s):=Lib.hid (by unfold want take; rw [if_pos hb,if_pos hb])
  rw [hb] at HI
  clear hb
  go_enter Tryz.func26,Tryz.ntmps26
  go_wp2_with (go_at_call 62; (with_reducible refine HI.out.mono ?_))
  rintro e x2 ⟨rfl,hC2,hb2⟩
  have HE:=Lib.hid (And.intro hC2 hb2)
  clear hC2 hb2
  go_wp2_with fail
  go_end0
  exact ⟨rfl,by rw [HT.out]; exact HE.out.1,HE.out.2⟩
 ·have HT:Hid (want c k s = fail (take c k s) 2):=Lib.hid (by unfold want take; rw [if_neg hb,if_neg hb])
  have hb':isB c k s = false:=by simpa using hb
  rw [hb'] at HI
  clear hb hb'
  go_enter Tryz.func26,Tryz.ntmps26
  go_wp2_with (go_at_call 62; (with_reducible refine HI.out.mono ?_))
  rintro e x2 ⟨rfl,hC2,hb2⟩
  have HE:=Lib.hid (And.intro hC2 hb2)
  clear hC2 hb2
  go_wp2_with (go_at_call 63; (with_reducible refine (fail_at _ _ _ _ HE.out.1).mono ?_))
  rintro e x3 ⟨rfl,hC3,hb3⟩
  have HE3:=Lib.hid (And.intro hC3 (but_trans HE.out.2 hb3))
  clear hC3 hb3
  go_wp2_with fail
  go_end0
  exact ⟨rfl,by rw [HT.out]; exact HE3.out.1,HE3.out.2⟩
theorem bad_of_kind {c:Cur} {k:Int} (h:(next c).k = k) (hk:k ≠ 0):c.bad = 0:=by
 rcases Decidable.em (c.bad = 0) with h0 | h0
 ·exact h0
 ·rw [next_dead h0] at h
  exact absurd h.symm hk
theorem nis_say {s:ByteArray} {b:Bool} (hb:isName s.data.toList = b) (hs:s.size ≤ 9223372036854775807) (w:World):Calls Tryz.prog 50 #[.string s] w (RetBool w b):=by
 subst hb
 exact is_any s w hs
set_option maxHeartbeats 1000000 in
theorem name_at (B:Nat) (c:Cur) (ok:Ok c) (w:World) (h:CurAt w B c):Calls Tryz.prog 57 #[.pointer (some ⟨B,0,none⟩)] w (RetAtS w B (nameC c) (nameS c)):=by
 have HN:=Lib.hid (next_at B c w h)
 have HC:=Lib.hid h
 clear h
 obtain ⟨t,ht⟩:∃ t,t = next c:=⟨_,rfl⟩
 have HI:=Lib.hid (fun b hb W => nis_say (s:=(next c).t) (b:=b) hb ok.next W)
 rw [← ht] at HN HI
 by_cases h1:t.k = 1
 ·have e1:(t.k != 1) = false:=by simpa using h1
  by_cases h2:isName t.t.data.toList = true
  ·have hB:nameB c = true:=nameB_yes (bad_of_kind (k:=1) (by rw [← ht]; exact h1) (by decide)) (by rw [← ht]; exact h1) (by rw [← ht]; exact h2)
   have HS:Hid (nameC c = on c ∧ nameS c = t.t):=Lib.hid (by unfold nameC nameS; rw [if_pos hB,if_pos hB,ht]; exact ⟨rfl,rfl⟩)
   have HI2:=Lib.hid (HI.out true h2)
   clear HI hB ht h1 h2
   go_enter Tryz.func57,Tryz.ntmps57
   go_wp2_with (go_at_call 94; (with_reducible refine HN.out.mono ?_))
   rintro e x2 ⟨rfl,hb2⟩
   have HB:=Lib.hid hb2
   clear hb2
   go_wp2_with (go_at_call 50; (with_reducible refine (HI2.out _).mono ?_))
   rintro e x3 ⟨rfl,hb3⟩
   obtain ⟨k3,hB3,hz3⟩:=one_block hb3
   have HB3:=Lib.hid (below_two' HB.out hB3)
   have HK3:=Lib.hid k3
   obtain ⟨t0,t1,t2,t3⟩:=cells_4 k3
   clear hb3 hB3 k3
   go_wp2_with (go_at_call 95; (with_reducible refine (pass_at _ _ _ (HC.out.keep HB3.out)).mono ?_))
   rintro e x4 ⟨rfl,hC4,hb4⟩
   have k4:=(hb4.block _ (Array.getElem?_eq_some_iff.1 HK3.out).1 (by have:=HC.out.lt; have:=HB.out.size; simp; omega)).trans HK3.out
   clear t0 t1 t2 t3
   obtain ⟨t0,t1,t2,t3⟩:=cells_4 k4
   have HE:=Lib.hid (And.intro hC4 (but_trans (but_below HB3.out) hb4))
   clear hC4 hb4 k4
   go_wp2_with fail
   go_ret
   exact ⟨by rw [HS.out.2]; rfl,by rw [HS.out.1]; exact HE.out.1,HE.out.2⟩
  ·have h2':isName t.t.data.toList = false:=by simpa using h2
   have hB:nameB c = false:=nameB_no2 (by rw [← ht]; exact h2')
   have HS:Hid (nameC c = fail c 2 ∧ nameS c = ⟨#[]⟩):=Lib.hid (by unfold nameC nameS; rw [hB]; exact ⟨rfl,rfl⟩)
   have HI2:=Lib.hid (HI.out false h2')
   clear HI hB ht h1 h2 h2'
   go_enter Tryz.func57,Tryz.ntmps57
   go_wp2_with (go_at_call 94; (with_reducible refine HN.out.mono ?_))
   rintro e x2 ⟨rfl,hb2⟩
   have HB:=Lib.hid hb2
   clear hb2
   go_wp2_with (go_at_call 50; (with_reducible refine (HI2.out _).mono ?_))
   rintro e x3 ⟨rfl,hb3⟩
   obtain ⟨k3,hB3,hz3⟩:=one_block hb3
   have HB3:=Lib.hid (below_two' HB.out hB3)
   clear hb3 hB3 k3
   go_wp2_with (go_at_call 63; (with_reducible refine (fail_at _ _ _ _ (HC.out.keep HB3.out)).mono ?_))
   rintro e x4 ⟨rfl,hC4,hb4⟩
   have HE:=Lib.hid (And.intro hC4 (but_trans (but_below HB3.out) hb4))
   clear hC4 hb4
   go_wp2_with fail
   go_ret
   exact ⟨by rw [HS.out.2]; rfl,by rw [HS.out.1]; exact HE.out.1,HE.out.2⟩
 ·have e1:(t.k != 1) = true:=by simpa using h1
  have hB:nameB c = false:=nameB_no1 (by rw [← ht]; exact h1)
  have HS:Hid (nameC c = fail c 2 ∧ nameS c = ⟨#[]⟩):=Lib.hid (by unfold nameC nameS; rw [hB]; exact ⟨rfl,rfl⟩)
  clear HI hB ht h1
  go_enter Tryz.func57,Tryz.ntmps57
  go_wp2_with (go_at_call 94; (with_reducible refine HN.out.mono ?_))
  rintro e x2 ⟨rfl,hb2⟩
  have HB:=Lib.hid hb2
  clear hb2
  go_wp2_with (go_at_call 63; (with_reducible refine (fail_at _ _ _ _ ((HC.out.keep HB.out).alloc _)).mono ?_))
  rintro e x4 ⟨rfl,hC4,hb4⟩
  have HE:=Lib.hid (And.intro hC4 (but_trans (but_below (HB.out.alloc HB.out.size _)) hb4))
  clear hC4 hb4
  go_wp2_with fail
  go_ret
  exact ⟨by rw [HS.out.2]; rfl,by rw [HS.out.1]; exact HE.out.1,HE.out.2⟩
def numR (k:Int) (l:List UInt8) (m:Int):Int × Int:=if k = 2 then (if getE l = 0 ∧ m < getN l then (0,3) else (getN l,getE l)) else (0,2)
def RetPair (W:World) (r:Int × Int) (e:Ending) (w':World):Prop:=e = .returned (.tuple #[.int .i64 r.1,.int .i64 r.2]) ∧ Below W.heap.size W w'
theorem get_say {s:ByteArray} {n er:Int} (hn:getN s.data.toList = n) (he:getE s.data.toList = er) (hs:s.size ≤ 9223372036854775807) (w:World):Calls Tryz.prog 162 #[.string s] w (RetGet w n er):=by
 subst hn he
 exact get_any s w hs
set_option maxHeartbeats 1000000 in
theorem pnum_any (k:Int) (s:ByteArray) (l c m:Int) (w:World) (hs:s.size ≤ 9223372036854775807):Calls Tryz.prog 154 #[.agg #[.int .i64 k,.string s,.int .i64 l,.int .i64 c],.int .i64 m] w (RetPair w (numR k s.data.toList m)):=by
 by_cases hk:k = 2
 ·have e1:(k != 2) = false:=by simpa using hk
  obtain ⟨N,hN⟩:∃ N,N = getN s.data.toList:=⟨_,rfl⟩
  obtain ⟨E,hE⟩:∃ E,E = getE s.data.toList:=⟨_,rfl⟩
  have HG:=Lib.hid (fun W => get_say hN.symm hE.symm hs W)
  by_cases h2:E = 0
  ·by_cases h3:m < N
   ·have HV:Hid (numR k s.data.toList m = (0,3)):=Lib.hid (by unfold numR; rw [if_pos hk,← hN,← hE,if_pos ⟨h2,h3⟩])
    have e2:(E == 0) = true:=by simpa using h2
    clear hN hE hk h2
    go_enter Tryz.func154,Tryz.ntmps154
    go_wp2_with (go_at_call 162; (with_reducible refine (HG.out _).mono ?_))
    rintro e w' ⟨rfl,rfl⟩
    go_wp2_with fail
    go_ret2
    exact ⟨by rw [HV.out]; rfl,(Below.refl _ _).alloc (Nat.le_refl _) _⟩
   ·have HV:Hid (numR k s.data.toList m = (N,E)):=Lib.hid (by unfold numR; rw [if_pos hk,← hN,← hE,if_neg (fun h => h3 h.2)])
    have e2:(E == 0) = true:=by simpa using h2
    have e3:decide (m < N) = false:=by simpa using h3
    clear hN hE hk h2 h3
    go_enter Tryz.func154,Tryz.ntmps154
    go_wp2_with (go_at_call 162; (with_reducible refine (HG.out _).mono ?_))
    rintro e w' ⟨rfl,rfl⟩
    go_wp2_with fail
    go_ret2
    exact ⟨by rw [HV.out]; rfl,(Below.refl _ _).alloc (Nat.le_refl _) _⟩
  ·have HV:Hid (numR k s.data.toList m = (N,E)):=Lib.hid (by unfold numR; rw [if_pos hk,← hN,← hE,if_neg (fun h => h2 h.1)])
   have e2:(E == 0) = false:=by simpa using h2
   clear hN hE hk h2
   go_enter Tryz.func154,Tryz.ntmps154
   go_wp2_with (go_at_call 162; (with_reducible refine (HG.out _).mono ?_))
   rintro e w' ⟨rfl,rfl⟩
   go_wp2_with fail
   go_ret2
   exact ⟨by rw [HV.out]; rfl,(Below.refl _ _).alloc (Nat.le_refl _) _⟩
 ·have e1:(k != 2) = true:=by simpa using hk
  have HV:Hid (numR k s.data.toList m = (0,2)):=Lib.hid (by unfold numR; rw [if_neg hk])
  clear hk
  go_enter Tryz.func154,Tryz.ntmps154
  go_wp2_with fail
  go_ret2
  exact ⟨by rw [HV.out]; rfl,(Below.refl _ _).alloc (Nat.le_refl _) _⟩
theorem numR_is (c:Cur) (m:Int):(numR (next c).k (next c).t.data.toList m).2 = numE c m ∧ (numE c m = 0 → (numR (next c).k (next c).t.data.toList m).1 = numN c m):=by
 by_cases hk:(next c).k = 2
 ·have h0:=bad_of_kind hk (by decide)
  by_cases hE:getE (next c).t.data.toList = 0
  ·by_cases hm:m < getN (next c).t.data.toList
   ·have e1:numR (next c).k (next c).t.data.toList m = (0,3):=by unfold numR; rw [if_pos hk,if_pos ⟨hE,hm⟩]
    rw [e1,numE_most h0 hk hE hm]
    exact ⟨rfl,fun h => absurd h (by decide)⟩
   ·have e1:numR (next c).k (next c).t.data.toList m = (getN (next c).t.data.toList,getE (next c).t.data.toList):=by unfold numR; rw [if_pos hk,if_neg (fun h => hm h.2)]
    have e2:=numE_good h0 hk hE hm
    rw [e1,e2]
    exact ⟨hE,fun _ => by unfold numN; rw [if_pos e2]⟩
  ·have e1:numR (next c).k (next c).t.data.toList m = (getN (next c).t.data.toList,getE (next c).t.data.toList):=by unfold numR; rw [if_pos hk,if_neg (fun h => hE h.1)]
   rw [e1,numE_get h0 hk hE]
   exact ⟨rfl,fun h => absurd h hE⟩
 ·have e1:numR (next c).k (next c).t.data.toList m = (0,2):=if_neg hk
  rw [e1,numE_kind hk]
  exact ⟨rfl,fun h => absurd h (by decide)⟩
set_option maxHeartbeats 1000000 in
theorem number_at (B:Nat) (c:Cur) (m:Int) (ok:Ok c) (w:World) (h:CurAt w B c):Calls Tryz.prog 146 #[.pointer (some ⟨B,0,none⟩),.int .i64 m] w (RetAtN w B (numC c m) (numN c m)):=by
 have HN:=Lib.hid (next_at B c w h)
 have HC:=Lib.hid h
 clear h
 obtain ⟨v1,v2⟩:=numR_is c m
 have HP:=Lib.hid (fun W => pnum_any (next c).k (next c).t (next c).l (next c).c m W ok.next)
 obtain ⟨t,ht⟩:∃ t,t = next c:=⟨_,rfl⟩
 rw [← ht] at HN HP v1 v2
 obtain ⟨N,E,hr⟩:∃ N E,numR t.k t.t.data.toList m = (N,E):=⟨_,_,rfl⟩
 rw [hr] at HP v1 v2
 simp only at v1 v2
 clear hr ht
 by_cases hE:E = 0
 ·have e1:(E != 0) = false:=by simpa using hE
  have HS:Hid (numC c m = on c ∧ N = numN c m):=Lib.hid ⟨by unfold numC; rw [if_pos (by rw [← v1]; exact hE)],v2 (by rw [← v1]; exact hE)⟩
  clear v1 v2 hE
  go_enter Tryz.func146,Tryz.ntmps146
  go_wp2_with (go_at_call 94; (with_reducible refine HN.out.mono ?_))
  rintro e x2 ⟨rfl,hb2⟩
  have HB:=Lib.hid hb2
  clear hb2
  go_wp2_with (go_at_call 154; (with_reducible refine (HP.out _).mono ?_))
  rintro e x3 ⟨rfl,hb3⟩
  have HB3:=Lib.hid (below_two' HB.out hb3)
  clear hb3
  go_wp2_with (go_at_call 95; (with_reducible refine (pass_at _ _ _ (HC.out.keep HB3.out)).mono ?_))
  rintro e x4 ⟨rfl,hC4,hb4⟩
  have HE:=Lib.hid (And.intro hC4 (but_trans (but_below HB3.out) hb4))
  clear hC4 hb4
  go_wp2_with fail
  go_ret
  exact ⟨ret_int HS.out.2,by rw [HS.out.1]; exact HE.out.1,HE.out.2⟩
 ·have e1:(E != 0) = true:=by simpa using hE
  have HS:Hid (numC c m = fail c E ∧ (0:Int) = numN c m):=Lib.hid (by
   obtain ⟨q1,q2⟩:=num_fail (m:=m) v1.symm hE
   exact ⟨q1,q2.symm⟩)
  clear v1 v2 hE
  go_enter Tryz.func146,Tryz.ntmps146
  go_wp2_with (go_at_call 94; (with_reducible refine HN.out.mono ?_))
  rintro e x2 ⟨rfl,hb2⟩
  have HB:=Lib.hid hb2
  clear hb2
  go_wp2_with (go_at_call 154; (with_reducible refine (HP.out _).mono ?_))
  rintro e x3 ⟨rfl,hb3⟩
  have HB3:=Lib.hid (below_two' HB.out hb3)
  clear hb3
  go_wp2_with (go_at_call 63; (with_reducible refine (fail_at _ _ _ _ (HC.out.keep HB3.out)).mono ?_))
  rintro e x4 ⟨rfl,hC4,hb4⟩
  have HE:=Lib.hid (And.intro hC4 (but_trans (but_below HB3.out) hb4))
  clear hC4 hb4
  go_wp2_with fail
  go_ret
  exact ⟨ret_int HS.out.2,by rw [HS.out.1]; exact HE.out.1,HE.out.2⟩
end Go.Proofs.YtcofikjpplkjdaaGreatDoor
namespace Go.Proofs.YtcofikjpplkjdaaGreatDoor
open Go.RowKit TermSpec
set_option maxRecDepth 100000
set_option maxHeartbeats 1600000 in
theorem arity_any (o:Int) (w:World):Calls Tryz.prog 168 #[.int .i64 o] w (SameI w (ar o)):=by
 go_enter Tryz.func168,Tryz.ntmps168
 go_wp2_with fail
 all_goals
  go_ret
  exact ⟨ret_int (by simp_all [ar]),rfl⟩
theorem rarity_out (o:Int) (h:o < 1 ∨ 20 < o) (w:World):Calls Tryz.prog 145 #[.int .i64 o] w (RetI w (ar o)):=by
 have HE:=Lib.hid (ar_out h)
 by_cases h1:o < 1
 ·clear h
  go_enter Tryz.func145,Tryz.ntmps145
  go_wp2_with fail
  go_ret
  exact ⟨ret_int HE.out.symm,Below.refl _ _⟩
 ·have h2:20 < o:=by omega
  clear h
  go_enter Tryz.func145,Tryz.ntmps145
  go_wp2_with fail
  go_ret
  exact ⟨ret_int HE.out.symm,Below.refl _ _⟩
theorem arl_at (n:Nat) (h1:1 ≤ n) (h:n < 21):([Value.int .i64 0,Value.int .i64 0,Value.int .i64 0,Value.int .i64 1,Value.int .i64 2,Value.int .i64 2,Value.int .i64 2,Value.int .i64 2,Value.int .i64 2,Value.int .i64 0,Value.int .i64 0,Value.int .i64 0,Value.int .i64 1,Value.int .i64 2,Value.int .i64 2,Value.int .i64 2,Value.int .i64 2,Value.int .i64 2,Value.int .i64 2,Value.int .i64 2,Value.int .i64 2])[n] = .int .i64 (ar n):=by
 have:n = 1 ∨ n = 2 ∨ n = 3 ∨ n = 4 ∨ n = 5 ∨ n = 6 ∨ n = 7 ∨ n = 8 ∨ n = 9 ∨ n = 10 ∨ n = 11 ∨ n = 12 ∨ n = 13 ∨ n = 14 ∨ n = 15 ∨ n = 16 ∨ n = 17 ∨ n = 18 ∨ n = 19 ∨ n = 20:=by omega
 rcases this with rfl | rfl | rfl | rfl | rfl | rfl | rfl | rfl | rfl | rfl | rfl | rfl | rfl | rfl | rfl | rfl | rfl | rfl | rfl | rfl <;> rfl
set_option maxHeartbeats 800000 in
theorem rarity_in (n:Nat) (h1:1 ≤ n) (h:n ≤ 20) (w:World):Calls Tryz.prog 145 #[.int .i64 n] w (RetI w (ar n)):=by
 have h21:n < 21:=by omega
 have h21':(n:Int) < 21:=by omega
 have h20:¬ 20 < (n:Int):=by omega
 have HE:=Lib.hid (arl_at n h1 h21)
 go_enter Tryz.func145,Tryz.ntmps145
 go_wp2_with fail
 go_ret
 exact ⟨congrArg Ending.returned HE.out,(Below.refl _ _).alloc (Nat.le_refl _) _⟩
theorem rarity_any (o:Int) (w:World):Calls Tryz.prog 145 #[.int .i64 o] w (RetI w (ar o)):=by
 by_cases h:o < 1 ∨ 20 < o
 ·exact rarity_out o h w
 ·obtain ⟨n,rfl⟩:=Int.eq_ofNat_of_zero_le (show 0 ≤ o by omega)
  exact rarity_in n (by omega) (by omega) w
end Go.Proofs.YtcofikjpplkjdaaGreatDoor
namespace Go.Proofs.YtcofikjpplkjdaaGreatDoor
open Go.RowKit TermSpec NamesSpec
set_option maxRecDepth 100000
theorem cells_3 {w:World} {b:Nat} {T:TypeId} {x0 x1 x2:Value} (h:w.heap[b]? = some (.cells #[x0,x1,x2] T (0,0))):w.cell? ⟨b,0,none⟩ = some x0 ∧ w.cell? ⟨b,1,none⟩ = some x1 ∧ w.cell? ⟨b,2,none⟩ = some x2 :=
 ⟨cell_of_block' h (i:=0) rfl,cell_of_block' h (i:=1) rfl,cell_of_block' h (i:=2) rfl⟩
theorem free_3 {w:World} {b:Nat} {T:TypeId} {cs:Array Value} (h:w.heap[b]? = some (.cells cs T (0,0))):w.frozen? ⟨b,0,none⟩ = false ∧ w.frozen? ⟨b,1,none⟩ = false ∧ w.frozen? ⟨b,2,none⟩ = false :=
 ⟨free_of_block' h 0,free_of_block' h 1,free_of_block' h 2⟩
theorem eq_term (a b c d:Int) (s u:ByteArray) (w:World):(Op.equalIn 10000 44 (.agg #[.int .i64 a,.int .i64 b,.string s]) (.agg #[.int .i64 c,.int .i64 d,.string u])).run Tryz.prog w = .ok (a == c && (b == d && s.toList == u.toList)) w:=by
 have u3:=Tryz.underlying3
 have u9:=Tryz.underlying9
 have hS:Tryz.prog.underlying 44 = some (.struct (Tryz.prog.fieldsOf 44)):=by kernel_rfl
 rw [show (10000:Nat) = 9999 + 1 from rfl,run_equalIn_agg w 9999 44 _ _ hS (by kernel_rfl)]
 simp only [Program.fieldsOf,Tryz.underlying44]
 go_simp
 by_cases h1:a = c <;> by_cases h2:b = d <;> by_cases h3:s.toList = u.toList <;> simp [h1,h2,h3]
theorem build_term (a:Int) (w:World):(Instr.build 44 #[(0,.int .i64 a)]).run Tryz.prog w = .ok (.agg #[.int .i64 a,.int .i64 0,.string ⟨#[]⟩]) w:=run_build w 44 _ _ (by kernel_rfl)
theorem may_one {o n:Int} {s:ByteArray} (h1:o = 1):mayB ⟨o,n,s⟩ = (decide (0 ≤ n) && decide (n ≤ 1000000) && decide (s.size = 0)):=by
 unfold mayB
 rw [if_pos h1,if_neg (by show ¬ (o = 2 ∨ o = 11); omega)]
theorem may_name {o n:Int} {s:ByteArray} (h1:o = 2 ∨ o = 11):mayB ⟨o,n,s⟩ = (decide (n = 0) && isName s.data.toList):=by
 unfold mayB
 rw [if_neg (by show ¬ o = 1; omega),if_pos h1]
theorem may_else {o n:Int} {s:ByteArray} (h1:¬ o = 1) (h2:¬ (o = 2 ∨ o = 11)):mayB ⟨o,n,s⟩ = (decide (n = 0) && decide (s.size = 0)):=by
 unfold mayB
 rw [if_neg h1,if_neg h2]
theorem int0_dec (n:Int):(n == 0) = decide (n = 0):=by rw [Bool.eq_iff_iff]; simp
theorem size_dec (s:ByteArray):((s.size:Int) == 0) = decide (s.size = 0):=by rw [Bool.eq_iff_iff,decide_eq_true_iff,beq_iff_eq]; omega
theorem nil_iff (s:ByteArray):(s.toList == []) = decide (s.size = 0):=by
 rw [Bool.eq_iff_iff,decide_eq_true_iff,beq_iff_eq,toList_of]
 exact List.length_eq_zero_iff.symm
set_option maxHeartbeats 1600000 in
theorem may_any1 (o n:Int) (s:ByteArray) (w:World) (h1:o = 1):Calls Tryz.prog 151 #[.agg #[.int .i64 o,.int .i64 n,.string s]] w (RetB w (mayB ⟨o,n,s⟩)):=by
 have HE:=Lib.hid (may_one (n:=n) (s:=s) h1)
 have heq:=eq_term
 have hbd:=build_term
 subst h1
 by_cases hn:n < 0
 ·go_enter Tryz.func151,Tryz.ntmps151
  go_wp2_with fail
  go_ret
  exact ⟨ret_bool (by rw [HE.out,decide_eq_false (show ¬ 0 ≤ n by omega)]; rfl),(Below.refl _ _).alloc (Nat.le_refl _) _⟩
 by_cases hn2:1000000 < n
 ·go_enter Tryz.func151,Tryz.ntmps151
  go_wp2_with fail
  go_ret
  exact ⟨ret_bool (by rw [HE.out,decide_eq_false (show ¬ n ≤ 1000000 by omega)]; simp),(Below.refl _ _).alloc (Nat.le_refl _) _⟩
 ·have HS:=Lib.hid (nil_iff s)
  go_enter Tryz.func151,Tryz.ntmps151
  go_wp2_with fail
  go_ret
  exact ⟨ret_bool (by rw [HE.out,decide_eq_true (show 0 ≤ n by omega),decide_eq_true (show n ≤ 1000000 by omega),← HS.out]; simp),((Below.refl _ _).alloc (Nat.le_refl _) _)⟩
set_option maxHeartbeats 1600000 in
theorem may_any0 (o n:Int) (s:ByteArray) (w:World) (h1:¬ o = 1) (h2:¬ (o = 2 ∨ o = 11)):Calls Tryz.prog 151 #[.agg #[.int .i64 o,.int .i64 n,.string s]] w (RetB w (mayB ⟨o,n,s⟩)):=by
 have HE:=Lib.hid (may_else (n:=n) (s:=s) h1 h2)
 have heq:=eq_term
 have hbd:=build_term
 have g1:(o == 1) = false:=by simp [h1]
 have g2:(o == 2) = false:=by simp; omega
 have g3:(o == 11) = false:=by simp; omega
 have HS:=Lib.hid (nil_iff s)
 clear h1 h2
 go_enter Tryz.func151,Tryz.ntmps151
 go_wp2_with fail
 go_ret
 exact ⟨ret_bool (by rw [HE.out,← HS.out,← int0_dec]; simp),((Below.refl _ _).alloc (Nat.le_refl _) _)⟩
set_option maxHeartbeats 1600000 in
theorem may_any2 (o n:Int) (s:ByteArray) (w:World) (hs:s.size ≤ 9223372036854775807) (h2:o = 2 ∨ o = 11):Calls Tryz.prog 151 #[.agg #[.int .i64 o,.int .i64 n,.string s]] w (RetB w (mayB ⟨o,n,s⟩)):=by
 have HE:=Lib.hid (may_name (n:=n) (s:=s) h2)
 have heq:=eq_term
 have hbd:=build_term
 have HC:Hid (∀ w,Calls Tryz.prog 50 #[.string s] w (RetB w (isName s.data.toList))):=Lib.hid (fun w => is_any s w hs)
 obtain ⟨q,hq⟩:∃ q,q = isName s.data.toList:=⟨_,rfl⟩
 rw [← hq] at HC HE
 clear hq
 have g1:(o == 1) = false:=by simp; omega
 cases q with
 | false =>
   rcases h2 with rfl | rfl
   all_goals
    go_enter Tryz.func151,Tryz.ntmps151
    go_wp2_with (go_at_call 50; (with_reducible refine (HC.out _).mono ?_))
    rintro e w1 ⟨rfl,hb1⟩
    go_wp2_with fail
    go_ret
    exact ⟨ret_bool (by rw [HE.out]; simp),below_two' ((Below.refl _ _).alloc (Nat.le_refl _) _) (hb1.mono (by simp))⟩
 | true =>
   rcases h2 with rfl | rfl
   all_goals
    go_enter Tryz.func151,Tryz.ntmps151
    go_wp2_with (go_at_call 50; (with_reducible refine (HC.out _).mono ?_))
    rintro e w1 ⟨rfl,hb1⟩
    have hbl:=(hb1.block w.heap.size (by simp)).trans (heap_alloc_new w _)
    obtain ⟨c0,c1,c2⟩:=cells_3 hbl
    obtain ⟨f0,f1,f2⟩:=free_3 hbl
    have HB:Hid (Below w.heap.size w w1):=Lib.hid (((Below.refl _ _).alloc (Nat.le_refl _) _).trans (hb1.mono (by simp)))
    have HBL:=Lib.hid hbl
    clear hb1 hbl
    go_wp2_with fail
    go_ret
    exact ⟨ret_bool (by rw [HE.out,← int0_dec]; simp),HB.out.setCell (Nat.le_refl _) _⟩
theorem may_any (t:Tm) (w:World) (hs:t.s.size ≤ 9223372036854775807):Calls Tryz.prog 151 #[.agg #[.int .i64 t.op,.int .i64 t.n,.string t.s]] w (RetB w (mayB t)):=by
 by_cases h1:t.op = 1
 ·exact may_any1 t.op t.n t.s w h1
 ·by_cases h2:t.op = 2 ∨ t.op = 11
  ·exact may_any2 t.op t.n t.s w hs h2
  ·exact may_any0 t.op t.n t.s w h1 h2
set_option maxHeartbeats 1600000 in
theorem rmay_any1 (n:Int) (s:ByteArray) (w:World) (_hs:s.size ≤ 9223372036854775807):Calls Tryz.prog 83 #[.agg #[.int .i64 1,.int .i64 n,.string s]] w (RetB w (mayB ⟨1,n,s⟩)):=by
 have HE:=Lib.hid (may_one (n:=n) (s:=s) (o:=1) rfl)
 by_cases hn:n < 0
 ·go_enter Tryz.func83,Tryz.ntmps83
  go_wp2_with fail
  go_ret
  exact ⟨ret_bool (by rw [HE.out,decide_eq_false (show ¬ 0 ≤ n by omega)]; rfl),(Below.refl _ _).alloc (Nat.le_refl _) _⟩
 by_cases hn2:1000000 < n
 ·go_enter Tryz.func83,Tryz.ntmps83
  go_wp2_with fail
  go_ret
  exact ⟨ret_bool (by rw [HE.out,decide_eq_false (show ¬ n ≤ 1000000 by omega)]; simp),(Below.refl _ _).alloc (Nat.le_refl _) _⟩
 ·go_enter Tryz.func83,Tryz.ntmps83
  go_wp2_with fail
  go_ret
  exact ⟨ret_bool (by rw [HE.out,decide_eq_true (show 0 ≤ n by omega),decide_eq_true (show n ≤ 1000000 by omega),← size_dec]; rfl),((Below.refl _ _).alloc (Nat.le_refl _) _)⟩
set_option maxHeartbeats 1600000 in
theorem rmay_n (o n:Int) (s:ByteArray) (w:World) (h0:1 ≤ o) (h20:o ≤ 20) (h1:¬ o = 1) (hn:¬ n = 0):Calls Tryz.prog 83 #[.agg #[.int .i64 o,.int .i64 n,.string s]] w (RetB w (mayB ⟨o,n,s⟩)):=by
 have HE:Hid (mayB ⟨o,n,s⟩ = false):=Lib.hid (by unfold mayB; rw [if_neg h1,decide_eq_false hn]; rfl)
 have g1:(o != 1) = true:=by simp [h1]
 have g2:(n != 0) = true:=by simp [hn]
 go_enter Tryz.func83,Tryz.ntmps83
 go_wp2_with fail
 go_ret
 exact ⟨ret_bool HE.out.symm,(Below.refl _ _).alloc (Nat.le_refl _) _⟩
set_option maxHeartbeats 1600000 in
theorem rmay_0 (o:Int) (s:ByteArray) (w:World) (h0:1 ≤ o) (h20:o ≤ 20) (h1:¬ o = 1) (h2:¬ (o = 2 ∨ o = 11)) (_hs:s.size ≤ 9223372036854775807):Calls Tryz.prog 83 #[.agg #[.int .i64 o,.int .i64 0,.string s]] w (RetB w (mayB ⟨o,0,s⟩)):=by
 have HE:=Lib.hid (may_else (n:=0) (s:=s) h1 h2)
 have g1:(o != 1) = true:=by simp [h1]
 have g2:(o == 2) = false:=by simp; omega
 have g3:(o == 11) = false:=by simp; omega
 clear h2
 go_enter Tryz.func83,Tryz.ntmps83
 go_wp2_with fail
 go_ret
 exact ⟨ret_bool (by rw [HE.out,← size_dec]; rfl),(Below.refl _ _).alloc (Nat.le_refl _) _⟩
set_option maxHeartbeats 1600000 in
theorem rmay_2 (o:Int) (s:ByteArray) (w:World) (h2:o = 2 ∨ o = 11) (hs:s.size ≤ 9223372036854775807):Calls Tryz.prog 83 #[.agg #[.int .i64 o,.int .i64 0,.string s]] w (RetB w (mayB ⟨o,0,s⟩)):=by
 have HE:=Lib.hid (may_name (n:=0) (s:=s) h2)
 have HC:Hid (∀ w,Calls Tryz.prog 18 #[.string s] w (RetB w (isName s.data.toList))):=Lib.hid (fun w => ris_any s w hs)
 rcases h2 with rfl | rfl
 all_goals
  go_enter Tryz.func83,Tryz.ntmps83
  go_wp2_with (go_at_call 18; (with_reducible refine (HC.out _).mono ?_))
  rintro e w1 ⟨rfl,hb1⟩
  go_wp2_with fail
  go_ret
  exact ⟨ret_bool (by rw [HE.out]; simp),below_two' ((Below.refl _ _).alloc (Nat.le_refl _) _) (hb1.mono (by simp))⟩
theorem rmay_any (t:Tm) (w:World) (hs:t.s.size ≤ 9223372036854775807) (h0:0 ≤ ar t.op):Calls Tryz.prog 83 #[.agg #[.int .i64 t.op,.int .i64 t.n,.string t.s]] w (RetB w (mayB t)):=by
 obtain ⟨h1,h20⟩:=ar_in.1 h0
 obtain ⟨o,n,s⟩:=t
 by_cases e1:o = 1
 ·subst e1
  exact rmay_any1 n s w hs
 ·by_cases en:n = 0
  ·subst en
   by_cases h2:o = 2 ∨ o = 11
   ·exact rmay_2 o s w h2 hs
   ·exact rmay_0 o s w h1 h20 e1 h2 hs
  ·exact rmay_n o n s w h1 h20 e1 en
end Go.Proofs.YtcofikjpplkjdaaGreatDoor