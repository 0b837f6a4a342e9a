/- Posts, TermMem, ExprInsert, ExprInsert2, CurRefTake, NamesWords, NamesRefIs, CurRefName, ValCalls, ValGet, CurRefNum, CurCalls, TermArity, joined. -/
import Derived.Test.YtapnomdckglehaaGreatMAtlasTells00
import Derived.Test.YtapnomdckglehaaGreatRows
import Derived.Test.YtapnomdckglehaaGreatMAtlasTells02
import Derived.Lib.Overlaps
import Derived.Lib.AppendZerosOnto
import Derived.Laws.CopyRow
import Derived.Shelf.Spec.SlicesInsert
import Derived.Test.YtapnomdckglehaaGreatMAtlasTells01
import Derived.Lib.OthersKept
import Derived.Deep.RegionHeld3
import Derived.WalkKit
import Derived.WalkSpells
import Derived.Lib.Hide
namespace Go.Proofs.YtapnomdckglehaaGreat
open Go.RowKit
def RetI (W:World) (n:Int) (e:Ending) (w':World):Prop:=e = .returned (.int .i64 n) ∧ Below W.heap.size W w'
def RetB (W:World) (b:Bool) (e:Ending) (w':World):Prop:=e = .returned (.bool b) ∧ Below W.heap.size W w'
def SameI (W:World) (n:Int) (e:Ending) (w':World):Prop:=e = .returned (.int .i64 n) ∧ W = w'
def SameB (W:World) (b:Bool) (e:Ending) (w':World):Prop:=e = .returned (.bool b) ∧ W = w'
theorem lit_here {w:World} {cs:Array Value} {xs:List Value} {e:TypeId} {n k:Nat} (hk:k = w.heap.size) (hn:n = xs.length) (hx:cs.toList = xs):Rd (w.alloc (.cells cs e)) (.slice (some ⟨k,0,none⟩) n n) xs:=by
 subst hk; subst hx
 exact Rd.lit (by simpa using hn)
end Go.Proofs.YtapnomdckglehaaGreat
namespace Go.Proofs.YtapnomdckglehaaGreat
open Go.RowKit TermSpec
set_option maxRecDepth 100000
def tmV (t:Tm):List Value:=[.int .i64 t.op,.int .i64 t.n,.string t.s]
def tmsV (l:List Tm):List Value:=l.flatMap tmV
theorem tmV_length (t:Tm):(tmV t).length = 3:=rfl
theorem tmsV_length (l:List Tm):(tmsV l).length = l.length * 3:=flat_length tmV_length l
theorem tmV_one (t:Tm):∀ u ∈ tmV t,u.oneCell' = true:=by simp [tmV,Value.oneCell']
theorem tmsV_one (l:List Tm):∀ u ∈ tmsV l,u.oneCell' = true:=by
 intro u hu
 obtain ⟨t,_,h⟩:=List.mem_flatMap.1 hu
 exact tmV_one t u h
theorem tmsV_get {l:List Tm} {i:Nat} {t:Tm} (h:l[i]? = some t):(tmsV l)[i * 3]? = some (.int .i64 t.op) ∧ (tmsV l)[i * 3 + 1]? = some (.int .i64 t.n) ∧ (tmsV l)[i * 3 + 2]? = some (.string t.s) :=
 ⟨flat_get (j:=0) tmV_length h (by omega),flat_get (j:=1) tmV_length h (by omega),flat_get (j:=2) tmV_length h (by omega)⟩
def Tms (w:World) (v:Value) (l:List Tm):Prop:=∃ n,n = l.length ∧ Rdk 3 w v n (tmsV l)
theorem Tms.keep {w w':World} {v:Value} {l:List Tm} (h:Tms w v l) (hb:Below w.heap.size w w'):Tms w' v l:=by
 obtain ⟨n,hn,h⟩:=h
 exact ⟨n,hn,h.keep hb⟩
theorem Tms.alloc {w:World} {v:Value} {l:List Tm} (h:Tms w v l) (o:Obj):Tms (w.alloc o) v l:=h.keep ((Below.refl _ _).alloc (Nat.le_refl _) _)
theorem Tms.shape {w:World} {v:Value} {l:List Tm} (h:Tms w v l):∃ A n c,v = .slice A n c ∧ n = l.length ∧ n ≤ c:=by
 obtain ⟨n,hn,A,c,hv,hc,_⟩:=h
 exact ⟨A,n,c,hv,hn,hc⟩
theorem Tms.cap {w:World} {A:Option Addr} {n c:Nat} {l:List Tm} (h:Tms w (.slice A n c) l):n ≤ c:=by
 obtain ⟨A',n',c',heq,_,hc⟩:=h.shape
 cases heq
 exact hc
theorem Tms.at_ {w:World} {A:Option Addr} {n c:Nat} {l:List Tm} {i:Nat} {t:Tm} (h:Tms w (.slice A n c) l) (hi:l[i]? = some t) :
 ∃ b off,A = some ⟨b,off,none⟩ ∧ b < w.heap.size ∧ w.cell? ⟨b,off + i * 3,none⟩ = some (.int .i64 t.op) ∧ w.cell? ⟨b,off + i * 3 + 1,none⟩ = some (.int .i64 t.n) ∧ w.cell? ⟨b,off + i * 3 + 2,none⟩ = some (.string t.s):=by
 obtain ⟨m,hm,A',c',heq,hc,hl,hA⟩:=h
 cases heq
 have:=get_lt hi
 obtain ⟨b,off,rfl,hb,hcell⟩:=hA (by omega)
 obtain ⟨g0,g1,g2⟩:=tmsV_get hi
 exact ⟨b,off,rfl,hb,hcell _ _ g0,by rw [Nat.add_assoc]; exact hcell _ _ g1,by rw [Nat.add_assoc]; exact hcell _ _ g2⟩
theorem tms_drop {l:List Tm} {k:Nat}:tmsV (l.drop k) = (tmsV l).drop (k * 3):=by
 induction l generalizing k with
 | nil => simp [tmsV]
 | cons t r ih =>
   cases k with
   | zero => simp
   | succ k =>
     rw [List.drop_succ_cons,ih,show tmsV (t :: r) = tmV t ++ tmsV r from List.flatMap_cons ..,show (k + 1) * 3 = 3 + k * 3 by omega,← List.drop_drop]
     rfl
theorem tms_take {l:List Tm} {k:Nat}:tmsV (l.take k) = (tmsV l).take (k * 3):=by
 induction l generalizing k with
 | nil => simp [tmsV]
 | cons t r ih =>
   cases k with
   | zero => simp [tmsV]
   | succ k =>
     rw [List.take_succ_cons,show tmsV (t :: r.take k) = tmV t ++ tmsV (r.take k) from List.flatMap_cons ..,ih,show tmsV (t :: r) = tmV t ++ tmsV r from List.flatMap_cons ..,show (k + 1) * 3 = 3 + k * 3 by omega,List.take_append,tmV_length]
     rw [show (tmV t).take (3 + k * 3) = tmV t from List.take_of_length_le (by rw [tmV_length]; omega),Nat.add_sub_cancel_left]
theorem Tms.part {w:World} {b off n c c' i j:Nat} {l:List Tm} (h:Tms w (.slice (some ⟨b,off,none⟩) n c) l) (hij:i ≤ j) (hj:j ≤ n) (hc:j - i ≤ c'):Tms w (.slice (some ⟨b,off + i * 3,none⟩) (j - i) c') ((l.drop i).take (j - i)):=by
 obtain ⟨m,hm,A',c2,heq,hcm,hl,hA⟩:=h
 cases heq
 refine ⟨j - i,by rw [List.length_take,List.length_drop]; omega,_,c',rfl,hc,by rw [tmsV_length,List.length_take,List.length_drop]; rw [show min (j - i) (l.length - i) = j - i by omega],fun h0 => ?_⟩
 obtain ⟨b',off',heq,hb,hcell⟩:=hA (by omega)
 cases heq
 refine ⟨b,off + i * 3,rfl,hb,fun q u hq => ?_⟩
 rw [tms_take,tms_drop] at hq
 have hq1:q < (j - i) * 3:=by have:=(List.getElem?_eq_some_iff.1 hq).1; rw [List.length_take] at this; omega
 rw [List.getElem?_take_of_lt hq1,List.getElem?_drop] at hq
 rw [Nat.add_assoc]
 exact hcell _ _ hq
def Small (l:List Tm):Prop:=∀ t ∈ l,t.s.size ≤ 9223372036854775807
end Go.Proofs.YtapnomdckglehaaGreat
namespace Go.Proofs.YtapnomdckglehaaGreat
open Go.RowKit TermSpec
set_option maxRecDepth 100000
end Go.Proofs.YtapnomdckglehaaGreat
namespace Go.Proofs.YtapnomdckglehaaGreat
open Go.RowKit TermSpec
end Go.Proofs.YtapnomdckglehaaGreat
namespace Go.Proofs.YtapnomdckglehaaGreat
open Go.RowKit CurSpec
end Go.Proofs.YtapnomdckglehaaGreat
namespace Go.Proofs.YtapnomdckglehaaGreat
open Go.RowKit NamesSpec Go.Lib
set_option maxRecDepth 100000
theorem keywords_any (w:World):Calls Tryz.prog 76 #[] w (RetStrs w kwS):=by
 go_enter Tryz.func76,Tryz.ntmps76
 go_wp2
 go_ret
 exact ⟨_,rfl,Rd.lit (cs:=(strV kwS).toArray) rfl,(Below.refl _ _).alloc (Nat.le_refl _) _⟩
theorem toList_of (s:ByteArray):s.toList = s.data.toList:=ByteArray.toList_eq s
theorem kw_yes {s:ByteArray} {x:List UInt8} (h:(s.toList == x) = true) (hx:isKw x = true):isKw s.data.toList = true:=by
 rw [← toList_of,eq_of_beq h]; exact hx
theorem kw_no {s:ByteArray} (h:∀ x ∈ kw,(s.toList == x) = false):isKw s.data.toList = false:=by
 rw [← toList_of]
 unfold isKw
 rw [Bool.eq_false_iff]
 intro hc
 have hm:=List.contains_iff_mem.1 hc
 have:=h _ hm
 simp at this
set_option maxHeartbeats 800000 in
theorem keyword_any (s:ByteArray) (w:World):Calls Tryz.prog 147 #[.string s] w fun e w' => e = .returned (.bool (isKw s.data.toList)) ∧ w = w':=by
 rcases h0:(s.toList == [99,104,97,114,116]) with _ | _
 case true =>
  go_enter Tryz.func147,Tryz.ntmps147
  go_wp2
  go_ret
  exact ⟨ret_bool (kw_yes h0 (by decide)).symm,rfl⟩
 rcases h1:(s.toList == [101,118,101,110,116]) with _ | _
 case true =>
  go_enter Tryz.func147,Tryz.ntmps147
  go_wp2
  go_ret
  exact ⟨ret_bool (kw_yes h1 (by decide)).symm,rfl⟩
 rcases h2:(s.toList == [118,97,114]) with _ | _
 case true =>
  go_enter Tryz.func147,Tryz.ntmps147
  go_wp2
  go_ret
  exact ⟨ret_bool (kw_yes h2 (by decide)).symm,rfl⟩
 rcases h3:(s.toList == [108,101,97,102]) with _ | _
 case true =>
  go_enter Tryz.func147,Tryz.ntmps147
  go_wp2
  go_ret
  exact ⟨ret_bool (kw_yes h3 (by decide)).symm,rfl⟩
 rcases h4:(s.toList == [111,114]) with _ | _
 case true =>
  go_enter Tryz.func147,Tryz.ntmps147
  go_wp2
  go_ret
  exact ⟨ret_bool (kw_yes h4 (by decide)).symm,rfl⟩
 rcases h5:(s.toList == [97,110,100]) with _ | _
 case true =>
  go_enter Tryz.func147,Tryz.ntmps147
  go_wp2
  go_ret
  exact ⟨ret_bool (kw_yes h5 (by decide)).symm,rfl⟩
 rcases h6:(s.toList == [101,110,116,101,114]) with _ | _
 case true =>
  go_enter Tryz.func147,Tryz.ntmps147
  go_wp2
  go_ret
  exact ⟨ret_bool (kw_yes h6 (by decide)).symm,rfl⟩
 rcases h7:(s.toList == [101,120,105,116]) with _ | _
 case true =>
  go_enter Tryz.func147,Tryz.ntmps147
  go_wp2
  go_ret
  exact ⟨ret_bool (kw_yes h7 (by decide)).symm,rfl⟩
 rcases h8:(s.toList == [111,110]) with _ | _
 case true =>
  go_enter Tryz.func147,Tryz.ntmps147
  go_wp2
  go_ret
  exact ⟨ret_bool (kw_yes h8 (by decide)).symm,rfl⟩
 rcases h9:(s.toList == [97,117,116,111]) with _ | _
 case true =>
  go_enter Tryz.func147,Tryz.ntmps147
  go_wp2
  go_ret
  exact ⟨ret_bool (kw_yes h9 (by decide)).symm,rfl⟩
 rcases h10:(s.toList == [97,110,121]) with _ | _
 case true =>
  go_enter Tryz.func147,Tryz.ntmps147
  go_wp2
  go_ret
  exact ⟨ret_bool (kw_yes h10 (by decide)).symm,rfl⟩
 rcases h11:(s.toList == [105,110]) with _ | _
 case true =>
  go_enter Tryz.func147,Tryz.ntmps147
  go_wp2
  go_ret
  exact ⟨ret_bool (kw_yes h11 (by decide)).symm,rfl⟩
 rcases h12:(s.toList == [109,105,110]) with _ | _
 case true =>
  go_enter Tryz.func147,Tryz.ntmps147
  go_wp2
  go_ret
  exact ⟨ret_bool (kw_yes h12 (by decide)).symm,rfl⟩
 rcases h13:(s.toList == [109,97,120]) with _ | _
 case true =>
  go_enter Tryz.func147,Tryz.ntmps147
  go_wp2
  go_ret
  exact ⟨ret_bool (kw_yes h13 (by decide)).symm,rfl⟩
 rcases h14:(s.toList == [110,111,116]) with _ | _
 case true =>
  go_enter Tryz.func147,Tryz.ntmps147
  go_wp2
  go_ret
  exact ⟨ret_bool (kw_yes h14 (by decide)).symm,rfl⟩
 rcases h15:(s.toList == [116,114,117,101]) with _ | _
 case true =>
  go_enter Tryz.func147,Tryz.ntmps147
  go_wp2
  go_ret
  exact ⟨ret_bool (kw_yes h15 (by decide)).symm,rfl⟩
 rcases h16:(s.toList == [102,97,108,115,101]) with _ | _
 case true =>
  go_enter Tryz.func147,Tryz.ntmps147
  go_wp2
  go_ret
  exact ⟨ret_bool (kw_yes h16 (by decide)).symm,rfl⟩
 have HK:Hid (isKw s.data.toList = false):=Lib.hid (kw_no (by
  intro x hx
  simp only [kw,List.mem_cons,List.not_mem_nil,or_false] at hx
  rcases hx with rfl | rfl | rfl | rfl | rfl | rfl | rfl | rfl | rfl | rfl | rfl | rfl | rfl | rfl | rfl | rfl | rfl <;> assumption))
 go_enter Tryz.func147,Tryz.ntmps147
 go_wp2
 go_ret
 exact ⟨ret_bool HK.out.symm,rfl⟩
def begB (r:Int):Bool:=decide (97 ≤ r) && decide (r ≤ 122)
def goB (r:Int):Bool:=begB r || decide (48 ≤ r) && decide (r ≤ 57) || decide (r = 95)
theorem begins_any (r:Int) (w:World):Calls Tryz.prog 148 #[.int .i32 r] w fun e w' => e = .returned (.bool (begB r)) ∧ w = w':=by
 by_cases h1:97 ≤ r <;> by_cases h2:r ≤ 122
 all_goals
  go_enter Tryz.func148,Tryz.ntmps148
  go_wp2
  go_ret
  exact ⟨ret_bool (by unfold begB; simp [h1,h2]),rfl⟩
theorem begins_is {r:Int} {b:Bool} (h:begB r = b) (w:World):Calls Tryz.prog 148 #[.int .i32 r] w fun e w' => e = .returned (.bool b) ∧ w = w':=by
 subst h; exact begins_any r w
theorem goesOn_any (r:Int) (w:World):Calls Tryz.prog 149 #[.int .i32 r] w fun e w' => e = .returned (.bool (goB r)) ∧ w = w':=by
 rcases hb:begB r with _ | _
 all_goals
  have HB:=Lib.hid hb
  clear hb
  by_cases h1:48 ≤ r <;> by_cases h2:r ≤ 57 <;> by_cases h3:r = 95
  all_goals first
   | (exfalso; omega)
   | (try subst h3
      go_enter Tryz.func149,Tryz.ntmps149
      go_wp2_with (go_at_call 148; refine (begins_is HB.out _).mono ?_; rintro e w' ⟨rfl,rfl⟩)
      go_ret
      exact ⟨ret_bool (by unfold goB; rw [HB.out,Bool.eq_iff_iff]; simp; try omega),rfl⟩)
theorem goesOn_is {r:Int} {b:Bool} (h:goB r = b) (w:World):Calls Tryz.prog 149 #[.int .i32 r] w fun e w' => e = .returned (.bool b) ∧ w = w':=by
 subst h; exact goesOn_any r w
theorem get_bang (s:ByteArray) (i:Nat) (h:i < s.size):s.get! i = s[i]:=by
 simp [ByteArray.get!,getElem!_pos,h]; rfl
theorem dec_big (s:ByteArray) (i:Nat) (h:i < s.size) (hb:128 ≤ s[i].toNat):128 ≤ (Utf8.decode s i).1:=by
 unfold Utf8.decode
 simp only [Nat.add_zero,get_bang s i h]
 rw [if_neg (by omega)]
 repeat' split
 all_goals (try simp only [Utf8.runeError]) <;> (try simp only [Bool.and_eq_true,decide_eq_true_eq,ge_iff_le] at *) <;> omega
theorem goB_of (c:UInt8):goB (c.toNat:Int) = later c:=by
 rw [Bool.eq_iff_iff]
 simp [goB,begB,later,letter,UInt8.le_iff_toNat_le,← UInt8.toNat_inj]
 omega
theorem begB_of (c:UInt8):begB (c.toNat:Int) = letter c:=by
 rw [Bool.eq_iff_iff]
 simp [begB,letter,UInt8.le_iff_toNat_le]
 omega
theorem later_small {c:UInt8} (h:later c = true):c.toNat < 128:=by
 simp [later,letter,UInt8.le_iff_toNat_le,← UInt8.toNat_inj] at h
 omega
theorem dec_later (s:ByteArray) (i:Nat) (h:i < s.size):goB ((Utf8.decode s i).1:Int) = later s[i]:=by
 by_cases hb:s[i].toNat < 128
 ·rw [decode_ascii s i h hb]; exact goB_of _
 ·have h1:=dec_big s i h (by omega)
  have h2:later s[i] = false:=by
   rw [← Bool.not_eq_true]; intro hc; exact hb (later_small hc)
  rw [h2,← Bool.not_eq_true]
  simp [goB,begB]
  omega
theorem dec_letter (s:ByteArray) (i:Nat) (h:i < s.size):begB ((Utf8.decode s i).1:Int) = letter s[i]:=by
 by_cases hb:s[i].toNat < 128
 ·rw [decode_ascii s i h hb]; exact begB_of _
 ·have h1:=dec_big s i h (by omega)
  have h2:letter s[i] = false:=by
   rw [← Bool.not_eq_true]; intro hc; exact hb (later_small (letter_later hc))
  rw [h2,← Bool.not_eq_true]
  simp [begB]
  omega
theorem dec_one (s:ByteArray) (i:Nat) (h:i < s.size) (hl:later s[i] = true):(Utf8.decode s i).2 = 1:=by rw [decode_ascii s i h (later_small hl)]
theorem byte_at (s:ByteArray) (i:Nat) (h:i < s.size):s.data.toList[i]? = some s[i]:=by
 rw [List.getElem?_eq_getElem (by simpa using h)]; rfl
theorem str_nil' {s:ByteArray} (h:s.size = 0):s.toList = []:=by
 rw [ByteArray.toList_eq,← List.length_eq_zero_iff]; exact h
theorem str_ne' {s:ByteArray} (h:0 < s.size):s.toList.isEmpty = false:=by
 have e:s.toList.length = s.size:=by rw [ByteArray.toList_eq]; rfl
 cases h':s.toList with
 | nil => rw [h'] at e; simp at e; omega
 | cons a l => rfl
theorem size_list (s:ByteArray):s.data.toList.length = s.size:=rfl
def IsRel (W:World) (s:ByteArray) (wr:World):Prop:=∃ pos,pos ≤ s.size ∧ wr.heap[W.heap.size]? = some (.stringIter s pos) ∧ Below W.heap.size W wr ∧ (s.data.toList.take pos).all later = true ∧ (0 < pos → ∀ c,s.data.toList[0]? = some c → letter c = true)
theorem isRel_next {W wr:World} {s:ByteArray} {pos:Nat} (hp:pos < s.size) (hit:wr.heap[W.heap.size]? = some (.stringIter s pos)) (hb:Below W.heap.size W wr) (ha:(s.data.toList.take pos).all later = true)
 (h0:0 < pos → ∀ c,s.data.toList[0]? = some c → letter c = true) (hl:later s[pos] = true) (hz:pos = 0 → letter s[pos] = true):IsRel W s (wr.iterAt W.heap.size s (pos + 1)):=by
 refine ⟨pos + 1,by omega,iterAt_heap _ _ _ _ _ hit,below_iterAt hb (Nat.le_refl _) _ _,?_,fun _ c hc => ?_⟩
 ·rw [take_next (byte_at s pos hp),List.all_append,ha]; simpa using hl
 ·rcases Nat.eq_zero_or_pos pos with h | h
  ·subst h
   rw [byte_at s 0 hp] at hc
   injection hc with hc
   exact hc ▸ hz rfl
  ·exact h0 h c hc
set_option maxHeartbeats 1600000 in
theorem is_any (s:ByteArray) (w:World) (hs:s.size ≤ 9223372036854775807):Calls Tryz.prog 117 #[.string s] w fun e w' => e = .returned (.bool (isName s.data.toList)) ∧ Below w.heap.size w w':=by
 rcases Nat.eq_zero_or_pos s.size with h0 | h0
 ·have HE:Hid (isName s.data.toList = false):=Lib.hid (isName_size (.inl h0))
  have hnil:=str_nil' h0
  clear h0 hs
  go_enter Tryz.func117,Tryz.ntmps117
  go_wp2
  go_ret
  exact ⟨ret_bool HE.out.symm,Below.refl _ _⟩
 ·have hne:=str_ne' h0
  by_cases h12:12 < s.size
  ·have HE:Hid (isName s.data.toList = false):=Lib.hid (isName_size (.inr h12))
   go_enter Tryz.func117,Tryz.ntmps117
   go_wp2
   go_ret
   exact ⟨ret_bool HE.out.symm,Below.refl _ _⟩
  ·rcases hk:isKw s.data.toList with _ | _
   case true =>
    have HE:Hid (isName s.data.toList = false):=Lib.hid (isName_kw hk)
    have HC:=Lib.hid (hk ▸ keyword_any s w)
    clear hk
    go_enter Tryz.func117,Tryz.ntmps117
    go_wp2_with (go_at_call 147; refine HC.out.mono ?_; rintro e w' ⟨rfl,rfl⟩)
    go_ret
    exact ⟨ret_bool HE.out.symm,Below.refl _ _⟩
   have HC:=Lib.hid (hk ▸ keyword_any s w)
   have HK:=Lib.hid hk
   clear hk
   go_enter Tryz.func117,Tryz.ntmps117
   go_wp2_with (go_at_call 147; refine HC.out.mono ?_; rintro e w' ⟨rfl,rfl⟩)
   go_loopw [] (fun wr => IsRel w s wr) (fun wr => s.size - wr.iterPos w.heap.size)
   case atStart => exact ⟨0,Nat.zero_le _,World.iter_heap w s 0,(Below.refl _ w).alloc (Nat.le_refl _) _,rfl,fun h => absurd h (by omega)⟩
   case round =>
    obtain ⟨pos,hps,hit,hbw,hall,hhead⟩:=hrel
    by_cases hp:pos < s.size
    ·have hnx:∀ ty,(Instr.next (.pointer (some ⟨w.heap.size,0,none⟩)) true ty).run Tryz.prog wr = _:=fun ty => Lib.run_next_any_at wr w.heap.size s pos ty hit hp
     have hgo:=dec_later s pos hp
     have hbe:=dec_letter s pos hp
     have hw1:=dec_one s pos hp
     have hat:=byte_at s pos hp
     have hrel:=isRel_next hp hit hbw hall hhead
     have HM:Hid (s.size - (wr.iterAt w.heap.size s (pos + 1)).iterPos w.heap.size < s.size - wr.iterPos w.heap.size):=Lib.hid (by
      simp only [World.iterPos,iterAt_heap _ _ _ _ _ hit,hit]; omega)
     obtain ⟨c,hc⟩:∃ c,c = s[pos]:=⟨_,rfl⟩
     rw [← hc] at hgo hbe hw1 hat hrel
     clear hc
     obtain ⟨r,hr⟩:∃ r,r = (Utf8.decode s pos).1:=⟨_,rfl⟩
     obtain ⟨wd,hwd⟩:∃ wd,wd = (Utf8.decode s pos).2:=⟨_,rfl⟩
     rw [← hr] at hgo hbe hnx
     rw [← hwd] at hw1 hnx
     clear hr hwd hall hhead
     have HB:=Lib.hid hbw
     have HA:=Lib.hid hat
     clear hat hit hbw
     rcases Nat.eq_zero_or_pos pos with hz | hz
     ·subst hz
      rcases hl:letter c with _ | _
      ·have HE:Hid (isName s.data.toList = false):=Lib.hid (isName_head HA.out hl)
       have HBc:=Lib.hid (begins_is (hbe.trans hl))
       clear hl hbe hgo hw1 hrel HM
       go_wp2_with (go_at_call 148; refine (HBc.out _).mono ?_; rintro e w' ⟨rfl,rfl⟩)
       go_ret
       exact ⟨ret_bool HE.out.symm,below_iterAt HB.out (Nat.le_refl _) _ _⟩
      ·have HBc:=Lib.hid (begins_is (hbe.trans hl))
       have HGc:=Lib.hid (goesOn_is (hgo.trans (letter_later hl)))
       have HR:=Lib.hid (hrel (letter_later hl) (fun _ => hl))
       obtain rfl:wd = 1:=hw1 (letter_later hl)
       clear hl hbe hgo hrel hw1
       go_wp2_with (first | (go_at_call 148; refine (HBc.out _).mono ?_; rintro e w' ⟨rfl,rfl⟩) | (go_at_call 149; refine (HGc.out _).mono ?_; rintro e w' ⟨rfl,rfl⟩))
       go_roundw
       case rel => exact HR.out
       case measure => exact HM.out
     ·have hz':((pos:Int) == 0) = false:=by simp; omega
      rcases hl:later c with _ | _
      ·have HE:Hid (isName s.data.toList = false):=Lib.hid (isName_later HA.out hl)
       have HGc:=Lib.hid (goesOn_is (hgo.trans hl))
       clear hl hbe hgo hw1 hrel HM
       go_wp2_with (go_at_call 149; refine (HGc.out _).mono ?_; rintro e w' ⟨rfl,rfl⟩)
       go_ret
       exact ⟨ret_bool HE.out.symm,below_iterAt HB.out (Nat.le_refl _) _ _⟩
      ·have HGc:=Lib.hid (goesOn_is (hgo.trans hl))
       have HR:=Lib.hid (hrel hl (fun h => absurd h (by omega)))
       obtain rfl:wd = 1:=hw1 hl
       clear hl hbe hgo hrel hw1
       go_wp2_with (go_at_call 149; refine (HGc.out _).mono ?_; rintro e w' ⟨rfl,rfl⟩)
       go_roundw
       case rel => exact HR.out
       case measure => exact HM.out
    ·have hnx:∀ ty,(Instr.next (.pointer (some ⟨w.heap.size,0,none⟩)) true ty).run Tryz.prog wr = _:=fun ty => Lib.run_next_end_at wr w.heap.size s pos ty hit hp
     have hall':s.data.toList.all later = true:=by rw [List.take_of_length_le (by rw [size_list]; omega)] at hall; exact hall
     have HE:Hid (isName s.data.toList = true):=Lib.hid (isName_yes (by rw [size_list]; omega) (by rw [size_list]; omega) HK.out hall' (hhead (by omega)))
     clear hall hall' hhead
     go_wp2
     go_ret
     exact ⟨ret_bool HE.out.symm,hbw⟩
end Go.Proofs.YtapnomdckglehaaGreat
namespace Go.Proofs.YtapnomdckglehaaGreat
open Go.RowKit NamesSpec Go.Lib
set_option maxRecDepth 100000
theorem letter_iff (c:UInt8):letter c = true ↔ 97 ≤ (c.toNat:Int) ∧ (c.toNat:Int) ≤ 122:=by
 simp [letter,UInt8.le_iff_toNat_le]; omega
theorem later_iff (c:UInt8):later c = true ↔ (97 ≤ (c.toNat:Int) ∧ (c.toNat:Int) ≤ 122) ∨ (48 ≤ (c.toNat:Int) ∧ (c.toNat:Int) ≤ 57) ∨ (c.toNat:Int) = 95:=by
 rw [later,Bool.or_eq_true,Bool.or_eq_true,letter_iff]
 simp [UInt8.le_iff_toNat_le,← UInt8.toNat_inj]; omega
theorem kw_place_is {s:ByteArray} {b:Bool} (h:isKw s.data.toList = b):decide (0 ≤ idxOfS kwS s) = b:=by rw [place_kw,h]
def RIsRel (s:ByteArray) (i:Value):Prop:=∃ k:Nat,k ≤ s.size ∧ i = .int .i64 k ∧ (s.data.toList.take k).all later = true ∧ (0 < k → ∀ c,s.data.toList[0]? = some c → letter c = true)
theorem risRel_next {s:ByteArray} {k:Nat} (hp:k < s.size) (ha:(s.data.toList.take k).all later = true) (h0:0 < k → ∀ c,s.data.toList[0]? = some c → letter c = true) (hl:later s[k] = true) (hz:k = 0 → letter s[k] = true):RIsRel s (.int .i64 (k + 1:Nat)):=by
 refine ⟨k + 1,by omega,rfl,?_,fun _ c hc => ?_⟩
 ·rw [take_next (byte_at s k hp),List.all_append,ha]; simpa using hl
 ·rcases Nat.eq_zero_or_pos k with h | h
  ·subst h
   rw [byte_at s 0 hp] at hc
   injection hc with hc
   exact hc ▸ hz rfl
  ·exact h0 h c hc
set_option maxHeartbeats 1600000 in
theorem ris_any (s:ByteArray) (w:World) (hs:s.size ≤ 9223372036854775807):Calls Tryz.prog 52 #[.string s] w fun e w' => e = .returned (.bool (isName s.data.toList)) ∧ Below w.heap.size w w':=by
 by_cases h0:s.size < 1
 ·have HE:Hid (isName s.data.toList = false):=Lib.hid (isName_size (.inl (by rw [size_list]; omega)))
  go_enter Tryz.func52,Tryz.ntmps52
  go_wp2
  go_ret
  exact ⟨ret_bool HE.out.symm,Below.refl _ _⟩
 by_cases h12:12 < s.size
 ·have HE:Hid (isName s.data.toList = false):=Lib.hid (isName_size (.inr h12))
  go_enter Tryz.func52,Tryz.ntmps52
  go_wp2
  go_ret
  exact ⟨ret_bool HE.out.symm,Below.refl _ _⟩
 rcases hk:isKw s.data.toList with _ | _
 case true =>
  have HE:Hid (isName s.data.toList = false):=Lib.hid (isName_kw hk)
  have hpl:=kw_place_is hk
  clear hk
  go_enter Tryz.func52,Tryz.ntmps52
  go_wp2_with (first
   | (go_at_call 76; refine (keywords_any _).mono ?_; rintro e w' ⟨v,rfl,hrd,hbw⟩)
   | (go_at_call 45; refine (rplace_any _ kwS s _ hrd (by decide)).mono ?_; rintro e w' ⟨rfl,rfl⟩))
  go_ret
  exact ⟨ret_bool HE.out.symm,hbw⟩
 have hpl:=kw_place_is hk
 have HK:=Lib.hid hk
 clear hk
 go_enter Tryz.func52,Tryz.ntmps52
 go_wp2_with (first
  | (go_at_call 76; refine (keywords_any _).mono ?_; rintro e w' ⟨v,rfl,hrd,hbw⟩)
  | (go_at_call 45; refine (rplace_any _ kwS s _ hrd (by decide)).mono ?_; rintro e w' ⟨rfl,rfl⟩))
 clear hrd hpl
 go_loop [3] (fun i => RIsRel s i) (fun i => s.size - (RowKit.intOf i).toNat)
 case atStart => exact ⟨0,Nat.zero_le _,rfl,rfl,fun h => absurd h (by omega)⟩
 case round =>
  obtain ⟨k,hks,rfl,hall,hhead⟩:=hrel
  by_cases hp:k < s.size
  ·have hrel:=risRel_next hp hall hhead
   have hat:=byte_at s k hp
   have hli:=letter_iff s[k]
   have hla:=later_iff s[k]
   have hub:(s[k].toNat:Int) ≤ 255:=by have:=s[k].toNat_lt; omega
   have hlb:0 ≤ (s[k].toNat:Int):=by omega
   by_cases hL:letter s[k] = true
   ·have HR:=Lib.hid (hrel (letter_later hL) (fun _ => hL))
    obtain ⟨g1,g2⟩:=hli.1 hL
    clear hrel hat hli hla hL hall hhead
    go_wp2
    go_round
    case rel => exact HR.out
    case measure => simp [RowKit.intOf]; omega
   ·rcases Nat.eq_zero_or_pos k with hz | hz
    ·subst hz
     have HE:Hid (isName s.data.toList = false):=Lib.hid (isName_head hat (by simpa using hL))
     have g:¬ (97 ≤ (s[0].toNat:Int) ∧ (s[0].toNat:Int) ≤ 122):=fun h => hL (hli.2 h)
     clear hrel hat hli hla hL hall hhead
     by_cases g1:97 ≤ (s[0].toNat:Int)
     ·have g2:122 < (s[0].toNat:Int):=by omega
      clear g
      go_wp2
      go_ret
      exact ⟨ret_bool HE.out.symm,hbw⟩
     ·clear g
      go_wp2
      go_ret
      exact ⟨ret_bool HE.out.symm,hbw⟩
    ·have hz':((k:Int) == 0) = false:=by simp; omega
     have g:¬ (97 ≤ (s[k].toNat:Int) ∧ (s[k].toNat:Int) ≤ 122):=fun h => hL (hli.2 h)
     by_cases hla':later s[k] = true
     ·have HR:=Lib.hid (hrel hla' (fun h => absurd h (by omega)))
      have g3:=hla.1 hla'
      clear hrel hat hli hla hL hall hhead hla'
      have g4:(48 ≤ (s[k].toNat:Int) ∧ (s[k].toNat:Int) ≤ 57) ∨ (s[k].toNat:Int) = 95:=by omega
      clear g3
      rcases g4 with ⟨g5,g6⟩ | g5
      ·have g1:¬ 97 ≤ (s[k].toNat:Int):=by omega
       have g7:((s[k].toNat:Int) != 95) = true:=by simp; omega
       clear g
       go_wp2
       go_round
       case rel => exact HR.out
       case measure => simp [RowKit.intOf]; omega
      ·have g1:¬ 97 ≤ (s[k].toNat:Int):=by omega
       have g7:((s[k].toNat:Int) != 95) = false:=by simp; omega
       clear g g5
       go_wp2
       go_round
       case rel => exact HR.out
       case measure => simp [RowKit.intOf]; omega
     ·have HE:Hid (isName s.data.toList = false):=Lib.hid (isName_later hat (by simpa using hla'))
      have g3:¬ ((48 ≤ (s[k].toNat:Int) ∧ (s[k].toNat:Int) ≤ 57) ∨ (s[k].toNat:Int) = 95):=fun h => hla' (hla.2 (.inr h))
      have g7:((s[k].toNat:Int) != 95) = true:=by simp; omega
      clear hrel hat hli hla hL hall hhead hla'
      by_cases g1:97 ≤ (s[k].toNat:Int)
      ·have g2:122 < (s[k].toNat:Int):=by omega
       have g6:¬ (s[k].toNat:Int) < 48:=by omega
       have g8:57 < (s[k].toNat:Int):=by have:¬ (s[k].toNat:Int) ≤ 122:=fun h => g ⟨g1,h⟩; omega
       clear g g3
       go_wp2
       go_ret
       exact ⟨ret_bool HE.out.symm,hbw⟩
      ·clear g
       by_cases g6:(s[k].toNat:Int) < 48
       ·clear g3
        go_wp2
        go_ret
        exact ⟨ret_bool HE.out.symm,hbw⟩
       ·have g8:57 < (s[k].toNat:Int):=by omega
        clear g3
        go_wp2
        go_ret
        exact ⟨ret_bool HE.out.symm,hbw⟩
  ·have hall':s.data.toList.all later = true:=by rw [List.take_of_length_le (by rw [size_list]; omega)] at hall; exact hall
   have HE:Hid (isName s.data.toList = true):=Lib.hid (isName_yes (by rw [size_list]; omega) (by rw [size_list]; omega) HK.out hall' (hhead (by omega)))
   clear hall hall' hhead
   go_wp2
   go_ret
   exact ⟨ret_bool HE.out.symm,hbw⟩
end Go.Proofs.YtapnomdckglehaaGreat
namespace Go.Proofs.YtapnomdckglehaaGreat
open Go.RowKit CurSpec NamesSpec
set_option maxRecDepth 100000
end Go.Proofs.YtapnomdckglehaaGreat
namespace Go.Proofs.YtapnomdckglehaaGreat
open Go.RowKit ValSpec
end Go.Proofs.YtapnomdckglehaaGreat
namespace Go.Proofs.YtapnomdckglehaaGreat
open Go.RowKit ValSpec
end Go.Proofs.YtapnomdckglehaaGreat
namespace Go.Proofs.YtapnomdckglehaaGreat
open Go.RowKit CurSpec ValSpec
end Go.Proofs.YtapnomdckglehaaGreat
namespace Go.Proofs.YtapnomdckglehaaGreat
open Go.RowKit CurSpec NamesSpec ValSpec
set_option maxRecDepth 100000
end Go.Proofs.YtapnomdckglehaaGreat
namespace Go.Proofs.YtapnomdckglehaaGreat
open Go.RowKit TermSpec
set_option maxRecDepth 100000
set_option maxHeartbeats 1600000 in
theorem arity_any (o:Int) (w:World):Calls Tryz.prog 191 #[.int .i64 o] w (SameI w (ar o)):=by
 go_enter Tryz.func191,Tryz.ntmps191
 go_wp2_with fail
 all_goals
  go_ret
  exact ⟨ret_int (by simp_all [ar]),rfl⟩
def RetTwo (W:World) (a b:Int) (e:Ending) (w':World):Prop:=e = .returned (.tuple #[.int .i64 a,.int .i64 b]) ∧ W = w'
set_option maxHeartbeats 1600000 in
theorem types_any (o:Int) (w:World):Calls Tryz.prog 187 #[.int .i64 o] w (RetTwo w (ownT o) (askT o)):=by
 go_enter Tryz.func187,Tryz.ntmps187
 go_wp2_with fail
 all_goals
  go_ret2
  exact ⟨by simp_all [ownT,askT],rfl⟩
theorem rarity_out (o:Int) (h:o < 1 ∨ 20 < o) (w:World):Calls Tryz.prog 157 #[.int .i64 o] w (RetI w (ar o)):=by
 have HE:=Lib.hid (ar_out h)
 by_cases h1:o < 1
 ·clear h
  go_enter Tryz.func157,Tryz.ntmps157
  go_wp2_with fail
  go_ret
  exact ⟨ret_int HE.out.symm,Below.refl _ _⟩
 ·have h2:20 < o:=by omega
  clear h
  go_enter Tryz.func157,Tryz.ntmps157
  go_wp2_with fail
  go_ret
  exact ⟨ret_int HE.out.symm,Below.refl _ _⟩
theorem arl_at (n:Nat) (h1:1 ≤ n) (h:n < 21):([Value.int .i64 0,Value.int .i64 0,Value.int .i64 0,Value.int .i64 1,Value.int .i64 2,Value.int .i64 2,Value.int .i64 2,Value.int .i64 2,Value.int .i64 2,Value.int .i64 0,Value.int .i64 0,Value.int .i64 0,Value.int .i64 1,Value.int .i64 2,Value.int .i64 2,Value.int .i64 2,Value.int .i64 2,Value.int .i64 2,Value.int .i64 2,Value.int .i64 2,Value.int .i64 2])[n] = .int .i64 (ar n):=by
 have:n = 1 ∨ n = 2 ∨ n = 3 ∨ n = 4 ∨ n = 5 ∨ n = 6 ∨ n = 7 ∨ n = 8 ∨ n = 9 ∨ n = 10 ∨ n = 11 ∨ n = 12 ∨ n = 13 ∨ n = 14 ∨ n = 15 ∨ n = 16 ∨ n = 17 ∨ n = 18 ∨ n = 19 ∨ n = 20:=by omega
 rcases this with rfl | rfl | rfl | rfl | rfl | rfl | rfl | rfl | rfl | rfl | rfl | rfl | rfl | rfl | rfl | rfl | rfl | rfl | rfl | rfl <;> rfl
set_option maxHeartbeats 800000 in
theorem rarity_in (n:Nat) (h1:1 ≤ n) (h:n ≤ 20) (w:World):Calls Tryz.prog 157 #[.int .i64 n] w (RetI w (ar n)):=by
 have h21:n < 21:=by omega
 have h21':(n:Int) < 21:=by omega
 have h20:¬ 20 < (n:Int):=by omega
 have HE:=Lib.hid (arl_at n h1 h21)
 go_enter Tryz.func157,Tryz.ntmps157
 go_wp2_with fail
 go_ret
 exact ⟨congrArg Ending.returned HE.out,(Below.refl _ _).alloc (Nat.le_refl _) _⟩
theorem rarity_any (o:Int) (w:World):Calls Tryz.prog 157 #[.int .i64 o] w (RetI w (ar o)):=by
 by_cases h:o < 1 ∨ 20 < o
 ·exact rarity_out o h w
 ·obtain ⟨n,rfl⟩:=Int.eq_ofNat_of_zero_le (show 0 ≤ o by omega)
  exact rarity_in n (by omega) (by omega) w
end Go.Proofs.YtapnomdckglehaaGreat