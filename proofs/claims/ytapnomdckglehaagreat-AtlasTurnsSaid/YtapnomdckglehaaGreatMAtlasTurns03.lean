/- NamesWords, NamesRefIs, CurRefName, ValCalls, ValGet, CurRefNum, CurCalls, TermArity, TermMay, ExprRdr, ExprSigns, TermEnd, TermRefEnd, RowI, TermBelow, ValPut, joined. -/
import Derived.Test.YtapnomdckglehaaGreatMAtlasTurns02
import Derived.Lib.OthersKept
import Derived.Deep.RegionHeld3
import Derived.Test.YtapnomdckglehaaGreatRows
import Derived.WalkKit
import Derived.WalkSpells
import Derived.Test.YtapnomdckglehaaGreatMAtlasTurns00
import Derived.Lib.Hide
import Derived.Test.YtapnomdckglehaaGreatMAtlasTurns01
import Derived.Laws.StructEq
import Derived.Laws.Rows
import Derived.Deep.RegionLaw
namespace Go.Proofs.YtapnomdckglehaaGreat
open Go.RowKit NamesSpec Go.Lib
set_option maxRecDepth 100000
theorem toList_of (s:ByteArray):s.toList = s.data.toList:=ByteArray.toList_eq s
theorem kw_yes {s:ByteArray} {x:List UInt8} (h:(s.toList == x) = true) (hx:isKw x = true):isKw s.data.toList = true:=by
 rw [← toList_of,eq_of_beq h]; exact hx
theorem kw_no {s:ByteArray} (h:∀ x ∈ kw,(s.toList == x) = false):isKw s.data.toList = false:=by
 rw [← toList_of]
 unfold isKw
 rw [Bool.eq_false_iff]
 intro hc
 have hm:=List.contains_iff_mem.1 hc
 have:=h _ hm
 simp at this
set_option maxHeartbeats 800000 in
theorem keyword_any (s:ByteArray) (w:World):Calls Tryz.prog 147 #[.string s] w fun e w' => e = .returned (.bool (isKw s.data.toList)) ∧ w = w':=by
 rcases h0:(s.toList == [99,104,97,114,116]) with _ | _
 case true =>
  go_enter Tryz.func147,Tryz.ntmps147
  go_wp2
  go_ret
  exact ⟨ret_bool (kw_yes h0 (by decide)).symm,rfl⟩
 rcases h1:(s.toList == [101,118,101,110,116]) with _ | _
 case true =>
  go_enter Tryz.func147,Tryz.ntmps147
  go_wp2
  go_ret
  exact ⟨ret_bool (kw_yes h1 (by decide)).symm,rfl⟩
 rcases h2:(s.toList == [118,97,114]) with _ | _
 case true =>
  go_enter Tryz.func147,Tryz.ntmps147
  go_wp2
  go_ret
  exact ⟨ret_bool (kw_yes h2 (by decide)).symm,rfl⟩
 rcases h3:(s.toList == [108,101,97,102]) with _ | _
 case true =>
  go_enter Tryz.func147,Tryz.ntmps147
  go_wp2
  go_ret
  exact ⟨ret_bool (kw_yes h3 (by decide)).symm,rfl⟩
 rcases h4:(s.toList == [111,114]) with _ | _
 case true =>
  go_enter Tryz.func147,Tryz.ntmps147
  go_wp2
  go_ret
  exact ⟨ret_bool (kw_yes h4 (by decide)).symm,rfl⟩
 rcases h5:(s.toList == [97,110,100]) with _ | _
 case true =>
  go_enter Tryz.func147,Tryz.ntmps147
  go_wp2
  go_ret
  exact ⟨ret_bool (kw_yes h5 (by decide)).symm,rfl⟩
 rcases h6:(s.toList == [101,110,116,101,114]) with _ | _
 case true =>
  go_enter Tryz.func147,Tryz.ntmps147
  go_wp2
  go_ret
  exact ⟨ret_bool (kw_yes h6 (by decide)).symm,rfl⟩
 rcases h7:(s.toList == [101,120,105,116]) with _ | _
 case true =>
  go_enter Tryz.func147,Tryz.ntmps147
  go_wp2
  go_ret
  exact ⟨ret_bool (kw_yes h7 (by decide)).symm,rfl⟩
 rcases h8:(s.toList == [111,110]) with _ | _
 case true =>
  go_enter Tryz.func147,Tryz.ntmps147
  go_wp2
  go_ret
  exact ⟨ret_bool (kw_yes h8 (by decide)).symm,rfl⟩
 rcases h9:(s.toList == [97,117,116,111]) with _ | _
 case true =>
  go_enter Tryz.func147,Tryz.ntmps147
  go_wp2
  go_ret
  exact ⟨ret_bool (kw_yes h9 (by decide)).symm,rfl⟩
 rcases h10:(s.toList == [97,110,121]) with _ | _
 case true =>
  go_enter Tryz.func147,Tryz.ntmps147
  go_wp2
  go_ret
  exact ⟨ret_bool (kw_yes h10 (by decide)).symm,rfl⟩
 rcases h11:(s.toList == [105,110]) with _ | _
 case true =>
  go_enter Tryz.func147,Tryz.ntmps147
  go_wp2
  go_ret
  exact ⟨ret_bool (kw_yes h11 (by decide)).symm,rfl⟩
 rcases h12:(s.toList == [109,105,110]) with _ | _
 case true =>
  go_enter Tryz.func147,Tryz.ntmps147
  go_wp2
  go_ret
  exact ⟨ret_bool (kw_yes h12 (by decide)).symm,rfl⟩
 rcases h13:(s.toList == [109,97,120]) with _ | _
 case true =>
  go_enter Tryz.func147,Tryz.ntmps147
  go_wp2
  go_ret
  exact ⟨ret_bool (kw_yes h13 (by decide)).symm,rfl⟩
 rcases h14:(s.toList == [110,111,116]) with _ | _
 case true =>
  go_enter Tryz.func147,Tryz.ntmps147
  go_wp2
  go_ret
  exact ⟨ret_bool (kw_yes h14 (by decide)).symm,rfl⟩
 rcases h15:(s.toList == [116,114,117,101]) with _ | _
 case true =>
  go_enter Tryz.func147,Tryz.ntmps147
  go_wp2
  go_ret
  exact ⟨ret_bool (kw_yes h15 (by decide)).symm,rfl⟩
 rcases h16:(s.toList == [102,97,108,115,101]) with _ | _
 case true =>
  go_enter Tryz.func147,Tryz.ntmps147
  go_wp2
  go_ret
  exact ⟨ret_bool (kw_yes h16 (by decide)).symm,rfl⟩
 have HK:Hid (isKw s.data.toList = false):=Lib.hid (kw_no (by
  intro x hx
  simp only [kw,List.mem_cons,List.not_mem_nil,or_false] at hx
  rcases hx with rfl | rfl | rfl | rfl | rfl | rfl | rfl | rfl | rfl | rfl | rfl | rfl | rfl | rfl | rfl | rfl | rfl <;> assumption))
 go_enter Tryz.func147,Tryz.ntmps147
 go_wp2
 go_ret
 exact ⟨ret_bool HK.out.symm,rfl⟩
def begB (r:Int):Bool:=decide (97 ≤ r) && decide (r ≤ 122)
def goB (r:Int):Bool:=begB r || decide (48 ≤ r) && decide (r ≤ 57) || decide (r = 95)
theorem begins_any (r:Int) (w:World):Calls Tryz.prog 148 #[.int .i32 r] w fun e w' => e = .returned (.bool (begB r)) ∧ w = w':=by
 by_cases h1:97 ≤ r <;> by_cases h2:r ≤ 122
 all_goals
  go_enter Tryz.func148,Tryz.ntmps148
  go_wp2
  go_ret
  exact ⟨ret_bool (by unfold begB; simp [h1,h2]),rfl⟩
theorem begins_is {r:Int} {b:Bool} (h:begB r = b) (w:World):Calls Tryz.prog 148 #[.int .i32 r] w fun e w' => e = .returned (.bool b) ∧ w = w':=by
 subst h; exact begins_any r w
theorem goesOn_any (r:Int) (w:World):Calls Tryz.prog 149 #[.int .i32 r] w fun e w' => e = .returned (.bool (goB r)) ∧ w = w':=by
 rcases hb:begB r with _ | _
 all_goals
  have HB:=Lib.hid hb
  clear hb
  by_cases h1:48 ≤ r <;> by_cases h2:r ≤ 57 <;> by_cases h3:r = 95
  all_goals first
   | (exfalso; omega)
   | (try subst h3
      go_enter Tryz.func149,Tryz.ntmps149
      go_wp2_with (go_at_call 148; refine (begins_is HB.out _).mono ?_; rintro e w' ⟨rfl,rfl⟩)
      go_ret
      exact ⟨ret_bool (by unfold goB; rw [HB.out,Bool.eq_iff_iff]; simp; try omega),rfl⟩)
theorem goesOn_is {r:Int} {b:Bool} (h:goB r = b) (w:World):Calls Tryz.prog 149 #[.int .i32 r] w fun e w' => e = .returned (.bool b) ∧ w = w':=by
 subst h; exact goesOn_any r w
theorem get_bang (s:ByteArray) (i:Nat) (h:i < s.size):s.get! i = s[i]:=by
 simp [ByteArray.get!,getElem!_pos,h]; rfl
theorem dec_big (s:ByteArray) (i:Nat) (h:i < s.size) (hb:128 ≤ s[i].toNat):128 ≤ (Utf8.decode s i).1:=by
 unfold Utf8.decode
 simp only [Nat.add_zero,get_bang s i h]
 rw [if_neg (by omega)]
 repeat' split
 all_goals (try simp only [Utf8.runeError]) <;> (try simp only [Bool.and_eq_true,decide_eq_true_eq,ge_iff_le] at *) <;> omega
theorem goB_of (c:UInt8):goB (c.toNat:Int) = later c:=by
 rw [Bool.eq_iff_iff]
 simp [goB,begB,later,letter,UInt8.le_iff_toNat_le,← UInt8.toNat_inj]
 omega
theorem begB_of (c:UInt8):begB (c.toNat:Int) = letter c:=by
 rw [Bool.eq_iff_iff]
 simp [begB,letter,UInt8.le_iff_toNat_le]
 omega
theorem later_small {c:UInt8} (h:later c = true):c.toNat < 128:=by
 simp [later,letter,UInt8.le_iff_toNat_le,← UInt8.toNat_inj] at h
 omega
theorem dec_later (s:ByteArray) (i:Nat) (h:i < s.size):goB ((Utf8.decode s i).1:Int) = later s[i]:=by
 by_cases hb:s[i].toNat < 128
 ·rw [decode_ascii s i h hb]; exact goB_of _
 ·have h1:=dec_big s i h (by omega)
  have h2:later s[i] = false:=by
   rw [← Bool.not_eq_true]; intro hc; exact hb (later_small hc)
  rw [h2,← Bool.not_eq_true]
  simp [goB,begB]
  omega
theorem dec_letter (s:ByteArray) (i:Nat) (h:i < s.size):begB ((Utf8.decode s i).1:Int) = letter s[i]:=by
 by_cases hb:s[i].toNat < 128
 ·rw [decode_ascii s i h hb]; exact begB_of _
 ·have h1:=dec_big s i h (by omega)
  have h2:letter s[i] = false:=by
   rw [← Bool.not_eq_true]; intro hc; exact hb (later_small (letter_later hc))
  rw [h2,← Bool.not_eq_true]
  simp [begB]
  omega
theorem dec_one (s:ByteArray) (i:Nat) (h:i < s.size) (hl:later s[i] = true):(Utf8.decode s i).2 = 1:=by rw [decode_ascii s i h (later_small hl)]
theorem byte_at (s:ByteArray) (i:Nat) (h:i < s.size):s.data.toList[i]? = some s[i]:=by
 rw [List.getElem?_eq_getElem (by simpa using h)]; rfl
theorem str_nil' {s:ByteArray} (h:s.size = 0):s.toList = []:=by
 rw [ByteArray.toList_eq,← List.length_eq_zero_iff]; exact h
theorem str_ne' {s:ByteArray} (h:0 < s.size):s.toList.isEmpty = false:=by
 have e:s.toList.length = s.size:=by rw [ByteArray.toList_eq]; rfl
 cases h':s.toList with
 | nil => rw [h'] at e; simp at e; omega
 | cons a l => rfl
theorem size_list (s:ByteArray):s.data.toList.length = s.size:=rfl
def IsRel (W:World) (s:ByteArray) (wr:World):Prop:=∃ pos,pos ≤ s.size ∧ wr.heap[W.heap.size]? = some (.stringIter s pos) ∧ Below W.heap.size W wr ∧ (s.data.toList.take pos).all later = true ∧ (0 < pos → ∀ c,s.data.toList[0]? = some c → letter c = true)
theorem isRel_next {W wr:World} {s:ByteArray} {pos:Nat} (hp:pos < s.size) (hit:wr.heap[W.heap.size]? = some (.stringIter s pos)) (hb:Below W.heap.size W wr) (ha:(s.data.toList.take pos).all later = true)
 (h0:0 < pos → ∀ c,s.data.toList[0]? = some c → letter c = true) (hl:later s[pos] = true) (hz:pos = 0 → letter s[pos] = true):IsRel W s (wr.iterAt W.heap.size s (pos + 1)):=by
 refine ⟨pos + 1,by omega,iterAt_heap _ _ _ _ _ hit,below_iterAt hb (Nat.le_refl _) _ _,?_,fun _ c hc => ?_⟩
 ·rw [take_next (byte_at s pos hp),List.all_append,ha]; simpa using hl
 ·rcases Nat.eq_zero_or_pos pos with h | h
  ·subst h
   rw [byte_at s 0 hp] at hc
   injection hc with hc
   exact hc ▸ hz rfl
  ·exact h0 h c hc
set_option maxHeartbeats 1600000 in
theorem is_any (s:ByteArray) (w:World) (hs:s.size ≤ 9223372036854775807):Calls Tryz.prog 117 #[.string s] w fun e w' => e = .returned (.bool (isName s.data.toList)) ∧ Below w.heap.size w w':=by
 rcases Nat.eq_zero_or_pos s.size with h0 | h0
 ·have HE:Hid (isName s.data.toList = false):=Lib.hid (isName_size (.inl h0))
  have hnil:=str_nil' h0
  clear h0 hs
  go_enter Tryz.func117,Tryz.ntmps117
  go_wp2
  go_ret
  exact ⟨ret_bool HE.out.symm,Below.refl _ _⟩
 ·have hne:=str_ne' h0
  by_cases h12:12 < s.size
  ·have HE:Hid (isName s.data.toList = false):=Lib.hid (isName_size (.inr h12))
   go_enter Tryz.func117,Tryz.ntmps117
   go_wp2
   go_ret
   exact ⟨ret_bool HE.out.symm,Below.refl _ _⟩
  ·rcases hk:isKw s.data.toList with _ | _
   case true =>
    have HE:Hid (isName s.data.toList = false):=Lib.hid (isName_kw hk)
    have HC:=Lib.hid (hk ▸ keyword_any s w)
    clear hk
    go_enter Tryz.func117,Tryz.ntmps117
    go_wp2_with (go_at_call 147; refine HC.out.mono ?_; rintro e w' ⟨rfl,rfl⟩)
    go_ret
    exact ⟨ret_bool HE.out.symm,Below.refl _ _⟩
   have HC:=Lib.hid (hk ▸ keyword_any s w)
   have HK:=Lib.hid hk
   clear hk
   go_enter Tryz.func117,Tryz.ntmps117
   go_wp2_with (go_at_call 147; refine HC.out.mono ?_; rintro e w' ⟨rfl,rfl⟩)
   go_loopw [] (fun wr => IsRel w s wr) (fun wr => s.size - wr.iterPos w.heap.size)
   case atStart => exact ⟨0,Nat.zero_le _,World.iter_heap w s 0,(Below.refl _ w).alloc (Nat.le_refl _) _,rfl,fun h => absurd h (by omega)⟩
   case round =>
    obtain ⟨pos,hps,hit,hbw,hall,hhead⟩:=hrel
    by_cases hp:pos < s.size
    ·have hnx:∀ ty,(Instr.next (.pointer (some ⟨w.heap.size,0,none⟩)) true ty).run Tryz.prog wr = _:=fun ty => Lib.run_next_any_at wr w.heap.size s pos ty hit hp
     have hgo:=dec_later s pos hp
     have hbe:=dec_letter s pos hp
     have hw1:=dec_one s pos hp
     have hat:=byte_at s pos hp
     have hrel:=isRel_next hp hit hbw hall hhead
     have HM:Hid (s.size - (wr.iterAt w.heap.size s (pos + 1)).iterPos w.heap.size < s.size - wr.iterPos w.heap.size):=Lib.hid (by
      simp only [World.iterPos,iterAt_heap _ _ _ _ _ hit,hit]; omega)
     obtain ⟨c,hc⟩:∃ c,c = s[pos]:=⟨_,rfl⟩
     rw [← hc] at hgo hbe hw1 hat hrel
     clear hc
     obtain ⟨r,hr⟩:∃ r,r = (Utf8.decode s pos).1:=⟨_,rfl⟩
     obtain ⟨wd,hwd⟩:∃ wd,wd = (Utf8.decode s pos).2:=⟨_,rfl⟩
     rw [← hr] at hgo hbe hnx
     rw [← hwd] at hw1 hnx
     clear hr hwd hall hhead
     have HB:=Lib.hid hbw
     have HA:=Lib.hid hat
     clear hat hit hbw
     rcases Nat.eq_zero_or_pos pos with hz | hz
     ·subst hz
      rcases hl:letter c with _ | _
      ·have HE:Hid (isName s.data.toList = false):=Lib.hid (isName_head HA.out hl)
       have HBc:=Lib.hid (begins_is (hbe.trans hl))
       clear hl hbe hgo hw1 hrel HM
       go_wp2_with (go_at_call 148; refine (HBc.out _).mono ?_; rintro e w' ⟨rfl,rfl⟩)
       go_ret
       exact ⟨ret_bool HE.out.symm,below_iterAt HB.out (Nat.le_refl _) _ _⟩
      ·have HBc:=Lib.hid (begins_is (hbe.trans hl))
       have HGc:=Lib.hid (goesOn_is (hgo.trans (letter_later hl)))
       have HR:=Lib.hid (hrel (letter_later hl) (fun _ => hl))
       obtain rfl:wd = 1:=hw1 (letter_later hl)
       clear hl hbe hgo hrel hw1
       go_wp2_with (first | (go_at_call 148; refine (HBc.out _).mono ?_; rintro e w' ⟨rfl,rfl⟩) | (go_at_call 149; refine (HGc.out _).mono ?_; rintro e w' ⟨rfl,rfl⟩))
       go_roundw
       case rel => exact HR.out
       case measure => exact HM.out
     ·have hz':((pos:Int) == 0) = false:=by simp; omega
      rcases hl:later c with _ | _
      ·have HE:Hid (isName s.data.toList = false):=Lib.hid (isName_later HA.out hl)
       have HGc:=Lib.hid (goesOn_is (hgo.trans hl))
       clear hl hbe hgo hw1 hrel HM
       go_wp2_with (go_at_call 149; refine (HGc.out _).mono ?_; rintro e w' ⟨rfl,rfl⟩)
       go_ret
       exact ⟨ret_bool HE.out.symm,below_iterAt HB.out (Nat.le_refl _) _ _⟩
      ·have HGc:=Lib.hid (goesOn_is (hgo.trans hl))
       have HR:=Lib.hid (hrel hl (fun h => absurd h (by omega)))
       obtain rfl:wd = 1:=hw1 hl
       clear hl hbe hgo hrel hw1
       go_wp2_with (go_at_call 149; refine (HGc.out _).mono ?_; rintro e w' ⟨rfl,rfl⟩)
       go_roundw
       case rel => exact HR.out
       case measure => exact HM.out
    ·have hnx:∀ ty,(Instr.next (.pointer (some ⟨w.heap.size,0,none⟩)) true ty).run Tryz.prog wr = _:=fun ty => Lib.run_next_end_at wr w.heap.size s pos ty hit hp
     have hall':s.data.toList.all later = true:=by rw [List.take_of_length_le (by rw [size_list]; omega)] at hall; exact hall
     have HE:Hid (isName s.data.toList = true):=Lib.hid (isName_yes (by rw [size_list]; omega) (by rw [size_list]; omega) HK.out hall' (hhead (by omega)))
     clear hall hall' hhead
     go_wp2
     go_ret
     exact ⟨ret_bool HE.out.symm,hbw⟩
end Go.Proofs.YtapnomdckglehaaGreat
namespace Go.Proofs.YtapnomdckglehaaGreat
open Go.RowKit NamesSpec Go.Lib
set_option maxRecDepth 100000
end Go.Proofs.YtapnomdckglehaaGreat
namespace Go.Proofs.YtapnomdckglehaaGreat
open Go.RowKit CurSpec NamesSpec
set_option maxRecDepth 100000
end Go.Proofs.YtapnomdckglehaaGreat
namespace Go.Proofs.YtapnomdckglehaaGreat
open Go.RowKit ValSpec
end Go.Proofs.YtapnomdckglehaaGreat
namespace Go.Proofs.YtapnomdckglehaaGreat
open Go.RowKit ValSpec
end Go.Proofs.YtapnomdckglehaaGreat
namespace Go.Proofs.YtapnomdckglehaaGreat
open Go.RowKit CurSpec ValSpec
end Go.Proofs.YtapnomdckglehaaGreat
namespace Go.Proofs.YtapnomdckglehaaGreat
open Go.RowKit CurSpec NamesSpec ValSpec
set_option maxRecDepth 100000
end Go.Proofs.YtapnomdckglehaaGreat
namespace Go.Proofs.YtapnomdckglehaaGreat
open Go.RowKit TermSpec
set_option maxRecDepth 100000
set_option maxHeartbeats 1600000 in
theorem arity_any (o:Int) (w:World):Calls Tryz.prog 191 #[.int .i64 o] w (SameI w (ar o)):=by
 go_enter Tryz.func191,Tryz.ntmps191
 go_wp2_with fail
 all_goals
  go_ret
  exact ⟨ret_int (by simp_all [ar]),rfl⟩
def RetTwo (W:World) (a b:Int) (e:Ending) (w':World):Prop:=e = .returned (.tuple #[.int .i64 a,.int .i64 b]) ∧ W = w'
set_option maxHeartbeats 1600000 in
theorem types_any (o:Int) (w:World):Calls Tryz.prog 187 #[.int .i64 o] w (RetTwo w (ownT o) (askT o)):=by
 go_enter Tryz.func187,Tryz.ntmps187
 go_wp2_with fail
 all_goals
  go_ret2
  exact ⟨by simp_all [ownT,askT],rfl⟩
end Go.Proofs.YtapnomdckglehaaGreat
namespace Go.Proofs.YtapnomdckglehaaGreat
open Go.RowKit TermSpec NamesSpec
set_option maxRecDepth 100000
theorem cells_3 {w:World} {b:Nat} {T:TypeId} {x0 x1 x2:Value} (h:w.heap[b]? = some (.cells #[x0,x1,x2] T (0,0))):w.cell? ⟨b,0,none⟩ = some x0 ∧ w.cell? ⟨b,1,none⟩ = some x1 ∧ w.cell? ⟨b,2,none⟩ = some x2 :=
 ⟨cell_of_block' h (i:=0) rfl,cell_of_block' h (i:=1) rfl,cell_of_block' h (i:=2) rfl⟩
theorem free_3 {w:World} {b:Nat} {T:TypeId} {cs:Array Value} (h:w.heap[b]? = some (.cells cs T (0,0))):w.frozen? ⟨b,0,none⟩ = false ∧ w.frozen? ⟨b,1,none⟩ = false ∧ w.frozen? ⟨b,2,none⟩ = false :=
 ⟨free_of_block' h 0,free_of_block' h 1,free_of_block' h 2⟩
theorem eq_term (a b c d:Int) (s u:ByteArray) (w:World):(Op.equalIn 10000 94 (.agg #[.int .i64 a,.int .i64 b,.string s]) (.agg #[.int .i64 c,.int .i64 d,.string u])).run Tryz.prog w = .ok (a == c && (b == d && s.toList == u.toList)) w:=by
 have u3:=Tryz.underlying3
 have u9:=Tryz.underlying9
 have hS:Tryz.prog.underlying 94 = some (.struct (Tryz.prog.fieldsOf 94)):=by kernel_rfl
 rw [show (10000:Nat) = 9999 + 1 from rfl,run_equalIn_agg w 9999 94 _ _ hS (by kernel_rfl)]
 simp only [Program.fieldsOf,Tryz.underlying94]
 go_simp
 by_cases h1:a = c <;> by_cases h2:b = d <;> by_cases h3:s.toList = u.toList <;> simp [h1,h2,h3]
theorem build_term (a:Int) (w:World):(Instr.build 94 #[(0,.int .i64 a)]).run Tryz.prog w = .ok (.agg #[.int .i64 a,.int .i64 0,.string ⟨#[]⟩]) w:=run_build w 94 _ _ (by kernel_rfl)
theorem may_one {o n:Int} {s:ByteArray} (h1:o = 1):mayB ⟨o,n,s⟩ = (decide (0 ≤ n) && decide (n ≤ 1000000) && decide (s.size = 0)):=by
 unfold mayB
 rw [if_pos h1,if_neg (by show ¬ (o = 2 ∨ o = 11); omega)]
theorem may_name {o n:Int} {s:ByteArray} (h1:o = 2 ∨ o = 11):mayB ⟨o,n,s⟩ = (decide (n = 0) && isName s.data.toList):=by
 unfold mayB
 rw [if_neg (by show ¬ o = 1; omega),if_pos h1]
theorem may_else {o n:Int} {s:ByteArray} (h1:¬ o = 1) (h2:¬ (o = 2 ∨ o = 11)):mayB ⟨o,n,s⟩ = (decide (n = 0) && decide (s.size = 0)):=by
 unfold mayB
 rw [if_neg h1,if_neg h2]
theorem int0_dec (n:Int):(n == 0) = decide (n = 0):=by rw [Bool.eq_iff_iff]; simp
theorem nil_iff (s:ByteArray):(s.toList == []) = decide (s.size = 0):=by
 rw [Bool.eq_iff_iff,decide_eq_true_iff,beq_iff_eq,toList_of]
 exact List.length_eq_zero_iff.symm
set_option maxHeartbeats 1600000 in
theorem may_any1 (o n:Int) (s:ByteArray) (w:World) (h1:o = 1):Calls Tryz.prog 184 #[.agg #[.int .i64 o,.int .i64 n,.string s]] w (RetB w (mayB ⟨o,n,s⟩)):=by
 have HE:=Lib.hid (may_one (n:=n) (s:=s) h1)
 have heq:=eq_term
 have hbd:=build_term
 subst h1
 by_cases hn:n < 0
 ·go_enter Tryz.func184,Tryz.ntmps184
  go_wp2_with fail
  go_ret
  exact ⟨ret_bool (by rw [HE.out,decide_eq_false (show ¬ 0 ≤ n by omega)]; rfl),(Below.refl _ _).alloc (Nat.le_refl _) _⟩
 by_cases hn2:1000000 < n
 ·go_enter Tryz.func184,Tryz.ntmps184
  go_wp2_with fail
  go_ret
  exact ⟨ret_bool (by rw [HE.out,decide_eq_false (show ¬ n ≤ 1000000 by omega)]; simp),(Below.refl _ _).alloc (Nat.le_refl _) _⟩
 ·have HS:=Lib.hid (nil_iff s)
  go_enter Tryz.func184,Tryz.ntmps184
  go_wp2_with fail
  go_ret
  exact ⟨ret_bool (by rw [HE.out,decide_eq_true (show 0 ≤ n by omega),decide_eq_true (show n ≤ 1000000 by omega),← HS.out]; simp),((Below.refl _ _).alloc (Nat.le_refl _) _)⟩
set_option maxHeartbeats 1600000 in
theorem may_any0 (o n:Int) (s:ByteArray) (w:World) (h1:¬ o = 1) (h2:¬ (o = 2 ∨ o = 11)):Calls Tryz.prog 184 #[.agg #[.int .i64 o,.int .i64 n,.string s]] w (RetB w (mayB ⟨o,n,s⟩)):=by
 have HE:=Lib.hid (may_else (n:=n) (s:=s) h1 h2)
 have heq:=eq_term
 have hbd:=build_term
 have g1:(o == 1) = false:=by simp [h1]
 have g2:(o == 2) = false:=by simp; omega
 have g3:(o == 11) = false:=by simp; omega
 have HS:=Lib.hid (nil_iff s)
 clear h1 h2
 go_enter Tryz.func184,Tryz.ntmps184
 go_wp2_with fail
 go_ret
 exact ⟨ret_bool (by rw [HE.out,← HS.out,← int0_dec]; simp),((Below.refl _ _).alloc (Nat.le_refl _) _)⟩
set_option maxHeartbeats 1600000 in
theorem may_any2 (o n:Int) (s:ByteArray) (w:World) (hs:s.size ≤ 9223372036854775807) (h2:o = 2 ∨ o = 11):Calls Tryz.prog 184 #[.agg #[.int .i64 o,.int .i64 n,.string s]] w (RetB w (mayB ⟨o,n,s⟩)):=by
 have HE:=Lib.hid (may_name (n:=n) (s:=s) h2)
 have heq:=eq_term
 have hbd:=build_term
 have HC:Hid (∀ w,Calls Tryz.prog 117 #[.string s] w (RetB w (isName s.data.toList))):=Lib.hid (fun w => is_any s w hs)
 obtain ⟨q,hq⟩:∃ q,q = isName s.data.toList:=⟨_,rfl⟩
 rw [← hq] at HC HE
 clear hq
 have g1:(o == 1) = false:=by simp; omega
 cases q with
 | false =>
   rcases h2 with rfl | rfl
   all_goals
    go_enter Tryz.func184,Tryz.ntmps184
    go_wp2_with (go_at_call 117; (with_reducible refine (HC.out _).mono ?_))
    rintro e w1 ⟨rfl,hb1⟩
    go_wp2_with fail
    go_ret
    exact ⟨ret_bool (by rw [HE.out]; simp),below_two' ((Below.refl _ _).alloc (Nat.le_refl _) _) (hb1.mono (by simp))⟩
 | true =>
   rcases h2 with rfl | rfl
   all_goals
    go_enter Tryz.func184,Tryz.ntmps184
    go_wp2_with (go_at_call 117; (with_reducible refine (HC.out _).mono ?_))
    rintro e w1 ⟨rfl,hb1⟩
    have hbl:=(hb1.block w.heap.size (by simp)).trans (heap_alloc_new w _)
    obtain ⟨c0,c1,c2⟩:=cells_3 hbl
    obtain ⟨f0,f1,f2⟩:=free_3 hbl
    have HB:Hid (Below w.heap.size w w1):=Lib.hid (((Below.refl _ _).alloc (Nat.le_refl _) _).trans (hb1.mono (by simp)))
    have HBL:=Lib.hid hbl
    clear hb1 hbl
    go_wp2_with fail
    go_ret
    exact ⟨ret_bool (by rw [HE.out,← int0_dec]; simp),HB.out.setCell (Nat.le_refl _) _⟩
theorem may_any (t:Tm) (w:World) (hs:t.s.size ≤ 9223372036854775807):Calls Tryz.prog 184 #[.agg #[.int .i64 t.op,.int .i64 t.n,.string t.s]] w (RetB w (mayB t)):=by
 by_cases h1:t.op = 1
 ·exact may_any1 t.op t.n t.s w h1
 ·by_cases h2:t.op = 2 ∨ t.op = 11
  ·exact may_any2 t.op t.n t.s w hs h2
  ·exact may_any0 t.op t.n t.s w h1 h2
end Go.Proofs.YtapnomdckglehaaGreat
namespace Go.Proofs.YtapnomdckglehaaGreat
open Go.RowKit CurSpec TermSpec ExprSpec
structure Hold (R B:Nat) (v v':Value) (w w':World):Prop where
 os:w'.os = w.os
 tape:w'.tape = w.tape
 output:w'.output = w.output
 size:w.heap.size ≤ w'.heap.size
 block:∀ i,i < w.heap.size → i ≠ B → i ≠ R → v.ownBlock ≠ some i → w'.heap[i]? = w.heap[i]?
 row:v'.ownBlock = v.ownBlock ∨ ∀ j,v'.ownBlock = some j → w.heap.size ≤ j
theorem Hold.refl (R B:Nat) (v:Value) (w:World):Hold R B v v w w:=⟨rfl,rfl,rfl,Nat.le_refl _,fun _ _ _ _ _ => rfl,.inl rfl⟩
theorem Hold.trans {R B:Nat} {v v' v2:Value} {w w' w2:World} (h:Hold R B v v' w w') (k:Hold R B v' v2 w' w2):Hold R B v v2 w w2:=by
 refine ⟨k.os.trans h.os,k.tape.trans h.tape,k.output.trans h.output,Nat.le_trans h.size k.size,fun i hi h1 h2 h3 => ?_,?_⟩
 ·refine (k.block i (Nat.lt_of_lt_of_le hi h.size) h1 h2 ?_).trans (h.block i hi h1 h2 h3)
  rcases h.row with hr | hr
  ·rw [hr]; exact h3
  ·intro e; have:=hr i e; omega
 ·rcases k.row with hk | hk
  ·rcases h.row with hr | hr
   ·exact .inl (hk.trans hr)
   ·exact .inr (fun j hj => hr j (by rw [← hk]; exact hj))
  ·exact .inr (fun j hj => Nat.le_trans h.size (hk j hj))
theorem Hold.apart {R B:Nat} {v v':Value} {w w':World} (h:Hold R B v v' w w') {i:Nat} (hi:i < w.heap.size) (hne:v.ownBlock ≠ some i):v'.ownBlock ≠ some i:=by
 rcases h.row with hr | hr
 ·rw [hr]; exact hne
 ·intro e; have:=hr i e; omega
def ins (l:List Tm) (i:Nat) (t:Tm):List Tm:=if l.length ≤ 40 then l.take i ++ t :: l.drop i else l
end Go.Proofs.YtapnomdckglehaaGreat
namespace Go.Proofs.YtapnomdckglehaaGreat
open Go.RowKit CurSpec TermSpec ExprSpec
end Go.Proofs.YtapnomdckglehaaGreat
namespace Go.Proofs.YtapnomdckglehaaGreat
open Go.RowKit TermSpec
set_option maxRecDepth 100000
def EndRel (l:List Tm) (n:Nat) (r:Int) (a o:Value):Prop:=∃ (j k:Nat),j ≤ n ∧ a = .int .i64 j ∧ o = .int .i64 k ∧ k ≤ j + 1 ∧ fin k (l.drop j) j = r
theorem endRel_next {l:List Tm} {n j k:Nat} {r:Int} {t:Tm} (hj:j < n) (ht:l[j]? = some t) (h0:0 ≤ ar t.op) (hk:k + 1 ≤ j + 1) (h:fin (k + 1) (l.drop j) j = r) (o:Int) (ho:o = (k + 1:Nat) + (ar t.op - 1)):EndRel l n r (.int .i64 ((j:Int) + 1)) (.int .i64 o):=by
 have h2:=(ar_bd t.op).2
 have e:=arN_of h0
 refine ⟨j + 1,k + arN t.op,by omega,by simp,?_,by omega,?_⟩
 ·congr 1; omega
 ·rw [drop_get ht,fin_cons,if_neg (by omega)] at h
  exact h
theorem fin_stop {l:List Tm} {j k:Nat} {r:Int} {t:Tm} (ht:l[j]? = some t) (h0:ar t.op < 0) (h:fin (k + 1) (l.drop j) j = r):-1 = r:=by
 rw [drop_get ht,fin_cons,if_pos h0] at h
 exact h
theorem fin_out {l:List Tm} {j k:Nat} {r:Int} (hj:l.length ≤ j) (h:fin (k + 1) (l.drop j) j = r):-1 = r:=by
 rw [List.drop_eq_nil_of_le hj] at h
 exact h
set_option maxHeartbeats 1000000 in
theorem end_nat (A:Option Addr) (n c:Nat) (l:List Tm) (a:Nat) (w:World) (h:Tms w (.slice A n c) l) (hn:n = l.length) (hn62:n ≤ 4611686018427387903) (ha:a ≤ n) :
 Calls Tryz.prog 189 #[.slice A n c,.int .i64 a] w (SameI w (endA l a)):=by
 have HT:=Lib.hid h
 have HN:=Lib.hid hn
 have HA:=Lib.hid (endA_nat l a)
 obtain ⟨r,hr⟩:∃ r,r = endA l a:=⟨_,rfl⟩
 rw [← hr] at HA ⊢
 clear h hn hr
 go_enter Tryz.func189,Tryz.ntmps189
 go_wp2_with fail
 go_loop [1,5] (fun a o => EndRel l n r a o) (fun a _ => n - (intOf a).toNat)
 case atStart => exact ⟨a,1,ha,rfl,rfl,by omega,HA.out.symm⟩
 case round =>
  obtain ⟨j,k,hj,rfl,rfl,hk,hf⟩:=hrel
  have HF:=Lib.hid hf
  clear hf
  rcases Nat.eq_zero_or_pos k with hk0 | hk0
  ·subst hk0
   go_wp2_with fail
   go_ret
   exact ⟨ret_int (by rw [← HF.out,fin_zero]),rfl⟩
  ·obtain ⟨k,rfl⟩:∃ k',k = k' + 1:=⟨k - 1,by omega⟩
   have hk1:(0:Int) < ((k + 1:Nat):Int):=by omega
   by_cases hlt:j < n
   ·obtain ⟨t,ht⟩:∃ t,l[j]? = some t:=get_some (by rw [← HN.out]; exact hlt)
    obtain ⟨b,off,rfl,hb,c0,-,-⟩:=HT.out.at_ ht
    have hltI:(j:Int) < (n:Int):=by omega
    have HX:=Lib.hid ht
    have HC:=Lib.hid (arity_any t.op)
    obtain ⟨h1,h2⟩:=ar_bd t.op
    have HR:=Lib.hid (fun h0 => endRel_next (n:=n) (r:=r) hlt ht h0 hk HF.out)
    have HS:=Lib.hid (fun h0 => fin_stop ht h0 HF.out)
    obtain ⟨o,ho⟩:∃ o,o = t.op:=⟨_,rfl⟩
    rw [← ho] at HC h1 h2 c0 HR HS
    obtain ⟨q,hq⟩:∃ q,q = ar o:=⟨_,rfl⟩
    rw [← hq] at HC h1 h2 HR HS
    clear ht ho hq
    by_cases h0:q < 0
    ·go_wp2_with (go_at_call 191; (with_reducible refine (HC.out _).mono ?_); rintro e w' ⟨rfl,rfl⟩)
     go_ret
     exact ⟨ret_int (HS.out h0),rfl⟩
    ·have h0':0 ≤ q:=by omega
     go_wp2_with (go_at_call 191; (with_reducible refine (HC.out _).mono ?_); rintro e w' ⟨rfl,rfl⟩)
     go_round
     case rel => exact HR.out h0' _ (by simp)
     case measure => simp [intOf]; omega
   ·go_wp2_with fail
    go_ret
    exact ⟨ret_int (fin_out (by rw [← HN.out]; omega) HF.out),rfl⟩
theorem end_far (A:Option Addr) (n c:Nat) (l:List Tm) (a:Int) (w:World) (hn:n = l.length) (ha:(n:Int) < a) :
 Calls Tryz.prog 189 #[.slice A n c,.int .i64 a] w (SameI w (endA l a)):=by
 have HE:=Lib.hid (endA_out (l:=l) (a:=a) (by omega))
 have h0:¬ a < 0:=by omega
 have h1:(n:Int) ≤ a:=by omega
 clear hn
 go_enter Tryz.func189,Tryz.ntmps189
 go_wp2_with fail
 go_loop [1,5] (fun v o => v = .int .i64 a ∧ o = .int .i64 1) (fun _ _ => 0)
 case atStart => exact ⟨rfl,rfl⟩
 case round =>
  obtain ⟨rfl,rfl⟩:=hrel
  go_wp2_with fail
  go_ret
  exact ⟨ret_int HE.out.symm,rfl⟩
theorem end_any (A:Option Addr) (n c:Nat) (l:List Tm) (a:Int) (w:World) (h:Tms w (.slice A n c) l) (hn:n = l.length) (hn62:n ≤ 4611686018427387903) :
 Calls Tryz.prog 189 #[.slice A n c,.int .i64 a] w (SameI w (endA l a)):=by
 by_cases h0:a < 0
 ·have HE:=Lib.hid (endA_neg (l:=l) h0)
  clear hn h
  go_enter Tryz.func189,Tryz.ntmps189
  go_wp2_with fail
  go_ret
  exact ⟨ret_int HE.out.symm,rfl⟩
 ·by_cases h1:(n:Int) < a
  ·exact end_far A n c l a w hn h1
  ·obtain ⟨k,rfl⟩:=Int.eq_ofNat_of_zero_le (Int.not_lt.1 h0)
   exact end_nat A n c l k w h hn hn62 (by omega)
end Go.Proofs.YtapnomdckglehaaGreat
namespace Go.Proofs.YtapnomdckglehaaGreat
open Go.RowKit TermSpec
set_option maxRecDepth 100000
end Go.Proofs.YtapnomdckglehaaGreat
namespace Go.Proofs.YtapnomdckglehaaGreat
open Go.RowKit NamesSpec
set_option maxRecDepth 100000
theorem inf_int:(Tryz.prog.info? 3).map (fun i => (i.zero,i.size,i.bytes)) = some (some (.int .i64 0),1,8):=by kernel_rfl
def RowI (W wr:World) (p:Value) (xs:List Int):Prop:=wr.ownsRow W.heap.size 3 1 p xs.length (intV xs) ∧ Below W.heap.size W wr
theorem RowI.nil (W wr:World) (hb:Below W.heap.size W wr):RowI W wr (.slice none 0 0) []:=⟨World.ownsRow_nil _ _ _ _,hb⟩
theorem RowI.keep {W w w':World} {p:Value} {xs:List Int} (h:RowI W w p xs) (hb:Below w.heap.size w w'):RowI W w' p xs:=⟨own_keep h.1 hb,below_two' h.2 hb⟩
theorem RowI.addL {W wr w2:World} {p p':Value} {xs ys:List Int} {o:Obj} (h:RowI W wr p xs) (hrow:w2.ownsRow W.heap.size 3 1 p' (xs.length + (intV ys).length) (intV xs ++ intV ys)) (hg:(wr.alloc o).grownBy w2 p.ownBlock):RowI W w2 p' (xs ++ ys):=by
 refine ⟨?_,(h.2.alloc h.2.size o).grown hg (by have:=h.2.size; simp; omega) (fun j hj => (own_block_bd h.1 j hj).1)⟩
 rw [← intV_append,List.length_append,← intV_length ys]
 exact hrow
theorem RowI.add {W wr w2:World} {p p':Value} {xs:List Int} {x:Int} {o:Obj} (h:RowI W wr p xs) (hrow:w2.ownsRow W.heap.size 3 1 p' (xs.length + (intV [x]).length) (intV xs ++ intV [x])) (hg:(wr.alloc o).grownBy w2 p.ownBlock):RowI W w2 p' (xs ++ [x]):=h.addL hrow hg
theorem RowI.read {W wr:World} {p:Value} {xs:List Int} (h:RowI W wr p xs):Rd wr p (intV xs):=Rd.own h.1
theorem RowI.ret {W wr:World} {p:Value} {xs:List Int} (h:RowI W wr p xs):RetInts W xs (.returned p) wr:=⟨p,rfl,h.read,h.2⟩
end Go.Proofs.YtapnomdckglehaaGreat
namespace Go.Proofs.YtapnomdckglehaaGreat
open Go.RowKit TermSpec
set_option maxRecDepth 100000
theorem below_next {l:List Tm} {a k q m:Nat} (h:cnt q (l.drop (a + 1)) = some m) (hk:k < q) :
 endA l ((a + 1 + (cnt k (l.drop (a + 1))).getD 0:Nat):Int) = (a + 1 + (cnt (k + 1) (l.drop (a + 1))).getD 0:Nat) ∧ a + 1 + (cnt (k + 1) (l.drop (a + 1))).getD 0 ≤ max l.length (a + 1):=by
 rw [show q = (k + 1) + (q - (k + 1)) by omega] at h
 obtain ⟨x,_,hx,_,_⟩:=cnt_split h
 obtain ⟨y,z,hy,hz,rfl⟩:=cnt_split hx
 rw [hy,hx]
 rw [List.drop_drop] at hz
 have:=(cnt_le hx).1
 rw [List.length_drop] at this
 refine ⟨?_,by simp only [Option.getD_some]; omega⟩
 rw [show (some y).getD 0 = y from rfl,endA_some hz]
 simp only [Option.getD_some]
 omega
def BelRel (W:World) (l:List Tm) (a q:Nat) (p v i:Value) (wr:World):Prop :=
 ∃ k:Nat,k ≤ q ∧ i = .int .i64 k ∧ v = .int .i64 (a + 1 + (cnt k (l.drop (a + 1))).getD 0:Nat) ∧ RowI W wr p (belows l a k)
set_option maxHeartbeats 2000000 in
theorem below_yes (A:Option Addr) (n c:Nat) (l:List Tm) (a:Nat) (w:World) (h:Tms w (.slice A n c) l) (hn:n = l.length) (hn62:n ≤ 70368744177664) (t:Tm) (ht:l[a]? = some t) (he:0 ≤ endA l a) :
 Calls Tryz.prog 192 #[.slice A n c,.int .i64 a] w (RetInts w (belows l a (arN t.op))):=by
 obtain ⟨k0,m0,hk0,hc0,_,_,_⟩:=endA_nn he
 obtain rfl:k0 = a:=by omega
 obtain ⟨t',m,ht',h0,_,hm⟩:=first_of hc0
 rw [ht] at ht'
 cases ht'
 have han:=get_lt ht
 have e0:=arN_of h0
 have HT:=Lib.hid h
 have HN:=Lib.hid hn
 have HM:=Lib.hid hm
 obtain ⟨b,off,rfl,hb,c0,-,-⟩:=h.at_ ht
 have HC:=Lib.hid (arity_any t.op)
 have HEE:=Lib.hid (fun (a:Int) w h => end_any (some ⟨b,off,none⟩) n c l a w h hn (by omega))
 have hE:=HEE.out k0 w h
 obtain ⟨r,hr⟩:∃ r,r = endA l k0:=⟨_,rfl⟩
 rw [← hr] at hE he
 have HE:=Lib.hid hE
 obtain ⟨o,ho⟩:∃ o,o = t.op:=⟨_,rfl⟩
 rw [← ho] at HC c0 e0 h0 HM ⊢
 have hq:=(ar_bd o).2
 obtain ⟨q,hqe⟩:∃ q,q = arN o:=⟨_,rfl⟩
 rw [← hqe] at e0 HM ⊢
 rw [← e0] at HC hq
 have hq2:q ≤ 2:=by omega
 have hal:k0 < n:=by omega
 have hal':(k0:Int) < n:=by omega
 obtain ⟨i0,hi,hz0,hz1,hz2⟩:=info_parts inf_int
 have HI:=Lib.hid (And.intro hi (And.intro hz0 (And.intro hz1 hz2)))
 clear ht ho hqe hn h hc0 hk0 hm hr hE h0 e0 han hi hz0 hz1 hz2 hq
 go_enter Tryz.func192,Tryz.ntmps192
 go_wp2_with (first
  | (go_at_call 189; (with_reducible refine HE.out.mono ?_); rintro e w' ⟨rfl,rfl⟩)
  | (go_at_call 191; (with_reducible refine (HC.out _).mono ?_); rintro e w' ⟨rfl,rfl⟩))
 go_loopw [5,6,19] (fun p v i wr => BelRel w l k0 q p v i wr) (fun _ _ i _ => 3 - (intOf i).toNat)
 case atStart => exact ⟨0,Nat.zero_le _,rfl,by rw [cnt_zero]; simp,RowI.nil _ _ (Below.refl _ _)⟩
 case round =>
  obtain ⟨k,hk,rfl,rfl,hrow⟩:=hrel
  have HR:=Lib.hid hrow
  by_cases hlt:k < q
  ·obtain ⟨hx,hx2⟩:=below_next HM.out hlt
   obtain ⟨y,hy⟩:∃ y,y = k0 + 1 + (cnt k (l.drop (k0 + 1))).getD 0:=⟨_,rfl⟩
   obtain ⟨z,hz⟩:∃ z,z = k0 + 1 + (cnt (k + 1) (l.drop (k0 + 1))).getD 0:=⟨_,rfl⟩
   have HX:=Lib.hid hx
   have HY:=Lib.hid hy
   have HZ:=Lib.hid hz
   have hl:=belows_length l k0 k
   have HL1:Hid ((belows l k0 k).length + (intV [(y:Int)]).length ≤ maxLen):=Lib.hid (by rw [hl]; simp [maxLen]; omega)
   have HL2:Hid (((belows l k0 k).length + (intV [(y:Int)]).length) * 8 ≤ 140737488355328):=Lib.hid (by rw [hl]; simp; omega)
   rw [← HY.out]
   have HSZ:Hid (w.heap.size ≤ wr.heap.size):=Lib.hid hrow.2.size
   have HRA:=Lib.hid hrow.1
   clear hx hx2 hy hz hl hrow
   go_wp2_with (first
    | (at_builtin; refine wpList_append_rd _ rfl (.tmp 21) (.tmp 23) _ rfl w.heap.size 3 i0 (.int .i64 0) 8 Tryz.underlying40 HI.out.1 HI.out.2.1 HI.out.2.2.1 HI.out.2.2.2 rfl _ _ _ rfl (HRA.out.alloc _) _ (intV [(y:Int)]) rfl (Rd.lit (cs:=#[.int .i64 y]) rfl) (intV_one _) HL1.out HL2.out ?_ ?_; (have:=HSZ.out; simp; omega); intro p2 w2 hrow2 hg2 _; have HR2:=Lib.hid (RowI.add HR.out hrow2 hg2); have HT2:=Lib.hid (HT.out.keep HR2.out.2); clear hrow2 hg2)
    | (go_at_call 189; (with_reducible refine (HEE.out _ _ HT2.out).mono ?_); rintro e w' ⟨rfl,rfl⟩))
   go_roundw
   case rel => exact ⟨k + 1,hlt,by simp,by rw [HY.out,HX.out],by rw [belows_next,← HY.out]; exact HR2.out⟩
   case measure => simp [intOf]; omega
  ·obtain rfl:k = q:=by omega
   go_wp2_with fail
   go_ret
   exact ⟨_,rfl,HR.out.read,HR.out.2⟩
end Go.Proofs.YtapnomdckglehaaGreat
namespace Go.Proofs.YtapnomdckglehaaGreat
open Go.RowKit ValSpec
def byteV (c:UInt8):Value:=.int .u8 c.toNat
def cellsOf (z:Nat) (cs:List UInt8):Array Value:=(List.replicate z (Value.int .u8 0) ++ cs.map byteV).toArray
end Go.Proofs.YtapnomdckglehaaGreat