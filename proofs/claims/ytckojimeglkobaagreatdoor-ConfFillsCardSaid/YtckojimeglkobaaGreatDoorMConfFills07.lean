/- NamesRefIs, CurRefName, ValGet, CurRefNum, CurCalls, TermArity, TermMay, ExprRdr, ExprSigns, TermEnd, TermRefEnd, joined. -/
import Derived.Test.YtckojimeglkobaaGreatDoorMConfFills06
import Derived.Deep.RegionHeld3
import Derived.Test.YtckojimeglkobaaGreatDoorMConfFills00
import Derived.Lib.Hide
import Derived.Test.YtckojimeglkobaaGreatDoorMConfFills01
import Derived.Laws.StructEq
import Derived.Laws.Rows
import Derived.Deep.RegionLaw
namespace Go.Proofs.YtckojimeglkobaaGreatDoor
open Go.RowKit NamesSpec Go.Lib
set_option maxRecDepth 100000
theorem letter_iff (c:UInt8):letter c = true ↔ 97 ≤ (c.toNat:Int) ∧ (c.toNat:Int) ≤ 122:=by
 simp [letter,UInt8.le_iff_toNat_le]; omega
theorem later_iff (c:UInt8):later c = true ↔ (97 ≤ (c.toNat:Int) ∧ (c.toNat:Int) ≤ 122) ∨ (48 ≤ (c.toNat:Int) ∧ (c.toNat:Int) ≤ 57) ∨ (c.toNat:Int) = 95:=by
 rw [later,Bool.or_eq_true,Bool.or_eq_true,letter_iff]
 simp [UInt8.le_iff_toNat_le,← UInt8.toNat_inj]; omega
theorem kw_place_is {s:ByteArray} {b:Bool} (h:isKw s.data.toList = b):decide (0 ≤ idxOfS kwS s) = b:=by rw [place_kw,h]
def RIsRel (s:ByteArray) (i:Value):Prop:=∃ k:Nat,k ≤ s.size ∧ i = .int .i64 k ∧ (s.data.toList.take k).all later = true ∧ (0 < k → ∀ c,s.data.toList[0]? = some c → letter c = true)
theorem risRel_next {s:ByteArray} {k:Nat} (hp:k < s.size) (ha:(s.data.toList.take k).all later = true) (h0:0 < k → ∀ c,s.data.toList[0]? = some c → letter c = true) (hl:later s[k] = true) (hz:k = 0 → letter s[k] = true):RIsRel s (.int .i64 (k + 1:Nat)):=by
 refine ⟨k + 1,by omega,rfl,?_,fun _ c hc => ?_⟩
 ·rw [take_next (byte_at s k hp),List.all_append,ha]; simpa using hl
 ·rcases Nat.eq_zero_or_pos k with h | h
  ·subst h
   rw [byte_at s 0 hp] at hc
   injection hc with hc
   exact hc ▸ hz rfl
  ·exact h0 h c hc
set_option maxHeartbeats 1600000 in
theorem ris_any (s:ByteArray) (w:World) (hs:s.size ≤ 9223372036854775807):Calls Tryz.prog 51 #[.string s] w fun e w' => e = .returned (.bool (isName s.data.toList)) ∧ Below w.heap.size w w':=by
 by_cases h0:s.size < 1
 ·have HE:Hid (isName s.data.toList = false):=Lib.hid (isName_size (.inl (by rw [size_list]; omega)))
  go_enter Tryz.func51,Tryz.ntmps51
  go_wp2
  go_ret
  exact ⟨ret_bool HE.out.symm,Below.refl _ _⟩
 by_cases h12:12 < s.size
 ·have HE:Hid (isName s.data.toList = false):=Lib.hid (isName_size (.inr h12))
  go_enter Tryz.func51,Tryz.ntmps51
  go_wp2
  go_ret
  exact ⟨ret_bool HE.out.symm,Below.refl _ _⟩
 rcases hk:isKw s.data.toList with _ | _
 case true =>
  have HE:Hid (isName s.data.toList = false):=Lib.hid (isName_kw hk)
  have hpl:=kw_place_is hk
  clear hk
  go_enter Tryz.func51,Tryz.ntmps51
  go_wp2_with (first
   | (go_at_call 71; refine (keywords_any _).mono ?_; rintro e w' ⟨v,rfl,hrd,hbw⟩)
   | (go_at_call 43; refine (rplace_any _ kwS s _ hrd (by decide)).mono ?_; rintro e w' ⟨rfl,rfl⟩))
  go_ret
  exact ⟨ret_bool HE.out.symm,hbw⟩
 have hpl:=kw_place_is hk
 have HK:=Lib.hid hk
 clear hk
 go_enter Tryz.func51,Tryz.ntmps51
 go_wp2_with (first
  | (go_at_call 71; refine (keywords_any _).mono ?_; rintro e w' ⟨v,rfl,hrd,hbw⟩)
  | (go_at_call 43; refine (rplace_any _ kwS s _ hrd (by decide)).mono ?_; rintro e w' ⟨rfl,rfl⟩))
 clear hrd hpl
 go_loop [3] (fun i => RIsRel s i) (fun i => s.size - (RowKit.intOf i).toNat)
 case atStart => exact ⟨0,Nat.zero_le _,rfl,rfl,fun h => absurd h (by omega)⟩
 case round =>
  obtain ⟨k,hks,rfl,hall,hhead⟩:=hrel
  by_cases hp:k < s.size
  ·have hrel:=risRel_next hp hall hhead
   have hat:=byte_at s k hp
   have hli:=letter_iff s[k]
   have hla:=later_iff s[k]
   have hub:(s[k].toNat:Int) ≤ 255:=by have:=s[k].toNat_lt; omega
   have hlb:0 ≤ (s[k].toNat:Int):=by omega
   by_cases hL:letter s[k] = true
   ·have HR:=Lib.hid (hrel (letter_later hL) (fun _ => hL))
    obtain ⟨g1,g2⟩:=hli.1 hL
    clear hrel hat hli hla hL hall hhead
    go_wp2
    go_round
    case rel => exact HR.out
    case measure => simp [RowKit.intOf]; omega
   ·rcases Nat.eq_zero_or_pos k with hz | hz
    ·subst hz
     have HE:Hid (isName s.data.toList = false):=Lib.hid (isName_head hat (by simpa using hL))
     have g:¬ (97 ≤ (s[0].toNat:Int) ∧ (s[0].toNat:Int) ≤ 122):=fun h => hL (hli.2 h)
     clear hrel hat hli hla hL hall hhead
     by_cases g1:97 ≤ (s[0].toNat:Int)
     ·have g2:122 < (s[0].toNat:Int):=by omega
      clear g
      go_wp2
      go_ret
      exact ⟨ret_bool HE.out.symm,hbw⟩
     ·clear g
      go_wp2
      go_ret
      exact ⟨ret_bool HE.out.symm,hbw⟩
    ·have hz':((k:Int) == 0) = false:=by simp; omega
     have g:¬ (97 ≤ (s[k].toNat:Int) ∧ (s[k].toNat:Int) ≤ 122):=fun h => hL (hli.2 h)
     by_cases hla':later s[k] = true
     ·have HR:=Lib.hid (hrel hla' (fun h => absurd h (by omega)))
      have g3:=hla.1 hla'
      clear hrel hat hli hla hL hall hhead hla'
      have g4:(48 ≤ (s[k].toNat:Int) ∧ (s[k].toNat:Int) ≤ 57) ∨ (s[k].toNat:Int) = 95:=by omega
      clear g3
      rcases g4 with ⟨g5,g6⟩ | g5
      ·have g1:¬ 97 ≤ (s[k].toNat:Int):=by omega
       have g7:((s[k].toNat:Int) != 95) = true:=by simp; omega
       clear g
       go_wp2
       go_round
       case rel => exact HR.out
       case measure => simp [RowKit.intOf]; omega
      ·have g1:¬ 97 ≤ (s[k].toNat:Int):=by omega
       have g7:((s[k].toNat:Int) != 95) = false:=by simp; omega
       clear g g5
       go_wp2
       go_round
       case rel => exact HR.out
       case measure => simp [RowKit.intOf]; omega
     ·have HE:Hid (isName s.data.toList = false):=Lib.hid (isName_later hat (by simpa using hla'))
      have g3:¬ ((48 ≤ (s[k].toNat:Int) ∧ (s[k].toNat:Int) ≤ 57) ∨ (s[k].toNat:Int) = 95):=fun h => hla' (hla.2 (.inr h))
      have g7:((s[k].toNat:Int) != 95) = true:=by simp; omega
      clear hrel hat hli hla hL hall hhead hla'
      by_cases g1:97 ≤ (s[k].toNat:Int)
      ·have g2:122 < (s[k].toNat:Int):=by omega
       have g6:¬ (s[k].toNat:Int) < 48:=by omega
       have g8:57 < (s[k].toNat:Int):=by have:¬ (s[k].toNat:Int) ≤ 122:=fun h => g ⟨g1,h⟩; omega
       clear g g3
       go_wp2
       go_ret
       exact ⟨ret_bool HE.out.symm,hbw⟩
      ·clear g
       by_cases g6:(s[k].toNat:Int) < 48
       ·clear g3
        go_wp2
        go_ret
        exact ⟨ret_bool HE.out.symm,hbw⟩
       ·have g8:57 < (s[k].toNat:Int):=by omega
        clear g3
        go_wp2
        go_ret
        exact ⟨ret_bool HE.out.symm,hbw⟩
  ·have hall':s.data.toList.all later = true:=by rw [List.take_of_length_le (by rw [size_list]; omega)] at hall; exact hall
   have HE:Hid (isName s.data.toList = true):=Lib.hid (isName_yes (by rw [size_list]; omega) (by rw [size_list]; omega) HK.out hall' (hhead (by omega)))
   clear hall hall' hhead
   go_wp2
   go_ret
   exact ⟨ret_bool HE.out.symm,hbw⟩
end Go.Proofs.YtckojimeglkobaaGreatDoor
namespace Go.Proofs.YtckojimeglkobaaGreatDoor
open Go.RowKit CurSpec NamesSpec
set_option maxRecDepth 100000
end Go.Proofs.YtckojimeglkobaaGreatDoor
namespace Go.Proofs.YtckojimeglkobaaGreatDoor
open Go.RowKit ValSpec
end Go.Proofs.YtckojimeglkobaaGreatDoor
namespace Go.Proofs.YtckojimeglkobaaGreatDoor
open Go.RowKit CurSpec ValSpec
end Go.Proofs.YtckojimeglkobaaGreatDoor
namespace Go.Proofs.YtckojimeglkobaaGreatDoor
open Go.RowKit CurSpec NamesSpec ValSpec
set_option maxRecDepth 100000
end Go.Proofs.YtckojimeglkobaaGreatDoor
namespace Go.Proofs.YtckojimeglkobaaGreatDoor
open Go.RowKit TermSpec
set_option maxRecDepth 100000
set_option maxHeartbeats 1600000 in
theorem arity_any (o:Int) (w:World):Calls Tryz.prog 199 #[.int .i64 o] w (SameI w (ar o)):=by
 go_enter Tryz.func199,Tryz.ntmps199
 go_wp2_with fail
 all_goals
  go_ret
  exact ⟨ret_int (by simp_all [ar]),rfl⟩
def RetTwo (W:World) (a b:Int) (e:Ending) (w':World):Prop:=e = .returned (.tuple #[.int .i64 a,.int .i64 b]) ∧ W = w'
set_option maxHeartbeats 1600000 in
theorem types_any (o:Int) (w:World):Calls Tryz.prog 181 #[.int .i64 o] w (RetTwo w (ownT o) (askT o)):=by
 go_enter Tryz.func181,Tryz.ntmps181
 go_wp2_with fail
 all_goals
  go_ret2
  exact ⟨by simp_all [ownT,askT],rfl⟩
theorem rarity_out (o:Int) (h:o < 1 ∨ 20 < o) (w:World):Calls Tryz.prog 132 #[.int .i64 o] w (RetI w (ar o)):=by
 have HE:=Lib.hid (ar_out h)
 by_cases h1:o < 1
 ·clear h
  go_enter Tryz.func132,Tryz.ntmps132
  go_wp2_with fail
  go_ret
  exact ⟨ret_int HE.out.symm,Below.refl _ _⟩
 ·have h2:20 < o:=by omega
  clear h
  go_enter Tryz.func132,Tryz.ntmps132
  go_wp2_with fail
  go_ret
  exact ⟨ret_int HE.out.symm,Below.refl _ _⟩
theorem arl_at (n:Nat) (h1:1 ≤ n) (h:n < 21):([Value.int .i64 0,Value.int .i64 0,Value.int .i64 0,Value.int .i64 1,Value.int .i64 2,Value.int .i64 2,Value.int .i64 2,Value.int .i64 2,Value.int .i64 2,Value.int .i64 0,Value.int .i64 0,Value.int .i64 0,Value.int .i64 1,Value.int .i64 2,Value.int .i64 2,Value.int .i64 2,Value.int .i64 2,Value.int .i64 2,Value.int .i64 2,Value.int .i64 2,Value.int .i64 2])[n] = .int .i64 (ar n):=by
 have:n = 1 ∨ n = 2 ∨ n = 3 ∨ n = 4 ∨ n = 5 ∨ n = 6 ∨ n = 7 ∨ n = 8 ∨ n = 9 ∨ n = 10 ∨ n = 11 ∨ n = 12 ∨ n = 13 ∨ n = 14 ∨ n = 15 ∨ n = 16 ∨ n = 17 ∨ n = 18 ∨ n = 19 ∨ n = 20:=by omega
 rcases this with rfl | rfl | rfl | rfl | rfl | rfl | rfl | rfl | rfl | rfl | rfl | rfl | rfl | rfl | rfl | rfl | rfl | rfl | rfl | rfl <;> rfl
set_option maxHeartbeats 800000 in
theorem rarity_in (n:Nat) (h1:1 ≤ n) (h:n ≤ 20) (w:World):Calls Tryz.prog 132 #[.int .i64 n] w (RetI w (ar n)):=by
 have h21:n < 21:=by omega
 have h21':(n:Int) < 21:=by omega
 have h20:¬ 20 < (n:Int):=by omega
 have HE:=Lib.hid (arl_at n h1 h21)
 go_enter Tryz.func132,Tryz.ntmps132
 go_wp2_with fail
 go_ret
 exact ⟨congrArg Ending.returned HE.out,(Below.refl _ _).alloc (Nat.le_refl _) _⟩
theorem rarity_any (o:Int) (w:World):Calls Tryz.prog 132 #[.int .i64 o] w (RetI w (ar o)):=by
 by_cases h:o < 1 ∨ 20 < o
 ·exact rarity_out o h w
 ·obtain ⟨n,rfl⟩:=Int.eq_ofNat_of_zero_le (show 0 ≤ o by omega)
  exact rarity_in n (by omega) (by omega) w
end Go.Proofs.YtckojimeglkobaaGreatDoor
namespace Go.Proofs.YtckojimeglkobaaGreatDoor
open Go.RowKit TermSpec NamesSpec
set_option maxRecDepth 100000
theorem cells_3 {w:World} {b:Nat} {T:TypeId} {x0 x1 x2:Value} (h:w.heap[b]? = some (.cells #[x0,x1,x2] T (0,0))):w.cell? ⟨b,0,none⟩ = some x0 ∧ w.cell? ⟨b,1,none⟩ = some x1 ∧ w.cell? ⟨b,2,none⟩ = some x2 :=
 ⟨cell_of_block' h (i:=0) rfl,cell_of_block' h (i:=1) rfl,cell_of_block' h (i:=2) rfl⟩
theorem free_3 {w:World} {b:Nat} {T:TypeId} {cs:Array Value} (h:w.heap[b]? = some (.cells cs T (0,0))):w.frozen? ⟨b,0,none⟩ = false ∧ w.frozen? ⟨b,1,none⟩ = false ∧ w.frozen? ⟨b,2,none⟩ = false :=
 ⟨free_of_block' h 0,free_of_block' h 1,free_of_block' h 2⟩
theorem eq_term (a b c d:Int) (s u:ByteArray) (w:World):(Op.equalIn 10000 100 (.agg #[.int .i64 a,.int .i64 b,.string s]) (.agg #[.int .i64 c,.int .i64 d,.string u])).run Tryz.prog w = .ok (a == c && (b == d && s.toList == u.toList)) w:=by
 have u3:=Tryz.underlying3
 have u9:=Tryz.underlying9
 have hS:Tryz.prog.underlying 100 = some (.struct (Tryz.prog.fieldsOf 100)):=by kernel_rfl
 rw [show (10000:Nat) = 9999 + 1 from rfl,run_equalIn_agg w 9999 100 _ _ hS (by kernel_rfl)]
 simp only [Program.fieldsOf,Tryz.underlying100]
 go_simp
 by_cases h1:a = c <;> by_cases h2:b = d <;> by_cases h3:s.toList = u.toList <;> simp [h1,h2,h3]
theorem build_term (a:Int) (w:World):(Instr.build 100 #[(0,.int .i64 a)]).run Tryz.prog w = .ok (.agg #[.int .i64 a,.int .i64 0,.string ⟨#[]⟩]) w:=run_build w 100 _ _ (by kernel_rfl)
theorem may_one {o n:Int} {s:ByteArray} (h1:o = 1):mayB ⟨o,n,s⟩ = (decide (0 ≤ n) && decide (n ≤ 1000000) && decide (s.size = 0)):=by
 unfold mayB
 rw [if_pos h1,if_neg (by show ¬ (o = 2 ∨ o = 11); omega)]
theorem may_name {o n:Int} {s:ByteArray} (h1:o = 2 ∨ o = 11):mayB ⟨o,n,s⟩ = (decide (n = 0) && isName s.data.toList):=by
 unfold mayB
 rw [if_neg (by show ¬ o = 1; omega),if_pos h1]
theorem may_else {o n:Int} {s:ByteArray} (h1:¬ o = 1) (h2:¬ (o = 2 ∨ o = 11)):mayB ⟨o,n,s⟩ = (decide (n = 0) && decide (s.size = 0)):=by
 unfold mayB
 rw [if_neg h1,if_neg h2]
theorem int0_dec (n:Int):(n == 0) = decide (n = 0):=by rw [Bool.eq_iff_iff]; simp
theorem size_dec (s:ByteArray):((s.size:Int) == 0) = decide (s.size = 0):=by rw [Bool.eq_iff_iff,decide_eq_true_iff,beq_iff_eq]; omega
theorem nil_iff (s:ByteArray):(s.toList == []) = decide (s.size = 0):=by
 rw [Bool.eq_iff_iff,decide_eq_true_iff,beq_iff_eq,toList_of]
 exact List.length_eq_zero_iff.symm
set_option maxHeartbeats 1600000 in
theorem may_any1 (o n:Int) (s:ByteArray) (w:World) (h1:o = 1):Calls Tryz.prog 178 #[.agg #[.int .i64 o,.int .i64 n,.string s]] w (RetB w (mayB ⟨o,n,s⟩)):=by
 have HE:=Lib.hid (may_one (n:=n) (s:=s) h1)
 have heq:=eq_term
 have hbd:=build_term
 subst h1
 by_cases hn:n < 0
 ·go_enter Tryz.func178,Tryz.ntmps178
  go_wp2_with fail
  go_ret
  exact ⟨ret_bool (by rw [HE.out,decide_eq_false (show ¬ 0 ≤ n by omega)]; rfl),(Below.refl _ _).alloc (Nat.le_refl _) _⟩
 by_cases hn2:1000000 < n
 ·go_enter Tryz.func178,Tryz.ntmps178
  go_wp2_with fail
  go_ret
  exact ⟨ret_bool (by rw [HE.out,decide_eq_false (show ¬ n ≤ 1000000 by omega)]; simp),(Below.refl _ _).alloc (Nat.le_refl _) _⟩
 ·have HS:=Lib.hid (nil_iff s)
  go_enter Tryz.func178,Tryz.ntmps178
  go_wp2_with fail
  go_ret
  exact ⟨ret_bool (by rw [HE.out,decide_eq_true (show 0 ≤ n by omega),decide_eq_true (show n ≤ 1000000 by omega),← HS.out]; simp),((Below.refl _ _).alloc (Nat.le_refl _) _)⟩
set_option maxHeartbeats 1600000 in
theorem may_any0 (o n:Int) (s:ByteArray) (w:World) (h1:¬ o = 1) (h2:¬ (o = 2 ∨ o = 11)):Calls Tryz.prog 178 #[.agg #[.int .i64 o,.int .i64 n,.string s]] w (RetB w (mayB ⟨o,n,s⟩)):=by
 have HE:=Lib.hid (may_else (n:=n) (s:=s) h1 h2)
 have heq:=eq_term
 have hbd:=build_term
 have g1:(o == 1) = false:=by simp [h1]
 have g2:(o == 2) = false:=by simp; omega
 have g3:(o == 11) = false:=by simp; omega
 have HS:=Lib.hid (nil_iff s)
 clear h1 h2
 go_enter Tryz.func178,Tryz.ntmps178
 go_wp2_with fail
 go_ret
 exact ⟨ret_bool (by rw [HE.out,← HS.out,← int0_dec]; simp),((Below.refl _ _).alloc (Nat.le_refl _) _)⟩
set_option maxHeartbeats 1600000 in
theorem may_any2 (o n:Int) (s:ByteArray) (w:World) (hs:s.size ≤ 9223372036854775807) (h2:o = 2 ∨ o = 11):Calls Tryz.prog 178 #[.agg #[.int .i64 o,.int .i64 n,.string s]] w (RetB w (mayB ⟨o,n,s⟩)):=by
 have HE:=Lib.hid (may_name (n:=n) (s:=s) h2)
 have heq:=eq_term
 have hbd:=build_term
 have HC:Hid (∀ w,Calls Tryz.prog 102 #[.string s] w (RetB w (isName s.data.toList))):=Lib.hid (fun w => is_any s w hs)
 obtain ⟨q,hq⟩:∃ q,q = isName s.data.toList:=⟨_,rfl⟩
 rw [← hq] at HC HE
 clear hq
 have g1:(o == 1) = false:=by simp; omega
 cases q with
 | false =>
   rcases h2 with rfl | rfl
   all_goals
    go_enter Tryz.func178,Tryz.ntmps178
    go_wp2_with (go_at_call 102; (with_reducible refine (HC.out _).mono ?_))
    rintro e w1 ⟨rfl,hb1⟩
    go_wp2_with fail
    go_ret
    exact ⟨ret_bool (by rw [HE.out]; simp),below_two' ((Below.refl _ _).alloc (Nat.le_refl _) _) (hb1.mono (by simp))⟩
 | true =>
   rcases h2 with rfl | rfl
   all_goals
    go_enter Tryz.func178,Tryz.ntmps178
    go_wp2_with (go_at_call 102; (with_reducible refine (HC.out _).mono ?_))
    rintro e w1 ⟨rfl,hb1⟩
    have hbl:=(hb1.block w.heap.size (by simp)).trans (heap_alloc_new w _)
    obtain ⟨c0,c1,c2⟩:=cells_3 hbl
    obtain ⟨f0,f1,f2⟩:=free_3 hbl
    have HB:Hid (Below w.heap.size w w1):=Lib.hid (((Below.refl _ _).alloc (Nat.le_refl _) _).trans (hb1.mono (by simp)))
    have HBL:=Lib.hid hbl
    clear hb1 hbl
    go_wp2_with fail
    go_ret
    exact ⟨ret_bool (by rw [HE.out,← int0_dec]; simp),HB.out.setCell (Nat.le_refl _) _⟩
theorem may_any (t:Tm) (w:World) (hs:t.s.size ≤ 9223372036854775807):Calls Tryz.prog 178 #[.agg #[.int .i64 t.op,.int .i64 t.n,.string t.s]] w (RetB w (mayB t)):=by
 by_cases h1:t.op = 1
 ·exact may_any1 t.op t.n t.s w h1
 ·by_cases h2:t.op = 2 ∨ t.op = 11
  ·exact may_any2 t.op t.n t.s w hs h2
  ·exact may_any0 t.op t.n t.s w h1 h2
set_option maxHeartbeats 1600000 in
theorem rmay_any1 (n:Int) (s:ByteArray) (w:World) (_hs:s.size ≤ 9223372036854775807):Calls Tryz.prog 97 #[.agg #[.int .i64 1,.int .i64 n,.string s]] w (RetB w (mayB ⟨1,n,s⟩)):=by
 have HE:=Lib.hid (may_one (n:=n) (s:=s) (o:=1) rfl)
 by_cases hn:n < 0
 ·go_enter Tryz.func97,Tryz.ntmps97
  go_wp2_with fail
  go_ret
  exact ⟨ret_bool (by rw [HE.out,decide_eq_false (show ¬ 0 ≤ n by omega)]; rfl),(Below.refl _ _).alloc (Nat.le_refl _) _⟩
 by_cases hn2:1000000 < n
 ·go_enter Tryz.func97,Tryz.ntmps97
  go_wp2_with fail
  go_ret
  exact ⟨ret_bool (by rw [HE.out,decide_eq_false (show ¬ n ≤ 1000000 by omega)]; simp),(Below.refl _ _).alloc (Nat.le_refl _) _⟩
 ·go_enter Tryz.func97,Tryz.ntmps97
  go_wp2_with fail
  go_ret
  exact ⟨ret_bool (by rw [HE.out,decide_eq_true (show 0 ≤ n by omega),decide_eq_true (show n ≤ 1000000 by omega),← size_dec]; rfl),((Below.refl _ _).alloc (Nat.le_refl _) _)⟩
set_option maxHeartbeats 1600000 in
theorem rmay_n (o n:Int) (s:ByteArray) (w:World) (h0:1 ≤ o) (h20:o ≤ 20) (h1:¬ o = 1) (hn:¬ n = 0):Calls Tryz.prog 97 #[.agg #[.int .i64 o,.int .i64 n,.string s]] w (RetB w (mayB ⟨o,n,s⟩)):=by
 have HE:Hid (mayB ⟨o,n,s⟩ = false):=Lib.hid (by unfold mayB; rw [if_neg h1,decide_eq_false hn]; rfl)
 have g1:(o != 1) = true:=by simp [h1]
 have g2:(n != 0) = true:=by simp [hn]
 go_enter Tryz.func97,Tryz.ntmps97
 go_wp2_with fail
 go_ret
 exact ⟨ret_bool HE.out.symm,(Below.refl _ _).alloc (Nat.le_refl _) _⟩
set_option maxHeartbeats 1600000 in
theorem rmay_0 (o:Int) (s:ByteArray) (w:World) (h0:1 ≤ o) (h20:o ≤ 20) (h1:¬ o = 1) (h2:¬ (o = 2 ∨ o = 11)) (_hs:s.size ≤ 9223372036854775807):Calls Tryz.prog 97 #[.agg #[.int .i64 o,.int .i64 0,.string s]] w (RetB w (mayB ⟨o,0,s⟩)):=by
 have HE:=Lib.hid (may_else (n:=0) (s:=s) h1 h2)
 have g1:(o != 1) = true:=by simp [h1]
 have g2:(o == 2) = false:=by simp; omega
 have g3:(o == 11) = false:=by simp; omega
 clear h2
 go_enter Tryz.func97,Tryz.ntmps97
 go_wp2_with fail
 go_ret
 exact ⟨ret_bool (by rw [HE.out,← size_dec]; rfl),(Below.refl _ _).alloc (Nat.le_refl _) _⟩
set_option maxHeartbeats 1600000 in
theorem rmay_2 (o:Int) (s:ByteArray) (w:World) (h2:o = 2 ∨ o = 11) (hs:s.size ≤ 9223372036854775807):Calls Tryz.prog 97 #[.agg #[.int .i64 o,.int .i64 0,.string s]] w (RetB w (mayB ⟨o,0,s⟩)):=by
 have HE:=Lib.hid (may_name (n:=0) (s:=s) h2)
 have HC:Hid (∀ w,Calls Tryz.prog 51 #[.string s] w (RetB w (isName s.data.toList))):=Lib.hid (fun w => ris_any s w hs)
 rcases h2 with rfl | rfl
 all_goals
  go_enter Tryz.func97,Tryz.ntmps97
  go_wp2_with (go_at_call 51; (with_reducible refine (HC.out _).mono ?_))
  rintro e w1 ⟨rfl,hb1⟩
  go_wp2_with fail
  go_ret
  exact ⟨ret_bool (by rw [HE.out]; simp),below_two' ((Below.refl _ _).alloc (Nat.le_refl _) _) (hb1.mono (by simp))⟩
theorem rmay_any (t:Tm) (w:World) (hs:t.s.size ≤ 9223372036854775807) (h0:0 ≤ ar t.op):Calls Tryz.prog 97 #[.agg #[.int .i64 t.op,.int .i64 t.n,.string t.s]] w (RetB w (mayB t)):=by
 obtain ⟨h1,h20⟩:=ar_in.1 h0
 obtain ⟨o,n,s⟩:=t
 by_cases e1:o = 1
 ·subst e1
  exact rmay_any1 n s w hs
 ·by_cases en:n = 0
  ·subst en
   by_cases h2:o = 2 ∨ o = 11
   ·exact rmay_2 o s w h2 hs
   ·exact rmay_0 o s w h1 h20 e1 h2 hs
  ·exact rmay_n o n s w h1 h20 e1 en
end Go.Proofs.YtckojimeglkobaaGreatDoor
namespace Go.Proofs.YtckojimeglkobaaGreatDoor
open Go.RowKit CurSpec TermSpec ExprSpec
structure Hold (R B:Nat) (v v':Value) (w w':World):Prop where
 os:w'.os = w.os
 tape:w'.tape = w.tape
 output:w'.output = w.output
 size:w.heap.size ≤ w'.heap.size
 block:∀ i,i < w.heap.size → i ≠ B → i ≠ R → v.ownBlock ≠ some i → w'.heap[i]? = w.heap[i]?
 row:v'.ownBlock = v.ownBlock ∨ ∀ j,v'.ownBlock = some j → w.heap.size ≤ j
theorem Hold.refl (R B:Nat) (v:Value) (w:World):Hold R B v v w w:=⟨rfl,rfl,rfl,Nat.le_refl _,fun _ _ _ _ _ => rfl,.inl rfl⟩
theorem Hold.trans {R B:Nat} {v v' v2:Value} {w w' w2:World} (h:Hold R B v v' w w') (k:Hold R B v' v2 w' w2):Hold R B v v2 w w2:=by
 refine ⟨k.os.trans h.os,k.tape.trans h.tape,k.output.trans h.output,Nat.le_trans h.size k.size,fun i hi h1 h2 h3 => ?_,?_⟩
 ·refine (k.block i (Nat.lt_of_lt_of_le hi h.size) h1 h2 ?_).trans (h.block i hi h1 h2 h3)
  rcases h.row with hr | hr
  ·rw [hr]; exact h3
  ·intro e; have:=hr i e; omega
 ·rcases k.row with hk | hk
  ·rcases h.row with hr | hr
   ·exact .inl (hk.trans hr)
   ·exact .inr (fun j hj => hr j (by rw [← hk]; exact hj))
  ·exact .inr (fun j hj => Nat.le_trans h.size (hk j hj))
theorem Hold.apart {R B:Nat} {v v':Value} {w w':World} (h:Hold R B v v' w w') {i:Nat} (hi:i < w.heap.size) (hne:v.ownBlock ≠ some i):v'.ownBlock ≠ some i:=by
 rcases h.row with hr | hr
 ·rw [hr]; exact hne
 ·intro e; have:=hr i e; omega
def ins (l:List Tm) (i:Nat) (t:Tm):List Tm:=if l.length ≤ 40 then l.take i ++ t :: l.drop i else l
end Go.Proofs.YtckojimeglkobaaGreatDoor
namespace Go.Proofs.YtckojimeglkobaaGreatDoor
open Go.RowKit CurSpec TermSpec ExprSpec
end Go.Proofs.YtckojimeglkobaaGreatDoor
namespace Go.Proofs.YtckojimeglkobaaGreatDoor
open Go.RowKit TermSpec
set_option maxRecDepth 100000
def EndRel (l:List Tm) (n:Nat) (r:Int) (a o:Value):Prop:=∃ (j k:Nat),j ≤ n ∧ a = .int .i64 j ∧ o = .int .i64 k ∧ k ≤ j + 1 ∧ fin k (l.drop j) j = r
theorem endRel_next {l:List Tm} {n j k:Nat} {r:Int} {t:Tm} (hj:j < n) (ht:l[j]? = some t) (h0:0 ≤ ar t.op) (hk:k + 1 ≤ j + 1) (h:fin (k + 1) (l.drop j) j = r) (o:Int) (ho:o = (k + 1:Nat) + (ar t.op - 1)):EndRel l n r (.int .i64 ((j:Int) + 1)) (.int .i64 o):=by
 have h2:=(ar_bd t.op).2
 have e:=arN_of h0
 refine ⟨j + 1,k + arN t.op,by omega,by simp,?_,by omega,?_⟩
 ·congr 1; omega
 ·rw [drop_get ht,fin_cons,if_neg (by omega)] at h
  exact h
theorem fin_stop {l:List Tm} {j k:Nat} {r:Int} {t:Tm} (ht:l[j]? = some t) (h0:ar t.op < 0) (h:fin (k + 1) (l.drop j) j = r):-1 = r:=by
 rw [drop_get ht,fin_cons,if_pos h0] at h
 exact h
theorem fin_out {l:List Tm} {j k:Nat} {r:Int} (hj:l.length ≤ j) (h:fin (k + 1) (l.drop j) j = r):-1 = r:=by
 rw [List.drop_eq_nil_of_le hj] at h
 exact h
set_option maxHeartbeats 1000000 in
theorem end_nat (A:Option Addr) (n c:Nat) (l:List Tm) (a:Nat) (w:World) (h:Tms w (.slice A n c) l) (hn:n = l.length) (hn62:n ≤ 4611686018427387903) (ha:a ≤ n) :
 Calls Tryz.prog 196 #[.slice A n c,.int .i64 a] w (SameI w (endA l a)):=by
 have HT:=Lib.hid h
 have HN:=Lib.hid hn
 have HA:=Lib.hid (endA_nat l a)
 obtain ⟨r,hr⟩:∃ r,r = endA l a:=⟨_,rfl⟩
 rw [← hr] at HA ⊢
 clear h hn hr
 go_enter Tryz.func196,Tryz.ntmps196
 go_wp2_with fail
 go_loop [1,5] (fun a o => EndRel l n r a o) (fun a _ => n - (intOf a).toNat)
 case atStart => exact ⟨a,1,ha,rfl,rfl,by omega,HA.out.symm⟩
 case round =>
  obtain ⟨j,k,hj,rfl,rfl,hk,hf⟩:=hrel
  have HF:=Lib.hid hf
  clear hf
  rcases Nat.eq_zero_or_pos k with hk0 | hk0
  ·subst hk0
   go_wp2_with fail
   go_ret
   exact ⟨ret_int (by rw [← HF.out,fin_zero]),rfl⟩
  ·obtain ⟨k,rfl⟩:∃ k',k = k' + 1:=⟨k - 1,by omega⟩
   have hk1:(0:Int) < ((k + 1:Nat):Int):=by omega
   by_cases hlt:j < n
   ·obtain ⟨t,ht⟩:∃ t,l[j]? = some t:=get_some (by rw [← HN.out]; exact hlt)
    obtain ⟨b,off,rfl,hb,c0,-,-⟩:=HT.out.at_ ht
    have hltI:(j:Int) < (n:Int):=by omega
    have HX:=Lib.hid ht
    have HC:=Lib.hid (arity_any t.op)
    obtain ⟨h1,h2⟩:=ar_bd t.op
    have HR:=Lib.hid (fun h0 => endRel_next (n:=n) (r:=r) hlt ht h0 hk HF.out)
    have HS:=Lib.hid (fun h0 => fin_stop ht h0 HF.out)
    obtain ⟨o,ho⟩:∃ o,o = t.op:=⟨_,rfl⟩
    rw [← ho] at HC h1 h2 c0 HR HS
    obtain ⟨q,hq⟩:∃ q,q = ar o:=⟨_,rfl⟩
    rw [← hq] at HC h1 h2 HR HS
    clear ht ho hq
    by_cases h0:q < 0
    ·go_wp2_with (go_at_call 199; (with_reducible refine (HC.out _).mono ?_); rintro e w' ⟨rfl,rfl⟩)
     go_ret
     exact ⟨ret_int (HS.out h0),rfl⟩
    ·have h0':0 ≤ q:=by omega
     go_wp2_with (go_at_call 199; (with_reducible refine (HC.out _).mono ?_); rintro e w' ⟨rfl,rfl⟩)
     go_round
     case rel => exact HR.out h0' _ (by simp)
     case measure => simp [intOf]; omega
   ·go_wp2_with fail
    go_ret
    exact ⟨ret_int (fin_out (by rw [← HN.out]; omega) HF.out),rfl⟩
theorem end_far (A:Option Addr) (n c:Nat) (l:List Tm) (a:Int) (w:World) (hn:n = l.length) (ha:(n:Int) < a) :
 Calls Tryz.prog 196 #[.slice A n c,.int .i64 a] w (SameI w (endA l a)):=by
 have HE:=Lib.hid (endA_out (l:=l) (a:=a) (by omega))
 have h0:¬ a < 0:=by omega
 have h1:(n:Int) ≤ a:=by omega
 clear hn
 go_enter Tryz.func196,Tryz.ntmps196
 go_wp2_with fail
 go_loop [1,5] (fun v o => v = .int .i64 a ∧ o = .int .i64 1) (fun _ _ => 0)
 case atStart => exact ⟨rfl,rfl⟩
 case round =>
  obtain ⟨rfl,rfl⟩:=hrel
  go_wp2_with fail
  go_ret
  exact ⟨ret_int HE.out.symm,rfl⟩
theorem end_any (A:Option Addr) (n c:Nat) (l:List Tm) (a:Int) (w:World) (h:Tms w (.slice A n c) l) (hn:n = l.length) (hn62:n ≤ 4611686018427387903) :
 Calls Tryz.prog 196 #[.slice A n c,.int .i64 a] w (SameI w (endA l a)):=by
 by_cases h0:a < 0
 ·have HE:=Lib.hid (endA_neg (l:=l) h0)
  clear hn h
  go_enter Tryz.func196,Tryz.ntmps196
  go_wp2_with fail
  go_ret
  exact ⟨ret_int HE.out.symm,rfl⟩
 ·by_cases h1:(n:Int) < a
  ·exact end_far A n c l a w hn h1
  ·obtain ⟨k,rfl⟩:=Int.eq_ofNat_of_zero_le (Int.not_lt.1 h0)
   exact end_nat A n c l k w h hn hn62 (by omega)
end Go.Proofs.YtckojimeglkobaaGreatDoor
namespace Go.Proofs.YtckojimeglkobaaGreatDoor
open Go.RowKit TermSpec
set_option maxRecDepth 100000
theorem rend_out (A:Option Addr) (n c:Nat) (l:List Tm) (a:Int) (w:World) (hn:n = l.length) (ha:a < 0 ∨ (n:Int) ≤ a) :
 Calls Tryz.prog 112 #[.slice A n c,.int .i64 a] w (RetI w (endA l a)):=by
 have HE:Hid (endA l a = -1):=Lib.hid (by rcases ha with h | h; exact endA_neg h; exact endA_out (by omega))
 clear hn
 by_cases h0:a < 0
 ·clear ha
  go_enter Tryz.func112,Tryz.ntmps112
  go_wp2_with fail
  go_ret
  exact ⟨ret_int HE.out.symm,Below.refl _ _⟩
 ·have h1:(n:Int) ≤ a:=by omega
  clear ha
  go_enter Tryz.func112,Tryz.ntmps112
  go_wp2_with fail
  go_ret
  exact ⟨ret_int HE.out.symm,Below.refl _ _⟩
def REndRel (W:World) (l:List Tm) (a:Nat) (q:Int) (v i:Value) (wr:World):Prop :=
 ∃ (k x:Nat),(k:Int) ≤ q ∧ i = .int .i64 k ∧ v = .int .i64 (a + 1 + x:Nat) ∧ cnt k (l.drop (a + 1)) = some x ∧ Below W.heap.size W wr
theorem rend_next {l:List Tm} {a k x:Nat} (hx:cnt k (l.drop (a + 1)) = some x) (h:0 ≤ endA l ((a + 1 + x:Nat):Int)):∃ x',endA l ((a + 1 + x:Nat):Int) = (a + 1 + x':Nat) ∧ cnt (k + 1) (l.drop (a + 1)) = some x':=by
 obtain ⟨p,m,hp,hc,he,hm,hl⟩:=endA_nn h
 obtain rfl:p = a + 1 + x:=by omega
 refine ⟨x + m,by rw [he]; omega,cnt_join hx (by rw [List.drop_drop]; exact hc)⟩
theorem rend_bad {l:List Tm} {a k x:Nat} {t:Tm} (ht:l[a]? = some t) (h0:0 ≤ ar t.op) (hk:(k:Int) < ar t.op) (hx:cnt k (l.drop (a + 1)) = some x) (h:endA l ((a + 1 + x:Nat):Int) < 0):endA l a = -1:=by
 have hc:cnt 1 ((l.drop (a + 1)).drop x) = none:=by
  rw [List.drop_drop]
  cases hc:cnt 1 (l.drop (a + 1 + x)) with
  | none => rfl
  | some m => rw [endA_some hc] at h; omega
 have e:=arN_of h0
 have:=cnt_none (cnt_stop hx hc) (arN t.op - (k + 1))
 rw [show k + 1 + (arN t.op - (k + 1)) = arN t.op by omega] at this
 rw [endA_at ht h0,fin_none this]
theorem rend_done {l:List Tm} {a k x:Nat} {t:Tm} (ht:l[a]? = some t) (h0:0 ≤ ar t.op) (hk:(k:Int) = ar t.op) (hx:cnt k (l.drop (a + 1)) = some x):endA l a = (a + 1 + x:Nat):=by
 have e:=arN_of h0
 obtain rfl:k = arN t.op:=by omega
 rw [endA_at ht h0,fin_some hx]
def RIH (A:Option Addr) (n c:Nat) (l:List Tm) (K:Nat):Prop:=∀ (a:Nat) (w:World),n ≤ a + K → Tms w (.slice A n c) l → Calls Tryz.prog 112 #[.slice A n c,.int .i64 a] w (RetI w (endA l a))
set_option maxHeartbeats 2000000 in
theorem rend_step (A:Option Addr) (n c:Nat) (l:List Tm) (K:Nat) (hn:n = l.length) (hn62:n ≤ 4611686018427387903) (ih:RIH A n c l K) (a:Nat) (w:World) (hK:n ≤ a + (K + 1)) (ha:a < n) (h:Tms w (.slice A n c) l) :
 Calls Tryz.prog 112 #[.slice A n c,.int .i64 a] w (RetI w (endA l a)):=by
 obtain ⟨t,ht⟩:∃ t,l[a]? = some t:=get_some (by omega)
 have HT:=Lib.hid h
 have HN:=Lib.hid hn
 have HIH:=Lib.hid ih
 have HX:=Lib.hid ht
 have haI:(a:Int) < (n:Int):=by omega
 obtain ⟨b,off,rfl,hb,c0,-,-⟩:=h.at_ ht
 have HCELL:=Lib.hid c0
 have HC:=Lib.hid (rarity_any t.op)
 obtain ⟨h1,h2⟩:=ar_bd t.op
 have HE:Hid (ar t.op < 0 → endA l a = -1):=Lib.hid (endA_bad ht)
 have HB:Hid (∀ k x:Nat,0 ≤ ar t.op → (k:Int) < ar t.op → cnt k (l.drop (a + 1)) = some x → endA l ((a + 1 + x:Nat):Int) < 0 → endA l a = -1):=Lib.hid (fun k x h0 hk hx h => rend_bad ht h0 hk hx h)
 have HD:Hid (∀ k x:Nat,0 ≤ ar t.op → (k:Int) = ar t.op → cnt k (l.drop (a + 1)) = some x → endA l a = (a + 1 + x:Nat)):=Lib.hid (fun k x h0 hk hx => rend_done ht h0 hk hx)
 obtain ⟨o,ho⟩:∃ o,o = t.op:=⟨_,rfl⟩
 rw [← ho] at HC h1 h2 c0 HCELL HE HB HD
 obtain ⟨q,hq⟩:∃ q,q = ar o:=⟨_,rfl⟩
 rw [← hq] at HC h1 h2 HE HB HD
 obtain ⟨r,hr⟩:∃ r,r = endA l a:=⟨_,rfl⟩
 rw [← hr] at HE HB HD ⊢
 clear ht ho hq hn ih h HX hr
 by_cases h0:q < 0
 ·go_enter Tryz.func112,Tryz.ntmps112
  go_wp2_with (go_at_call 132; (with_reducible refine (HC.out _).mono ?_))
  rintro e w1 ⟨rfl,hb1⟩
  go_wp2_with fail
  go_ret
  exact ⟨ret_int (HE.out h0).symm,hb1⟩
 ·have h0':0 ≤ q:=by omega
  clear HE
  have d1:decide ((a:Int) < 0) = false:=decide_eq_false (by omega)
  have d2:decide (n ≤ a) = false:=decide_eq_false (by omega)
  have d3:decide (q < 0) = false:=decide_eq_false h0
  go_enter Tryz.func112,Tryz.ntmps112
  go_wp2_with (go_at_call 132; (with_reducible refine (HC.out _).mono ?_))
  rintro e w1 ⟨rfl,hb1⟩
  have HB1:=Lib.hid hb1
  clear c0 hb1
  go_wp2_with fail
  go_loopw [5,6] (fun v i wr => REndRel w l a q v i wr) (fun _ i _ => 3 - (intOf i).toNat)
  case atStart => exact ⟨0,0,by simpa using h0',rfl,by simp,cnt_zero _,HB1.out⟩
  case round =>
   obtain ⟨k,x,hk,rfl,rfl,hx,hbw⟩:=hrel
   have HXc:=Lib.hid hx
   have HBW:=Lib.hid hbw
   have hle:=(cnt_le hx).1
   rw [List.length_drop,← HN.out] at hle
   have c0:wr.cell? ⟨b,off + a * 3,none⟩ = some (.int .i64 o):=(hbw.cell (by exact hb)).trans HCELL.out
   clear hx hbw
   go_wp2_with (go_at_call 132; (with_reducible refine (HC.out _).mono ?_))
   rintro e w2 ⟨rfl,hb2⟩
   have HB2:=Lib.hid (below_two' HBW.out hb2)
   clear hb2 c0
   by_cases hlt:(k:Int) < q
   ·have HI:=Lib.hid (HIH.out (a + 1 + x) w2 (by omega) (HT.out.keep HB2.out))
    obtain ⟨z,hz⟩:∃ z,z = endA l ((a + 1 + x:Nat):Int):=⟨_,rfl⟩
    have HZ:=Lib.hid hz
    rw [← hz] at HI
    obtain ⟨p,hp⟩:∃ p:Nat,p = a + 1 + x:=⟨_,rfl⟩
    rw [← hp] at HI
    have HP:=Lib.hid hp
    obtain ⟨v,hv⟩:∃ v,v = Value.int .i64 ((a + 1 + x:Nat):Int):=⟨_,rfl⟩
    clear hz
    rw [← HP.out] at hv ⊢
    clear hp hv
    go_wp2_with (go_at_call 112; (with_reducible refine (HI.out).mono ?_))
    rintro e w3 ⟨rfl,hb3⟩
    by_cases hz0:z < 0
    ·go_wp2_with fail
     go_ret
     exact ⟨ret_int (HB.out k x h0' hlt HXc.out (by rw [← HZ.out]; exact hz0)).symm,below_two' HB2.out hb3⟩
    ·go_wp2_with fail
     go_roundw
     case rel =>
      obtain ⟨x',hx',hc'⟩:=rend_next HXc.out (by rw [← HZ.out]; omega)
      exact ⟨k + 1,x',by omega,by simp,by rw [HZ.out,hx'],hc',below_two' HB2.out hb3⟩
     case measure => simp [intOf]; omega
   ·go_wp2_with fail
    go_ret
    exact ⟨ret_int (HD.out k x h0' (by omega) HXc.out).symm,HB2.out⟩
theorem rend_all (A:Option Addr) (n c:Nat) (l:List Tm) (hn:n = l.length) (hn62:n ≤ 4611686018427387903) (K:Nat):RIH A n c l K:=by
 induction K with
 | zero => exact fun a w h _ => rend_out A n c l a w hn (.inr (by omega))
 | succ K ih =>
   intro a w hK h
   by_cases ha:a < n
   ·exact rend_step A n c l K hn hn62 ih a w hK ha h
   ·exact rend_out A n c l a w hn (.inr (by omega))
theorem rend_any (A:Option Addr) (n c:Nat) (l:List Tm) (a:Int) (w:World) (h:Tms w (.slice A n c) l) (hn:n = l.length) (hn62:n ≤ 4611686018427387903) :
 Calls Tryz.prog 112 #[.slice A n c,.int .i64 a] w (RetI w (endA l a)):=by
 by_cases h0:a < 0
 ·exact rend_out A n c l a w hn (.inl h0)
 ·obtain ⟨k,rfl⟩:=Int.eq_ofNat_of_zero_le (Int.not_lt.1 h0)
  exact rend_all A n c l hn hn62 n k w (by omega) h
end Go.Proofs.YtckojimeglkobaaGreatDoor