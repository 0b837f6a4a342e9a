/- EvalOps, joined. -/
import Derived.Test.YtbkgkdfameojfaaMVal
import Derived.Test.YtbkgkdfameojfaaMTermA
import Derived.Test.YtbkgkdfameojfaaMEvalSpec
namespace Go.Proofs.Ytbkgkdfameojfaa
open Go.RowKit TermSpec EvalSpec ValSpec
set_option maxRecDepth 100000

theorem truth_any (b : Bool) (w : World) : Calls Try.prog 45 #[.bool b] w (SameI w (tru b)) := by
  cases b <;>
  · go_enter Try.func45, Try.ntmps45
    go_wp2
    go_ret
    exact ⟨rfl, rfl⟩
theorem eis_any (b : Bool) (w : World) : Calls Try.prog 27 #[.bool b] w (SameI w (tru b)) := by
  cases b <;>
  · go_enter Try.func27, Try.ntmps27
    go_wp2
    go_ret
    exact ⟨rfl, rfl⟩
theorem same_bool {w : World} {a b : Bool} (h : a = b) : SameB w b (.returned (.bool a)) w := ⟨by rw [h], rfl⟩
theorem same_int {w : World} {a b : Int} (h : a = b) : SameI w b (.returned (.int .i64 a)) w := ⟨by rw [h], rfl⟩
set_option maxHeartbeats 2000000 in
theorem compare_any (o a b : Int) (w : World) (h : 13 ≤ o) (h' : o ≤ 18) : Calls Try.prog 50 #[.int .i64 o, .int .i64 a, .int .i64 b] w (SameB w (cmp o a b)) := by
  rcases (show o = 13 ∨ o = 14 ∨ o = 15 ∨ o = 16 ∨ o = 17 ∨ o = 18 by omega) with rfl | rfl | rfl | rfl | rfl | rfl <;>
  · go_enter Try.func50, Try.ntmps50
    go_wp2
    go_ret
    exact same_bool (by simp [cmp])
theorem near_of {x : Int} (h1 : -1000000 ≤ x) (h2 : x ≤ 1000000) : near x = x := by unfold near; rw [if_neg (by omega), if_neg (by omega)]
theorem ofOne_any (o x : Int) (w : World) (h1 : -1000000 ≤ x) (h2 : x ≤ 1000000) : Calls Try.prog 31 #[.int .i64 o, .int .i64 x] w (SameI w (ev1 o x)) := by
  have HM := Lib.hid (minus_any 0 x w)
  have HT := Lib.hid (truth_any (x == 0) w)
  have e1 : minus 0 x = 0 - x := by unfold minus; rw [near_of (x := 0) (by omega) (by omega), near_of h1 h2, near_of (by omega) (by omega)]
  rw [e1] at HM
  clear e1
  by_cases ho : o = 3
  · subst ho
    go_enter Try.func31, Try.ntmps31
    go_wp2_with (go_at_call 47; (with_reducible refine HM.out.mono ?_); rintro e w' ⟨rfl, rfl⟩)
    go_ret
    exact same_int (by simp [ev1])
  · have g : (o == 3) = false := by simp [ho]
    go_enter Try.func31, Try.ntmps31
    go_wp2_with (go_at_call 45; (with_reducible refine HT.out.mono ?_); rintro e w' ⟨rfl, rfl⟩)
    go_ret
    exact same_int (by simp [ev1, ho])
end Go.Proofs.Ytbkgkdfameojfaa
