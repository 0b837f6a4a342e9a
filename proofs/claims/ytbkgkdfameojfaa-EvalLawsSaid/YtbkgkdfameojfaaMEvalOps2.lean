/- EvalOps2, joined. -/
import Derived.Test.YtbkgkdfameojfaaMEvalOps
namespace Go.Proofs.Ytbkgkdfameojfaa
open Go.RowKit TermSpec EvalSpec ValSpec
set_option maxRecDepth 100000

theorem ofTwo_cmp (o x y : Int) (w : World) (hc1 : 13 ≤ o) (hc2 : o ≤ 18) : Calls Try.prog 32 #[.int .i64 o, .int .i64 x, .int .i64 y] w (SameI w (ev2 o x y)) := by
  have HC := Lib.hid (compare_any o x y w hc1 hc2)
  have HE := Lib.hid (show ev2 o x y = tru (cmp o x y) by unfold ev2; rw [if_neg (by omega), if_neg (by omega), if_neg (by omega), if_neg (by omega), if_neg (by omega), if_neg (by omega), if_neg (by omega)])
  obtain ⟨b, hb⟩ : ∃ b, b = cmp o x y := ⟨_, rfl⟩
  rw [← hb] at HC HE
  have HT := Lib.hid (truth_any b w)
  have g4 : (o == 4) = false := by simp; omega
  have g5 : (o == 5) = false := by simp; omega
  have g6 : (o == 6) = false := by simp; omega
  have g7 : (o == 7) = false := by simp; omega
  have g8 : (o == 8) = false := by simp; omega
  have g19 : (o == 19) = false := by simp; omega
  have g20 : (o == 20) = false := by simp; omega
  clear hb hc1 hc2
  go_enter Try.func32, Try.ntmps32
  go_wp2_with (first
    | (go_at_call 50; (with_reducible refine HC.out.mono ?_); rintro e w' ⟨rfl, rfl⟩)
    | (go_at_call 45; (with_reducible refine HT.out.mono ?_); rintro e w' ⟨rfl, rfl⟩))
  go_ret
  exact same_int HE.out.symm

theorem ofTwo_plus (x y : Int) (w : World) (h1 : -1000000 ≤ x) (h2 : x ≤ 1000000) (h3 : -1000000 ≤ y) (h4 : y ≤ 1000000) : Calls Try.prog 32 #[.int .i64 4, .int .i64 x, .int .i64 y] w (SameI w (ev2 4 x y)) := by
  have HX := Lib.hid (plus_any x y w)
  have HE := Lib.hid (show plus x y = ev2 4 x y by unfold plus; rw [near_of h1 h2, near_of h3 h4]; simp [ev2])
  clear h1 h2 h3 h4
  go_enter Try.func32, Try.ntmps32
  go_wp2_with (go_at_call 48; (with_reducible refine HX.out.mono ?_); rintro e w' ⟨rfl, rfl⟩)
  go_ret
  exact same_int HE.out

theorem ofTwo_minus (x y : Int) (w : World) (h1 : -1000000 ≤ x) (h2 : x ≤ 1000000) (h3 : -1000000 ≤ y) (h4 : y ≤ 1000000) : Calls Try.prog 32 #[.int .i64 5, .int .i64 x, .int .i64 y] w (SameI w (ev2 5 x y)) := by
  have HX := Lib.hid (minus_any x y w)
  have HE := Lib.hid (show minus x y = ev2 5 x y by unfold minus; rw [near_of h1 h2, near_of h3 h4]; simp [ev2])
  clear h1 h2 h3 h4
  go_enter Try.func32, Try.ntmps32
  go_wp2_with (go_at_call 47; (with_reducible refine HX.out.mono ?_); rintro e w' ⟨rfl, rfl⟩)
  go_ret
  exact same_int HE.out

theorem ofTwo_times (x y : Int) (w : World) (h1 : -1000000 ≤ x) (h2 : x ≤ 1000000) (h3 : -1000000 ≤ y) (h4 : y ≤ 1000000) : Calls Try.prog 32 #[.int .i64 6, .int .i64 x, .int .i64 y] w (SameI w (ev2 6 x y)) := by
  have HX := Lib.hid (times_any x y w)
  have HE := Lib.hid (show times x y = ev2 6 x y by unfold times; rw [near_of h1 h2, near_of h3 h4]; simp [ev2])
  clear h1 h2 h3 h4
  go_enter Try.func32, Try.ntmps32
  go_wp2_with (go_at_call 49; (with_reducible refine HX.out.mono ?_); rintro e w' ⟨rfl, rfl⟩)
  go_ret
  exact same_int HE.out

theorem ofTwo_min (x y : Int) (w : World) : Calls Try.prog 32 #[.int .i64 7, .int .i64 x, .int .i64 y] w (SameI w (ev2 7 x y)) := by
  have HE := Lib.hid (show ev2 7 x y = if x < y then x else y by simp [ev2])
  by_cases h : x < y
  · have h' : ¬ y < x := by omega
    go_enter Try.func32, Try.ntmps32
    go_wp2_with fail
    go_ret
    exact same_int (by rw [HE.out]; first | omega | (split <;> omega) | (rw [if_pos h]) | (rw [if_neg h]))
  · go_enter Try.func32, Try.ntmps32
    go_wp2_with fail
    go_ret
    exact same_int (by rw [HE.out]; first | omega | (split <;> omega) | (rw [if_pos h]) | (rw [if_neg h]))

theorem ofTwo_max (x y : Int) (w : World) : Calls Try.prog 32 #[.int .i64 8, .int .i64 x, .int .i64 y] w (SameI w (ev2 8 x y)) := by
  have HE := Lib.hid (show ev2 8 x y = if y < x then x else y by simp [ev2])
  by_cases h : y < x
  · have h' : ¬ x < y := by omega
    go_enter Try.func32, Try.ntmps32
    go_wp2_with fail
    go_ret
    exact same_int (by rw [HE.out]; first | omega | (split <;> omega) | (rw [if_pos h]) | (rw [if_neg h]))
  · go_enter Try.func32, Try.ntmps32
    go_wp2_with fail
    go_ret
    exact same_int (by rw [HE.out]; first | omega | (split <;> omega) | (rw [if_pos h]) | (rw [if_neg h]))

theorem ofTwo_and (x y : Int) (w : World) : Calls Try.prog 32 #[.int .i64 19, .int .i64 x, .int .i64 y] w (SameI w (ev2 19 x y)) := by
  have HE := Lib.hid (show ev2 19 x y = tru (x == 1 && y == 1) by simp [ev2])
  have HT := Lib.hid (fun b => truth_any b w)
  rcases hx : (x == 1) with _ | _
  all_goals
    rcases hy : (y == 1) with _ | _
    all_goals
      rw [hx, hy] at HE
      go_enter Try.func32, Try.ntmps32
      go_wp2_with (go_at_call 45; (with_reducible refine (HT.out _).mono ?_); rintro e w' ⟨rfl, rfl⟩)
      go_ret
      exact same_int HE.out.symm

theorem ofTwo_or (x y : Int) (w : World) : Calls Try.prog 32 #[.int .i64 20, .int .i64 x, .int .i64 y] w (SameI w (ev2 20 x y)) := by
  have HE := Lib.hid (show ev2 20 x y = tru (x == 1 || y == 1) by simp [ev2])
  have HT := Lib.hid (fun b => truth_any b w)
  rcases hx : (x == 1) with _ | _
  all_goals
    rcases hy : (y == 1) with _ | _
    all_goals
      rw [hx, hy] at HE
      go_enter Try.func32, Try.ntmps32
      go_wp2_with (go_at_call 45; (with_reducible refine (HT.out _).mono ?_); rintro e w' ⟨rfl, rfl⟩)
      go_ret
      exact same_int HE.out.symm

theorem ofTwo_any (o x y : Int) (w : World) (h0 : 4 ≤ o) (h20 : o ≤ 20) (h9 : o ≤ 8 ∨ 13 ≤ o) (h1 : -1000000 ≤ x) (h2 : x ≤ 1000000) (h3 : -1000000 ≤ y) (h4 : y ≤ 1000000) :
    Calls Try.prog 32 #[.int .i64 o, .int .i64 x, .int .i64 y] w (SameI w (ev2 o x y)) := by
  by_cases hc : 13 ≤ o ∧ o ≤ 18
  · exact ofTwo_cmp o x y w hc.1 hc.2
  · rcases (show o = 4 ∨ o = 5 ∨ o = 6 ∨ o = 7 ∨ o = 8 ∨ o = 19 ∨ o = 20 by omega) with rfl | rfl | rfl | rfl | rfl | rfl | rfl
    · exact ofTwo_plus x y w h1 h2 h3 h4
    · exact ofTwo_minus x y w h1 h2 h3 h4
    · exact ofTwo_times x y w h1 h2 h3 h4
    · exact ofTwo_min x y w
    · exact ofTwo_max x y w
    · exact ofTwo_and x y w
    · exact ofTwo_or x y w
end Go.Proofs.Ytbkgkdfameojfaa
