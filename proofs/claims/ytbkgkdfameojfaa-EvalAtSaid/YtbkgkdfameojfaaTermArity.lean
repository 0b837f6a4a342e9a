/- What Arity of the layer of terms answers, the reference's too, and types. No condition. -/
import Derived.Test.YtbkgkdfameojfaaTermMem
namespace Go.Proofs.Ytbkgkdfameojfaa
open Go.RowKit TermSpec
set_option maxRecDepth 100000

set_option maxHeartbeats 1600000 in
theorem arity_any (o : Int) (w : World) : Calls Try.prog 17 #[.int .i64 o] w (SameI w (ar o)) := by
  go_enter Try.func17, Try.ntmps17
  go_wp2_with fail
  all_goals
    go_ret
    exact ⟨ret_int (by simp_all [ar]), rfl⟩

def RetTwo (W : World) (a b : Int) (e : Ending) (w' : World) : Prop := e = .returned (.tuple #[.int .i64 a, .int .i64 b]) ∧ W = w'
set_option maxHeartbeats 1600000 in
theorem types_any (o : Int) (w : World) : Calls Try.prog 39 #[.int .i64 o] w (RetTwo w (ownT o) (askT o)) := by
  go_enter Try.func39, Try.ntmps39
  go_wp2_with fail
  all_goals
    go_ret2
    exact ⟨by simp_all [ownT, askT], rfl⟩

theorem rarity_out (o : Int) (h : o < 1 ∨ 20 < o) (w : World) : Calls Try.prog 42 #[.int .i64 o] w (RetI w (ar o)) := by
  have HE := Lib.hid (ar_out h)
  by_cases h1 : o < 1
  · clear h
    go_enter Try.func42, Try.ntmps42
    go_wp2_with fail
    go_ret
    exact ⟨ret_int HE.out.symm, Below.refl _ _⟩
  · have h2 : 20 < o := by omega
    clear h
    go_enter Try.func42, Try.ntmps42
    go_wp2_with fail
    go_ret
    exact ⟨ret_int HE.out.symm, Below.refl _ _⟩
theorem arl_at (n : Nat) (h1 : 1 ≤ n) (h : n < 21) : ([Value.int .i64 0, Value.int .i64 0, Value.int .i64 0, Value.int .i64 1, Value.int .i64 2, Value.int .i64 2, Value.int .i64 2, Value.int .i64 2, Value.int .i64 2, Value.int .i64 0, Value.int .i64 0, Value.int .i64 0, Value.int .i64 1, Value.int .i64 2, Value.int .i64 2, Value.int .i64 2, Value.int .i64 2, Value.int .i64 2, Value.int .i64 2, Value.int .i64 2, Value.int .i64 2])[n] = .int .i64 (ar n) := by
  have : n = 1 ∨ n = 2 ∨ n = 3 ∨ n = 4 ∨ n = 5 ∨ n = 6 ∨ n = 7 ∨ n = 8 ∨ n = 9 ∨ n = 10 ∨ n = 11 ∨ n = 12 ∨ n = 13 ∨ n = 14 ∨ n = 15 ∨ n = 16 ∨ n = 17 ∨ n = 18 ∨ n = 19 ∨ n = 20 := by omega
  rcases this with rfl | rfl | rfl | rfl | rfl | rfl | rfl | rfl | rfl | rfl | rfl | rfl | rfl | rfl | rfl | rfl | rfl | rfl | rfl | rfl <;> rfl
set_option maxHeartbeats 800000 in
theorem rarity_in (n : Nat) (h1 : 1 ≤ n) (h : n ≤ 20) (w : World) : Calls Try.prog 42 #[.int .i64 n] w (RetI w (ar n)) := by
  have h21 : n < 21 := by omega
  have h21' : (n : Int) < 21 := by omega
  have h20 : ¬ 20 < (n : Int) := by omega
  have HE := Lib.hid (arl_at n h1 h21)
  go_enter Try.func42, Try.ntmps42
  go_wp2_with fail
  go_ret
  exact ⟨congrArg Ending.returned HE.out, (Below.refl _ _).alloc (Nat.le_refl _) _⟩
theorem rarity_any (o : Int) (w : World) : Calls Try.prog 42 #[.int .i64 o] w (RetI w (ar o)) := by
  by_cases h : o < 1 ∨ 20 < o
  · exact rarity_out o h w
  · obtain ⟨n, rfl⟩ := Int.eq_ofNat_of_zero_le (show 0 ≤ o by omega)
    exact rarity_in n (by omega) (by omega) w
end Go.Proofs.Ytbkgkdfameojfaa
