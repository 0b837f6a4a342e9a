/- The plain example of the layer of numbers (awake) answers true, and what was in memory stays. No condition. -/
import Derived.Test.YtofeceabnnoekaaValPut
namespace Go.Proofs.Ytofeceabnnoekaa
open Go.RowKit ValSpec

theorem get_at (s : ByteArray) (n e : Int) (hn : getN s.data.toList = n) (he : getE s.data.toList = e) (hs : s.size ≤ maxLen) (w : World) :
    Calls Try.prog 13 #[.string s] w fun x w' => x = .returned (.tuple #[.int .i64 n, .int .i64 e]) ∧ w = w' := by
  subst hn; subst he; exact get_any s w hs
theorem put_70 (w : World) : Calls Try.prog 15 #[.int .i64 (-70)] w fun e w' => e = .returned (.string ⟨#[45, 55, 48]⟩) ∧ Below w.heap.size w w' := by
  have e : text (-70) = [45, 55, 48] := by
    rw [text, if_pos (by omega), show (-70 : Int).natAbs = 70 from rfl, digs_ge (by omega), digs_lt (by omega)]; rfl
  have := put_any (-70) w (by omega) (by omega)
  rw [e] at this
  exact this

theorem get_105 (w : World) : Calls Try.prog 13 #[.string ⟨#[49, 48, 53]⟩] w fun x w' => x = .returned (.tuple #[.int .i64 105, .int .i64 0]) ∧ w = w' :=
  get_at ⟨#[49, 48, 53]⟩ 105 0 (by decide) (by decide) (by decide) w
theorem get_big (w : World) : Calls Try.prog 13 #[.string ⟨#[49, 48, 48, 48, 48, 48, 49]⟩] w fun x w' => x = .returned (.tuple #[.int .i64 0, .int .i64 3]) ∧ w = w' :=
  get_at ⟨#[49, 48, 48, 48, 48, 48, 49]⟩ 0 3 (by decide) (by decide) (by decide) w
theorem get_05 (w : World) : Calls Try.prog 13 #[.string ⟨#[48, 53]⟩] w fun x w' => x = .returned (.tuple #[.int .i64 0, .int .i64 2]) ∧ w = w' :=
  get_at ⟨#[48, 53]⟩ 0 2 (by decide) (by decide) (by decide) w
theorem times_5000 (w : World) : Calls Try.prog 11 #[.int .i64 5000, .int .i64 5000] w fun e w' => e = .returned (.int .i64 1000000) ∧ w = w' := times_any 5000 5000 w
theorem minus_35 (w : World) : Calls Try.prog 10 #[.int .i64 3, .int .i64 5] w fun e w' => e = .returned (.int .i64 (-2)) ∧ w = w' := minus_any 3 5 w

theorem awake_any (w : World) :
    Calls Try.prog 12 #[] w fun e w' => e = .returned (.bool true) ∧ Below w.heap.size w w' := by
  go_enter Try.func12, Try.ntmps12
  go_wp2_with (first
    | (go_at_call 13; (with_reducible refine (get_105 _).mono ?_); rintro e w' ⟨rfl, rfl⟩)
    | (go_at_call 13; (with_reducible refine (get_big _).mono ?_); rintro e w' ⟨rfl, rfl⟩)
    | (go_at_call 13; (with_reducible refine (get_05 _).mono ?_); rintro e w' ⟨rfl, rfl⟩)
    | (go_at_call 11; (with_reducible refine (times_5000 _).mono ?_); rintro e w' ⟨rfl, rfl⟩)
    | (go_at_call 10; (with_reducible refine (minus_35 _).mono ?_); rintro e w' ⟨rfl, rfl⟩)
    | (go_at_call 15; (with_reducible refine (put_70 _).mono ?_); rintro e w' ⟨rfl, hb⟩))
  go_ret
  exact ⟨rfl, by assumption⟩
end Go.Proofs.Ytofeceabnnoekaa
