/- What the calls of the layer of numbers answer: Clamp, Near, Plus, Minus, Times and the reference's Near. Conditions: arguments that fit an int. -/
import Derived.Test.YtbkgkdfameojfaaRows
import Derived.Test.YtbkgkdfameojfaaValSpec
import Derived.WalkKit
import Derived.WalkSpells
namespace Go.Proofs.Ytbkgkdfameojfaa
open Go.RowKit ValSpec
set_option maxRecDepth 100000

theorem val_ret {k : IntKind} {a b : Int} (h : a = b) : Ending.returned (.int k a) = .returned (.int k b) := by rw [h]

def clampI (x lo hi : Int) : Int := if x < lo then lo else if hi < x then hi else x

theorem clamp_any (x lo hi : Int) (w : World) :
    Calls Try.prog 56 #[.int .i64 x, .int .i64 lo, .int .i64 hi] w fun e w' => e = .returned (.int .i64 (clampI x lo hi)) ∧ w = w' := by
  by_cases h1 : x < lo
  · go_enter Try.func56, Try.ntmps56
    go_wp2
    go_ret
    exact ⟨val_ret (by simp [clampI, h1]), rfl⟩
  · by_cases h2 : hi < x
    · go_enter Try.func56, Try.ntmps56
      go_wp2
      go_ret
      exact ⟨val_ret (by unfold clampI; rw [if_neg (by omega), if_pos (by omega)]), rfl⟩
    · go_enter Try.func56, Try.ntmps56
      go_wp2
      go_ret
      exact ⟨val_ret (by unfold clampI; rw [if_neg (by omega), if_neg (by omega)]), rfl⟩

theorem near_any (x : Int) (w : World) :
    Calls Try.prog 44 #[.int .i64 x] w fun e w' => e = .returned (.int .i64 (near x)) ∧ w = w' := by
  go_enter Try.func44, Try.ntmps44
  go_wp2_with (go_at_call 56; refine (clamp_any _ _ _ _).mono ?_; rintro e w' ⟨rfl, rfl⟩)
  go_ret
  exact ⟨rfl, rfl⟩

theorem rnear_any (x : Int) (w : World) :
    Calls Try.prog 26 #[.int .i64 x] w fun e w' => e = .returned (.int .i64 (near x)) ∧ w = w' := by
  by_cases h1 : x < -1000000
  · go_enter Try.func26, Try.ntmps26
    go_wp2
    go_ret
    exact ⟨val_ret (by simp [near, h1]), rfl⟩
  · by_cases h2 : 1000000 < x
    · go_enter Try.func26, Try.ntmps26
      go_wp2
      go_ret
      exact ⟨val_ret (by unfold near; rw [if_neg (by omega), if_pos (by omega)]), rfl⟩
    · go_enter Try.func26, Try.ntmps26
      go_wp2
      go_ret
      exact ⟨val_ret (by unfold near; rw [if_neg (by omega), if_neg (by omega)]), rfl⟩

theorem plus_any (a b : Int) (w : World) :
    Calls Try.prog 48 #[.int .i64 a, .int .i64 b] w fun e w' => e = .returned (.int .i64 (plus a b)) ∧ w = w' := by
  have a1 := near_lo a
  have a2 := near_hi a
  have b1 := near_lo b
  have b2 := near_hi b
  go_enter Try.func48, Try.ntmps48
  go_wp2_with (go_at_call 44; refine (near_any _ _).mono ?_; rintro e w' ⟨rfl, rfl⟩)
  go_ret
  exact ⟨rfl, rfl⟩

theorem minus_any (a b : Int) (w : World) :
    Calls Try.prog 47 #[.int .i64 a, .int .i64 b] w fun e w' => e = .returned (.int .i64 (minus a b)) ∧ w = w' := by
  have a1 := near_lo a
  have a2 := near_hi a
  have b1 := near_lo b
  have b2 := near_hi b
  go_enter Try.func47, Try.ntmps47
  go_wp2_with (go_at_call 44; refine (near_any _ _).mono ?_; rintro e w' ⟨rfl, rfl⟩)
  go_ret
  exact ⟨rfl, rfl⟩

theorem times_any (a b : Int) (w : World) :
    Calls Try.prog 49 #[.int .i64 a, .int .i64 b] w fun e w' => e = .returned (.int .i64 (times a b)) ∧ w = w' := by
  have p := prod_bd (near a) (near b) (near_lo a) (near_hi a) (near_lo b) (near_hi b)
  obtain ⟨p1, p2⟩ := p
  go_enter Try.func49, Try.ntmps49
  go_wp2_with (go_at_call 44; refine (near_any _ _).mono ?_; rintro e w' ⟨rfl, rfl⟩)
  go_ret
  exact ⟨rfl, rfl⟩

end Go.Proofs.Ytbkgkdfameojfaa
