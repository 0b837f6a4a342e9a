/- ValSpec, ValCalls, joined. -/
import Derived.Test.YtbkgkdfameojfaaRows
import Derived.WalkKit
import Derived.WalkSpells
/- Plain mathematics for the layer of numbers: the nearest value, its bounds and its order. No condition. -/
namespace Go.Proofs.Ytbkgkdfameojfaa
namespace ValSpec

/-- The nearest value. -/
def near (x : Int) : Int := if x < -1000000 then -1000000 else if 1000000 < x then 1000000 else x

theorem near_lo (x : Int) : -1000000 ≤ near x := by unfold near; split <;> (try split) <;> omega
theorem near_hi (x : Int) : near x ≤ 1000000 := by unfold near; split <;> (try split) <;> omega
theorem near_mono {x y : Int} (h : x ≤ y) : near x ≤ near y := by unfold near; split <;> split <;> (try split) <;> (try split) <;> omega

theorem prod_bd (a b : Int) (h1 : -1000000 ≤ a) (h2 : a ≤ 1000000) (h3 : -1000000 ≤ b) (h4 : b ≤ 1000000) : -1000000000000 ≤ a * b ∧ a * b ≤ 1000000000000 := by
  have e : (a * b).natAbs ≤ 1000000 * 1000000 := by
    rw [Int.natAbs_mul]
    exact Nat.mul_le_mul (by omega) (by omega)
  omega

def plus (a b : Int) : Int := near (near a + near b)
def minus (a b : Int) : Int := near (near a - near b)
def times (a b : Int) : Int := near (near a * near b)

theorem plus_comm (a b : Int) : plus a b = plus b a := by unfold plus; rw [Int.add_comm]
theorem times_comm (a b : Int) : times a b = times b a := by unfold times; rw [Int.mul_comm]
theorem plus_mono {a b : Int} (c : Int) (h : a ≤ b) : plus a c ≤ plus b c := near_mono (by have := near_mono h; omega)
theorem minus_mono {a b : Int} (c : Int) (h : a ≤ b) : minus a c ≤ minus b c := near_mono (by have := near_mono h; omega)
theorem near_nonneg {c : Int} (h : 0 ≤ c) : 0 ≤ near c := by unfold near; split <;> (try split) <;> omega
theorem near_neg {c : Int} (h : c ≤ 0) : near c ≤ 0 := by unfold near; split <;> (try split) <;> omega
theorem times_mono {a b c : Int} (h : a ≤ b) (hc : 0 ≤ c) : times a c ≤ times b c := near_mono (Int.mul_le_mul_of_nonneg_right (near_mono h) (near_nonneg hc))
theorem times_anti {a b c : Int} (h : a ≤ b) (hc : c ≤ 0) : times b c ≤ times a c := near_mono (Int.mul_le_mul_of_nonpos_right (near_mono h) (near_neg hc))

end ValSpec
end Go.Proofs.Ytbkgkdfameojfaa

namespace Go.Proofs.Ytbkgkdfameojfaa
open Go.RowKit ValSpec
set_option maxRecDepth 100000

theorem val_ret {k : IntKind} {a b : Int} (h : a = b) : Ending.returned (.int k a) = .returned (.int k b) := by rw [h]

def clampI (x lo hi : Int) : Int := if x < lo then lo else if hi < x then hi else x

theorem clamp_any (x lo hi : Int) (w : World) :
    Calls Try.prog 56 #[.int .i64 x, .int .i64 lo, .int .i64 hi] w fun e w' => e = .returned (.int .i64 (clampI x lo hi)) ∧ w = w' := by
  by_cases h1 : x < lo
  · go_enter Try.func56, Try.ntmps56
    go_wp2
    go_ret
    exact ⟨val_ret (by simp [clampI, h1]), rfl⟩
  · by_cases h2 : hi < x
    · go_enter Try.func56, Try.ntmps56
      go_wp2
      go_ret
      exact ⟨val_ret (by unfold clampI; rw [if_neg (by omega), if_pos (by omega)]), rfl⟩
    · go_enter Try.func56, Try.ntmps56
      go_wp2
      go_ret
      exact ⟨val_ret (by unfold clampI; rw [if_neg (by omega), if_neg (by omega)]), rfl⟩

theorem near_any (x : Int) (w : World) :
    Calls Try.prog 44 #[.int .i64 x] w fun e w' => e = .returned (.int .i64 (near x)) ∧ w = w' := by
  go_enter Try.func44, Try.ntmps44
  go_wp2_with (go_at_call 56; refine (clamp_any _ _ _ _).mono ?_; rintro e w' ⟨rfl, rfl⟩)
  go_ret
  exact ⟨rfl, rfl⟩

theorem rnear_any (x : Int) (w : World) :
    Calls Try.prog 26 #[.int .i64 x] w fun e w' => e = .returned (.int .i64 (near x)) ∧ w = w' := by
  by_cases h1 : x < -1000000
  · go_enter Try.func26, Try.ntmps26
    go_wp2
    go_ret
    exact ⟨val_ret (by simp [near, h1]), rfl⟩
  · by_cases h2 : 1000000 < x
    · go_enter Try.func26, Try.ntmps26
      go_wp2
      go_ret
      exact ⟨val_ret (by unfold near; rw [if_neg (by omega), if_pos (by omega)]), rfl⟩
    · go_enter Try.func26, Try.ntmps26
      go_wp2
      go_ret
      exact ⟨val_ret (by unfold near; rw [if_neg (by omega), if_neg (by omega)]), rfl⟩

theorem plus_any (a b : Int) (w : World) :
    Calls Try.prog 48 #[.int .i64 a, .int .i64 b] w fun e w' => e = .returned (.int .i64 (plus a b)) ∧ w = w' := by
  have a1 := near_lo a
  have a2 := near_hi a
  have b1 := near_lo b
  have b2 := near_hi b
  go_enter Try.func48, Try.ntmps48
  go_wp2_with (go_at_call 44; refine (near_any _ _).mono ?_; rintro e w' ⟨rfl, rfl⟩)
  go_ret
  exact ⟨rfl, rfl⟩

theorem minus_any (a b : Int) (w : World) :
    Calls Try.prog 47 #[.int .i64 a, .int .i64 b] w fun e w' => e = .returned (.int .i64 (minus a b)) ∧ w = w' := by
  have a1 := near_lo a
  have a2 := near_hi a
  have b1 := near_lo b
  have b2 := near_hi b
  go_enter Try.func47, Try.ntmps47
  go_wp2_with (go_at_call 44; refine (near_any _ _).mono ?_; rintro e w' ⟨rfl, rfl⟩)
  go_ret
  exact ⟨rfl, rfl⟩

theorem times_any (a b : Int) (w : World) :
    Calls Try.prog 49 #[.int .i64 a, .int .i64 b] w fun e w' => e = .returned (.int .i64 (times a b)) ∧ w = w' := by
  have p := prod_bd (near a) (near b) (near_lo a) (near_hi a) (near_lo b) (near_hi b)
  obtain ⟨p1, p2⟩ := p
  go_enter Try.func49, Try.ntmps49
  go_wp2_with (go_at_call 44; refine (near_any _ _).mono ?_; rintro e w' ⟨rfl, rfl⟩)
  go_ret
  exact ⟨rfl, rfl⟩

end Go.Proofs.Ytbkgkdfameojfaa
