/- Plain mathematics for the layer of numbers: the nearest value, its bounds and its order. No condition. -/
namespace Go.Proofs.Ytbkgkdfameojfaa
namespace ValSpec

/-- The nearest value. -/
def near (x : Int) : Int := if x < -1000000 then -1000000 else if 1000000 < x then 1000000 else x

theorem near_lo (x : Int) : -1000000 ≤ near x := by unfold near; split <;> (try split) <;> omega
theorem near_hi (x : Int) : near x ≤ 1000000 := by unfold near; split <;> (try split) <;> omega
theorem near_mono {x y : Int} (h : x ≤ y) : near x ≤ near y := by unfold near; split <;> split <;> (try split) <;> (try split) <;> omega

theorem prod_bd (a b : Int) (h1 : -1000000 ≤ a) (h2 : a ≤ 1000000) (h3 : -1000000 ≤ b) (h4 : b ≤ 1000000) : -1000000000000 ≤ a * b ∧ a * b ≤ 1000000000000 := by
  have e : (a * b).natAbs ≤ 1000000 * 1000000 := by
    rw [Int.natAbs_mul]
    exact Nat.mul_le_mul (by omega) (by omega)
  omega

def plus (a b : Int) : Int := near (near a + near b)
def minus (a b : Int) : Int := near (near a - near b)
def times (a b : Int) : Int := near (near a * near b)

theorem plus_comm (a b : Int) : plus a b = plus b a := by unfold plus; rw [Int.add_comm]
theorem times_comm (a b : Int) : times a b = times b a := by unfold times; rw [Int.mul_comm]
theorem plus_mono {a b : Int} (c : Int) (h : a ≤ b) : plus a c ≤ plus b c := near_mono (by have := near_mono h; omega)
theorem minus_mono {a b : Int} (c : Int) (h : a ≤ b) : minus a c ≤ minus b c := near_mono (by have := near_mono h; omega)
theorem near_nonneg {c : Int} (h : 0 ≤ c) : 0 ≤ near c := by unfold near; split <;> (try split) <;> omega
theorem near_neg {c : Int} (h : c ≤ 0) : near c ≤ 0 := by unfold near; split <;> (try split) <;> omega
theorem times_mono {a b c : Int} (h : a ≤ b) (hc : 0 ≤ c) : times a c ≤ times b c := near_mono (Int.mul_le_mul_of_nonneg_right (near_mono h) (near_nonneg hc))
theorem times_anti {a b c : Int} (h : a ≤ b) (hc : c ≤ 0) : times b c ≤ times a c := near_mono (Int.mul_le_mul_of_nonpos_right (near_mono h) (near_neg hc))

end ValSpec
end Go.Proofs.Ytbkgkdfameojfaa
