/- Sets as 64 bits, by what machine words do: one bit, and, or, and-not, the lowest bit taken off. No condition. -/
import Derived.Test.YtihgigmncgopjaaDoorGroupSpec
import Derived.Lib.TrailingZeros
namespace Go.Proofs.YtihgigmncgopjaaDoor
namespace GroupSpec

/-- The set of one number; empty, where no set has it. -/
def aloneG (i : Int) : Nat := if 0 ≤ i ∧ i ≤ 63 then 2 ^ i.toNat else 0
theorem aloneG_lt (i : Int) : aloneG i < 2 ^ 64 := by
  unfold aloneG
  split
  · exact Nat.pow_lt_pow_right (by decide) (by omega)
  · decide
theorem aloneG_bit (i : Int) (k : Nat) : (aloneG i).testBit k = (decide (i ≤ 63) && decide ((k : Int) = i)) := by
  unfold aloneG
  split
  · rename_i h
    rw [Nat.testBit_two_pow, Bool.eq_iff_iff]
    simp only [Bool.and_eq_true, decide_eq_true_eq]
    omega
  · rename_i h
    rw [Nat.zero_testBit, eq_comm, Bool.and_eq_false_iff]
    simp only [decide_eq_false_iff_not]
    omega
theorem not_bit {b : Nat} (hb : b < 2 ^ 64) (k : Nat) : (18446744073709551615 - b).testBit k = (decide (k < 64) && !b.testBit k) := by
  have e : 18446744073709551615 - b = 2 ^ 64 - (b + 1) := by omega
  rw [e, Nat.testBit_two_pow_sub_succ hb]
theorem has_and {m : Nat} (i : Int) : decide (m &&& aloneG i ≠ 0) = hasG m i := by
  rw [Bool.eq_iff_iff, decide_eq_true_iff]
  unfold hasG
  simp only [Bool.and_eq_true, decide_eq_true_eq]
  constructor
  · intro h
    obtain ⟨k, hk⟩ := Nat.exists_testBit_of_ne_zero h
    rw [Nat.testBit_and, aloneG_bit] at hk
    simp only [Bool.and_eq_true, decide_eq_true_eq] at hk
    obtain ⟨h1, h2, rfl⟩ := hk
    exact ⟨by omega, by omega, by simpa using h1⟩
  · rintro ⟨h1, h2, h3⟩ h0
    have : (m &&& aloneG i).testBit i.toNat = true := by
      rw [Nat.testBit_and, aloneG_bit, h3]
      simp only [Bool.true_and, Bool.and_eq_true, decide_eq_true_eq]
      omega
    rw [h0, Nat.zero_testBit] at this
    cases this
theorem with_or (m : Nat) (i : Int) : m ||| aloneG i = withG m i := by
  unfold aloneG withG
  split
  · rfl
  · exact Nat.or_zero m
theorem withG_lt {m : Nat} (h : m < 2 ^ 64) (i : Int) : withG m i < 2 ^ 64 := by
  rw [← with_or]
  exact Nat.or_lt_two_pow h (aloneG_lt i)
theorem withG_bit (m : Nat) (i : Int) (k : Nat) : (withG m i).testBit k = (m.testBit k || (decide (i ≤ 63) && decide ((k : Int) = i))) := by
  rw [← with_or, Nat.testBit_or, aloneG_bit]
theorem without_and {m : Nat} (h : m < 2 ^ 64) (i : Int) : m &&& (18446744073709551615 - aloneG i) = withoutG m i := by
  refine bits_eq (Nat.lt_of_le_of_lt Nat.and_le_left h) (valTo_lt _ _) fun k hk => ?_
  rw [Nat.testBit_and, not_bit (aloneG_lt i), aloneG_bit]
  unfold withoutG
  rw [valTo_bit, decide_eq_true hk]
  simp only [Bool.true_and]
  cases m.testBit k
  · rfl
  · rw [Bool.eq_iff_iff]
    simp only [Bool.true_and, Bool.not_eq_true', Bool.and_eq_false_iff, decide_eq_false_iff_not]
    omega
theorem within_and {a b : Nat} (hb : b < 2 ^ 64) : decide (a &&& (18446744073709551615 - b) = 0) = withinG a b := by
  rw [Bool.eq_iff_iff, decide_eq_true_iff, withinG_iff]
  constructor
  · intro h i hi ha
    have : (a &&& (18446744073709551615 - b)).testBit i = false := by rw [h, Nat.zero_testBit]
    rw [Nat.testBit_and, not_bit hb, ha, decide_eq_true hi] at this
    simpa using this
  · intro h
    apply Nat.eq_of_testBit_eq
    intro i
    rw [Nat.zero_testBit, Nat.testBit_and, not_bit hb]
    by_cases hi : i < 64
    · cases ha : a.testBit i with
      | false => rfl
      | true => rw [h i hi ha]; simp
    · rw [decide_eq_false hi]; simp
theorem foldl_bit (l : List Int) (m k : Nat) (hk : k < 64) : (l.foldl withG m).testBit k = (m.testBit k || decide ((k : Int) ∈ l)) := by
  induction l generalizing m with
  | nil => simp
  | cons x l ih =>
    rw [List.foldl_cons, ih, withG_bit, Bool.eq_iff_iff]
    simp only [Bool.or_eq_true, Bool.and_eq_true, decide_eq_true_eq, List.mem_cons]
    constructor
    · rintro ((h | ⟨_, h⟩) | h)
      · exact .inl h
      · exact .inr (.inl h)
      · exact .inr (.inr h)
    · rintro (h | h | h)
      · exact .inl (.inl h)
      · exact .inl (.inr ⟨by omega, h⟩)
      · exact .inr h
theorem foldl_lt (l : List Int) {m : Nat} (h : m < 2 ^ 64) : l.foldl withG m < 2 ^ 64 := by
  induction l generalizing m with
  | nil => exact h
  | cons x l ih => exact ih (withG_lt h x)
theorem of_foldl (l : List Int) : l.foldl withG 0 = ofG l := by
  refine bits_eq (foldl_lt l (by decide)) (ofG_lt l) fun k hk => ?_
  rw [foldl_bit l 0 k hk, ofG_bit, Nat.zero_testBit, decide_eq_true hk]
  rfl

/-- The lowest bit taken off. -/
def dropG (m : Nat) : Nat := m &&& (m - 1)
theorem dropG_le (m : Nat) : dropG m ≤ m := Nat.and_le_left
theorem ctz_spec {m : Nat} (h0 : m ≠ 0) (h : m < 2 ^ 64) : ∃ q, m = 2 ^ Lib.ctz 64 m * (2 * q + 1) ∧ Lib.ctz 64 m < 64 := by
  obtain ⟨q, h1, h2⟩ := Lib.ctzFrom_spec 64 m (by omega) h
  have e : Lib.ctz 64 m = Lib.ctzFrom 64 m := by simp [Lib.ctz, h0]
  rw [e]
  exact ⟨q, h1, h2⟩
theorem low_bit_of (c q j : Nat) : (2 ^ c * (2 * q + 1)).testBit j = (decide (c ≤ j) && (2 * q + 1).testBit (j - c)) := by
  rw [Nat.mul_comm, Nat.testBit_mul_two_pow]
theorem drop_bit (c q j : Nat) : (dropG (2 ^ c * (2 * q + 1))).testBit j = ((2 ^ c * (2 * q + 1)).testBit j && !decide (j = c)) := by
  unfold dropG
  have hp : 0 < 2 ^ c := Nat.two_pow_pos c
  have e : 2 ^ c * (2 * q + 1) - 1 = 2 ^ c * (2 * q) + (2 ^ c - 1) := by rw [Nat.mul_add, Nat.mul_one]; omega
  rw [Nat.testBit_and, e, Nat.testBit_two_pow_mul_add _ (by omega), low_bit_of]
  by_cases h1 : j < c
  · have : decide (c ≤ j) = false := decide_eq_false (by omega)
    rw [this]
    rfl
  · rw [if_neg h1]
    by_cases h2 : j = c
    · subst h2
      simp
    · obtain ⟨s, hs⟩ : ∃ s, j - c = s + 1 := ⟨j - c - 1, by omega⟩
      rw [hs, Nat.testBit_succ, Nat.testBit_succ, show (2 * q + 1) / 2 = q by omega, show 2 * q / 2 = q by omega, decide_eq_false h2]
      cases q.testBit s <;> simp
theorem bitsTo_low (c q : Nat) {k : Nat} (h : k ≤ c) : bitsTo (2 ^ c * (2 * q + 1)) k = [] := by
  induction k with
  | zero => rfl
  | succ k ih =>
    rw [bitsTo_no, ih (by omega)]
    rw [low_bit_of, decide_eq_false (by omega)]
    rfl
theorem bitsTo_high (c q : Nat) {k : Nat} (h : c < k) : bitsTo (2 ^ c * (2 * q + 1)) k = (c : Int) :: bitsTo (dropG (2 ^ c * (2 * q + 1))) k ∧ (k ≤ c + 1 → bitsTo (dropG (2 ^ c * (2 * q + 1))) k = []) := by
  have hd : ∀ j, j ≤ c + 1 → bitsTo (dropG (2 ^ c * (2 * q + 1))) j = [] := by
    intro j
    induction j with
    | zero => intro _; rfl
    | succ j ih =>
      intro hj
      rw [bitsTo_no, ih (by omega)]
      rw [drop_bit, low_bit_of]
      by_cases hjc : j = c
      · subst hjc; simp
      · rw [decide_eq_false (by omega : ¬ c ≤ j)]; rfl
  refine ⟨?_, fun h => hd k h⟩
  induction k with
  | zero => omega
  | succ k ih =>
    by_cases hk : k = c
    · subst hk
      rw [hd (k + 1) (by omega), bitsTo_yes, bitsTo_low k q (Nat.le_refl k)]
      · rfl
      · rw [low_bit_of]; simp
    · have ih' := ih (by omega)
      have hb : (dropG (2 ^ c * (2 * q + 1))).testBit k = (2 ^ c * (2 * q + 1)).testBit k := by
        rw [drop_bit, decide_eq_false hk]; simp
      cases hbit : (2 ^ c * (2 * q + 1)).testBit k with
      | true => rw [bitsTo_yes hbit, ih', bitsTo_yes (hb.trans hbit)]; rfl
      | false => rw [bitsTo_no hbit, ih', bitsTo_no (hb.trans hbit)]
theorem bitsTo_zero (k : Nat) : bitsTo 0 k = [] := by
  induction k with
  | zero => rfl
  | succ k ih => rw [bitsTo_no (Nat.zero_testBit k), ih]
theorem bits_low {m : Nat} (h0 : m ≠ 0) (h : m < 2 ^ 64) : bitsL m = (Lib.ctz 64 m : Int) :: bitsL (dropG m) := by
  obtain ⟨q, h1, h2⟩ := ctz_spec h0 h
  generalize Lib.ctz 64 m = c at h1 h2 ⊢
  subst h1
  exact (bitsTo_high c q h2).1
/-- What is left when the k lowest are taken off. -/
def restG (m : Nat) : Nat → Nat
  | 0 => m
  | k + 1 => dropG (restG m k)
theorem restG_lt {m : Nat} (h : m < 2 ^ 64) (k : Nat) : restG m k < 2 ^ 64 := by
  induction k with
  | zero => exact h
  | succ k ih => exact Nat.lt_of_le_of_lt (dropG_le _) ih
theorem rest_bits {m : Nat} (h : m < 2 ^ 64) (k : Nat) : bitsL (restG m k) = (bitsL m).drop k := by
  induction k with
  | zero => rfl
  | succ k ih =>
    show bitsL (dropG (restG m k)) = _
    by_cases h0 : restG m k = 0
    · rw [h0] at ih ⊢
      have e : dropG 0 = 0 := rfl
      rw [e]
      have z : bitsL 0 = [] := bitsTo_zero 64
      rw [z] at ih ⊢
      rw [List.drop_add_one_eq_tail_drop, ← ih]
      rfl
    · have := bits_low h0 (restG_lt h k)
      rw [ih] at this
      rw [List.drop_add_one_eq_tail_drop, this]
      rfl
theorem rest_more {m k : Nat} (h : m < 2 ^ 64) (hk : k < (bitsL m).length) : restG m k ≠ 0 ∧ (bitsL m)[k]? = some (Lib.ctz 64 (restG m k) : Int) := by
  have e := rest_bits h k
  have h0 : restG m k ≠ 0 := by
    intro h0
    rw [h0, show bitsL 0 = [] from bitsTo_zero 64] at e
    have := congrArg List.length e
    simp at this
    omega
  refine ⟨h0, ?_⟩
  have e2 := bits_low h0 (restG_lt h k)
  rw [e] at e2
  have := congrArg (·[0]?) e2
  simpa using this
theorem rest_none {m k : Nat} (h : m < 2 ^ 64) (hk : (bitsL m).length ≤ k) : restG m k = 0 := by
  have e := rest_bits h k
  rw [List.drop_eq_nil_of_le hk] at e
  refine Decidable.byContradiction fun h0 => ?_
  rw [bits_low h0 (restG_lt h k)] at e
  cases e
theorem bitsL_length (m : Nat) : (bitsL m).length ≤ 64 := bitsTo_length m 64
end GroupSpec
end Go.Proofs.YtihgigmncgopjaaDoor
