/- Sets of small numbers as 64 bits, plainly: lists of bits, what is in, with, without, within. No condition. -/
import Derived.Test.YtihgigmncgopjaaDoorKit
namespace Go.Proofs.YtihgigmncgopjaaDoor
namespace GroupSpec

/-- The number whose bits below k are as f says. -/
def valTo (f : Nat → Bool) : Nat → Nat
  | 0 => 0
  | k + 1 => valTo f k + if f k then 2 ^ k else 0
theorem valTo_lt (f : Nat → Bool) (k : Nat) : valTo f k < 2 ^ k := by
  induction k with
  | zero => exact Nat.one_pos
  | succ k ih =>
    show valTo f k + _ < _
    rw [Nat.pow_succ]
    split <;> omega
theorem valTo_bit (f : Nat → Bool) (k i : Nat) : (valTo f k).testBit i = (decide (i < k) && f i) := by
  induction k with
  | zero => simp [valTo]
  | succ k ih =>
    show (valTo f k + _).testBit i = _
    have hlt := valTo_lt f k
    cases hf : f k with
    | false =>
      rw [if_neg (by simp), Nat.add_zero, ih]
      by_cases h : i = k
      · subst h; simp [hf]
      · have e : decide (i < k + 1) = decide (i < k) := by simp; omega
        rw [e]
    | true =>
      rw [if_pos rfl, Nat.add_comm]
      by_cases h : i = k
      · subst h
        rw [Nat.testBit_two_pow_add_eq, ih]
        simp [hf]
      · rcases Nat.lt_or_gt_of_ne h with h1 | h1
        · rw [Nat.testBit_two_pow_add_gt h1, ih]
          have e : decide (i < k + 1) = decide (i < k) := by simp; omega
          rw [e]
        · have h2 : 2 ^ k + valTo f k < 2 ^ i := by
            have : 2 ^ (k + 1) ≤ 2 ^ i := Nat.pow_le_pow_right (by decide) h1
            rw [Nat.pow_succ] at this
            omega
          rw [Nat.testBit_lt_two_pow h2]
          have e : decide (i < k + 1) = false := by simp; omega
          rw [e]; rfl
theorem bits_eq {a b : Nat} (ha : a < 2 ^ 64) (hb : b < 2 ^ 64) (h : ∀ i, i < 64 → a.testBit i = b.testBit i) : a = b := by
  apply Nat.eq_of_testBit_eq
  intro i
  by_cases hi : i < 64
  · exact h i hi
  · have hp : 2 ^ 64 ≤ 2 ^ i := Nat.pow_le_pow_right (by decide) (by omega)
    rw [Nat.testBit_lt_two_pow (Nat.lt_of_lt_of_le ha hp), Nat.testBit_lt_two_pow (Nat.lt_of_lt_of_le hb hp)]
theorem valTo_congr {f g : Nat → Bool} {k : Nat} (h : ∀ i, i < k → f i = g i) : valTo f k = valTo g k := by
  induction k with
  | zero => rfl
  | succ k ih =>
    show valTo f k + _ = valTo g k + _
    rw [ih fun i hi => h i (by omega), h k (by omega)]
theorem valTo_self {m : Nat} (h : m < 2 ^ 64) : valTo m.testBit 64 = m :=
  bits_eq (valTo_lt _ _) h fun i hi => by rw [valTo_bit]; simp [hi]

/-- Is a number in a set? -/
def hasG (m : Nat) (i : Int) : Bool := decide (0 ≤ i) && (decide (i ≤ 63) && m.testBit i.toNat)
/-- All in a set below k, rising. -/
def bitsTo (m : Nat) : Nat → List Int
  | 0 => []
  | k + 1 => bitsTo m k ++ if m.testBit k then [(k : Int)] else []
def bitsL (m : Nat) : List Int := bitsTo m 64
theorem bitsTo_yes {m k : Nat} (h : m.testBit k = true) : bitsTo m (k + 1) = bitsTo m k ++ [(k : Int)] := by show bitsTo m k ++ _ = _; rw [if_pos h]
theorem bitsTo_no {m k : Nat} (h : m.testBit k = false) : bitsTo m (k + 1) = bitsTo m k := by show bitsTo m k ++ _ = _; rw [if_neg (by simp [h]), List.append_nil]
theorem bitsTo_length (m k : Nat) : (bitsTo m k).length ≤ k := by
  induction k with
  | zero => exact Nat.le_refl _
  | succ k ih =>
    cases h : m.testBit k with
    | true => rw [bitsTo_yes h, List.length_append]; simp; exact ih
    | false => rw [bitsTo_no h]; omega
theorem mem_bitsTo {m k : Nat} {x : Int} : x ∈ bitsTo m k ↔ ∃ i : Nat, i < k ∧ x = i ∧ m.testBit i = true := by
  induction k with
  | zero => simp [bitsTo]
  | succ k ih =>
    cases h : m.testBit k with
    | true =>
      rw [bitsTo_yes h, List.mem_append, ih, List.mem_singleton]
      constructor
      · rintro (⟨i, h1, h2, h3⟩ | rfl)
        · exact ⟨i, by omega, h2, h3⟩
        · exact ⟨k, by omega, rfl, h⟩
      · rintro ⟨i, h1, rfl, h3⟩
        by_cases e : i = k
        · subst e; exact .inr rfl
        · exact .inl ⟨i, by omega, rfl, h3⟩
    | false =>
      rw [bitsTo_no h, ih]
      constructor
      · rintro ⟨i, h1, h2, h3⟩
        exact ⟨i, by omega, h2, h3⟩
      · rintro ⟨i, h1, rfl, h3⟩
        by_cases e : i = k
        · subst e; rw [h] at h3; cases h3
        · exact ⟨i, by omega, rfl, h3⟩
theorem mem_bitsL {m : Nat} {x : Int} : x ∈ bitsL m ↔ hasG m x = true := by
  unfold bitsL hasG
  rw [mem_bitsTo]
  simp only [Bool.and_eq_true, decide_eq_true_eq]
  constructor
  · rintro ⟨i, h1, rfl, h3⟩
    exact ⟨by omega, by omega, by simpa using h3⟩
  · rintro ⟨h1, h2, h3⟩
    exact ⟨x.toNat, by omega, by omega, h3⟩
/-- The set of numbers. -/
def ofG (l : List Int) : Nat := valTo (fun i => decide ((i : Int) ∈ l)) 64
theorem ofG_lt (l : List Int) : ofG l < 2 ^ 64 := valTo_lt _ _
theorem ofG_bit (l : List Int) (i : Nat) : (ofG l).testBit i = (decide (i < 64) && decide ((i : Int) ∈ l)) := valTo_bit _ _ _
theorem ofG_bits {m : Nat} (h : m < 2 ^ 64) : ofG (bitsL m) = m := by
  refine Eq.trans (valTo_congr fun i hi => ?_) (valTo_self h)
  have e : ((i : Int) ∈ bitsL m) ↔ m.testBit i = true := by
    rw [mem_bitsL]
    unfold hasG
    simp only [Bool.and_eq_true, decide_eq_true_eq]
    constructor
    · rintro ⟨-, -, h⟩; simpa using h
    · intro h; exact ⟨by omega, by omega, by simpa using h⟩
  cases hb : m.testBit i with
  | true => rw [hb] at e; exact decide_eq_true (e.2 rfl)
  | false => rw [hb] at e; exact decide_eq_false fun hm => by cases e.1 hm
/-- One more, one less. -/
def withG (m : Nat) (i : Int) : Nat := if 0 ≤ i ∧ i ≤ 63 then m ||| 2 ^ i.toNat else m
def withoutG (m : Nat) (i : Int) : Nat := valTo (fun k => m.testBit k && !decide ((k : Int) = i)) 64
theorem with_of {m : Nat} (h : m < 2 ^ 64) (i : Int) : ofG (i :: bitsL m) = withG m i := by
  have hw : withG m i < 2 ^ 64 := by
    unfold withG
    split
    · exact Nat.or_lt_two_pow h (Nat.pow_lt_pow_right (by decide) (by omega))
    · exact h
  refine bits_eq (ofG_lt _) hw fun k hk => ?_
  rw [ofG_bit]
  have hm := @mem_bitsL m (k : Int)
  unfold hasG at hm
  simp only [Bool.and_eq_true, decide_eq_true_eq] at hm
  have hk2 : ((k : Int) ∈ bitsL m) ↔ m.testBit k = true := ⟨fun h => by simpa using (hm.1 h).2.2, fun h => hm.2 ⟨by omega, by omega, by simpa using h⟩⟩
  unfold withG
  split
  · rename_i hi
    rw [Nat.testBit_or, Nat.testBit_two_pow, Bool.eq_iff_iff]
    simp only [Bool.and_eq_true, Bool.or_eq_true, decide_eq_true_eq, List.mem_cons, hk2]
    constructor
    · rintro ⟨_, h1 | h1⟩
      · exact .inr (by omega)
      · exact .inl h1
    · rintro (h1 | h1)
      · exact ⟨hk, .inr h1⟩
      · exact ⟨hk, .inl (by omega)⟩
  · rename_i hi
    rw [Bool.eq_iff_iff]
    simp only [Bool.and_eq_true, decide_eq_true_eq, List.mem_cons, hk2]
    constructor
    · rintro ⟨_, h1 | h1⟩
      · exact absurd ⟨by omega, by omega⟩ hi
      · exact h1
    · exact fun h1 => ⟨hk, .inr h1⟩
/-- From the highest bit down: what the k highest of 64 bits come to. -/
theorem high_next (m j : Nat) : m / 2 ^ j = 2 * (m / 2 ^ (j + 1)) + (m.testBit j).toNat := by
  have h1 : m / 2 ^ (j + 1) = m / 2 ^ j / 2 := by rw [Nat.pow_succ, Nat.div_div_eq_div_mul]
  have h2 : (m.testBit j).toNat = m / 2 ^ j % 2 := by
    rw [Nat.testBit_eq_decide_div_mod_eq]
    have := Nat.mod_two_eq_zero_or_one (m / 2 ^ j)
    rcases this with h | h <;> simp [h]
  rw [h1, h2]
  omega
theorem low_next (m k : Nat) : m / 2 ^ k / 2 = m / 2 ^ (k + 1) := by rw [Nat.pow_succ, Nat.div_div_eq_div_mul]
theorem low_bit (m k : Nat) : decide (m / 2 ^ k % 2 = 1) = m.testBit k := by rw [Nat.testBit_eq_decide_div_mod_eq]
/-- All of one set are in another. -/
def withinG (a b : Nat) : Bool := (bitsL a).all fun x => hasG b x
theorem bit_hasG {m i : Nat} (hi : i < 64) : hasG m (i : Int) = m.testBit i := by
  unfold hasG
  rw [Int.toNat_natCast, decide_eq_true (by omega : (0 : Int) ≤ i), decide_eq_true (by omega : (i : Int) ≤ 63)]
  rfl
theorem withinG_iff {a b : Nat} : withinG a b = true ↔ ∀ i, i < 64 → a.testBit i = true → b.testBit i = true := by
  unfold withinG
  rw [List.all_eq_true]
  constructor
  · intro h i hi hb
    rw [← bit_hasG hi]
    exact h i (mem_bitsL.2 (by rw [bit_hasG hi]; exact hb))
  · intro h x hx
    obtain ⟨i, hi, rfl, hb⟩ := mem_bitsTo.1 hx
    rw [bit_hasG hi]
    exact h i hi hb
theorem withinG_and {a b : Nat} (ha : a < 2 ^ 64) : withinG a b = decide (a &&& b = a) := by
  rw [Bool.eq_iff_iff, withinG_iff, decide_eq_true_iff]
  constructor
  · intro h
    refine bits_eq (Nat.lt_of_le_of_lt Nat.and_le_left ha) ha fun i hi => ?_
    rw [Nat.testBit_and]
    cases h1 : a.testBit i with
    | true => rw [h i hi h1]; rfl
    | false => rfl
  · intro h i hi h1
    rw [← h, Nat.testBit_and] at h1
    simp only [Bool.and_eq_true] at h1
    exact h1.2
theorem within_left (a b : Nat) : withinG (a &&& b) b = true := by
  rw [withinG_iff]
  intro i _ h
  rw [Nat.testBit_and] at h
  simp only [Bool.and_eq_true] at h
  exact h.2
theorem within_right (a b : Nat) : withinG a (a ||| b) = true := by
  rw [withinG_iff]
  intro i _ h
  rw [Nat.testBit_or, h]
  rfl
/-- Without a number: what the rest of the list is the set of. -/
theorem without_of {m : Nat} (i : Int) : ofG ((bitsL m).filter fun x => !decide (x = i)) = withoutG m i := by
  refine valTo_congr fun k hk => ?_
  rw [Bool.eq_iff_iff]
  simp only [decide_eq_true_eq, List.mem_filter, Bool.and_eq_true, Bool.not_eq_true', decide_eq_false_iff_not, mem_bitsL, bit_hasG hk]
theorem without_out {m : Nat} (h : m < 2 ^ 64) {i : Int} (hi : i < 0 ∨ 63 < i) : withoutG m i = m := by
  refine Eq.trans (valTo_congr fun k hk => ?_) (valTo_self h)
  rw [decide_eq_false (by omega)]
  simp
theorem without_bit (m i k : Nat) : (withoutG m i).testBit k = (decide (k < 64) && (m.testBit k && !decide (k = i))) := by
  unfold withoutG
  rw [valTo_bit]
  congr 2
  rw [Bool.eq_iff_iff]
  simp
  omega
end GroupSpec
end Go.Proofs.YtihgigmncgopjaaDoor
