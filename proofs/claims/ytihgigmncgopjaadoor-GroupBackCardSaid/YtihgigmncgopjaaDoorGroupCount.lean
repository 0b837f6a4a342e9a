/- How many bits are set, as the library counts them: by twos, fours, bytes, and the bytes together. No condition. -/
import Derived.Test.YtihgigmncgopjaaDoorGroupSpec
namespace Go.Proofs.YtihgigmncgopjaaDoor
namespace GroupSpec

/-- k bytes, each c. -/
def maskG (c : Nat) : Nat → Nat
  | 0 => 0
  | k + 1 => c + 256 * maskG c k
theorem and_mask (x c k : Nat) (hc : c < 256) : x &&& maskG c (k + 1) = (x % 256 &&& c) + 256 * (x / 256 &&& maskG c k) := by
  have e0 : maskG c (k + 1) = c + 256 * maskG c k := rfl
  rw [e0]
  generalize maskG c k = r
  have h1 := Nat.and_mod_two_pow (a := x) (b := c + 256 * r) (n := 8)
  have h2 := Nat.and_div_two_pow (a := x) (b := c + 256 * r) (n := 8)
  rw [show (2 : Nat) ^ 8 = 256 from rfl] at h1 h2
  rw [show (c + 256 * r) % 256 = c by omega] at h1
  rw [show (c + 256 * r) / 256 = r by omega] at h2
  rw [← h1, ← h2]
  omega
/-- The two steps that add up neighbours, a byte at a time. -/
def s1 (b : Nat) : Nat := (b / 2 &&& 85) + (b &&& 85)
def s2 (b : Nat) : Nat := (b / 4 &&& 51) + (b &&& 51)
def f12 (b : Nat) : Nat := s2 (s1 b)
def popb (b : Nat) : Nat := (f12 b / 16 + f12 b) % 16
theorem half_85 : ∀ y : Fin 512, (y.val / 2 % 256 &&& 85) = (y.val % 256 / 2 &&& 85) := by decide +kernel
theorem quart_51 : ∀ y : Fin 1024, (y.val / 4 % 256 &&& 51) = (y.val % 256 / 4 &&& 51) := by decide +kernel
theorem s1_lt : ∀ b : Fin 256, s1 b.val < 256 := by decide +kernel
theorem f12_lt : ∀ b : Fin 256, f12 b.val < 256 ∧ f12 b.val % 16 ≤ 4 ∧ f12 b.val / 16 ≤ 4 := by decide +kernel
theorem popb_eq : ∀ b : Fin 256, popb b.val = b.val % 2 + b.val / 2 % 2 + b.val / 4 % 2 + b.val / 8 % 2 + b.val / 16 % 2 + b.val / 32 % 2 + b.val / 64 % 2 + b.val / 128 % 2 := by decide +kernel
theorem half_mask (x : Nat) : (x / 2 % 256 &&& 85) = (x % 256 / 2 &&& 85) := by
  have h := half_85 ⟨x % 512, by omega⟩
  simp only at h
  rw [show x / 2 % 256 = x % 512 / 2 % 256 by omega, h, show x % 512 % 256 = x % 256 by omega]
theorem quart_mask (x : Nat) : (x / 4 % 256 &&& 51) = (x % 256 / 4 &&& 51) := by
  have h := quart_51 ⟨x % 1024, by omega⟩
  simp only at h
  rw [show x / 4 % 256 = x % 1024 / 4 % 256 by omega, h, show x % 1024 % 256 = x % 256 by omega]
def A1 (k x : Nat) : Nat := (x / 2 &&& maskG 85 k) + (x &&& maskG 85 k)
def A2 (k x : Nat) : Nat := (x / 4 &&& maskG 51 k) + (x &&& maskG 51 k)
def A3 (k x : Nat) : Nat := (x / 16 + x) &&& maskG 15 k
theorem A1_next (k x : Nat) : A1 (k + 1) x = s1 (x % 256) + 256 * A1 k (x / 256) := by
  unfold A1 s1
  rw [and_mask _ 85 k (by decide), and_mask x 85 k (by decide), half_mask, show x / 2 / 256 = x / 256 / 2 by omega]
  omega
theorem A2_next (k x : Nat) : A2 (k + 1) x = s2 (x % 256) + 256 * A2 k (x / 256) := by
  unfold A2 s2
  rw [and_mask _ 51 k (by decide), and_mask x 51 k (by decide), quart_mask, show x / 4 / 256 = x / 256 / 4 by omega]
  omega
def Z (k x : Nat) : Nat := A2 k (A1 k x)
theorem Z_next (k x : Nat) : Z (k + 1) x = f12 (x % 256) + 256 * Z k (x / 256) := by
  unfold Z
  have h := s1_lt ⟨x % 256, by omega⟩
  simp only at h
  rw [A2_next, A1_next, show (s1 (x % 256) + 256 * A1 k (x / 256)) % 256 = s1 (x % 256) by omega, show (s1 (x % 256) + 256 * A1 k (x / 256)) / 256 = A1 k (x / 256) by omega]
  rfl
theorem Z_low (k x : Nat) : Z k x % 16 ≤ 4 := by
  cases k with
  | zero => simp [Z, A2, maskG]
  | succ k =>
    rw [Z_next]
    have h := (f12_lt ⟨x % 256, by omega⟩).2.1
    simp only at h
    omega
def W (k x : Nat) : Nat := A3 k (Z k x)
theorem W_next (k x : Nat) : W (k + 1) x = popb (x % 256) + 256 * W k (x / 256) := by
  unfold W A3
  have h := f12_lt ⟨x % 256, by omega⟩
  simp only at h
  obtain ⟨h1, h2, h3⟩ := h
  have h4 := Z_low k (x / 256)
  rw [Z_next, and_mask _ 15 k (by decide)]
  generalize Z k (x / 256) = r at h4 ⊢
  unfold popb
  generalize f12 (x % 256) = b at h1 h2 h3 ⊢
  have e1 : ((b + 256 * r) / 16 + (b + 256 * r)) / 256 = r / 16 + r := by omega
  have e2 : ((b + 256 * r) / 16 + (b + 256 * r)) % 256 % 16 = (b / 16 + b) % 16 := by omega
  rw [e1, show (15 : Nat) = 2 ^ 4 - 1 from rfl, Nat.and_two_pow_sub_one_eq_mod, show (2 : Nat) ^ 4 = 16 from rfl, e2]

/-- How many of the k lowest bits are set. -/
theorem cnt_low (m k : Nat) : (bitsTo m (k + 1)).length = m % 2 + (bitsTo (m / 2) k).length := by
  induction k with
  | zero =>
    have e : decide (m % 2 = 1) = m.testBit 0 := by rw [Nat.testBit_zero]
    cases h : m.testBit 0 with
    | true => rw [bitsTo_yes h]; rw [h] at e; simp at e; simp [bitsTo]; omega
    | false => rw [bitsTo_no h]; rw [h] at e; simp at e; simp [bitsTo]; omega
  | succ k ih =>
    have e : (m / 2).testBit k = m.testBit (k + 1) := by rw [Nat.testBit_succ]
    cases h : m.testBit (k + 1) with
    | true => rw [bitsTo_yes h, bitsTo_yes (e.trans h), List.length_append, List.length_append, ih]; simp; omega
    | false => rw [bitsTo_no h, bitsTo_no (e.trans h), ih]
theorem bit_mod (m d e : Nat) (h : 256 = d * (2 * e)) : m % 256 / d % 2 = m / d % 2 := by rw [h, Nat.mod_mul_right_div_self, Nat.mod_mul_right_mod]
theorem cnt_byte (m k : Nat) : (bitsTo m (k + 8)).length = popb (m % 256) + (bitsTo (m / 256) k).length := by
  have h := popb_eq ⟨m % 256, by omega⟩
  simp only at h
  rw [Nat.mod_mod_of_dvd m (by decide : 2 ∣ 256), bit_mod m 2 64 rfl, bit_mod m 4 32 rfl, bit_mod m 8 16 rfl, bit_mod m 16 8 rfl, bit_mod m 32 4 rfl, bit_mod m 64 2 rfl, bit_mod m 128 1 rfl] at h
  have h1 := cnt_low m (k + 7)
  have h2 := cnt_low (m / 2) (k + 6)
  have h3 := cnt_low (m / 4) (k + 5)
  have h4 := cnt_low (m / 8) (k + 4)
  have h5 := cnt_low (m / 16) (k + 3)
  have h6 := cnt_low (m / 32) (k + 2)
  have h7 := cnt_low (m / 64) (k + 1)
  have h8 := cnt_low (m / 128) k
  rw [show m / 2 / 2 = m / 4 by omega] at h2
  rw [show m / 4 / 2 = m / 8 by omega] at h3
  rw [show m / 8 / 2 = m / 16 by omega] at h4
  rw [show m / 16 / 2 = m / 32 by omega] at h5
  rw [show m / 32 / 2 = m / 64 by omega] at h6
  rw [show m / 64 / 2 = m / 128 by omega] at h7
  rw [show m / 128 / 2 = m / 256 by omega] at h8
  generalize m % 2 = b0 at h h1
  generalize m / 2 % 2 = b1 at h h2
  generalize m / 4 % 2 = b2 at h h3
  generalize m / 8 % 2 = b3 at h h4
  generalize m / 16 % 2 = b4 at h h5
  generalize m / 32 % 2 = b5 at h h6
  generalize m / 64 % 2 = b6 at h h7
  generalize m / 128 % 2 = b7 at h h8
  have e : (bitsTo m (k + 8)).length = b0 + (bitsTo (m / 2) (k + 7)).length := h1
  rw [e, h2, h3, h4, h5, h6, h7, h8, h]
  simp only [Nat.add_assoc]
theorem popb_le (x : Nat) : popb (x % 256) ≤ 8 := by
  rw [popb_eq ⟨x % 256, by omega⟩]
  simp only
  omega
/-- The eight bytes' counts. -/
theorem parts8 (m : Nat) : ∃ p0 p1 p2 p3 p4 p5 p6 p7, p0 ≤ 8 ∧ p1 ≤ 8 ∧ p2 ≤ 8 ∧ p3 ≤ 8 ∧ p4 ≤ 8 ∧ p5 ≤ 8 ∧ p6 ≤ 8 ∧ p7 ≤ 8 ∧
    W 8 m = p0 + 256 * p1 + 65536 * p2 + 16777216 * p3 + 4294967296 * p4 + 1099511627776 * p5 + 281474976710656 * p6 + 72057594037927936 * p7 ∧
    (bitsL m).length = p0 + p1 + p2 + p3 + p4 + p5 + p6 + p7 := by
  refine ⟨_, _, _, _, _, _, _, _, popb_le m, popb_le (m / 256), popb_le (m / 256 / 256), popb_le (m / 256 / 256 / 256), popb_le (m / 256 / 256 / 256 / 256), popb_le (m / 256 / 256 / 256 / 256 / 256), popb_le (m / 256 / 256 / 256 / 256 / 256 / 256), popb_le (m / 256 / 256 / 256 / 256 / 256 / 256 / 256), ?_, ?_⟩
  · rw [W_next, W_next, W_next, W_next, W_next, W_next, W_next, W_next]
    have z : ∀ x, W 0 x = 0 := fun x => by unfold W A3; exact Nat.and_zero _
    rw [z]
    omega
  · show (bitsTo m 64).length = _
    rw [cnt_byte, cnt_byte, cnt_byte, cnt_byte, cnt_byte, cnt_byte, cnt_byte, cnt_byte]
    show _ + (_ + (_ + (_ + (_ + (_ + (_ + (_ + ([] : List Int).length))))))) = _
    simp only [List.length_nil]
    omega
theorem div_of {y lo hi d : Nat} (h : y = lo + d * hi) (hl : lo < d) : y / d = hi := by
  rw [h, Nat.add_mul_div_left _ _ (by omega), Nat.div_eq_of_lt hl, Nat.zero_add]
section
variable {p0 p1 p2 p3 p4 p5 p6 p7 : Nat} (h0 : p0 ≤ 8) (h1 : p1 ≤ 8) (h2 : p2 ≤ 8) (h3 : p3 ≤ 8) (h4 : p4 ≤ 8) (h5 : p5 ≤ 8) (h6 : p6 ≤ 8) (h7 : p7 ≤ 8)
include h0 h1 h2 h3 h4 h5 h6 h7
theorem st0 : p0 + 256 * p1 + 65536 * p2 + 16777216 * p3 + 4294967296 * p4 + 1099511627776 * p5 + 281474976710656 * p6 + 72057594037927936 * p7 < 9223372036854775808 := by omega
omit h1 h2 h3 h4 h5 h6 h7 in
theorem st1 : (p0 + 256 * p1 + 65536 * p2 + 16777216 * p3 + 4294967296 * p4 + 1099511627776 * p5 + 281474976710656 * p6 + 72057594037927936 * p7) + (p0 + 256 * p1 + 65536 * p2 + 16777216 * p3 + 4294967296 * p4 + 1099511627776 * p5 + 281474976710656 * p6 + 72057594037927936 * p7) / 256 = p0 + p1 + 256 * (p1 + p2) + 65536 * (p2 + p3 + 256 * (p3 + p4) + 65536 * (p4 + p5) + 16777216 * (p5 + p6) + 4294967296 * (p6 + p7) + 1099511627776 * p7) := by
  have d : (p0 + 256 * p1 + 65536 * p2 + 16777216 * p3 + 4294967296 * p4 + 1099511627776 * p5 + 281474976710656 * p6 + 72057594037927936 * p7) / 256 = p1 + 256 * p2 + 65536 * p3 + 16777216 * p4 + 4294967296 * p5 + 1099511627776 * p6 + 281474976710656 * p7 := div_of (lo := p0) (by omega) (by omega)
  rw [d]
  omega
theorem st1b : p0 + p1 + 256 * (p1 + p2) + 65536 * (p2 + p3 + 256 * (p3 + p4) + 65536 * (p4 + p5) + 16777216 * (p5 + p6) + 4294967296 * (p6 + p7) + 1099511627776 * p7) < 9223372036854775808 := by omega
omit h3 h4 h5 h6 h7 in
theorem st2 : (p0 + p1 + 256 * (p1 + p2) + 65536 * (p2 + p3 + 256 * (p3 + p4) + 65536 * (p4 + p5) + 16777216 * (p5 + p6) + 4294967296 * (p6 + p7) + 1099511627776 * p7)) + (p0 + p1 + 256 * (p1 + p2) + 65536 * (p2 + p3 + 256 * (p3 + p4) + 65536 * (p4 + p5) + 16777216 * (p5 + p6) + 4294967296 * (p6 + p7) + 1099511627776 * p7)) / 65536 = p0 + p1 + (p2 + p3) + 256 * (p1 + p2 + (p3 + p4)) + 65536 * (p2 + p3 + (p4 + p5)) + 16777216 * (p3 + p4 + (p5 + p6)) + 4294967296 * (p4 + p5 + (p6 + p7) + 256 * (p5 + p6 + p7) + 65536 * (p6 + p7) + 16777216 * p7) := by
  have d : (p0 + p1 + 256 * (p1 + p2) + 65536 * (p2 + p3 + 256 * (p3 + p4) + 65536 * (p4 + p5) + 16777216 * (p5 + p6) + 4294967296 * (p6 + p7) + 1099511627776 * p7)) / 65536 = (p2 + p3 + 256 * (p3 + p4) + 65536 * (p4 + p5) + 16777216 * (p5 + p6) + 4294967296 * (p6 + p7) + 1099511627776 * p7) := div_of (lo := p0 + p1 + 256 * (p1 + p2)) rfl (by omega)
  rw [d]
  omega
theorem st2b : p0 + p1 + (p2 + p3) + 256 * (p1 + p2 + (p3 + p4)) + 65536 * (p2 + p3 + (p4 + p5)) + 16777216 * (p3 + p4 + (p5 + p6)) + 4294967296 * (p4 + p5 + (p6 + p7) + 256 * (p5 + p6 + p7) + 65536 * (p6 + p7) + 16777216 * p7) < 9223372036854775808 := by omega
omit h7 in
theorem st3 : (p0 + p1 + (p2 + p3) + 256 * (p1 + p2 + (p3 + p4)) + 65536 * (p2 + p3 + (p4 + p5)) + 16777216 * (p3 + p4 + (p5 + p6)) + 4294967296 * (p4 + p5 + (p6 + p7) + 256 * (p5 + p6 + p7) + 65536 * (p6 + p7) + 16777216 * p7)) + (p0 + p1 + (p2 + p3) + 256 * (p1 + p2 + (p3 + p4)) + 65536 * (p2 + p3 + (p4 + p5)) + 16777216 * (p3 + p4 + (p5 + p6)) + 4294967296 * (p4 + p5 + (p6 + p7) + 256 * (p5 + p6 + p7) + 65536 * (p6 + p7) + 16777216 * p7)) / 4294967296 = p0 + p1 + p2 + p3 + p4 + p5 + p6 + p7 + 128 * (2 * (p1 + p2 + (p3 + p4)) + 512 * (p2 + p3 + (p4 + p5)) + 131072 * (p3 + p4 + (p5 + p6)) + 33554432 * (p4 + p5 + (p6 + p7) + 256 * (p5 + p6 + p7) + 65536 * (p6 + p7) + 16777216 * p7) + 2 * (p5 + p6 + p7) + 512 * (p6 + p7) + 131072 * p7) := by
  have d : (p0 + p1 + (p2 + p3) + 256 * (p1 + p2 + (p3 + p4)) + 65536 * (p2 + p3 + (p4 + p5)) + 16777216 * (p3 + p4 + (p5 + p6)) + 4294967296 * (p4 + p5 + (p6 + p7) + 256 * (p5 + p6 + p7) + 65536 * (p6 + p7) + 16777216 * p7)) / 4294967296 = (p4 + p5 + (p6 + p7) + 256 * (p5 + p6 + p7) + 65536 * (p6 + p7) + 16777216 * p7) := div_of (lo := p0 + p1 + (p2 + p3) + 256 * (p1 + p2 + (p3 + p4)) + 65536 * (p2 + p3 + (p4 + p5)) + 16777216 * (p3 + p4 + (p5 + p6))) rfl (by omega)
  rw [d]
  omega
theorem st3b : p0 + p1 + p2 + p3 + p4 + p5 + p6 + p7 + 128 * (2 * (p1 + p2 + (p3 + p4)) + 512 * (p2 + p3 + (p4 + p5)) + 131072 * (p3 + p4 + (p5 + p6)) + 33554432 * (p4 + p5 + (p6 + p7) + 256 * (p5 + p6 + p7) + 65536 * (p6 + p7) + 16777216 * p7) + 2 * (p5 + p6 + p7) + 512 * (p6 + p7) + 131072 * p7) < 9223372036854775808 := by omega
end
/-- The bytes together. -/
theorem fold8 (m : Nat) : ∃ x0 x1 x2 x3 : Nat, x0 = W 8 m ∧ x1 = x0 + x0 / 256 ∧ x2 = x1 + x1 / 65536 ∧ x3 = x2 + x2 / 4294967296 ∧ x0 < 9223372036854775808 ∧ x1 < 9223372036854775808 ∧ x2 < 9223372036854775808 ∧ x3 < 9223372036854775808 ∧ x3 % 128 = (bitsL m).length := by
  obtain ⟨p0, p1, p2, p3, p4, p5, p6, p7, h0, h1, h2, h3, h4, h5, h6, h7, hw, hl⟩ := parts8 m
  rw [hl, hw]
  refine ⟨_, _, _, _, rfl, (st1 h0).symm, (st2 h0 h1 h2).symm, (st3 h0 h1 h2 h3 h4 h5 h6).symm, st0 h0 h1 h2 h3 h4 h5 h6 h7, st1b h0 h1 h2 h3 h4 h5 h6 h7, st2b h0 h1 h2 h3 h4 h5 h6 h7, st3b h0 h1 h2 h3 h4 h5 h6 h7, ?_⟩
  rw [Nat.add_mul_mod_self_left, Nat.mod_eq_of_lt (by omega)]
theorem mask85 : maskG 85 8 = 6148914691236517205 := by decide
theorem mask51 : maskG 51 8 = 3689348814741910323 := by decide
theorem mask15 : maskG 15 8 = 1085102592571150095 := by decide
end GroupSpec
end Go.Proofs.YtihgigmncgopjaaDoor
