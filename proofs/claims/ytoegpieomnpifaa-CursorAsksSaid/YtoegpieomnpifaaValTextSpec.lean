/- Plain mathematics for numbers as texts: which lists of bytes are numerals, what they say, the digits of a number, and that one undoes the other. No condition. -/
namespace Go.Proofs.Ytoegpieomnpifaa
namespace ValSpec

def isDig (c : UInt8) : Bool := decide (48 ≤ (c.toNat : Int) ∧ (c.toNat : Int) ≤ 57)
def isNum (l : List UInt8) : Bool := !l.isEmpty && !(l.head? == some 48 && decide (1 < l.length)) && l.all isDig
/-- What digits say. -/
def says (l : List UInt8) : Int := l.foldl (fun n c => 10 * n + ((c.toNat : Int) - 48)) 0
/-- The answer of Get: the number, and the error's number. -/
def getN (l : List UInt8) : Int := if isNum l then (if 1000000 < says l then 0 else says l) else 0
def getE (l : List UInt8) : Int := if isNum l then (if 1000000 < says l then 3 else 0) else 2

theorem says_snoc (l : List UInt8) (c : UInt8) : says (l ++ [c]) = 10 * says l + ((c.toNat : Int) - 48) := by simp [says, List.foldl_append]
theorem says_nil : says [] = 0 := rfl
theorem fold_ge (l : List UInt8) (h : l.all isDig = true) : ∀ n : Int, 0 ≤ n → n ≤ l.foldl (fun n c => 10 * n + ((c.toNat : Int) - 48)) n := by
  induction l with
  | nil => intro n _; exact Int.le_refl _
  | cons c l ih =>
    intro n hn
    simp only [List.all_cons, Bool.and_eq_true] at h
    have hc : 48 ≤ (c.toNat : Int) ∧ (c.toNat : Int) ≤ 57 := by simpa [isDig] using h.1
    have := ih h.2 (10 * n + ((c.toNat : Int) - 48)) (by omega)
    simp only [List.foldl_cons]
    omega
theorem says_nonneg (l : List UInt8) (h : l.all isDig = true) : 0 ≤ says l := fold_ge l h 0 (Int.le_refl _)
theorem says_append_ge (l m : List UInt8) (h : (l ++ m).all isDig = true) : says l ≤ says (l ++ m) := by
  rw [List.all_append, Bool.and_eq_true] at h
  unfold says
  rw [List.foldl_append]
  exact fold_ge m h.2 _ (says_nonneg l h.1)
theorem says_take_le (l : List UInt8) (k : Nat) (h : l.all isDig = true) : says (l.take k) ≤ says l := by
  have := says_append_ge (l.take k) (l.drop k) (by rw [List.take_append_drop]; exact h)
  rwa [List.take_append_drop] at this
theorem all_take {l : List UInt8} (k : Nat) (h : l.all isDig = true) : (l.take k).all isDig = true := by
  rw [List.all_eq_true] at h ⊢
  exact fun x hx => h x (List.mem_of_mem_take hx)
theorem dig_bd {c : UInt8} (h : isDig c = true) : 48 ≤ (c.toNat : Int) ∧ (c.toNat : Int) ≤ 57 := by simpa [isDig] using h
theorem dig_mk {c : UInt8} (h1 : 48 ≤ (c.toNat : Int)) (h2 : (c.toNat : Int) ≤ 57) : isDig c = true := by simp [isDig, h1, h2]
theorem not_dig_lo {c : UInt8} (h1 : (c.toNat : Int) < 48) : isDig c = false := by simp [isDig]; omega
theorem not_dig_hi {c : UInt8} (h1 : 57 < (c.toNat : Int)) : isDig c = false := by simp [isDig]; omega
theorem isNum_all {l : List UInt8} (h : isNum l = true) : l.all isDig = true := by simp [isNum] at h; simp [List.all_eq_true]; exact h.2
theorem isNum_ne {l : List UInt8} (h : isNum l = true) : l ≠ [] := by rintro rfl; simp [isNum] at h
theorem isNum_zero {c : UInt8} {l : List UInt8} (h : isNum (c :: l) = true) (hc : c = 48) : l = [] := by
  subst hc
  simp [isNum] at h
  exact h.1

/-- The digits of a number from 0 on. -/
def digs (n : Nat) : List UInt8 := if n < 10 then [UInt8.ofNat (48 + n)] else digs (n / 10) ++ [UInt8.ofNat (48 + n % 10)]
termination_by n
decreasing_by omega
/-- A number's text. -/
def text (n : Int) : List UInt8 := if n < 0 then 45 :: digs n.natAbs else digs n.natAbs

theorem digs_lt {n : Nat} (h : n < 10) : digs n = [UInt8.ofNat (48 + n)] := by rw [digs, if_pos h]
theorem digs_ge {n : Nat} (h : ¬ n < 10) : digs n = digs (n / 10) ++ [UInt8.ofNat (48 + n % 10)] := by rw [digs, if_neg h]
theorem byte_nat {d : Nat} (h : d < 208) : (UInt8.ofNat (48 + d)).toNat = 48 + d := by simp [UInt8.toNat_ofNat']; omega
theorem digs_ne (n : Nat) : digs n ≠ [] := by
  by_cases h : n < 10
  · rw [digs_lt h]; simp
  · rw [digs_ge h]; simp
theorem digs_says (n : Nat) : says (digs n) = n := by
  induction n using Nat.strongRecOn with
  | ind n ih =>
    by_cases h : n < 10
    · rw [digs_lt h]; simp only [says, List.foldl_cons, List.foldl_nil, byte_nat (show n < 208 by omega)]; omega
    · rw [digs_ge h, says_snoc, ih (n / 10) (by omega), byte_nat (show n % 10 < 208 by omega)]; omega
theorem digs_all (n : Nat) : (digs n).all isDig = true := by
  induction n using Nat.strongRecOn with
  | ind n ih =>
    by_cases h : n < 10
    · rw [digs_lt h]; simp [isDig, UInt8.toNat_ofNat']; omega
    · rw [digs_ge h, List.all_append, ih (n / 10) (by omega)]; simp [isDig, UInt8.toNat_ofNat']; omega
theorem digs_head (n : Nat) (h : n ≠ 0) : (digs n).head? ≠ some 48 := by
  induction n using Nat.strongRecOn with
  | ind n ih =>
    by_cases h' : n < 10
    · rw [digs_lt h']
      simp only [List.head?_cons, ne_eq, Option.some.injEq]
      intro e
      have := congrArg UInt8.toNat e
      rw [byte_nat (by omega)] at this
      simp at this
      omega
    · rw [digs_ge h']
      have h2 := ih (n / 10) (by omega) (by omega)
      have h3 := digs_ne (n / 10)
      cases e : digs (n / 10) with
      | nil => exact absurd e h3
      | cons a l => rw [e] at h2; simpa using h2
theorem digs_isNum (n : Nat) : isNum (digs n) = true := by
  unfold isNum
  rw [digs_all]
  have h1 : (digs n).isEmpty = false := by have := digs_ne n; cases h : digs n <;> simp_all
  rw [h1]
  by_cases h : n = 0
  · subst h; rw [digs_lt (by omega)]; rfl
  · have h2 := digs_head n h
    have h3 : ((digs n).head? == some 48) = false := by rw [beq_eq_false_iff_ne]; exact h2
    rw [h3]; rfl
theorem digs_len : ∀ (k n : Nat), n < 10 ^ (k + 1) → (digs n).length ≤ k + 1 := by
  intro k
  induction k with
  | zero => intro n h; rw [digs_lt (by omega)]; simp
  | succ k ih =>
    intro n h
    by_cases h' : n < 10
    · rw [digs_lt h']; simp
    · rw [digs_ge h', List.length_append]
      have : n / 10 < 10 ^ (k + 1) := by rw [Nat.div_lt_iff_lt_mul (by omega)]; rwa [Nat.pow_succ] at h
      have := ih _ this
      simp; omega
theorem head_minus (l : List UInt8) : isNum (45 :: l) = false := by
  simp [isNum, isDig]

/-- Two numerals that say the same are the same. -/
theorem says_pos (l : List UInt8) (c : UInt8) (hc : isDig c = true) (h : l.all isDig = true) (h0 : c ≠ 48) : 1 ≤ says (c :: l) := by
  have hb := dig_bd hc
  have : c.toNat ≠ 48 := fun e => h0 (UInt8.toNat_inj.mp (by rw [e]; rfl))
  have := fold_ge l h (10 * 0 + ((c.toNat : Int) - 48)) (by omega)
  show 1 ≤ List.foldl _ _ _
  rw [List.foldl_cons]
  omega
theorem numeral_digs_aux : ∀ (k : Nat) (l : List UInt8), l.length = k → isNum l = true → digs (says l).toNat = l := by
  intro k
  induction k with
  | zero => intro l hl h; exact absurd (List.length_eq_zero_iff.mp hl) (isNum_ne h)
  | succ k ih =>
    intro l hl h
    obtain ⟨m, c, rfl⟩ : ∃ m c, l = m ++ [c] := ⟨l.dropLast, l.getLast (isNum_ne h), (List.dropLast_concat_getLast (isNum_ne h)).symm⟩
    have hall := isNum_all h
    rw [List.all_append, Bool.and_eq_true] at hall
    have hc : isDig c = true := by simpa using hall.2
    have hb := dig_bd hc
    rw [says_snoc]
    cases m with
    | nil =>
      simp only [says_nil]
      rw [digs_lt (by omega), List.nil_append, show (48 + (10 * 0 + ((c.toNat : Int) - 48)).toNat) = c.toNat by omega]
      simp
    | cons d m =>
      have hd : d ≠ 48 := by
        rintro rfl
        have := isNum_zero (l := m ++ [c]) h rfl
        simp at this
      have hm : isNum (d :: m) = true := by
        simp only [isNum, List.isEmpty_cons, Bool.not_false, Bool.true_and, List.head?_cons, Bool.and_eq_true]
        refine ⟨?_, hall.1⟩
        have : (some d == some (48 : UInt8)) = false := by simp [hd]
        rw [this]; rfl
      have hs := says_pos m d (by have := hall.1; simp only [List.all_cons, Bool.and_eq_true] at this; exact this.1) (by have := hall.1; simp only [List.all_cons, Bool.and_eq_true] at this; exact this.2) hd
      have e := ih (d :: m) (by simpa using hl) hm
      rw [digs_ge (by omega), show (10 * says (d :: m) + ((c.toNat : Int) - 48)).toNat / 10 = (says (d :: m)).toNat by omega, e,
        show 48 + (10 * says (d :: m) + ((c.toNat : Int) - 48)).toNat % 10 = c.toNat by omega]
      simp
theorem numeral_digs {l : List UInt8} (h : isNum l = true) : digs (says l).toNat = l := numeral_digs_aux l.length l rfl h

/-- What is put of what was got is the text; what is put of a value from 0 on is got, and of no other. -/
theorem put_get {l : List UInt8} (h : getE l = 0) : text (getN l) = l := by
  unfold getE at h
  by_cases hn : isNum l = true
  · rw [if_pos hn] at h
    by_cases hb : 1000000 < says l
    · rw [if_pos hb] at h; omega
    · have h0 := says_nonneg l (isNum_all hn)
      unfold getN
      rw [if_pos hn, if_neg hb]
      unfold text
      rw [if_neg (by omega), show (says l).natAbs = (says l).toNat by omega]
      exact numeral_digs hn
  · rw [if_neg hn] at h; omega
theorem get_put (n : Int) : ((getN (text n) = n) ∧ getE (text n) = 0) ↔ (0 ≤ n ∧ n ≤ 1000000) := by
  by_cases h : n < 0
  · have e : getE (text n) = 2 := by unfold getE text; rw [if_pos h, if_neg (by rw [head_minus]; simp)]
    constructor
    · rintro ⟨_, h'⟩; omega
    · rintro ⟨h', _⟩; omega
  · have hs : says (digs n.natAbs) = n := by rw [digs_says]; omega
    have e1 : getE (text n) = if 1000000 < n then 3 else 0 := by unfold getE text; rw [if_neg h, if_pos (digs_isNum _), hs]
    have e2 : getN (text n) = if 1000000 < n then 0 else n := by unfold getN text; rw [if_neg h, if_pos (digs_isNum _), hs]
    rw [e1, e2]
    by_cases hb : 1000000 < n
    · rw [if_pos hb, if_pos hb]; omega
    · rw [if_neg hb, if_neg hb]; omega

end ValSpec
end Go.Proofs.Ytoegpieomnpifaa
