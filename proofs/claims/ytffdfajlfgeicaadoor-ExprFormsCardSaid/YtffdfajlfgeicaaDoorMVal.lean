/- ValTextSpec, ValSpec, ValCalls, ValGet, ValPut, joined. -/
import Derived.Test.YtffdfajlfgeicaaDoorRows
import Derived.WalkKit
import Derived.WalkSpells
import Derived.Lib.Hide
/- Plain mathematics for numbers as texts: which lists of bytes are numerals, what they say, the digits of a number, and that one undoes the other. No condition. -/
namespace Go.Proofs.YtffdfajlfgeicaaDoor
namespace ValSpec

def isDig (c : UInt8) : Bool := decide (48 ≤ (c.toNat : Int) ∧ (c.toNat : Int) ≤ 57)
def isNum (l : List UInt8) : Bool := !l.isEmpty && !(l.head? == some 48 && decide (1 < l.length)) && l.all isDig
/-- What digits say. -/
def says (l : List UInt8) : Int := l.foldl (fun n c => 10 * n + ((c.toNat : Int) - 48)) 0
/-- The answer of Get: the number, and the error's number. -/
def getN (l : List UInt8) : Int := if isNum l then (if 1000000 < says l then 0 else says l) else 0
def getE (l : List UInt8) : Int := if isNum l then (if 1000000 < says l then 3 else 0) else 2

theorem says_snoc (l : List UInt8) (c : UInt8) : says (l ++ [c]) = 10 * says l + ((c.toNat : Int) - 48) := by simp [says, List.foldl_append]
theorem says_nil : says [] = 0 := rfl
theorem fold_ge (l : List UInt8) (h : l.all isDig = true) : ∀ n : Int, 0 ≤ n → n ≤ l.foldl (fun n c => 10 * n + ((c.toNat : Int) - 48)) n := by
  induction l with
  | nil => intro n _; exact Int.le_refl _
  | cons c l ih =>
    intro n hn
    simp only [List.all_cons, Bool.and_eq_true] at h
    have hc : 48 ≤ (c.toNat : Int) ∧ (c.toNat : Int) ≤ 57 := by simpa [isDig] using h.1
    have := ih h.2 (10 * n + ((c.toNat : Int) - 48)) (by omega)
    simp only [List.foldl_cons]
    omega
theorem says_nonneg (l : List UInt8) (h : l.all isDig = true) : 0 ≤ says l := fold_ge l h 0 (Int.le_refl _)
theorem says_append_ge (l m : List UInt8) (h : (l ++ m).all isDig = true) : says l ≤ says (l ++ m) := by
  rw [List.all_append, Bool.and_eq_true] at h
  unfold says
  rw [List.foldl_append]
  exact fold_ge m h.2 _ (says_nonneg l h.1)
theorem says_take_le (l : List UInt8) (k : Nat) (h : l.all isDig = true) : says (l.take k) ≤ says l := by
  have := says_append_ge (l.take k) (l.drop k) (by rw [List.take_append_drop]; exact h)
  rwa [List.take_append_drop] at this
theorem all_take {l : List UInt8} (k : Nat) (h : l.all isDig = true) : (l.take k).all isDig = true := by
  rw [List.all_eq_true] at h ⊢
  exact fun x hx => h x (List.mem_of_mem_take hx)
theorem dig_bd {c : UInt8} (h : isDig c = true) : 48 ≤ (c.toNat : Int) ∧ (c.toNat : Int) ≤ 57 := by simpa [isDig] using h
theorem dig_mk {c : UInt8} (h1 : 48 ≤ (c.toNat : Int)) (h2 : (c.toNat : Int) ≤ 57) : isDig c = true := by simp [isDig, h1, h2]
theorem not_dig_lo {c : UInt8} (h1 : (c.toNat : Int) < 48) : isDig c = false := by simp [isDig]; omega
theorem not_dig_hi {c : UInt8} (h1 : 57 < (c.toNat : Int)) : isDig c = false := by simp [isDig]; omega
theorem isNum_all {l : List UInt8} (h : isNum l = true) : l.all isDig = true := by simp [isNum] at h; simp [List.all_eq_true]; exact h.2
theorem isNum_ne {l : List UInt8} (h : isNum l = true) : l ≠ [] := by rintro rfl; simp [isNum] at h
theorem isNum_zero {c : UInt8} {l : List UInt8} (h : isNum (c :: l) = true) (hc : c = 48) : l = [] := by
  subst hc
  simp [isNum] at h
  exact h.1

/-- The digits of a number from 0 on. -/
def digs (n : Nat) : List UInt8 := if n < 10 then [UInt8.ofNat (48 + n)] else digs (n / 10) ++ [UInt8.ofNat (48 + n % 10)]
termination_by n
decreasing_by omega
/-- A number's text. -/
def text (n : Int) : List UInt8 := if n < 0 then 45 :: digs n.natAbs else digs n.natAbs

theorem digs_lt {n : Nat} (h : n < 10) : digs n = [UInt8.ofNat (48 + n)] := by rw [digs, if_pos h]
theorem digs_ge {n : Nat} (h : ¬ n < 10) : digs n = digs (n / 10) ++ [UInt8.ofNat (48 + n % 10)] := by rw [digs, if_neg h]
theorem byte_nat {d : Nat} (h : d < 208) : (UInt8.ofNat (48 + d)).toNat = 48 + d := by simp [UInt8.toNat_ofNat']; omega
theorem digs_ne (n : Nat) : digs n ≠ [] := by
  by_cases h : n < 10
  · rw [digs_lt h]; simp
  · rw [digs_ge h]; simp
theorem digs_says (n : Nat) : says (digs n) = n := by
  induction n using Nat.strongRecOn with
  | ind n ih =>
    by_cases h : n < 10
    · rw [digs_lt h]; simp only [says, List.foldl_cons, List.foldl_nil, byte_nat (show n < 208 by omega)]; omega
    · rw [digs_ge h, says_snoc, ih (n / 10) (by omega), byte_nat (show n % 10 < 208 by omega)]; omega
theorem digs_all (n : Nat) : (digs n).all isDig = true := by
  induction n using Nat.strongRecOn with
  | ind n ih =>
    by_cases h : n < 10
    · rw [digs_lt h]; simp [isDig, UInt8.toNat_ofNat']; omega
    · rw [digs_ge h, List.all_append, ih (n / 10) (by omega)]; simp [isDig, UInt8.toNat_ofNat']; omega
theorem digs_head (n : Nat) (h : n ≠ 0) : (digs n).head? ≠ some 48 := by
  induction n using Nat.strongRecOn with
  | ind n ih =>
    by_cases h' : n < 10
    · rw [digs_lt h']
      simp only [List.head?_cons, ne_eq, Option.some.injEq]
      intro e
      have := congrArg UInt8.toNat e
      rw [byte_nat (by omega)] at this
      simp at this
      omega
    · rw [digs_ge h']
      have h2 := ih (n / 10) (by omega) (by omega)
      have h3 := digs_ne (n / 10)
      cases e : digs (n / 10) with
      | nil => exact absurd e h3
      | cons a l => rw [e] at h2; simpa using h2
theorem digs_isNum (n : Nat) : isNum (digs n) = true := by
  unfold isNum
  rw [digs_all]
  have h1 : (digs n).isEmpty = false := by have := digs_ne n; cases h : digs n <;> simp_all
  rw [h1]
  by_cases h : n = 0
  · subst h; rw [digs_lt (by omega)]; rfl
  · have h2 := digs_head n h
    have h3 : ((digs n).head? == some 48) = false := by rw [beq_eq_false_iff_ne]; exact h2
    rw [h3]; rfl
theorem digs_len : ∀ (k n : Nat), n < 10 ^ (k + 1) → (digs n).length ≤ k + 1 := by
  intro k
  induction k with
  | zero => intro n h; rw [digs_lt (by omega)]; simp
  | succ k ih =>
    intro n h
    by_cases h' : n < 10
    · rw [digs_lt h']; simp
    · rw [digs_ge h', List.length_append]
      have : n / 10 < 10 ^ (k + 1) := by rw [Nat.div_lt_iff_lt_mul (by omega)]; rwa [Nat.pow_succ] at h
      have := ih _ this
      simp; omega
theorem head_minus (l : List UInt8) : isNum (45 :: l) = false := by
  simp [isNum, isDig]

/-- Two numerals that say the same are the same. -/
theorem says_pos (l : List UInt8) (c : UInt8) (hc : isDig c = true) (h : l.all isDig = true) (h0 : c ≠ 48) : 1 ≤ says (c :: l) := by
  have hb := dig_bd hc
  have : c.toNat ≠ 48 := fun e => h0 (UInt8.toNat_inj.mp (by rw [e]; rfl))
  have := fold_ge l h (10 * 0 + ((c.toNat : Int) - 48)) (by omega)
  show 1 ≤ List.foldl _ _ _
  rw [List.foldl_cons]
  omega
theorem numeral_digs_aux : ∀ (k : Nat) (l : List UInt8), l.length = k → isNum l = true → digs (says l).toNat = l := by
  intro k
  induction k with
  | zero => intro l hl h; exact absurd (List.length_eq_zero_iff.mp hl) (isNum_ne h)
  | succ k ih =>
    intro l hl h
    obtain ⟨m, c, rfl⟩ : ∃ m c, l = m ++ [c] := ⟨l.dropLast, l.getLast (isNum_ne h), (List.dropLast_concat_getLast (isNum_ne h)).symm⟩
    have hall := isNum_all h
    rw [List.all_append, Bool.and_eq_true] at hall
    have hc : isDig c = true := by simpa using hall.2
    have hb := dig_bd hc
    rw [says_snoc]
    cases m with
    | nil =>
      simp only [says_nil]
      rw [digs_lt (by omega), List.nil_append, show (48 + (10 * 0 + ((c.toNat : Int) - 48)).toNat) = c.toNat by omega]
      simp
    | cons d m =>
      have hd : d ≠ 48 := by
        rintro rfl
        have := isNum_zero (l := m ++ [c]) h rfl
        simp at this
      have hm : isNum (d :: m) = true := by
        simp only [isNum, List.isEmpty_cons, Bool.not_false, Bool.true_and, List.head?_cons, Bool.and_eq_true]
        refine ⟨?_, hall.1⟩
        have : (some d == some (48 : UInt8)) = false := by simp [hd]
        rw [this]; rfl
      have hs := says_pos m d (by have := hall.1; simp only [List.all_cons, Bool.and_eq_true] at this; exact this.1) (by have := hall.1; simp only [List.all_cons, Bool.and_eq_true] at this; exact this.2) hd
      have e := ih (d :: m) (by simpa using hl) hm
      rw [digs_ge (by omega), show (10 * says (d :: m) + ((c.toNat : Int) - 48)).toNat / 10 = (says (d :: m)).toNat by omega, e,
        show 48 + (10 * says (d :: m) + ((c.toNat : Int) - 48)).toNat % 10 = c.toNat by omega]
      simp
theorem numeral_digs {l : List UInt8} (h : isNum l = true) : digs (says l).toNat = l := numeral_digs_aux l.length l rfl h

/-- What is put of what was got is the text; what is put of a value from 0 on is got, and of no other. -/
theorem put_get {l : List UInt8} (h : getE l = 0) : text (getN l) = l := by
  unfold getE at h
  by_cases hn : isNum l = true
  · rw [if_pos hn] at h
    by_cases hb : 1000000 < says l
    · rw [if_pos hb] at h; omega
    · have h0 := says_nonneg l (isNum_all hn)
      unfold getN
      rw [if_pos hn, if_neg hb]
      unfold text
      rw [if_neg (by omega), show (says l).natAbs = (says l).toNat by omega]
      exact numeral_digs hn
  · rw [if_neg hn] at h; omega
theorem get_put (n : Int) : ((getN (text n) = n) ∧ getE (text n) = 0) ↔ (0 ≤ n ∧ n ≤ 1000000) := by
  by_cases h : n < 0
  · have e : getE (text n) = 2 := by unfold getE text; rw [if_pos h, if_neg (by rw [head_minus]; simp)]
    constructor
    · rintro ⟨_, h'⟩; omega
    · rintro ⟨h', _⟩; omega
  · have hs : says (digs n.natAbs) = n := by rw [digs_says]; omega
    have e1 : getE (text n) = if 1000000 < n then 3 else 0 := by unfold getE text; rw [if_neg h, if_pos (digs_isNum _), hs]
    have e2 : getN (text n) = if 1000000 < n then 0 else n := by unfold getN text; rw [if_neg h, if_pos (digs_isNum _), hs]
    rw [e1, e2]
    by_cases hb : 1000000 < n
    · rw [if_pos hb, if_pos hb]; omega
    · rw [if_neg hb, if_neg hb]; omega

end ValSpec
end Go.Proofs.YtffdfajlfgeicaaDoor

/- Plain mathematics for the layer of numbers: the nearest value, its bounds and its order. No condition. -/
namespace Go.Proofs.YtffdfajlfgeicaaDoor
namespace ValSpec

/-- The nearest value. -/
def near (x : Int) : Int := if x < -1000000 then -1000000 else if 1000000 < x then 1000000 else x

theorem near_lo (x : Int) : -1000000 ≤ near x := by unfold near; split <;> (try split) <;> omega
theorem near_hi (x : Int) : near x ≤ 1000000 := by unfold near; split <;> (try split) <;> omega
theorem near_mono {x y : Int} (h : x ≤ y) : near x ≤ near y := by unfold near; split <;> split <;> (try split) <;> (try split) <;> omega

theorem prod_bd (a b : Int) (h1 : -1000000 ≤ a) (h2 : a ≤ 1000000) (h3 : -1000000 ≤ b) (h4 : b ≤ 1000000) : -1000000000000 ≤ a * b ∧ a * b ≤ 1000000000000 := by
  have e : (a * b).natAbs ≤ 1000000 * 1000000 := by
    rw [Int.natAbs_mul]
    exact Nat.mul_le_mul (by omega) (by omega)
  omega

def plus (a b : Int) : Int := near (near a + near b)
def minus (a b : Int) : Int := near (near a - near b)
def times (a b : Int) : Int := near (near a * near b)

theorem plus_comm (a b : Int) : plus a b = plus b a := by unfold plus; rw [Int.add_comm]
theorem times_comm (a b : Int) : times a b = times b a := by unfold times; rw [Int.mul_comm]
theorem plus_mono {a b : Int} (c : Int) (h : a ≤ b) : plus a c ≤ plus b c := near_mono (by have := near_mono h; omega)
theorem minus_mono {a b : Int} (c : Int) (h : a ≤ b) : minus a c ≤ minus b c := near_mono (by have := near_mono h; omega)
theorem near_nonneg {c : Int} (h : 0 ≤ c) : 0 ≤ near c := by unfold near; split <;> (try split) <;> omega
theorem near_neg {c : Int} (h : c ≤ 0) : near c ≤ 0 := by unfold near; split <;> (try split) <;> omega
theorem times_mono {a b c : Int} (h : a ≤ b) (hc : 0 ≤ c) : times a c ≤ times b c := near_mono (Int.mul_le_mul_of_nonneg_right (near_mono h) (near_nonneg hc))
theorem times_anti {a b c : Int} (h : a ≤ b) (hc : c ≤ 0) : times b c ≤ times a c := near_mono (Int.mul_le_mul_of_nonpos_right (near_mono h) (near_neg hc))

end ValSpec
end Go.Proofs.YtffdfajlfgeicaaDoor

namespace Go.Proofs.YtffdfajlfgeicaaDoor
open Go.RowKit ValSpec

theorem val_ret {k : IntKind} {a b : Int} (h : a = b) : Ending.returned (.int k a) = .returned (.int k b) := by rw [h]

def clampI (x lo hi : Int) : Int := if x < lo then lo else if hi < x then hi else x

end Go.Proofs.YtffdfajlfgeicaaDoor

namespace Go.Proofs.YtffdfajlfgeicaaDoor
open Go.RowKit ValSpec
set_option maxRecDepth 100000

theorem str_nil {s : ByteArray} (h : s.size = 0) : s.toList = [] := by
  rw [ByteArray.toList_eq, ← List.length_eq_zero_iff]; exact h
theorem str_ne {s : ByteArray} (h : 0 < s.size) : s.toList.isEmpty = false := by
  have e : s.toList.length = s.size := by rw [ByteArray.toList_eq]; rfl
  cases h' : s.toList with
  | nil => rw [h'] at e; simp at e; omega
  | cons a l => rfl
theorem val_bool {a b : Bool} (h : a = b) : Ending.returned (.bool a) = .returned (.bool b) := by rw [h]
theorem val_pair {a b c d : Int} (h : a = b) (h' : c = d) : Ending.returned (.tuple #[.int .i64 a, .int .i64 c]) = .returned (.tuple #[.int .i64 b, .int .i64 d]) := by rw [h, h']
theorem take_snoc (s : ByteArray) (k : Nat) (h : k < s.size) : s.data.toList.take (k + 1) = s.data.toList.take k ++ [s[k]] := by
  rw [List.take_succ_eq_append_getElem (by simpa using h)]; rfl
theorem take_all (s : ByteArray) : s.data.toList.take s.size = s.data.toList := by rw [List.take_of_length_le (by simp)]
theorem cons_of {s : ByteArray} (h : 0 < s.size) : ∃ tl, s.data.toList = s[0] :: tl ∧ tl.length + 1 = s.size := by
  have e : s.data.toList.length = s.size := rfl
  cases h' : s.data.toList with
  | nil => rw [h'] at e; simp at e; omega
  | cons a l =>
    rw [h'] at e
    refine ⟨l, ?_, by simpa using e⟩
    have : s.data.toList[0]'(by rw [h']; simp) = s[0] := rfl
    rw [← this]
    simp [h']
theorem num_zero {s : ByteArray} (h : 0 < s.size) (h0 : (s[0].toNat : Int) = 48) (h1 : 1 < s.size) : isNum s.data.toList = false := by
  obtain ⟨tl, e, hl⟩ := cons_of h
  have e0 : s[0] = 48 := UInt8.toNat_inj.mp (by show _ = 48; omega)
  rw [e, e0]
  have : 1 ≤ tl.length := by omega
  simp [isNum]
  intro h2; subst h2; simp at this
theorem num_else {s : ByteArray} (h : 0 < s.size) (h0 : ¬ (s[0].toNat : Int) = 48 ∨ s.size ≤ 1) : isNum s.data.toList = s.data.toList.all isDig := by
  obtain ⟨tl, e, hl⟩ := cons_of h
  rw [e]
  unfold isNum
  have e1 : (!(s[0] :: tl).isEmpty) = true := rfl
  rw [e1]
  rcases h0 with h0 | h0
  · have : ((s[0] :: tl).head? == some 48) = false := by
      rw [beq_eq_false_iff_ne]; intro h2; simp at h2; exact h0 (by rw [h2]; rfl)
    rw [this]; simp
  · have : tl = [] := by rw [← List.length_eq_zero_iff]; omega
    subst this; simp
theorem all_take_no {s : ByteArray} {k : Nat} (h : k < s.size) (hc : isDig s[k] = false) : s.data.toList.all isDig = false := by
  rw [List.all_eq_false]
  exact ⟨s[k], by rw [← Array.mem_def]; exact Array.getElem_mem _, by simp [hc]⟩

set_option maxHeartbeats 400000 in
theorem numeral_loop (s : ByteArray) (w : World) (hs : s.size ≤ 9223372036854775807) (hp : 0 < s.size) (h0 : ¬ (s[0].toNat : Int) = 48 ∨ s.size ≤ 1) :
    Calls Tryd.prog 109 #[.string s] w fun e w' => e = .returned (.bool (isNum s.data.toList)) ∧ w = w' := by
  have he := str_ne hp
  have HN := Lib.hid (num_else hp h0)
  have hz : ¬ ((s[0].toNat : Int) = 48 ∧ 1 < (s.size : Int)) := by omega
  by_cases hs0 : (s[0].toNat : Int) = 48
  all_goals
    (first | (have h1 : (s.size : Int) ≤ 1 := by omega) | skip)
    clear h0 hz
    go_enter Tryd.func109, Tryd.ntmps109
    go_wp2_with fail
    go_loop [18] (fun i => ∃ k : Nat, k ≤ s.size ∧ i = .int .i64 k ∧ (s.data.toList.take k).all isDig = true) (fun i => s.size - (intOf i).toNat)
    case atStart => exact ⟨0, Nat.zero_le _, rfl, rfl⟩
    case round =>
      obtain ⟨k, hk, rfl, hall⟩ := hrel
      have HA := Lib.hid hall
      clear hall
      by_cases hlt : k < s.size
      · by_cases hc1 : (s[k].toNat : Int) < 48
        · go_wp2_with fail
          go_ret
          exact ⟨val_bool (by rw [HN.out, all_take_no hlt (not_dig_lo hc1)]), rfl⟩
        · by_cases hc2 : 57 < (s[k].toNat : Int)
          · go_wp2_with fail
            go_ret
            exact ⟨val_bool (by rw [HN.out, all_take_no hlt (not_dig_hi hc2)]), rfl⟩
          · go_wp2_with fail
            go_round
            case rel => exact ⟨k + 1, by omega, by go_num, by rw [take_snoc s k hlt, List.all_append, HA.out]; simp [dig_mk (c := s[k]) (by omega) (by omega)]⟩
            case measure => simp [intOf]; omega
      · go_wp2_with fail
        go_ret
        exact ⟨val_bool (by have : k = s.size := by omega
                            rw [HN.out, ← take_all s, ← this, HA.out]), rfl⟩

theorem numeral_any (s : ByteArray) (w : World) (hs : s.size ≤ maxLen) :
    Calls Tryd.prog 109 #[.string s] w fun e w' => e = .returned (.bool (isNum s.data.toList)) ∧ w = w' := by
  unfold maxLen at hs
  by_cases h0 : s.size = 0
  · have he := str_nil h0
    have : s.data.toList = [] := by rw [← ByteArray.toList_eq]; exact he
    have HE := Lib.hid this
    clear this
    go_enter Tryd.func109, Tryd.ntmps109
    go_wp2_with fail
    go_ret
    exact ⟨val_bool (by rw [HE.out]; rfl), rfl⟩
  · have hp : 0 < s.size := by omega
    by_cases h1 : (s[0].toNat : Int) = 48 ∧ 1 < s.size
    · obtain ⟨h1, h2⟩ := h1
      have he := str_ne hp
      have HZ := Lib.hid (num_zero hp h1 h2)
      go_enter Tryd.func109, Tryd.ntmps109
      go_wp2_with fail
      go_ret
      exact ⟨val_bool HZ.out.symm, rfl⟩
    · exact numeral_loop s w hs hp (by omega)

theorem all_at {s : ByteArray} {k : Nat} (h : k < s.size) (ha : s.data.toList.all isDig = true) : isDig s[k] = true := by
  rw [List.all_eq_true] at ha
  exact ha _ (by rw [← Array.mem_def]; exact Array.getElem_mem _)

set_option maxHeartbeats 400000 in
theorem get_any (s : ByteArray) (w : World) (hs : s.size ≤ maxLen) :
    Calls Tryd.prog 106 #[.string s] w fun e w' => e = .returned (.tuple #[.int .i64 (getN s.data.toList), .int .i64 (getE s.data.toList)]) ∧ w = w' := by
  have hs' : s.size ≤ 9223372036854775807 := hs
  by_cases hn : isNum s.data.toList = true
  · have ha := isNum_all hn
    have HAll := Lib.hid ha
    have HNum := Lib.hid hn
    go_enter Tryd.func106, Tryd.ntmps106
    go_wp2_with (go_at_call 109; refine (numeral_any _ _ hs).mono ?_; rintro e w' ⟨rfl, rfl⟩)
    clear hn ha
    go_loop [4, 11] (fun n i => ∃ k : Nat, k ≤ s.size ∧ i = .int .i64 k ∧ n = .int .i64 (says (s.data.toList.take k)) ∧ says (s.data.toList.take k) ≤ 1000000) (fun _ i => s.size - (intOf i).toNat)
    case atStart => exact ⟨0, Nat.zero_le _, rfl, rfl, by show (0 : Int) ≤ 1000000; omega⟩
    case round =>
      obtain ⟨k, hk, rfl, rfl, hbig⟩ := hrel
      have hlo := says_nonneg _ (all_take k HAll.out)
      by_cases hlt : k < s.size
      · obtain ⟨b1, b2⟩ := dig_bd (all_at hlt HAll.out)
        have hsn : says (s.data.toList.take (k + 1)) = 10 * says (s.data.toList.take k) + ((s[k].toNat : Int) - 48) := by rw [take_snoc s k hlt, says_snoc]
        have HS := Lib.hid hsn
        have hle := says_take_le s.data.toList (k + 1) HAll.out
        rw [hsn] at hle
        have HL := Lib.hid hle
        clear hsn hle
        by_cases hb : 1000000 < 10 * says (s.data.toList.take k) + ((s[k].toNat : Int) - 48)
        · go_wp2_with fail
          go_ret2
          exact ⟨val_pair (by unfold getN; rw [if_pos HNum.out, if_pos (by have := HL.out; omega)]) (by unfold getE; rw [if_pos HNum.out, if_pos (by have := HL.out; omega)]), rfl⟩
        · go_wp2_with fail
          go_round
          case rel => exact ⟨k + 1, by omega, by go_num, by rw [HS.out], by rw [HS.out]; omega⟩
          case measure => simp [intOf]; omega
      · have hks : k = s.size := by omega
        have hsa : says (s.data.toList.take k) = says s.data.toList := by rw [hks, take_all]
        have HE := Lib.hid hsa
        clear hsa hks
        go_wp2_with fail
        go_ret2
        exact ⟨val_pair (by rw [HE.out]; unfold getN; rw [if_pos HNum.out, if_neg (by rw [← HE.out]; omega)]) (by unfold getE; rw [if_pos HNum.out, if_neg (by rw [← HE.out]; omega)]), rfl⟩
  · have hf : isNum s.data.toList = false := by simpa using hn
    clear hn
    have HF := Lib.hid hf
    go_enter Tryd.func106, Tryd.ntmps106
    go_wp2_with (go_at_call 109; refine (numeral_any _ _ hs).mono ?_; rintro e w' ⟨rfl, rfl⟩)
    go_ret2
    exact ⟨val_pair (by unfold getN; rw [HF.out]; rfl) (by unfold getE; rw [HF.out]; rfl), rfl⟩


theorem num_ok {s : ByteArray} (h : 0 < s.size) (ha : s.data.toList.all isDig = true) (h0 : (s[0].toNat : Int) = 48 → s.size ≤ 1) : isNum s.data.toList = true := by
  rw [num_else h (by by_cases e : (s[0].toNat : Int) = 48; exact .inr (h0 e); exact .inl e), ha]
theorem num_no {s : ByteArray} {k : Nat} (h : k < s.size) (hc : isDig s[k] = false) : isNum s.data.toList = false := by
  cases e : isNum s.data.toList with
  | false => rfl
  | true => have := all_at h (isNum_all e); rw [hc] at this; cases this

/-- What holds at the head of each round of the reference's loop: what was read so far. -/
def RGet (s : ByteArray) (z : Int) (n i : Value) : Prop := ∃ (k : Nat) (m : Int), k ≤ s.size ∧ i = .int .i64 k ∧ n = .int .i64 m ∧ 0 ≤ m ∧ m ≤ 10000009 ∧ (s.data.toList.take k).all isDig = true ∧ (m ≤ 1000000 → m = says (s.data.toList.take k)) ∧ (1000000 < m → 1000000 < says (s.data.toList.take k)) ∧ (z = 48 → k ≤ 1)

set_option maxHeartbeats 400000 in
theorem rget_any (s : ByteArray) (w : World) (hs : s.size ≤ maxLen) :
    Calls Tryd.prog 97 #[.string s] w fun e w' => e = .returned (.tuple #[.int .i64 (getN s.data.toList), .int .i64 (getE s.data.toList)]) ∧ w = w' := by
  have hs' : s.size ≤ 9223372036854775807 := hs
  by_cases h0 : s.size = 0
  · have he : s.data.toList = [] := by rw [← ByteArray.toList_eq]; exact str_nil h0
    have HE := Lib.hid he
    clear he hs
    go_enter Tryd.func97, Tryd.ntmps97
    go_wp2_with fail
    go_ret2
    exact ⟨val_pair (by rw [HE.out]; rfl) (by rw [HE.out]; rfl), rfl⟩
  · have hp : 0 < s.size := by omega
    have hp' : (0 : Int) < (s.size : Int) := by omega
    clear hs
    go_enter Tryd.func97, Tryd.ntmps97
    go_wp2_with fail
    go_loop [4, 5] (fun n i => RGet s (s[0].toNat : Int) n i) (fun _ i => s.size - (intOf i).toNat)
    case atStart => exact ⟨0, 0, Nat.zero_le _, rfl, rfl, by omega, by omega, rfl, fun _ => rfl, fun h => by omega, fun _ => by omega⟩
    case round =>
      obtain ⟨k, m, hk, rfl, rfl, m0, m1, hall, hm1, hm2, hz⟩ := hrel
      have HA := Lib.hid hall
      have H1 := Lib.hid hm1
      have H2 := Lib.hid hm2
      have HZ := Lib.hid hz
      clear hall hm1 hm2 hz
      by_cases hlt : k < s.size
      · by_cases hc1 : (s[k].toNat : Int) < 48
        · have HN := Lib.hid (num_no hlt (not_dig_lo hc1))
          go_wp2_with fail
          go_ret2
          exact ⟨val_pair (by unfold getN; rw [HN.out]; rfl) (by unfold getE; rw [HN.out]; rfl), rfl⟩
        · by_cases hc2 : 57 < (s[k].toNat : Int)
          · have HN := Lib.hid (num_no hlt (not_dig_hi hc2))
            go_wp2_with fail
            go_ret2
            exact ⟨val_pair (by unfold getN; rw [HN.out]; rfl) (by unfold getE; rw [HN.out]; rfl), rfl⟩
          · by_cases hc3 : k = 1 ∧ (s[0].toNat : Int) = 48
            · obtain ⟨rfl, hc3⟩ := hc3
              have HN := Lib.hid (num_zero hp hc3 hlt)
              go_wp2_with fail
              go_ret2
              exact ⟨val_pair (by unfold getN; rw [HN.out]; rfl) (by unfold getE; rw [HN.out]; rfl), rfl⟩
            · have HZ2 : Hid ((s[0].toNat : Int) = 48 → k + 1 ≤ 1) := Lib.hid fun e => by have := HZ.out e; omega
              have hsn : says (s.data.toList.take (k + 1)) = 10 * says (s.data.toList.take k) + ((s[k].toNat : Int) - 48) := by rw [take_snoc s k hlt, says_snoc]
              have HS := Lib.hid hsn
              have HA2 : Hid ((s.data.toList.take (k + 1)).all isDig = true) := Lib.hid (by rw [take_snoc s k hlt, List.all_append, HA.out]; simp [dig_mk (c := s[k]) (by omega) (by omega)])
              clear hsn
              by_cases hk1 : k = 1
              · have hc4 : ¬ (s[0].toNat : Int) = 48 := fun e => hc3 ⟨hk1, e⟩
                clear hc3
                subst hk1
                by_cases hb : m ≤ 1000000
                all_goals
                  go_wp2_with fail
                  go_round
                  case rel => first
                    | exact ⟨2, _, by omega, by go_num, rfl, by omega, by omega, HA2.out, fun _ => by rw [HS.out, ← H1.out (by omega)]; omega, fun _ => by rw [HS.out, ← H1.out (by omega)]; omega, HZ2.out⟩
                    | exact ⟨2, _, by omega, by go_num, rfl, by omega, by omega, HA2.out, fun _ => by omega, fun _ => by have := H2.out (by omega); rw [HS.out]; omega, HZ2.out⟩
                  case measure => simp [intOf]; omega
              · clear hc3
                have hk2 : ((k : Int) == 1) = false := by rw [beq_eq_false_iff_ne]; omega
                by_cases hb : m ≤ 1000000
                all_goals
                  go_wp2_with fail
                  go_round
                  case rel => first
                    | exact ⟨k + 1, _, by omega, by go_num, rfl, by omega, by omega, HA2.out, fun _ => by rw [HS.out, ← H1.out (by omega)]; omega, fun _ => by rw [HS.out, ← H1.out (by omega)]; omega, HZ2.out⟩
                    | exact ⟨k + 1, _, by omega, by go_num, rfl, by omega, by omega, HA2.out, fun _ => by omega, fun _ => by have := H2.out (by omega); rw [HS.out]; omega, HZ2.out⟩
                  case measure => simp [intOf]; omega
      · have hks : k = s.size := by omega
        subst hks
        have HA2 : Hid (s.data.toList.all isDig = true) := Lib.hid (by rw [← take_all s]; exact HA.out)
        have HN : Hid (isNum s.data.toList = true) := Lib.hid (num_ok hp HA2.out HZ.out)
        have H3 : Hid (m ≤ 1000000 → m = says s.data.toList) := Lib.hid (by have := H1.out; rwa [take_all] at this)
        have H4 : Hid (1000000 < m → 1000000 < says s.data.toList) := Lib.hid (by have := H2.out; rwa [take_all] at this)
        clear HA HA2 HZ H1 H2
        by_cases hb : 1000000 < m
        · go_wp2_with fail
          go_ret2
          exact ⟨val_pair (by unfold getN; rw [HN.out, if_pos rfl, if_pos (H4.out hb)]) (by unfold getE; rw [HN.out, if_pos rfl, if_pos (H4.out hb)]), rfl⟩
        · go_wp2_with fail
          go_ret2
          have e := H3.out (by omega)
          exact ⟨val_pair (by unfold getN; rw [HN.out, if_pos rfl, if_neg (by omega)]; exact e) (by unfold getE; rw [HN.out, if_pos rfl, if_neg (by omega)]), rfl⟩

end Go.Proofs.YtffdfajlfgeicaaDoor

namespace Go.Proofs.YtffdfajlfgeicaaDoor
open Go.RowKit ValSpec
set_option maxRecDepth 100000

def tenBytes : ByteArray := { data := #[48, 49, 50, 51, 52, 53, 54, 55, 56, 57] }
theorem extract_digit {d : Nat} (h : d < 10) : ({ data := #[48, 49, 50, 51, 52, 53, 54, 55, 56, 57] } : ByteArray).extract d (d + 1) = ⟨[UInt8.ofNat (48 + d)].toArray⟩ := by
  match d, h with
  | 0, _ => rfl
  | 1, _ => rfl
  | 2, _ => rfl
  | 3, _ => rfl
  | 4, _ => rfl
  | 5, _ => rfl
  | 6, _ => rfl
  | 7, _ => rfl
  | 8, _ => rfl
  | 9, _ => rfl
theorem val_str {a b : ByteArray} (h : a = b) : Ending.returned (.string a) = .returned (.string b) := by rw [h]
theorem str_app (a b : List UInt8) : (⟨a.toArray⟩ : ByteArray) ++ ⟨b.toArray⟩ = ⟨(a ++ b).toArray⟩ := by
  apply ByteArray.ext
  simp [ByteArray.data_append]

theorem text_any (k : Nat) : ∀ (n : Nat) (w : World), n ≤ k → n ≤ 9223372036854775807 →
    Calls Tryd.prog 36 #[.int .i64 n] w fun e w' => e = .returned (.string ⟨(digs n).toArray⟩) ∧ w = w' := by
  induction k with
  | zero =>
    intro n w hk hb
    obtain rfl : n = 0 := by omega
    go_enter Tryd.func36, Tryd.ntmps36
    go_wp2_with fail
    go_ret
    exact ⟨val_str (by rw [digs_lt (by omega)]; exact extract_digit (d := 0) (by omega)), rfl⟩
  | succ k ih =>
    intro n w hk hb
    by_cases h : n < 10
    · go_enter Tryd.func36, Tryd.ntmps36
      go_wp2_with fail
      go_ret
      exact ⟨val_str (by rw [digs_lt h, Nat.mod_eq_of_lt h]; exact extract_digit h), rfl⟩
    · have hl : (digs (n / 10)).length ≤ 19 := digs_len 18 _ (by omega)
      go_enter Tryd.func36, Tryd.ntmps36
      go_wp2_with (go_at_call 36; refine (ih (n / 10) _ (by omega) (by omega)).mono ?_; rintro e w' ⟨rfl, rfl⟩)
      go_ret
      exact ⟨val_str (by rw [digs_ge h, extract_digit (Nat.mod_lt _ (by omega)), str_app]), rfl⟩

theorem neg_parts (n : Int) (h : n < 0) (h1 : -9223372036854775808 ≤ n) : ∃ d q : Nat, n.tmod 10 = -(d : Int) ∧ n.tdiv 10 = -(q : Int) ∧ d < 10 ∧ q ≤ 922337203685477580 ∧ n.natAbs = 10 * q + d := by
  obtain ⟨m, rfl⟩ : ∃ m : Nat, n = -(m : Int) := ⟨n.natAbs, by omega⟩
  refine ⟨m % 10, m / 10, ?_, ?_, Nat.mod_lt _ (by omega), by omega, by rw [Int.natAbs_neg]; simp; omega⟩
  · rw [Int.neg_tmod]; rfl
  · rw [Int.neg_tdiv]; rfl

theorem vdigit_any (d : Int) (w : World) (h0 : 0 ≤ d) (h9 : d ≤ 9) :
    Calls Tryd.prog 79 #[.int .i64 d] w fun e w' => e = .returned (.int .u8 (48 + d)) ∧ w = w' := by
  go_enter Tryd.func79, Tryd.ntmps79
  go_wp2
  go_ret
  exact ⟨rfl, rfl⟩

def byteV (c : UInt8) : Value := .int .u8 c.toNat
/-- The array: z zeros, digits behind them. -/
def cellsOf (z : Nat) (cs : List UInt8) : Array Value := (List.replicate z (Value.int .u8 0) ++ cs.map byteV).toArray
theorem cells_zero {z k : Nat} {cs : List UInt8} (h : k < z) : (cellsOf z cs)[k]? = some (.int .u8 0) := by
  simp [cellsOf, List.getElem?_append, h]
theorem cells_set {z : Nat} {cs : List UInt8} (c : UInt8) : (cellsOf (z + 1) cs).setIfInBounds z (byteV c) = cellsOf z (c :: cs) := by
  apply Array.ext'
  simp only [cellsOf, Array.toList_setIfInBounds]
  rw [List.set_append_left _ _ (by simp)]
  simp [List.replicate_succ', List.set_append_right]
theorem byteV_digit {d : Nat} (h : d < 10) : byteV (UInt8.ofNat (48 + d)) = .int .u8 (48 + (d : Int)) := by
  unfold byteV; rw [byte_nat (by omega)]; simp
theorem cell_of_block {w : World} {b : Nat} {cs : Array Value} {t : TypeId} (h : w.heap[b]? = some (.cells cs t (0, 0))) {i : Nat} {v : Value} (hi : cs[i]? = some v) : w.cell? ⟨b, i, none⟩ = some v := by simp [World.cell?, h, hi]
theorem free_of_block {w : World} {b : Nat} {cs : Array Value} {t : TypeId} (h : w.heap[b]? = some (.cells cs t (0, 0))) (i : Nat) : w.frozen? ⟨b, i, none⟩ = false := by simp [World.frozen?, h]
theorem block_setCell {w : World} {b : Nat} {cs : Array Value} {t : TypeId} (h : w.heap[b]? = some (.cells cs t (0, 0))) (i : Nat) (u : Value) : (w.setCell ⟨b, i, none⟩ u).heap[b]? = some (.cells (cs.setIfInBounds i u) t (0, 0)) := by
  have hlt := lt_of_block h
  have h' : w.heap[b] = .cells cs t (0, 0) := by simpa [Array.getElem?_eq_getElem hlt] using h
  show (w.heap.modify b _)[b]? = _
  rw [Array.getElem?_eq_getElem (by simpa using hlt), Array.getElem_modify_self, h']
  rfl

/-- What holds at the head of each round: the digits that are written, and those that are left. -/
def PutRel (W : World) (m : Nat) (rv av : Value) (wr : World) : Prop :=
  ∃ (i : Nat) (r : Int) (cs : List UInt8), cs.length + i = 18 ∧ rv = .int .i64 r ∧ av = .int .i64 ((i : Int) + 1) ∧ r ≤ 0 ∧ -9223372036854775808 ≤ r ∧ digs m = digs r.natAbs ++ cs ∧ r.natAbs * 10 ^ (18 - i) ≤ m ∧
    wr.heap[W.heap.size]? = some (.cells (cellsOf (i + 2) cs) 111 (0, 0)) ∧ Below W.heap.size W wr

theorem put_step {W wr : World} {m i q d : Nat} {r : Int} {cs : List UInt8} (hm : m ≤ 9223372036854775808) (hl : cs.length + i = 18) (hr : r < -9) (hd : digs m = digs r.natAbs ++ cs) (hp : r.natAbs * 10 ^ (18 - i) ≤ m)
    (hb : wr.heap[W.heap.size]? = some (.cells (cellsOf (i + 2) cs) 111 (0, 0))) (hbel : Below W.heap.size W wr) (hn : r.natAbs = 10 * q + d) (hd10 : d < 10) (hq : q ≤ 922337203685477580) :
    PutRel W m (.int .i64 (-(q : Int))) (.int .i64 i) (wr.setCell ⟨W.heap.size, i + 1, none⟩ (.int .u8 (48 + (d : Int)))) := by
  have hi : 1 ≤ i := by
    rcases Nat.lt_or_ge 0 i with h | h
    · exact h
    · exfalso
      obtain rfl : i = 0 := by omega
      have : 10 * 10 ^ 18 ≤ r.natAbs * 10 ^ (18 - 0) := Nat.mul_le_mul_right _ (by omega)
      omega
  obtain ⟨k, rfl⟩ : ∃ k, i = k + 1 := ⟨i - 1, by omega⟩
  have hq1 : 1 ≤ q := by omega
  refine ⟨k, -(q : Int), UInt8.ofNat (48 + d) :: cs, by simp; omega, rfl, by simp, by omega, by omega, ?_, ?_, ?_, hbel.setCell (Nat.le_refl _) _⟩
  · rw [hd, hn, digs_ge (n := 10 * q + d) (by omega), show (10 * q + d) / 10 = q by omega, show (10 * q + d) % 10 = d by omega]
    simp
  · have e : 18 - k = (18 - (k + 1)) + 1 := by omega
    rw [e, Nat.pow_succ]
    refine Nat.le_trans ?_ hp
    rw [hn, Int.natAbs_neg, Int.natAbs_natCast, Nat.mul_comm (10 ^ _) 10, ← Nat.mul_assoc]
    exact Nat.mul_le_mul_right _ (by omega)
  · rw [block_setCell hb, ← byteV_digit hd10, cells_set]

theorem slice_tail (B l L : Nat) (li : Int) (hli : li = l) (hl : l + L = 20) (h1 : 1 ≤ L) (W : World) : (Instr.sliceAt 111 (.pointer (some ⟨B, 0, none⟩)) (some (.int .i64 li)) none none).run Tryd.prog W = .ok (.slice (some ⟨B, l, none⟩) L L) W := by
  subst hli
  have hal : Tryd.prog.arrayLen 111 = 20 := by simp [Program.arrayLen, Tryd.underlying111]
  rw [run_sliceAt_array_l W 111 ⟨B, 0, none⟩ (by simp [Program.arrayLen, Program.elem, Tryd.underlying111]) .i64 (l : Int) (by omega) (by rw [hal]; omega), hal]
  go_simp
  omega

theorem tail_text {w : World} {B z : Nat} {cs : List UInt8} (h : w.heap[B]? = some (.cells (cellsOf z cs) 111 (0, 0))) (L : Nat) (hL : cs.length = L) :
    (convert 113 9 (.slice (some ⟨B, z, none⟩) L L)).run Tryd.prog w = .ok (.string ⟨cs.toArray⟩) w := by
  subst hL
  refine run_convert_bytes_back _ _ _ _ _ cs.length cs Tryd.underlying113 Tryd.underlying5 Tryd.underlying9 (fun j hj => ?_)
  have ea : (⟨B, z, none⟩ : Addr).add j = ⟨B, z + j, none⟩ := by unfold Addr.add; split <;> simp_all
  rw [ea]
  refine cell_of_block h ?_
  simp [cellsOf, List.getElem?_append, show ¬ (z + j < z) by omega, List.getElem?_eq_getElem hj, byteV]

theorem put_last {W wr : World} {m i d : Nat} {r : Int} {cs : List UInt8} (hr : r = -(d : Int)) (hd10 : d < 10) (hd : digs m = digs r.natAbs ++ cs)
    (hb : wr.heap[W.heap.size]? = some (.cells (cellsOf (i + 2) cs) 111 (0, 0))) :
    (wr.setCell ⟨W.heap.size, i + 1, none⟩ (.int .u8 (48 + (d : Int)))).heap[W.heap.size]? = some (.cells (cellsOf (i + 1) (digs m)) 111 (0, 0)) := by
  rw [block_setCell hb, ← byteV_digit hd10, cells_set, hd, hr, Int.natAbs_neg, Int.natAbs_natCast, digs_lt hd10]
  rfl
theorem put_sign {wr : World} {B i : Nat} {cs : List UInt8} (hb : wr.heap[B]? = some (.cells (cellsOf (i + 1) cs) 111 (0, 0))) :
    (wr.setCell ⟨B, i, none⟩ (.int .u8 45)).heap[B]? = some (.cells (cellsOf i (45 :: cs)) 111 (0, 0)) := by
  rw [block_setCell hb, show (Value.int .u8 45) = byteV 45 from rfl, cells_set]

set_option maxRecDepth 100000 in
set_option maxHeartbeats 800000 in
theorem put_any (n : Int) (w : World) (h1 : -9223372036854775808 ≤ n) (h2 : n ≤ 9223372036854775807) :
    Calls Tryd.prog 54 #[.int .i64 n] w fun e w' => e = .returned (.string ⟨(text n).toArray⟩) ∧ Below w.heap.size w w' := by
  rcases (show 0 < n ∨ n < 0 ∨ n ≤ 0 ∧ 0 ≤ n by omega) with h | h | ⟨h, h'⟩
  all_goals
    go_enter Tryd.func54, Tryd.ntmps54
    go_wp2_with fail
    go_loopw [3, 5] (fun r a wr => PutRel w n.natAbs r a wr) (fun r _ _ => (intOf r).natAbs)
    case atStart => first
      | exact ⟨18, -n, [], rfl, rfl, rfl, by omega, by omega, by simp, by simp, (heap_alloc_new _ _).trans rfl, (Below.refl _ _).alloc (Nat.le_refl _) _⟩
      | exact ⟨18, n, [], rfl, rfl, rfl, by omega, by omega, by simp, by simp, (heap_alloc_new _ _).trans rfl, (Below.refl _ _).alloc (Nat.le_refl _) _⟩
    case round =>
      obtain ⟨i, r, cs, hl, rfl, rfl, hr, hr2, hd, hp, hb, hbel⟩ := hrel
      have hi2 : i ≤ 18 := by omega
      have hc := cell_of_block hb (cells_zero (k := i + 1) (by omega))
      have hf := free_of_block hb (i + 1)
      have hc' := cell_of_block hb (cells_zero (k := i) (by omega))
      have hf' := free_of_block hb i
      by_cases h9 : r < -9
      · obtain ⟨d, q, hd1, hq, hd10, hqb, hn⟩ := neg_parts r (by omega) hr2
        have HR := Lib.hid (put_step (show n.natAbs ≤ 9223372036854775808 by omega) hl h9 hd hp hb hbel hn hd10 hqb)
        have HM : Hid (q < r.natAbs) := Lib.hid (by omega)
        clear hn hd hp hb hl hc' hf'
        go_wp2_with (go_at_call 79; refine (vdigit_any _ _ (by omega) (by omega)).mono ?_; rintro e w' ⟨rfl, rfl⟩)
        go_round
        case rel => exact HR.out
        case measure => have := HM.out; simp [intOf]; omega
      · obtain ⟨d, rfl⟩ : ∃ d : Nat, r = -(d : Int) := ⟨r.natAbs, by omega⟩
        have hd10 : d < 10 := by omega
        have hb2 := put_last (m := n.natAbs) rfl hd10 hd hb
        have hlen : (digs n.natAbs).length = 19 - i := by
          rw [hd, List.length_append, Int.natAbs_neg, Int.natAbs_natCast, digs_lt hd10]; simp; omega
        by_cases hneg : n < 0
        · first
            | (exfalso; omega)
            | (have hb3 := put_sign hb2
               obtain ⟨L, hL⟩ : ∃ L, L = 20 - i := ⟨_, rfl⟩
               have hsl := slice_tail w.heap.size i L (i : Int) rfl (by omega) (by omega)
               have hcv := tail_text hb3 L (by simp; omega)
               have HB : Hid (Below w.heap.size w ((wr.setCell ⟨w.heap.size, i + 1, none⟩ (.int .u8 (48 + (d : Int)))).setCell ⟨w.heap.size, i, none⟩ (.int .u8 45))) := Lib.hid ((hbel.setCell (Nat.le_refl _) _).setCell (Nat.le_refl _) _)
               clear hb hb2 hb3 hlen hd hp hl hL hbel
               go_wp2_with (go_at_call 79; refine (vdigit_any _ _ (by omega) (by omega)).mono ?_; rintro e w' ⟨rfl, rfl⟩)
               go_ret
               exact ⟨val_str (by unfold text; rw [if_pos (by omega)]), HB.out⟩)
        · first
            | (exfalso; omega)
            | (obtain ⟨L, hL⟩ : ∃ L, L = 19 - i := ⟨_, rfl⟩
               have hsl := slice_tail w.heap.size (i + 1) L ((i : Int) + 1) rfl (by omega) (by omega)
               have hcv := tail_text hb2 L (by omega)
               have HB : Hid (Below w.heap.size w (wr.setCell ⟨w.heap.size, i + 1, none⟩ (.int .u8 (48 + (d : Int))))) := Lib.hid (hbel.setCell (Nat.le_refl _) _)
               clear hb hb2 hlen hd hp hl hL hbel hc' hf'
               go_wp2_with (go_at_call 79; refine (vdigit_any _ _ (by omega) (by omega)).mono ?_; rintro e w' ⟨rfl, rfl⟩)
               go_ret
               exact ⟨val_str (by unfold text; rw [if_neg (by omega)]), HB.out⟩)
end Go.Proofs.YtffdfajlfgeicaaDoor
