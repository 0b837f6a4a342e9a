/- Plain facts for the program's own way through the layer of tokens: bytes, runs, marks, remarks, places. No condition. -/
import Derived.Test.YthmhlhegmnpagaaDoorScanRefToks
import Derived.Lib.Bytealg
import Derived.Lib.Strings
namespace Go.Proofs.YthmhlhegmnpagaaDoor
open Go.RowKit ScanSpec

def lowB (n : Int) : Bool := decide (97 ≤ n) && decide (n ≤ 122)
def digB (n : Int) : Bool := decide (48 ≤ n) && decide (n ≤ 57)
def wordB (n : Int) : Bool := (lowB n || digB n) || n == 95
theorem lowB_yes {n : Int} (h1 : 97 ≤ n) (h2 : n ≤ 122) : lowB n = true := by simp [lowB, h1, h2]
theorem lowB_no {n : Int} (h : ¬ (97 ≤ n ∧ n ≤ 122)) : lowB n = false := by simp [lowB]; omega
theorem digB_yes {n : Int} (h1 : 48 ≤ n) (h2 : n ≤ 57) : digB n = true := by simp [digB, h1, h2]
theorem digB_no {n : Int} (h : ¬ (48 ≤ n ∧ n ≤ 57)) : digB n = false := by simp [digB]; omega
theorem word_eq (c : UInt8) : wordB (c.toNat : Int) = isWord c := by
  rcases clsB_val c _ rfl with ⟨h1, h2, hc⟩ | ⟨h1, h2, hc⟩ | ⟨h1, hc⟩ | ⟨h1, hc⟩ | ⟨h1, hc⟩ | ⟨h1, n1, _, _, _, _, _, hc⟩
  all_goals
    unfold isWord wordB lowB digB
    rw [hc]
    rw [Bool.eq_iff_iff]
    simp
    omega
theorem dig_eq (c : UInt8) : digB (c.toNat : Int) = isNum c := by
  rcases clsB_val c _ rfl with ⟨h1, h2, hc⟩ | ⟨h1, h2, hc⟩ | ⟨h1, hc⟩ | ⟨h1, hc⟩ | ⟨h1, hc⟩ | ⟨h1, n1, _, _, _, _, _, hc⟩
  all_goals
    unfold isNum digB
    rw [hc]
    rw [Bool.eq_iff_iff]
    simp
    omega
theorem low_cls {l : List UInt8} {c : UInt8} (h : l[0]? = some c) : lowB (c.toNat : Int) = decide (cls l 0 = 1) := by
  rw [cls_some h]
  rcases clsB_val c _ rfl with ⟨h1, h2, hc⟩ | ⟨h1, h2, hc⟩ | ⟨h1, hc⟩ | ⟨h1, hc⟩ | ⟨h1, hc⟩ | ⟨h1, n1, _, _, _, _, _, hc⟩
  all_goals
    unfold lowB
    rw [hc, Bool.eq_iff_iff]
    simp
    omega
theorem dig_cls {l : List UInt8} {c : UInt8} (h : l[0]? = some c) : digB (c.toNat : Int) = decide (cls l 0 = 2) := by
  rw [cls_some h, dig_eq]; rfl
/-- Behind a run of digits: a byte of a name is one that is no digit. -/
theorem num_then {l : List UInt8} : (cls l (run isNum l) = 1 ∨ cls l (run isNum l) = 3) ↔ ∃ c, l[run isNum l]? = some c ∧ isWord c = true := by
  have hno : ∀ c, l[run isNum l]? = some c → isNum c = false := by
    induction l with
    | nil => simp
    | cons a t ih =>
      intro c hc
      rw [run] at hc
      split at hc
      · exact ih c (by simpa using hc)
      · rename_i h
        simp at hc; subst hc; simpa using h
  constructor
  · intro h
    have h1 : 1 ≤ cls l (run isNum l) := by omega
    obtain ⟨c, hc, hw⟩ := isWord_cls h1 (by omega)
    exact ⟨c, hc, hw⟩
  · rintro ⟨c, hc, hw⟩
    have hn := hno c hc
    rw [cls_some hc]
    simp only [isWord, isNum, Bool.and_eq_true, decide_eq_true_eq, decide_eq_false_iff_not] at hw hn
    omega

/-- The marks of one byte. -/
def singlesL : List UInt8 := [123, 125, 91, 93, 40, 41, 44, 59, 61, 60, 62, 43, 45, 42, 47]
abbrev singlesS : ByteArray := ⟨#[123, 125, 91, 93, 40, 41, 44, 59, 61, 60, 62, 43, 45, 42, 47]⟩
theorem marks_parts : marks = marks.take 7 ++ singlesL.map (fun x => [x]) := by decide
theorem idx_cons (b c : UInt8) (l : List UInt8) : 0 ≤ Lib.indexByte (b :: l) c ↔ (b = c ∨ 0 ≤ Lib.indexByte l c) := by
  rw [Lib.indexByte]
  have := Lib.indexByte_ge l c
  by_cases h : b = c
  · subst h; simp
  · have h' : (b == c) = false := by simpa using h
    rw [h']
    simp only [Bool.false_eq_true, if_false, h, false_or]
    split
    · rename_i h1
      simp at h1
      omega
    · rename_i h1
      simp at h1
      omega
theorem single_find (S : List UInt8) (c : UInt8) (t : List UInt8) : ((S.map fun x => [x]).find? fun m => m.isPrefixOf (c :: t)) = if 0 ≤ Lib.indexByte S c then some [c] else none := by
  induction S with
  | nil => simp [Lib.indexByte]
  | cons b S ih =>
    rw [List.map_cons, List.find?_cons]
    by_cases h : b = c
    · subst h
      rw [if_pos ((idx_cons b b S).2 (.inl rfl))]
      simp [List.isPrefixOf]
    · have h' : (b == c) = false := by simpa using h
      have e : ([b].isPrefixOf (c :: t)) = false := by simp [List.isPrefixOf, h']
      rw [e]
      simp only
      rw [ih]
      by_cases h2 : 0 ≤ Lib.indexByte S c
      · rw [if_pos h2, if_pos ((idx_cons b c S).2 (.inr h2))]
      · rw [if_neg h2, if_neg (fun h3 => ((idx_cons b c S).1 h3).elim h h2)]
theorem markLen_single {c : UInt8} {t : List UInt8} (h : ∀ y ∈ marks.take 7, y.isPrefixOf (c :: t) = false) : markLen (c :: t) = if 0 ≤ Lib.indexByte singlesL c then 1 else 0 := by
  unfold markLen
  rw [marks_parts, List.find?_append, List.find?_eq_none.2 (fun y hy => by rw [h y hy]; simp), Option.none_or, single_find]
  split
  · rename_i m hm
    split at hm
    · rename_i h1
      cases hm
      rw [if_pos h1]; rfl
    · cases hm
  · rename_i hm
    split at hm
    · cases hm
    · rename_i h1
      rw [if_neg h1]

/-- No line feed. -/
def notNl (c : UInt8) : Bool := !(c.toNat == 10)
theorem remark_len (l : List UInt8) : (if 0 ≤ Lib.indexByte l 10 then Lib.indexByte l 10 else (l.length : Int)) = (run notNl l : Int) := by
  induction l with
  | nil => simp [Lib.indexByte, run]
  | cons b t ih =>
    rw [run, Lib.indexByte]
    have hge := Lib.indexByte_ge t 10
    by_cases h : b = 10
    · subst h
      simp [notNl]
    · have h' : (b == 10) = false := by simpa using h
      have hn : b.toNat ≠ 10 := fun e => h (UInt8.toNat_inj.1 e)
      have hp : notNl b = true := by simp [notNl, hn]
      rw [h', if_pos hp]
      have e : (if (Lib.indexByte t 10 == -1) = true then (-1 : Int) else Lib.indexByte t 10 + 1) = if Lib.indexByte t 10 = -1 then -1 else Lib.indexByte t 10 + 1 := by
        by_cases h1 : Lib.indexByte t 10 = -1
        · rw [if_pos h1, if_pos (by simpa using h1)]
        · rw [if_neg h1, if_neg (by simpa using h1)]
      simp only [Bool.false_eq_true, if_false, List.length_cons]
      rw [e]
      by_cases h1 : Lib.indexByte t 10 = -1
      · rw [if_pos h1]
        rw [if_neg (by omega)] at ih
        rw [if_neg (by decide)]
        omega
      · rw [if_neg h1]
        rw [if_pos (by omega)] at ih
        rw [if_pos (by omega)]
        omega
theorem run_first {p : UInt8 → Bool} {l : List UInt8} : ∀ j, j < run p l → ∃ c, l[j]? = some c ∧ p c = true := by
  induction l with
  | nil => intro j h; simp [run] at h
  | cons a t ih =>
    intro j h
    rw [run] at h
    split at h
    · rename_i ha
      cases j with
      | zero => exact ⟨a, rfl, ha⟩
      | succ j => exact ih j (by omega)
    · omega
theorem run_end {p : UInt8 → Bool} {l : List UInt8} {c : UInt8} (h : l[run p l]? = some c) : p c = false := by
  induction l with
  | nil => simp at h
  | cons a t ih =>
    rw [run] at h
    split at h
    · exact ih (by simpa using h)
    · rename_i ha
      simp at h; subst h; simpa using ha
/-- Bytes that are no line feeds are gone past within the line. -/
theorem pos_along {l : List UInt8} {j : Nat} : ∀ n, (∀ k, k < n → ∃ c, l[j + k]? = some c ∧ c.toNat ≠ 10) → pos l (j + n) = ((pos l j).1, (pos l j).2 + n)
  | 0, _ => by simp
  | n + 1, h => by
    obtain ⟨c, hc, h10⟩ := h n (by omega)
    rw [← Nat.add_assoc, pos_next hc, if_neg h10, pos_along n (fun k hk => h k (by omega))]
    ext
    · rfl
    · simp; omega
theorem rem_run {l : List UInt8} {j : Nat} : ∀ n, (∀ k, k < n → ∃ c, l[j + k]? = some c ∧ c.toNat ≠ 10) → rem l (j + n) = rem l j
  | 0, _ => rfl
  | n + 1, h => by
    obtain ⟨c, hc, h10⟩ := h n (by omega)
    rw [← Nat.add_assoc, rem_next hc h10, rem_run n (fun k hk => h k (by omega))]
theorem remark_bytes {l : List UInt8} {j : Nat} : ∀ k, k < run notNl (l.drop j) → ∃ c, l[j + k]? = some c ∧ c.toNat ≠ 10 := by
  intro k hk
  obtain ⟨c, hc, hp⟩ := run_first k hk
  rw [List.getElem?_drop] at hc
  exact ⟨c, hc, by simpa [notNl] using hp⟩
/-- A remark is gone past. -/
theorem gap_past {l : List UInt8} {j : Nat} (h : cls l j = 5) : gap l (j + run notNl (l.drop j)) = gap l j ∧ pos l (j + run notNl (l.drop j)) = ((pos l j).1, (pos l j).2 + (run notNl (l.drop j) : Nat)) := by
  refine ⟨?_, pos_along _ remark_bytes⟩
  have h1 := rem_run _ (remark_bytes (l := l) (j := j))
  rw [← gap_remark h, ← h1]
  rcases hc : l[j + run notNl (l.drop j)]? with _ | c
  · exact (rem_end (List.getElem?_eq_none_iff.1 hc)).symm
  · rw [← List.getElem?_drop] at hc
    have := run_end hc
    rw [List.getElem?_drop] at hc
    exact (rem_line hc (by simpa [notNl] using this)).symm
theorem cls_5_run {l : List UInt8} {j : Nat} (h : cls l j = 5) : 1 ≤ run notNl (l.drop j) := by
  unfold cls at h
  split at h
  · rename_i c hc
    exact run_pos hc (by simp [notNl, clsB_35 h])
  · simp at h
/-- In a token there is no line feed. -/
theorem one_noline {l : List UInt8} {j ln : Nat} {kd : Int} (h : one (l.drop j) = (kd, ln, 0)) : ∀ k, k < ln → ∃ c, l[j + k]? = some c ∧ c.toNat ≠ 10 := by
  intro k hk
  have word : ∀ {n : Nat}, k < n → n = run isWord (l.drop j) → ∃ c, l[j + k]? = some c ∧ c.toNat ≠ 10 := by
    intro n hn e
    subst e
    obtain ⟨c, hc, hp⟩ := run_first k hn
    rw [List.getElem?_drop] at hc
    refine ⟨c, hc, fun e => ?_⟩
    rw [← word_eq, e] at hp
    exact absurd hp (by decide)
  have num : ∀ {n : Nat}, k < n → n = run isNum (l.drop j) → ∃ c, l[j + k]? = some c ∧ c.toNat ≠ 10 := by
    intro n hn e
    subst e
    obtain ⟨c, hc, hp⟩ := run_first k hn
    rw [List.getElem?_drop] at hc
    refine ⟨c, hc, fun e => ?_⟩
    rw [← dig_eq, e] at hp
    exact absurd hp (by decide)
  unfold one at h
  split at h
  · split at h
    · cases h
    · simp only [Prod.mk.injEq] at h
      exact word hk h.2.1.symm
  · split at h
    · split at h
      · cases h
      · split at h
        · cases h
        · simp only [Prod.mk.injEq] at h
          exact num hk h.2.1.symm
    · split at h
      · cases h
      · simp only [Prod.mk.injEq] at h
        obtain ⟨-, h, -⟩ := h
        subst h
        unfold markLen at hk
        cases hf : marks.find? fun m => m.isPrefixOf (l.drop j) with
        | none => rw [hf] at hk; simp at hk
        | some m =>
          rw [hf] at hk
          have hm := List.mem_of_find?_eq_some hf
          have hp := List.find?_some hf
          rw [List.isPrefixOf_iff_prefix] at hp
          obtain ⟨t, ht⟩ := hp
          have hc : l[j + k]? = some m[k] := by
            rw [← List.getElem?_drop, ← ht, List.getElem?_append_left hk, List.getElem?_eq_getElem hk]
          have all : ∀ y ∈ marks, ∀ x ∈ y, x.toNat ≠ 10 := by decide
          exact ⟨_, hc, all m hm _ (List.getElem_mem hk)⟩
theorem txt_ne {s : ByteArray} (h : 0 < s.size) : s.toList.isEmpty = false := by
  have e : s.toList.length = s.size := by rw [ByteArray.toList_eq]; rfl
  cases h' : s.toList with
  | nil => rw [h'] at e; simp at e; omega
  | cons a l => rfl
theorem extract_drop (s : ByteArray) (j : Nat) : (s.extract j s.size).data.toList = s.data.toList.drop j := by
  rw [ByteArray.data_extract, Array.toList_extract, List.extract_eq_take_drop]
  rw [List.take_of_length_le]
  rw [List.length_drop, size_list']
  exact Nat.le_refl _
theorem extract_extract (s : ByteArray) (j n : Nat) : (s.extract j s.size).extract n (s.extract j s.size).size = s.extract (j + n) s.size := by
  apply ByteArray.ext
  apply Array.toList_inj.mp
  rw [extract_drop, extract_drop, extract_drop, List.drop_drop]
theorem extract_head (s : ByteArray) (j n : Nat) (h : j + n ≤ s.size) : (s.extract j s.size).extract 0 n = s.extract j (j + n) := by
  apply ByteArray.ext
  apply Array.toList_inj.mp
  rw [ByteArray.data_extract, Array.toList_extract, List.extract_eq_take_drop, extract_drop, ByteArray.data_extract, Array.toList_extract, List.extract_eq_take_drop, List.drop_zero]
  congr 1
  omega
theorem extract_all (s : ByteArray) : s.extract 0 s.size = s := by
  apply ByteArray.ext
  apply Array.toList_inj.mp
  rw [extract_drop]; rfl
theorem extract_size' (s : ByteArray) (j : Nat) : (s.extract j s.size).size = s.size - j := by
  rw [← size_list', extract_drop, List.length_drop, size_list']
end Go.Proofs.YthmhlhegmnpagaaDoor
