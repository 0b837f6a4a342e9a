/- What the layer of tokens says, as plain functions of lists of bytes: classes, gaps, one token, a place, all tokens. No condition. -/
import Derived.Test.YthmhlhegmnpagaaDoorKit
namespace Go.Proofs.YthmhlhegmnpagaaDoor
namespace ScanSpec

def isLow (c : UInt8) : Bool := decide (97 ≤ (c.toNat : Int)) && decide ((c.toNat : Int) ≤ 122)
def isDig (c : UInt8) : Bool := decide (48 ≤ (c.toNat : Int)) && decide ((c.toNat : Int) ≤ 57)
def isBlank (c : UInt8) : Bool := (c.toNat == 32 || c.toNat == 9) || c.toNat == 10 || c.toNat == 13
/-- What a byte is: 1 a letter, 2 a digit, 3 a low line, 4 a blank, 5 what begins a remark, 0 another one. -/
def clsB (c : UInt8) : Int := if isLow c then 1 else if isDig c then 2 else if c.toNat = 95 then 3 else if isBlank c then 4 else if c.toNat = 35 then 5 else 0
def cls (l : List UInt8) (i : Nat) : Int := match l[i]? with | some c => clsB c | none => 0

/-- How many bytes are no token's: blanks and remarks (the first: within a remark). -/
def gapRun : Bool → List UInt8 → Nat
  | _, [] => 0
  | false, c :: t => if clsB c = 4 then gapRun false t + 1 else if clsB c = 5 then gapRun true t + 1 else 0
  | true, c :: t => if c.toNat = 10 then gapRun false t + 1 else gapRun true t + 1
def gap (l : List UInt8) (i : Nat) : Nat := i + gapRun false (l.drop i)

/-- How many bytes in a row are such. -/
def run (p : UInt8 → Bool) : List UInt8 → Nat
  | [] => 0
  | c :: t => if p c then run p t + 1 else 0
def isWord (c : UInt8) : Bool := decide (1 ≤ clsB c) && decide (clsB c ≤ 3)
def isNum (c : UInt8) : Bool := decide (clsB c = 2)

def marks : List (List UInt8) := [[45, 62], [58, 61], [60, 61], [62, 61], [33, 61], [61, 61], [46, 46], [123], [125], [91], [93], [40], [41], [44], [59], [61], [60], [62], [43], [45], [42], [47]]
def marksS : List ByteArray := [⟨#[45, 62]⟩, ⟨#[58, 61]⟩, ⟨#[60, 61]⟩, ⟨#[62, 61]⟩, ⟨#[33, 61]⟩, ⟨#[61, 61]⟩, ⟨#[46, 46]⟩, ⟨#[123]⟩, ⟨#[125]⟩, ⟨#[91]⟩, ⟨#[93]⟩, ⟨#[40]⟩, ⟨#[41]⟩, ⟨#[44]⟩, ⟨#[59]⟩, ⟨#[61]⟩, ⟨#[60]⟩, ⟨#[62]⟩, ⟨#[43]⟩, ⟨#[45]⟩, ⟨#[42]⟩, ⟨#[47]⟩]
def markLen (d : List UInt8) : Nat := match marks.find? fun m => m.isPrefixOf d with | some m => m.length | none => 0

/-- The token at the head of a text: its kind and length, what is told. -/
def one (d : List UInt8) : Int × Nat × Int :=
  if cls d 0 = 1 then (if 12 < run isWord d then (0, 0, 5) else (1, run isWord d, 0))
  else if cls d 0 = 2 then (if cls d (run isNum d) = 1 ∨ cls d (run isNum d) = 3 then (0, 0, 2) else if 9 < run isNum d then (0, 0, 5) else (2, run isNum d, 0))
  else if markLen d = 0 then (0, 0, 2) else (3, markLen d, 0)

/-- The line and the byte of a place. -/
def posGo : List UInt8 → Int × Int → Int × Int
  | [], p => p
  | c :: t, p => posGo t (if c.toNat = 10 then (p.1 + 1, 1) else (p.1, p.2 + 1))
def pos (l : List UInt8) (i : Nat) : Int × Int := posGo (l.take i) (1, 1)

theorem posGo_snoc (l : List UInt8) (c : UInt8) (p : Int × Int) : posGo (l ++ [c]) p = (if c.toNat = 10 then ((posGo l p).1 + 1, 1) else ((posGo l p).1, (posGo l p).2 + 1)) := by
  induction l generalizing p with
  | nil => rfl
  | cons a t ih => simp only [List.cons_append, posGo, ih]
theorem pos_next {l : List UInt8} {i : Nat} {c : UInt8} (h : l[i]? = some c) : pos l (i + 1) = (if c.toNat = 10 then ((pos l i).1 + 1, 1) else ((pos l i).1, (pos l i).2 + 1)) := by
  unfold pos; rw [take_next h, posGo_snoc]
theorem posGo_bd (l : List UInt8) (p : Int × Int) (h1 : 1 ≤ p.1) (h2 : 1 ≤ p.2) : 1 ≤ (posGo l p).1 ∧ (posGo l p).1 ≤ p.1 + l.length ∧ 1 ≤ (posGo l p).2 ∧ (posGo l p).2 ≤ p.2 + l.length := by
  induction l generalizing p with
  | nil => simp [posGo]; omega
  | cons a t ih =>
    simp only [posGo, List.length_cons]
    split
    · have := ih (p.1 + 1, 1) (by simp; omega) (by simp)
      simp at this ⊢; omega
    · have := ih (p.1, p.2 + 1) (by simp; omega) (by simp; omega)
      simp at this ⊢; omega
theorem pos_bd (l : List UInt8) (i : Nat) : 1 ≤ (pos l i).1 ∧ (pos l i).1 ≤ 1 + i ∧ 1 ≤ (pos l i).2 ∧ (pos l i).2 ≤ 1 + i := by
  have := posGo_bd (l.take i) (1, 1) (by simp) (by simp)
  have h := List.length_take_le i l
  unfold pos
  simp at this
  omega

theorem cls_some {l : List UInt8} {i : Nat} {c : UInt8} (h : l[i]? = some c) : cls l i = clsB c := by unfold cls; rw [h]
theorem cls_none {l : List UInt8} {i : Nat} (h : l.length ≤ i) : cls l i = 0 := by unfold cls; rw [List.getElem?_eq_none_iff.2 h]
theorem clsB_bd (c : UInt8) : 0 ≤ clsB c ∧ clsB c ≤ 5 := by unfold clsB; repeat' split; all_goals omega
theorem cls_bd (l : List UInt8) (i : Nat) : 0 ≤ cls l i ∧ cls l i ≤ 5 := by
  unfold cls; split
  · exact clsB_bd _
  · omega
theorem cls_drop (l : List UInt8) (i j : Nat) : cls (l.drop i) j = cls l (i + j) := by unfold cls; rw [List.getElem?_drop]
theorem drop_next {l : List UInt8} {i : Nat} {c : UInt8} (h : l[i]? = some c) : l.drop i = c :: l.drop (i + 1) := by
  have hi := get_lt h
  rw [List.drop_eq_getElem_cons hi]
  congr 1
  rw [List.getElem?_eq_getElem hi] at h
  injection h
theorem drop_end {l : List UInt8} {i : Nat} (h : l.length ≤ i) : l.drop i = [] := List.drop_eq_nil_of_le h
theorem clsB_35 {c : UInt8} (h : clsB c = 5) : c.toNat = 35 := by
  unfold clsB at h
  split at h
  · simp at h
  · split at h
    · simp at h
    · split at h
      · simp at h
      · split at h
        · simp at h
        · split at h
          · assumption
          · simp at h
theorem clsB_10 {c : UInt8} (h : c.toNat = 10) : clsB c = 4 := by
  unfold clsB isLow isDig isBlank
  rw [h]; rfl

theorem gap_blank {l : List UInt8} {i : Nat} (h : cls l i = 4) : gap l (i + 1) = gap l i := by
  unfold cls at h
  split at h
  · rename_i c hc
    unfold gap
    rw [drop_next hc, gapRun, if_pos h]; omega
  · simp at h
/-- From within a remark on. -/
def rem (l : List UInt8) (i : Nat) : Nat := i + gapRun true (l.drop i)
theorem gap_remark {l : List UInt8} {i : Nat} (h : cls l i = 5) : rem l i = gap l i := by
  unfold cls at h
  split at h
  · rename_i c hc
    unfold gap rem
    rw [drop_next hc, gapRun, gapRun, if_neg (by rw [clsB_35 h]; decide), if_neg (by rw [h]; decide), if_pos h]
  · simp at h
theorem rem_next {l : List UInt8} {i : Nat} {c : UInt8} (hc : l[i]? = some c) (h : ¬ c.toNat = 10) : rem l (i + 1) = rem l i := by
  unfold rem
  rw [drop_next hc, gapRun, if_neg h]; omega
theorem rem_line {l : List UInt8} {i : Nat} {c : UInt8} (hc : l[i]? = some c) (h : c.toNat = 10) : rem l i = gap l i := by
  unfold rem gap
  rw [drop_next hc, gapRun, gapRun, if_pos h, if_pos (clsB_10 h)]
theorem rem_end {l : List UInt8} {i : Nat} (h : l.length ≤ i) : rem l i = gap l i := by
  unfold rem gap
  rw [drop_end h]; rfl
theorem gap_stop {l : List UInt8} {i : Nat} (h4 : ¬ cls l i = 4) (h5 : ¬ cls l i = 5) : gap l i = i := by
  unfold gap
  rcases hc : l[i]? with _ | c
  · rw [drop_end (List.getElem?_eq_none_iff.1 hc)]; rfl
  · rw [cls_some hc] at h4 h5
    rw [drop_next hc, gapRun, if_neg h4, if_neg h5]; rfl
theorem gapRun_le (b : Bool) (l : List UInt8) : gapRun b l ≤ l.length := by
  induction l generalizing b with
  | nil => cases b <;> simp [gapRun]
  | cons c t ih =>
    have h1 := ih false
    have h2 := ih true
    cases b <;> simp only [gapRun, List.length_cons] <;> repeat' split
    all_goals omega
theorem gap_bd {l : List UInt8} {i : Nat} (h : i ≤ l.length) : i ≤ gap l i ∧ gap l i ≤ l.length := by
  have := gapRun_le false (l.drop i)
  rw [List.length_drop] at this
  unfold gap; omega

theorem run_next {p : UInt8 → Bool} {l : List UInt8} {i : Nat} {c : UInt8} (hc : l[i]? = some c) (h : p c = true) : i + 1 + run p (l.drop (i + 1)) = i + run p (l.drop i) := by
  rw [drop_next hc, run, if_pos h]; omega
theorem run_stop {p : UInt8 → Bool} {l : List UInt8} {i : Nat} (h : ∀ c, l[i]? = some c → p c = false) : run p (l.drop i) = 0 := by
  rcases hc : l[i]? with _ | c
  · rw [drop_end (List.getElem?_eq_none_iff.1 hc)]; rfl
  · rw [drop_next hc, run, if_neg (by rw [h c hc]; simp)]
theorem run_le (p : UInt8 → Bool) (l : List UInt8) : run p l ≤ l.length := by
  induction l with
  | nil => simp [run]
  | cons c t ih => simp only [run, List.length_cons]; split <;> omega
theorem run_pos {p : UInt8 → Bool} {l : List UInt8} {i : Nat} {c : UInt8} (hc : l[i]? = some c) (h : p c = true) : 0 < run p (l.drop i) := by
  rw [drop_next hc, run, if_pos h]; omega
theorem isWord_cls {l : List UInt8} {i : Nat} (h1 : 1 ≤ cls l i) (h3 : cls l i ≤ 3) : ∃ c, l[i]? = some c ∧ isWord c = true := by
  unfold cls at h1 h3
  split at h1
  · rename_i c hc
    refine ⟨c, hc, ?_⟩
    rw [hc] at h3
    simp [isWord, h1, h3]
  · omega
theorem isWord_no {l : List UInt8} {i : Nat} (h : ¬ (1 ≤ cls l i ∧ cls l i ≤ 3)) : ∀ c, l[i]? = some c → isWord c = false := by
  intro c hc
  rw [cls_some hc] at h
  simp only [isWord, Bool.and_eq_false_iff, decide_eq_false_iff_not]
  omega
theorem isNum_cls {l : List UInt8} {i : Nat} (h : cls l i = 2) : ∃ c, l[i]? = some c ∧ isNum c = true := by
  unfold cls at h
  split at h
  · rename_i c hc
    exact ⟨c, hc, by simp [isNum, h]⟩
  · simp at h
theorem isNum_no {l : List UInt8} {i : Nat} (h : ¬ cls l i = 2) : ∀ c, l[i]? = some c → isNum c = false := by
  intro c hc
  rw [cls_some hc] at h
  simp [isNum, h]

/-- A token: its kind, where it begins, its length. -/
structure Tok where
  kind : Int
  at_ : Nat
  len : Nat
/-- All tokens from a place on, behind those that are there already; or where a fault is, and which. -/
def scanGo (l : List UInt8) : Nat → Nat → List Tok → List Tok × Nat × Int
  | 0, i, acc => (acc ++ [⟨0, i, 0⟩], 0, 0)
  | f + 1, i, acc =>
    if l.length ≤ i then (acc ++ [⟨0, i, 0⟩], 0, 0)
    else
      let t := one (l.drop i)
      if t.2.2 ≠ 0 then ([], i, t.2.2)
      else if acc.length = 4000 then ([], i, 8)
      else scanGo l f (gap l (i + t.2.1)) (acc ++ [⟨t.1, i, t.2.1⟩])
def scan (l : List UInt8) : List Tok × Nat × Int := scanGo l l.length (gap l 0) []
end ScanSpec
end Go.Proofs.YthmhlhegmnpagaaDoor
