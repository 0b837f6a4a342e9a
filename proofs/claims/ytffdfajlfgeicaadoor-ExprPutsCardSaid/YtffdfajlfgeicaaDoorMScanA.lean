/- ScanSpec, ScanRef, ScanRefOne, ScanRefToks, joined. -/
import Derived.Test.YtffdfajlfgeicaaDoorMKits
import Derived.Test.YtffdfajlfgeicaaDoorRows
import Derived.BigQuiet
import Derived.Deep.QuietTactic
import Derived.IntWalk
import Derived.Deep.RegionHeld3
namespace Go.Proofs.YtffdfajlfgeicaaDoor
namespace ScanSpec

def isLow (c : UInt8) : Bool := decide (97 ≤ (c.toNat : Int)) && decide ((c.toNat : Int) ≤ 122)
def isDig (c : UInt8) : Bool := decide (48 ≤ (c.toNat : Int)) && decide ((c.toNat : Int) ≤ 57)
def isBlank (c : UInt8) : Bool := (c.toNat == 32 || c.toNat == 9) || c.toNat == 10 || c.toNat == 13
/-- What a byte is: 1 a letter, 2 a digit, 3 a low line, 4 a blank, 5 what begins a remark, 0 another one. -/
def clsB (c : UInt8) : Int := if isLow c then 1 else if isDig c then 2 else if c.toNat = 95 then 3 else if isBlank c then 4 else if c.toNat = 35 then 5 else 0
def cls (l : List UInt8) (i : Nat) : Int := match l[i]? with | some c => clsB c | none => 0

/-- How many bytes are no token's: blanks and remarks (the first: within a remark). -/
def gapRun : Bool → List UInt8 → Nat
  | _, [] => 0
  | false, c :: t => if clsB c = 4 then gapRun false t + 1 else if clsB c = 5 then gapRun true t + 1 else 0
  | true, c :: t => if c.toNat = 10 then gapRun false t + 1 else gapRun true t + 1
def gap (l : List UInt8) (i : Nat) : Nat := i + gapRun false (l.drop i)

/-- How many bytes in a row are such. -/
def run (p : UInt8 → Bool) : List UInt8 → Nat
  | [] => 0
  | c :: t => if p c then run p t + 1 else 0
def isWord (c : UInt8) : Bool := decide (1 ≤ clsB c) && decide (clsB c ≤ 3)
def isNum (c : UInt8) : Bool := decide (clsB c = 2)

def marks : List (List UInt8) := [[45, 62], [58, 61], [60, 61], [62, 61], [33, 61], [61, 61], [46, 46], [123], [125], [91], [93], [40], [41], [44], [59], [61], [60], [62], [43], [45], [42], [47]]
def marksS : List ByteArray := [⟨#[45, 62]⟩, ⟨#[58, 61]⟩, ⟨#[60, 61]⟩, ⟨#[62, 61]⟩, ⟨#[33, 61]⟩, ⟨#[61, 61]⟩, ⟨#[46, 46]⟩, ⟨#[123]⟩, ⟨#[125]⟩, ⟨#[91]⟩, ⟨#[93]⟩, ⟨#[40]⟩, ⟨#[41]⟩, ⟨#[44]⟩, ⟨#[59]⟩, ⟨#[61]⟩, ⟨#[60]⟩, ⟨#[62]⟩, ⟨#[43]⟩, ⟨#[45]⟩, ⟨#[42]⟩, ⟨#[47]⟩]
def markLen (d : List UInt8) : Nat := match marks.find? fun m => m.isPrefixOf d with | some m => m.length | none => 0

/-- The token at the head of a text: its kind and length, what is told. -/
def one (d : List UInt8) : Int × Nat × Int :=
  if cls d 0 = 1 then (if 12 < run isWord d then (0, 0, 5) else (1, run isWord d, 0))
  else if cls d 0 = 2 then (if cls d (run isNum d) = 1 ∨ cls d (run isNum d) = 3 then (0, 0, 2) else if 9 < run isNum d then (0, 0, 5) else (2, run isNum d, 0))
  else if markLen d = 0 then (0, 0, 2) else (3, markLen d, 0)

/-- The line and the byte of a place. -/
def posGo : List UInt8 → Int × Int → Int × Int
  | [], p => p
  | c :: t, p => posGo t (if c.toNat = 10 then (p.1 + 1, 1) else (p.1, p.2 + 1))
def pos (l : List UInt8) (i : Nat) : Int × Int := posGo (l.take i) (1, 1)

theorem posGo_snoc (l : List UInt8) (c : UInt8) (p : Int × Int) : posGo (l ++ [c]) p = (if c.toNat = 10 then ((posGo l p).1 + 1, 1) else ((posGo l p).1, (posGo l p).2 + 1)) := by
  induction l generalizing p with
  | nil => rfl
  | cons a t ih => simp only [List.cons_append, posGo, ih]
theorem pos_next {l : List UInt8} {i : Nat} {c : UInt8} (h : l[i]? = some c) : pos l (i + 1) = (if c.toNat = 10 then ((pos l i).1 + 1, 1) else ((pos l i).1, (pos l i).2 + 1)) := by
  unfold pos; rw [take_next h, posGo_snoc]
theorem posGo_bd (l : List UInt8) (p : Int × Int) (h1 : 1 ≤ p.1) (h2 : 1 ≤ p.2) : 1 ≤ (posGo l p).1 ∧ (posGo l p).1 ≤ p.1 + l.length ∧ 1 ≤ (posGo l p).2 ∧ (posGo l p).2 ≤ p.2 + l.length := by
  induction l generalizing p with
  | nil => simp [posGo]; omega
  | cons a t ih =>
    simp only [posGo, List.length_cons]
    split
    · have := ih (p.1 + 1, 1) (by simp; omega) (by simp)
      simp at this ⊢; omega
    · have := ih (p.1, p.2 + 1) (by simp; omega) (by simp; omega)
      simp at this ⊢; omega
theorem pos_bd (l : List UInt8) (i : Nat) : 1 ≤ (pos l i).1 ∧ (pos l i).1 ≤ 1 + i ∧ 1 ≤ (pos l i).2 ∧ (pos l i).2 ≤ 1 + i := by
  have := posGo_bd (l.take i) (1, 1) (by simp) (by simp)
  have h := List.length_take_le i l
  unfold pos
  simp at this
  omega

theorem cls_some {l : List UInt8} {i : Nat} {c : UInt8} (h : l[i]? = some c) : cls l i = clsB c := by unfold cls; rw [h]
theorem cls_none {l : List UInt8} {i : Nat} (h : l.length ≤ i) : cls l i = 0 := by unfold cls; rw [List.getElem?_eq_none_iff.2 h]
theorem clsB_bd (c : UInt8) : 0 ≤ clsB c ∧ clsB c ≤ 5 := by unfold clsB; repeat' split; all_goals omega
theorem cls_bd (l : List UInt8) (i : Nat) : 0 ≤ cls l i ∧ cls l i ≤ 5 := by
  unfold cls; split
  · exact clsB_bd _
  · omega
theorem cls_drop (l : List UInt8) (i j : Nat) : cls (l.drop i) j = cls l (i + j) := by unfold cls; rw [List.getElem?_drop]
theorem drop_next {l : List UInt8} {i : Nat} {c : UInt8} (h : l[i]? = some c) : l.drop i = c :: l.drop (i + 1) := by
  have hi := get_lt h
  rw [List.drop_eq_getElem_cons hi]
  congr 1
  rw [List.getElem?_eq_getElem hi] at h
  injection h
theorem drop_end {l : List UInt8} {i : Nat} (h : l.length ≤ i) : l.drop i = [] := List.drop_eq_nil_of_le h
theorem clsB_35 {c : UInt8} (h : clsB c = 5) : c.toNat = 35 := by
  unfold clsB at h
  split at h
  · simp at h
  · split at h
    · simp at h
    · split at h
      · simp at h
      · split at h
        · simp at h
        · split at h
          · assumption
          · simp at h
theorem clsB_10 {c : UInt8} (h : c.toNat = 10) : clsB c = 4 := by
  unfold clsB isLow isDig isBlank
  rw [h]; rfl

theorem gap_blank {l : List UInt8} {i : Nat} (h : cls l i = 4) : gap l (i + 1) = gap l i := by
  unfold cls at h
  split at h
  · rename_i c hc
    unfold gap
    rw [drop_next hc, gapRun, if_pos h]; omega
  · simp at h
/-- From within a remark on. -/
def rem (l : List UInt8) (i : Nat) : Nat := i + gapRun true (l.drop i)
theorem gap_remark {l : List UInt8} {i : Nat} (h : cls l i = 5) : rem l i = gap l i := by
  unfold cls at h
  split at h
  · rename_i c hc
    unfold gap rem
    rw [drop_next hc, gapRun, gapRun, if_neg (by rw [clsB_35 h]; decide), if_neg (by rw [h]; decide), if_pos h]
  · simp at h
theorem rem_next {l : List UInt8} {i : Nat} {c : UInt8} (hc : l[i]? = some c) (h : ¬ c.toNat = 10) : rem l (i + 1) = rem l i := by
  unfold rem
  rw [drop_next hc, gapRun, if_neg h]; omega
theorem rem_line {l : List UInt8} {i : Nat} {c : UInt8} (hc : l[i]? = some c) (h : c.toNat = 10) : rem l i = gap l i := by
  unfold rem gap
  rw [drop_next hc, gapRun, gapRun, if_pos h, if_pos (clsB_10 h)]
theorem rem_end {l : List UInt8} {i : Nat} (h : l.length ≤ i) : rem l i = gap l i := by
  unfold rem gap
  rw [drop_end h]; rfl
theorem gap_stop {l : List UInt8} {i : Nat} (h4 : ¬ cls l i = 4) (h5 : ¬ cls l i = 5) : gap l i = i := by
  unfold gap
  rcases hc : l[i]? with _ | c
  · rw [drop_end (List.getElem?_eq_none_iff.1 hc)]; rfl
  · rw [cls_some hc] at h4 h5
    rw [drop_next hc, gapRun, if_neg h4, if_neg h5]; rfl
theorem gapRun_le (b : Bool) (l : List UInt8) : gapRun b l ≤ l.length := by
  induction l generalizing b with
  | nil => cases b <;> simp [gapRun]
  | cons c t ih =>
    have h1 := ih false
    have h2 := ih true
    cases b <;> simp only [gapRun, List.length_cons] <;> repeat' split
    all_goals omega
theorem gap_bd {l : List UInt8} {i : Nat} (h : i ≤ l.length) : i ≤ gap l i ∧ gap l i ≤ l.length := by
  have := gapRun_le false (l.drop i)
  rw [List.length_drop] at this
  unfold gap; omega

theorem run_next {p : UInt8 → Bool} {l : List UInt8} {i : Nat} {c : UInt8} (hc : l[i]? = some c) (h : p c = true) : i + 1 + run p (l.drop (i + 1)) = i + run p (l.drop i) := by
  rw [drop_next hc, run, if_pos h]; omega
theorem run_stop {p : UInt8 → Bool} {l : List UInt8} {i : Nat} (h : ∀ c, l[i]? = some c → p c = false) : run p (l.drop i) = 0 := by
  rcases hc : l[i]? with _ | c
  · rw [drop_end (List.getElem?_eq_none_iff.1 hc)]; rfl
  · rw [drop_next hc, run, if_neg (by rw [h c hc]; simp)]
theorem run_le (p : UInt8 → Bool) (l : List UInt8) : run p l ≤ l.length := by
  induction l with
  | nil => simp [run]
  | cons c t ih => simp only [run, List.length_cons]; split <;> omega
theorem run_pos {p : UInt8 → Bool} {l : List UInt8} {i : Nat} {c : UInt8} (hc : l[i]? = some c) (h : p c = true) : 0 < run p (l.drop i) := by
  rw [drop_next hc, run, if_pos h]; omega
theorem isWord_cls {l : List UInt8} {i : Nat} (h1 : 1 ≤ cls l i) (h3 : cls l i ≤ 3) : ∃ c, l[i]? = some c ∧ isWord c = true := by
  unfold cls at h1 h3
  split at h1
  · rename_i c hc
    refine ⟨c, hc, ?_⟩
    rw [hc] at h3
    simp [isWord, h1, h3]
  · omega
theorem isWord_no {l : List UInt8} {i : Nat} (h : ¬ (1 ≤ cls l i ∧ cls l i ≤ 3)) : ∀ c, l[i]? = some c → isWord c = false := by
  intro c hc
  rw [cls_some hc] at h
  simp only [isWord, Bool.and_eq_false_iff, decide_eq_false_iff_not]
  omega
theorem isNum_cls {l : List UInt8} {i : Nat} (h : cls l i = 2) : ∃ c, l[i]? = some c ∧ isNum c = true := by
  unfold cls at h
  split at h
  · rename_i c hc
    exact ⟨c, hc, by simp [isNum, h]⟩
  · simp at h
theorem isNum_no {l : List UInt8} {i : Nat} (h : ¬ cls l i = 2) : ∀ c, l[i]? = some c → isNum c = false := by
  intro c hc
  rw [cls_some hc] at h
  simp [isNum, h]

/-- A token: its kind, where it begins, its length. -/
structure Tok where
  kind : Int
  at_ : Nat
  len : Nat
/-- All tokens from a place on, behind those that are there already; or where a fault is, and which. -/
def scanGo (l : List UInt8) : Nat → Nat → List Tok → List Tok × Nat × Int
  | 0, i, acc => (acc ++ [⟨0, i, 0⟩], 0, 0)
  | f + 1, i, acc =>
    if l.length ≤ i then (acc ++ [⟨0, i, 0⟩], 0, 0)
    else
      let t := one (l.drop i)
      if t.2.2 ≠ 0 then ([], i, t.2.2)
      else if acc.length = 4000 then ([], i, 8)
      else scanGo l f (gap l (i + t.2.1)) (acc ++ [⟨t.1, i, t.2.1⟩])
def scan (l : List UInt8) : List Tok × Nat × Int := scanGo l l.length (gap l 0) []
end ScanSpec
end Go.Proofs.YtffdfajlfgeicaaDoor

namespace Go.Proofs.YtffdfajlfgeicaaDoor
open Go.RowKit ScanSpec
set_option maxRecDepth 100000

theorem byte_at' (s : ByteArray) (i : Nat) (h : i < s.size) : s.data.toList[i]? = some s[i] := by
  rw [List.getElem?_eq_getElem (by simpa using h)]; rfl
theorem size_list' (s : ByteArray) : s.data.toList.length = s.size := rfl

theorem clsB_val (c : UInt8) (n : Int) (hn : n = (c.toNat : Int)) : (97 ≤ n ∧ n ≤ 122 ∧ clsB c = 1) ∨ (48 ≤ n ∧ n ≤ 57 ∧ clsB c = 2) ∨ (n = 95 ∧ clsB c = 3) ∨ ((n = 32 ∨ n = 9 ∨ n = 10 ∨ n = 13) ∧ clsB c = 4) ∨ (n = 35 ∧ clsB c = 5) ∨
    ((n < 48 ∨ (57 < n ∧ n < 97) ∨ 122 < n) ∧ n ≠ 95 ∧ n ≠ 32 ∧ n ≠ 9 ∧ n ≠ 10 ∧ n ≠ 13 ∧ n ≠ 35 ∧ clsB c = 0) := by
  unfold clsB isLow isDig isBlank
  simp only [← hn, Bool.and_eq_true, Bool.or_eq_true, decide_eq_true_eq, beq_iff_eq]
  by_cases h1 : 97 ≤ n ∧ n ≤ 122
  · exact .inl ⟨h1.1, h1.2, by rw [if_pos h1]⟩
  · rw [if_neg h1]
    by_cases h2 : 48 ≤ n ∧ n ≤ 57
    · exact .inr (.inl ⟨h2.1, h2.2, by rw [if_pos h2]⟩)
    · rw [if_neg h2]
      by_cases h3 : c.toNat = 95
      · exact .inr (.inr (.inl ⟨by omega, by rw [if_pos h3]⟩))
      · rw [if_neg h3]
        by_cases h4 : ((c.toNat = 32 ∨ c.toNat = 9) ∨ c.toNat = 10) ∨ c.toNat = 13
        · exact .inr (.inr (.inr (.inl ⟨by omega, by rw [if_pos h4]⟩)))
        · rw [if_neg h4]
          by_cases h5 : c.toNat = 35
          · exact .inr (.inr (.inr (.inr (.inl ⟨by omega, by rw [if_pos h5]⟩))))
          · exact .inr (.inr (.inr (.inr (.inr ⟨by omega, by omega, by omega, by omega, by omega, by omega, by omega, by rw [if_neg h5]⟩))))

set_option maxHeartbeats 1000000 in
theorem class_any (s : ByteArray) (i : Nat) (w : World) (hs : s.size ≤ 9223372036854775807) (hi : i ≤ 9223372036854775807) :
    Calls Tryd.prog 65 #[.string s, .int .i64 i] w fun e w' => e = .returned (.int .i64 (cls s.data.toList i)) ∧ w = w' := by
  by_cases hlt : i < s.size
  · have HC := Lib.hid (cls_some (byte_at' s i hlt))
    have hub : (s[i].toNat : Int) ≤ 255 := by have := s[i].toNat_lt; omega
    have hlb : 0 ≤ (s[i].toNat : Int) := by omega
    have hv := clsB_val s[i] _ rfl
    rcases hv with ⟨h1, h2, hc⟩ | ⟨h1, h2, hc⟩ | ⟨h1, hc⟩ | ⟨h1, hc⟩ | ⟨h1, hc⟩ | ⟨h1, n1, n2, n3, n4, n5, n6, hc⟩
    · have HV := Lib.hid hc
      clear hc
      go_enter Tryd.func65, Tryd.ntmps65
      go_wp2
      go_ret
      exact ⟨ret_int (HC.out.trans HV.out).symm, rfl⟩
    · have HV := Lib.hid hc
      clear hc
      go_enter Tryd.func65, Tryd.ntmps65
      go_wp2
      go_ret
      exact ⟨ret_int (HC.out.trans HV.out).symm, rfl⟩
    · have e95 : ((s[i].toNat : Int) == 95) = true := by simp; omega
      have h48 : 57 < (s[i].toNat : Int) := by omega
      have h97 : (s[i].toNat : Int) < 97 := by omega
      clear h1
      have HV := Lib.hid hc
      clear hc
      go_enter Tryd.func65, Tryd.ntmps65
      go_wp2
      go_ret
      exact ⟨ret_int (HC.out.trans HV.out).symm, rfl⟩
    · rcases h1 with h1 | h1 | h1 | h1
      · have e95 : ((s[i].toNat : Int) == 95) = false := by simp; omega
        have e32 : ((s[i].toNat : Int) == 32) = true := by simp; omega
        have h48 : (s[i].toNat : Int) < 48 := by omega
        clear h1
        have HV := Lib.hid hc
        clear hc
        go_enter Tryd.func65, Tryd.ntmps65
        go_wp2
        go_ret
        exact ⟨ret_int (HC.out.trans HV.out).symm, rfl⟩
      · have e95 : ((s[i].toNat : Int) == 95) = false := by simp; omega
        have e32 : ((s[i].toNat : Int) == 32) = false := by simp; omega
        have e9 : ((s[i].toNat : Int) == 9) = true := by simp; omega
        have h48 : (s[i].toNat : Int) < 48 := by omega
        clear h1
        have HV := Lib.hid hc
        clear hc
        go_enter Tryd.func65, Tryd.ntmps65
        go_wp2
        go_ret
        exact ⟨ret_int (HC.out.trans HV.out).symm, rfl⟩
      · have e95 : ((s[i].toNat : Int) == 95) = false := by simp; omega
        have e32 : ((s[i].toNat : Int) == 32) = false := by simp; omega
        have e9 : ((s[i].toNat : Int) == 9) = false := by simp; omega
        have e10 : ((s[i].toNat : Int) == 10) = true := by simp; omega
        have h48 : (s[i].toNat : Int) < 48 := by omega
        clear h1
        have HV := Lib.hid hc
        clear hc
        go_enter Tryd.func65, Tryd.ntmps65
        go_wp2
        go_ret
        exact ⟨ret_int (HC.out.trans HV.out).symm, rfl⟩
      · have e95 : ((s[i].toNat : Int) == 95) = false := by simp; omega
        have e32 : ((s[i].toNat : Int) == 32) = false := by simp; omega
        have e9 : ((s[i].toNat : Int) == 9) = false := by simp; omega
        have e10 : ((s[i].toNat : Int) == 10) = false := by simp; omega
        have e13 : ((s[i].toNat : Int) == 13) = true := by simp; omega
        have h48 : (s[i].toNat : Int) < 48 := by omega
        clear h1
        have HV := Lib.hid hc
        clear hc
        go_enter Tryd.func65, Tryd.ntmps65
        go_wp2
        go_ret
        exact ⟨ret_int (HC.out.trans HV.out).symm, rfl⟩
    · have e95 : ((s[i].toNat : Int) == 95) = false := by simp; omega
      have e32 : ((s[i].toNat : Int) == 32) = false := by simp; omega
      have e9 : ((s[i].toNat : Int) == 9) = false := by simp; omega
      have e10 : ((s[i].toNat : Int) == 10) = false := by simp; omega
      have e13 : ((s[i].toNat : Int) == 13) = false := by simp; omega
      have e35 : ((s[i].toNat : Int) == 35) = true := by simp; omega
      have h48 : (s[i].toNat : Int) < 48 := by omega
      clear h1
      have HV := Lib.hid hc
      clear hc
      go_enter Tryd.func65, Tryd.ntmps65
      go_wp2
      go_ret
      exact ⟨ret_int (HC.out.trans HV.out).symm, rfl⟩
    · have e95 : ((s[i].toNat : Int) == 95) = false := by simp; omega
      have e32 : ((s[i].toNat : Int) == 32) = false := by simp; omega
      have e9 : ((s[i].toNat : Int) == 9) = false := by simp; omega
      have e10 : ((s[i].toNat : Int) == 10) = false := by simp; omega
      have e13 : ((s[i].toNat : Int) == 13) = false := by simp; omega
      have e35 : ((s[i].toNat : Int) == 35) = false := by simp; omega
      clear n1 n2 n3 n4 n5 n6
      rcases h1 with h1 | ⟨h1, h1'⟩ | h1
      · have HV := Lib.hid hc
        clear hc
        go_enter Tryd.func65, Tryd.ntmps65
        go_wp2
        go_ret
        exact ⟨ret_int (HC.out.trans HV.out).symm, rfl⟩
      · have HV := Lib.hid hc
        clear hc
        go_enter Tryd.func65, Tryd.ntmps65
        go_wp2
        go_ret
        exact ⟨ret_int (HC.out.trans HV.out).symm, rfl⟩
      · have HV := Lib.hid hc
        clear hc
        go_enter Tryd.func65, Tryd.ntmps65
        go_wp2
        go_ret
        exact ⟨ret_int (HC.out.trans HV.out).symm, rfl⟩
  · have HC : Hid (cls s.data.toList i = 0) := Lib.hid (cls_none (by rw [size_list']; omega))
    go_enter Tryd.func65, Tryd.ntmps65
    go_wp2
    go_ret
    exact ⟨ret_int HC.out.symm, rfl⟩

theorem class_is {s : ByteArray} {i : Nat} {g : Int} (h : cls s.data.toList i = g) (hs : s.size ≤ 9223372036854775807) (hi : i ≤ 9223372036854775807) (w : World) :
    Calls Tryd.prog 65 #[.string s, .int .i64 i] w fun e w' => e = .returned (.int .i64 g) ∧ w = w' := by
  subst h; exact class_any s i w hs hi

def GapRel (s : ByteArray) (G : Nat) (v : Value) : Prop := ∃ k : Nat, k ≤ s.size ∧ v = .int .i64 k ∧ gap s.data.toList k = G
def RemRel (s : ByteArray) (k0 G : Nat) (v : Value) : Prop := ∃ k : Nat, k0 ≤ k ∧ k ≤ s.size ∧ v = .int .i64 k ∧ rem s.data.toList k = G

set_option maxHeartbeats 1000000 in
theorem rgap_any (s : ByteArray) (i : Nat) (w : World) (hs : s.size ≤ 9223372036854775807) (hi : i ≤ s.size) :
    Calls Tryd.prog 40 #[.string s, .int .i64 i] w fun e w' => e = .returned (.int .i64 (gap s.data.toList i)) ∧ w = w' := by
  obtain ⟨G, hG⟩ : ∃ G, G = gap s.data.toList i := ⟨_, rfl⟩
  rw [← hG]
  have HG := Lib.hid hG
  clear hG
  go_enter Tryd.func40, Tryd.ntmps40
  go_wp2_with fail
  go_loop [1] (fun v => GapRel s G v) (fun v => s.size - (intOf v).toNat)
  case atStart => exact ⟨i, hi, rfl, HG.out.symm⟩
  case round =>
    obtain ⟨k, hk, rfl, hgk⟩ := hrel
    have HK := Lib.hid hgk
    clear hgk
    have hbd := cls_bd s.data.toList k
    have hsz : cls s.data.toList k ≠ 0 → k < s.size := fun h => by
      rcases Nat.lt_or_ge k s.size with h' | h'
      · exact h'
      · exact absurd (cls_none (by rw [size_list']; exact h')) h
    obtain ⟨g, hg⟩ : ∃ g, g = cls s.data.toList k := ⟨_, rfl⟩
    rw [← hg] at hbd hsz
    have HC := Lib.hid (fun w => class_is hg.symm hs (show k ≤ 9223372036854775807 by omega) w)
    have HCl := Lib.hid hg
    clear hg
    by_cases h4 : g = 4
    · subst h4
      have hlt := hsz (by decide)
      clear hsz hbd
      go_wp2_with (go_at_call 65; (with_reducible refine (HC.out _).mono ?_); rintro e w' ⟨rfl, rfl⟩)
      go_round
      case rel => exact ⟨k + 1, hlt, by go_num, (gap_blank HCl.out.symm).trans HK.out⟩
      case measure => simp [intOf]; omega
    · by_cases h5 : g = 5
      · subst h5
        have hlt := hsz (by decide)
        clear hsz hbd h4
        go_wp2_with (go_at_call 65; (with_reducible refine (HC.out _).mono ?_); rintro e w' ⟨rfl, rfl⟩)
        go_loop [1] (fun v => RemRel s k G v) (fun v => s.size - (intOf v).toNat)
        case atStart => exact ⟨k, Nat.le_refl _, hk, rfl, (gap_remark HCl.out.symm).trans HK.out⟩
        case round =>
          obtain ⟨j, hkj, hj, rfl, hrj⟩ := hrel
          have HR := Lib.hid hrj
          clear hrj
          by_cases hjl : j < s.size
          · have HB := Lib.hid (byte_at' s j hjl)
            by_cases hten : s[j].toNat = 10
            · have h10 : ((s[j].toNat : Int) != 10) = false := by simp; omega
              have HE : Hid (GapRel s G (.int .i64 j)) := Lib.hid ⟨j, hj, rfl, by rw [← rem_line HB.out hten]; exact HR.out⟩
              have hlt' : k < j := by
                rcases Nat.lt_or_ge k j with h | h
                · exact h
                · exfalso
                  obtain rfl : k = j := by omega
                  have h1 := HCl.out
                  rw [cls_some HB.out, clsB_10 hten] at h1
                  exact absurd h1 (by decide)
              have HT := Lib.hid hten
              clear hten
              go_wp2_with fail
              go_round
              case rel => exact HE.out
              case measure => simp [intOf]; omega
            · have h10 : ((s[j].toNat : Int) != 10) = true := by simp; omega
              have HE : Hid (RemRel s k G (.int .i64 ((j : Int) + 1))) := Lib.hid ⟨j + 1, by omega, hjl, by simp, by rw [rem_next HB.out hten]; exact HR.out⟩
              clear hten
              go_wp2_with fail
              go_round
              case rel => exact HE.out
              case measure => simp [intOf]; omega
          · have HE : Hid (GapRel s G (.int .i64 j)) := Lib.hid ⟨j, hj, rfl, by rw [← rem_end (by rw [size_list']; omega)]; exact HR.out⟩
            go_wp2_with fail
            go_round
            case rel => exact HE.out
            case measure => simp [intOf]; omega
      · have e4 : (g == 4) = false := by simpa using h4
        have e5 : (g == 5) = false := by simpa using h5
        have HE : Hid (G = k) := Lib.hid (by rw [← HK.out]; exact gap_stop (by rw [← HCl.out]; exact h4) (by rw [← HCl.out]; exact h5))
        clear h4 h5 hsz
        go_wp2_with (go_at_call 65; (with_reducible refine (HC.out _).mono ?_); rintro e w' ⟨rfl, rfl⟩)
        go_ret
        exact ⟨ret_int (by rw [HE.out]), rfl⟩

def PosRel (W : World) (l : List UInt8) (n : Nat) (v : Value) (wr : World) : Prop := ∃ k : Nat, k ≤ n ∧ v = .int .i64 k ∧ wr.heap[W.heap.size]? = some (.cells #[.int .i64 0, .int .i64 0] 31 (0, 0)) ∧
  wr.heap[W.heap.size + 1]? = some (.cells #[.int .i64 (pos l k).1, .int .i64 (pos l k).2] 31 (0, 0)) ∧ Below W.heap.size W wr
theorem pos_line {W wr : World} {s : ByteArray} {k n : Nat} {p1 : Int} {x : Value} (hk : k < n) (hlt : k < s.size) (hten : s[k].toNat = 10)
    (hr : wr.heap[W.heap.size]? = some (.cells #[.int .i64 0, .int .i64 0] 31 (0, 0))) (hb : wr.heap[W.heap.size + 1]? = some (.cells #[.int .i64 p1, x] 31 (0, 0))) (hp1 : p1 = (pos s.data.toList k).1) (hbw : Below W.heap.size W wr) :
    PosRel W s.data.toList n (.int .i64 ((k : Int) + 1)) (((wr.setCell ⟨W.heap.size + 1, 0, none⟩ (.int .i64 (p1 + 1))).setCell ⟨W.heap.size + 1, 1, none⟩ (.int .i64 0)).setCell ⟨W.heap.size + 1, 1, none⟩ (.int .i64 1)) := by
  refine ⟨k + 1, hk, by simp, ?_, ?_, ((hbw.setCell (by simp) _).setCell (by simp) _).setCell (by simp) _⟩
  · rw [Below.heap_setCell _ _ _ _ (by simp), Below.heap_setCell _ _ _ _ (by simp), Below.heap_setCell _ _ _ _ (by simp), hr]
  · rw [block_setCell' (block_setCell' (block_setCell' hb _ _) _ _), pos_next (byte_at' s k hlt), if_pos hten, hp1]; rfl
theorem pos_col {W wr : World} {s : ByteArray} {k n : Nat} {p1 p2 : Int} (hk : k < n) (hlt : k < s.size) (hten : ¬ s[k].toNat = 10)
    (hr : wr.heap[W.heap.size]? = some (.cells #[.int .i64 0, .int .i64 0] 31 (0, 0))) (hb : wr.heap[W.heap.size + 1]? = some (.cells #[.int .i64 p1, .int .i64 p2] 31 (0, 0))) (hp1 : p1 = (pos s.data.toList k).1) (hp2 : p2 = (pos s.data.toList k).2)
    (hbw : Below W.heap.size W wr) : PosRel W s.data.toList n (.int .i64 ((k : Int) + 1)) (wr.setCell ⟨W.heap.size + 1, 1, none⟩ (.int .i64 (p2 + 1))) := by
  refine ⟨k + 1, hk, by simp, ?_, ?_, hbw.setCell (by simp) _⟩
  · rw [Below.heap_setCell _ _ _ _ (by simp), hr]
  · rw [block_setCell' hb _ _, pos_next (byte_at' s k hlt), if_neg hten, hp1, hp2]; rfl

set_option maxHeartbeats 1000000 in
theorem rpos_any (s : ByteArray) (i : Nat) (w : World) (hs : s.size ≤ 9223372036854775806) (hi : i ≤ s.size) :
    Calls Tryd.prog 42 #[.string s, .int .i64 i] w fun e w' => e = .returned (.agg #[.int .i64 (pos s.data.toList i).1, .int .i64 (pos s.data.toList i).2]) ∧ Below w.heap.size w w' := by
  go_enter Tryd.func42, Tryd.ntmps42
  go_wp2_with fail
  go_loopw [6] (fun v wr => PosRel w s.data.toList i v wr) (fun v _ => i - (intOf v).toNat)
  case atStart => exact ⟨0, Nat.zero_le _, rfl, (heap_alloc_old _ _ (by simp)).trans (heap_alloc_new _ _), by rw [← World.size_alloc w (.cells #[.int .i64 0, .int .i64 0] 31)]; exact heap_alloc_new _ _, ((Below.refl _ _).alloc (Nat.le_refl _) _).alloc (by simp) _⟩
  case round =>
    obtain ⟨k, hk, rfl, hr, hb, hbw⟩ := hrel
    obtain ⟨b1, b2, b3, b4⟩ := pos_bd s.data.toList k
    have c0 := cell_of_block' hb (i := 0) rfl
    have c1 := cell_of_block' hb (i := 1) rfl
    have f0 := free_of_block' hb 0
    have f1 := free_of_block' hb 1
    have hsz := (Array.getElem?_eq_some_iff.1 hb).1
    by_cases hlt : k < i
    · have hlt2 : k < s.size := by omega
      have HN := Lib.hid (pos_next (byte_at' s k hlt2))
      obtain ⟨p1, hp1⟩ : ∃ p1, p1 = (pos s.data.toList k).1 := ⟨_, rfl⟩
      obtain ⟨p2, hp2⟩ : ∃ p2, p2 = (pos s.data.toList k).2 := ⟨_, rfl⟩
      rw [← hp1] at b1 b2 hb c0
      rw [← hp2] at b3 b4 hb c1
      have HP1 := Lib.hid hp1
      have HP2 := Lib.hid hp2
      have HB := Lib.hid hb
      have HR := Lib.hid hr
      have HW := Lib.hid hbw
      clear hp1 hp2 hb hr hbw
      by_cases hten : s[k].toNat = 10
      · have h10 : ((s[k].toNat : Int) == 10) = true := by simp; omega
        have HT := Lib.hid hten
        clear hten
        go_wp2_with fail
        go_roundw
        case rel => exact pos_line hlt hlt2 HT.out HR.out HB.out HP1.out HW.out
        case measure => simp [intOf]; omega
      · have h10 : ((s[k].toNat : Int) == 10) = false := by simp; omega
        have HT := Lib.hid hten
        clear hten
        go_wp2_with fail
        go_roundw
        case rel => exact pos_col hlt hlt2 HT.out HR.out HB.out HP1.out HP2.out HW.out
        case measure => simp [intOf]; omega
    · obtain rfl : k = i := by omega
      have g0 := cell_of_block' hr (i := 0) rfl
      have g1 := cell_of_block' hr (i := 1) rfl
      have k0 := free_of_block' hr 0
      have k1 := free_of_block' hr 1
      have hs2 := (Array.getElem?_eq_some_iff.1 hr).1
      have HR := Lib.hid hr
      clear hb hr
      go_wp2_with fail
      have q0 : ∀ u, (wr.setCell ⟨w.heap.size, 0, none⟩ u).cell? ⟨w.heap.size, 0, none⟩ = some u := fun u => cell_of_block' (block_setCell' HR.out 0 u) (i := 0) rfl
      have q1 : ∀ u v, ((wr.setCell ⟨w.heap.size, 0, none⟩ u).setCell ⟨w.heap.size, 1, none⟩ v).cell? ⟨w.heap.size, 1, none⟩ = some v := fun u v => cell_of_block' (block_setCell' (block_setCell' HR.out 0 u) 1 v) (i := 1) rfl
      refine bodyPost_ret (v := .agg #[.int .i64 (pos s.data.toList k).1, .int .i64 (pos s.data.toList k).2]) (by simp [results, Tryd.results42, go_sem, q0, q1]) rfl ⟨rfl, ?_⟩
      exact (hbw.setCell (by simp) _).setCell (by simp) _
end Go.Proofs.YtffdfajlfgeicaaDoor

namespace Go.Proofs.YtffdfajlfgeicaaDoor
open Go.RowKit ScanSpec Go.BigFrame
set_option maxRecDepth 100000

/-- What One answers of the token at a place. -/
def oneE (l : List UInt8) (i : Nat) : Int × Int × Int := if (one (l.drop i)).2.2 = 0 then ((one (l.drop i)).1, ((i + (one (l.drop i)).2.1 : Nat) : Int), 0) else (0, 0, (one (l.drop i)).2.2)

theorem oneE_err {l : List UInt8} {i : Nat} {x : Int} (h : one (l.drop i) = (0, 0, x)) (hx : x ≠ 0) : oneE l i = (0, 0, x) := by
  unfold oneE; rw [h, if_neg hx]
theorem oneE_ok {l : List UInt8} {i n : Nat} {x : Int} (h : one (l.drop i) = (x, n, 0)) : oneE l i = (x, ((i + n : Nat) : Int), 0) := by
  unfold oneE; rw [h, if_pos rfl]
theorem ret_one {l : List UInt8} {i : Nat} {a b c : Int} (h : oneE l i = (a, b, c)) : Ending.returned (.tuple #[.int .i64 a, .int .i64 b, .int .i64 c]) = .returned (.tuple #[.int .i64 (oneE l i).1, .int .i64 (oneE l i).2.1, .int .i64 (oneE l i).2.2]) := by rw [h]
theorem one_name {l : List UInt8} {i : Nat} (h : cls l i = 1) : one (l.drop i) = if 12 < run isWord (l.drop i) then (0, 0, 5) else (1, run isWord (l.drop i), 0) := by
  unfold one; rw [cls_drop, Nat.add_zero, if_pos h]
theorem one_num {l : List UInt8} {i : Nat} (h : cls l i = 2) : one (l.drop i) = if cls l (i + run isNum (l.drop i)) = 1 ∨ cls l (i + run isNum (l.drop i)) = 3 then (0, 0, 2) else if 9 < run isNum (l.drop i) then (0, 0, 5) else (2, run isNum (l.drop i), 0) := by
  unfold one; rw [cls_drop, Nat.add_zero, if_neg (by rw [h]; decide), if_pos h, cls_drop]
theorem one_mark {l : List UInt8} {i : Nat} (h1 : ¬ cls l i = 1) (h2 : ¬ cls l i = 2) : one (l.drop i) = if markLen (l.drop i) = 0 then (0, 0, 2) else (3, markLen (l.drop i), 0) := by
  unfold one; rw [cls_drop, Nat.add_zero, if_neg h1, if_neg h2]

theorem find_hit {α : Type} {p : α → Bool} : ∀ {l : List α} {j : Nat} {x : α}, l[j]? = some x → (∀ y ∈ l.take j, p y = false) → p x = true → l.find? p = some x
  | [], _, _, h, _, _ => by simp at h
  | a :: t, 0, x, h, _, hx => by
    simp at h; subst h; simp [hx]
  | a :: t, j + 1, x, h, hn, hx => by
    have ha : p a = false := hn a (by simp)
    rw [List.find?_cons, ha]
    exact find_hit (j := j) (by simpa using h) (fun y hy => hn y (by simp [hy])) hx
theorem mark_hit {d : List UInt8} {j : Nat} {m : List UInt8} (h : marks[j]? = some m) (hn : ∀ y ∈ marks.take j, y.isPrefixOf d = false) (hm : m.isPrefixOf d = true) : markLen d = m.length := by
  unfold markLen; rw [find_hit (p := fun m => m.isPrefixOf d) h hn hm]
theorem mark_none {d : List UInt8} (h : ∀ y ∈ marks, y.isPrefixOf d = false) : markLen d = 0 := by
  unfold markLen
  rw [List.find?_eq_none.2 (fun y hy => by rw [h y hy]; simp)]
theorem marks_len : ∀ y ∈ marks, 1 ≤ y.length ∧ y.length ≤ 2 := by decide
theorem marks_map : marksS.map (·.data.toList) = marks := by decide
theorem marks_get {j : Nat} {m : ByteArray} (h : marksS[j]? = some m) : marks[j]? = some m.data.toList := by
  rw [← marks_map, List.getElem?_map, h]; rfl
theorem marks_size {j : Nat} {m : ByteArray} (h : marksS[j]? = some m) : 1 ≤ m.size ∧ m.size ≤ 2 := marks_len _ (List.mem_of_getElem? (marks_get h))

theorem prefix_iff (s : ByteArray) (i : Nat) (m : ByteArray) : (m.data.toList.isPrefixOf (s.data.toList.drop i) = true) ↔ (i + m.size ≤ s.size ∨ m.size = 0) ∧ (s.extract i (i + m.size)) = m := by
  rw [List.isPrefixOf_iff_prefix]
  have e : (s.extract i (i + m.size)).data.toList = (s.data.toList.drop i).take m.size := by
    rw [ByteArray.data_extract, Array.toList_extract, List.extract_eq_take_drop]
    congr 1; omega
  constructor
  · intro h
    have hl := h.length_le
    rw [List.length_drop, size_list', size_list'] at hl
    refine ⟨by omega, ByteArray.ext (Array.toList_inj.mp ?_)⟩
    rw [e, ← size_list' m, ← List.prefix_iff_eq_take.1 h]
  · rintro ⟨_, h⟩
    rw [List.prefix_iff_eq_take, size_list' m, ← e, h]

theorem rmarks_any (w : World) : Calls Tryd.prog 66 #[] w fun e w' => ∃ v, e = .returned v ∧ Rd w' v (strV marksS) ∧ Below w.heap.size w w' := by
  go_enter Tryd.func66, Tryd.ntmps66
  go_wp2
  go_ret
  exact ⟨_, rfl, Rd.lit (cs := (strV marksS).toArray) rfl, (Below.refl _ _).alloc (Nat.le_refl _) _⟩

def RunRel (s : ByteArray) (p : UInt8 → Bool) (i E : Nat) (v : Value) : Prop := ∃ k : Nat, i ≤ k ∧ k ≤ s.size ∧ v = .int .i64 k ∧ k + run p (s.data.toList.drop k) = E
def OnePost (s : ByteArray) (i : Nat) (w : World) (e : Ending) (w' : World) : Prop :=
  e = .returned (.tuple #[.int .i64 (oneE s.data.toList i).1, .int .i64 (oneE s.data.toList i).2.1, .int .i64 (oneE s.data.toList i).2.2]) ∧ Below w.heap.size w w'

set_option maxHeartbeats 2000000 in
theorem rone_name (s : ByteArray) (i : Nat) (w : World) (hs : s.size ≤ 9223372036854775807) (hi : i ≤ s.size) (h1 : cls s.data.toList i = 1) : Calls Tryd.prog 41 #[.string s, .int .i64 i] w (OnePost s i w) := by
  have HO := Lib.hid (one_name h1)
  have HC := Lib.hid (fun w => class_is h1 hs (show i ≤ 9223372036854775807 by omega) w)
  obtain ⟨E, hE⟩ : ∃ E, E = i + run isWord (s.data.toList.drop i) := ⟨_, rfl⟩
  have HE := Lib.hid hE
  clear h1 hE
  go_enter Tryd.func41, Tryd.ntmps41
  go_wp2_with (go_at_call 65; (with_reducible refine (HC.out _).mono ?_); rintro e w' ⟨rfl, rfl⟩)
  go_loop [7] (fun v => RunRel s isWord i E v) (fun v => s.size - (intOf v).toNat)
  case atStart => exact ⟨i, Nat.le_refl _, hi, rfl, HE.out.symm⟩
  case round =>
    obtain ⟨k, hik, hk, rfl, hrun⟩ := hrel
    have HR := Lib.hid hrun
    clear hrun
    obtain ⟨g, hg⟩ : ∃ g, g = cls s.data.toList k := ⟨_, rfl⟩
    have HG := Lib.hid (fun w => class_is hg.symm hs (show k ≤ 9223372036854775807 by omega) w)
    have HGl := Lib.hid hg
    clear hg
    by_cases hgo : 1 ≤ g ∧ g ≤ 3
    · obtain ⟨g1, g3⟩ := hgo
      have HN : Hid (RunRel s isWord i E (.int .i64 ((k : Int) + 1)) ∧ k < s.size) := Lib.hid (by
        obtain ⟨c, hc, hw⟩ := isWord_cls (show 1 ≤ cls s.data.toList k by rw [← HGl.out]; exact g1) (by rw [← HGl.out]; exact g3)
        have hlt := get_lt hc
        rw [size_list'] at hlt
        exact ⟨⟨k + 1, by omega, by omega, by simp, (run_next hc hw).trans HR.out⟩, hlt⟩)
      have hkl := HN.out.2
      go_wp2_with (go_at_call 65; (with_reducible refine (HG.out _).mono ?_); rintro e w' ⟨rfl, rfl⟩)
      go_round
      case rel => exact HN.out.1
      case measure => have := HN.out.2; simp [intOf]; omega
    · have hkE : Hid (k = E) := Lib.hid (by
        have := run_stop (isWord_no (l := s.data.toList) (i := k) (by rw [← HGl.out]; exact hgo))
        have := HR.out
        omega)
      by_cases hb : 12 < (k : Int) - (i : Int)
      · have HV : Hid (oneE s.data.toList i = (0, 0, 5)) := Lib.hid (oneE_err (HO.out.trans (if_pos (by have := hkE.out; have := HE.out; omega))) (by decide))
        by_cases g1 : 1 ≤ g
        all_goals
          (first | (have g3 : 3 < g := by omega) | skip)
          clear hgo
          go_wp2_with (go_at_call 65; (with_reducible refine (HG.out _).mono ?_); rintro e w' ⟨rfl, rfl⟩)
          go_ret3
          exact ⟨ret_one HV.out, Below.refl _ _⟩
      · have HV : Hid (oneE s.data.toList i = (1, (k : Int), 0)) := Lib.hid (by
          have := hkE.out; have := HE.out
          rw [oneE_ok (HO.out.trans (if_neg (by omega))), show i + run isWord (s.data.toList.drop i) = k by omega])
        by_cases g1 : 1 ≤ g
        all_goals
          (first | (have g3 : 3 < g := by omega) | skip)
          clear hgo
          go_wp2_with (go_at_call 65; (with_reducible refine (HG.out _).mono ?_); rintro e w' ⟨rfl, rfl⟩)
          go_ret3
          exact ⟨ret_one HV.out, Below.refl _ _⟩

set_option maxHeartbeats 2000000 in
theorem rone_num (s : ByteArray) (i : Nat) (w : World) (hs : s.size ≤ 9223372036854775807) (hi : i ≤ s.size) (h1 : cls s.data.toList i = 2) : Calls Tryd.prog 41 #[.string s, .int .i64 i] w (OnePost s i w) := by
  have HO := Lib.hid (one_num h1)
  have HC := Lib.hid (fun w => class_is h1 hs (show i ≤ 9223372036854775807 by omega) w)
  obtain ⟨E, hE⟩ : ∃ E, E = i + run isNum (s.data.toList.drop i) := ⟨_, rfl⟩
  have HE := Lib.hid hE
  clear h1 hE
  go_enter Tryd.func41, Tryd.ntmps41
  go_wp2_with (go_at_call 65; (with_reducible refine (HC.out _).mono ?_); rintro e w' ⟨rfl, rfl⟩)
  go_loop [7] (fun v => RunRel s isNum i E v) (fun v => s.size - (intOf v).toNat)
  case atStart => exact ⟨i, Nat.le_refl _, hi, rfl, HE.out.symm⟩
  case round =>
    obtain ⟨k, hik, hk, rfl, hrun⟩ := hrel
    have HR := Lib.hid hrun
    clear hrun
    obtain ⟨g, hg⟩ : ∃ g, g = cls s.data.toList k := ⟨_, rfl⟩
    have HG := Lib.hid (fun w => class_is hg.symm hs (show k ≤ 9223372036854775807 by omega) w)
    have HGl := Lib.hid hg
    clear hg
    by_cases hgo : g = 2
    · have HN : Hid (RunRel s isNum i E (.int .i64 ((k : Int) + 1)) ∧ k < s.size) := Lib.hid (by
        obtain ⟨c, hc, hw⟩ := isNum_cls (show cls s.data.toList k = 2 by rw [← HGl.out]; exact hgo)
        have hlt := get_lt hc
        rw [size_list'] at hlt
        exact ⟨⟨k + 1, by omega, by omega, by simp, (run_next hc hw).trans HR.out⟩, hlt⟩)
      have hkl := HN.out.2
      subst hgo
      go_wp2_with (go_at_call 65; (with_reducible refine (HG.out _).mono ?_); rintro e w' ⟨rfl, rfl⟩)
      go_round
      case rel => exact HN.out.1
      case measure => simp [intOf]; omega
    · have hkE : Hid (k = E) := Lib.hid (by
        have := run_stop (isNum_no (l := s.data.toList) (i := k) (by rw [← HGl.out]; exact hgo))
        have := HR.out
        omega)
      have HK : Hid (i + run isNum (s.data.toList.drop i) = k) := Lib.hid (by have := hkE.out; have := HE.out; omega)
      have e2 : (g == 2) = false := by simpa using hgo
      clear hgo
      by_cases hw : g = 1 ∨ g = 3
      · have HV : Hid (oneE s.data.toList i = (0, 0, 2)) := Lib.hid (oneE_err (HO.out.trans (if_pos (by rw [HK.out, ← HGl.out]; exact hw))) (by decide))
        rcases hw with rfl | rfl
        all_goals
          go_wp2_with (go_at_call 65; (with_reducible refine (HG.out _).mono ?_); rintro e w' ⟨rfl, rfl⟩)
          go_ret3
          exact ⟨ret_one HV.out, Below.refl _ _⟩
      · have e1 : (g == 1) = false := by simp; omega
        have e3 : (g == 3) = false := by simp; omega
        by_cases hb : 9 < (k : Int) - (i : Int)
        · have HV : Hid (oneE s.data.toList i = (0, 0, 5)) := Lib.hid (oneE_err (HO.out.trans ((if_neg (by rw [HK.out, ← HGl.out]; exact hw)).trans (if_pos (by have := HK.out; omega)))) (by decide))
          clear hw
          go_wp2_with (go_at_call 65; (with_reducible refine (HG.out _).mono ?_); rintro e w' ⟨rfl, rfl⟩)
          go_ret3
          exact ⟨ret_one HV.out, Below.refl _ _⟩
        · have HV : Hid (oneE s.data.toList i = (2, (k : Int), 0)) := Lib.hid (by
            rw [oneE_ok (HO.out.trans ((if_neg (by rw [HK.out, ← HGl.out]; exact hw)).trans (if_neg (by have := HK.out; omega)))), HK.out])
          clear hw
          go_wp2_with (go_at_call 65; (with_reducible refine (HG.out _).mono ?_); rintro e w' ⟨rfl, rfl⟩)
          go_ret3
          exact ⟨ret_one HV.out, Below.refl _ _⟩

def MarkRel (W : World) (d : List UInt8) (v : Value) (w : World) : Prop := ∃ j : Nat, j ≤ 22 ∧ v = .int .i64 j ∧ (∀ y ∈ marks.take j, y.isPrefixOf d = false) ∧ Below W.heap.size W w
set_option maxHeartbeats 2000000 in
theorem rone_mark (s : ByteArray) (i : Nat) (w : World) (hs : s.size ≤ 9223372036854775800) (hi : i ≤ s.size) (h1 : ¬ cls s.data.toList i = 1) (h2 : ¬ cls s.data.toList i = 2) : Calls Tryd.prog 41 #[.string s, .int .i64 i] w (OnePost s i w) := by
  have HO := Lib.hid (one_mark h1 h2)
  obtain ⟨g, hg⟩ : ∃ g, g = cls s.data.toList i := ⟨_, rfl⟩
  have HC := Lib.hid (fun w => class_is hg.symm (show s.size ≤ 9223372036854775807 by omega) (show i ≤ 9223372036854775807 by omega) w)
  have e1 : (g == 1) = false := by rw [hg]; simpa using h1
  have e2 : (g == 2) = false := by rw [hg]; simpa using h2
  clear hg h1 h2
  go_enter Tryd.func41, Tryd.ntmps41
  go_wp2_with (first
    | (go_at_call 65; (with_reducible refine (HC.out _).mono ?_); rintro e w' ⟨rfl, rfl⟩)
    | (go_at_call 66; refine (rmarks_any _).mono ?_))
  rintro e w1 ⟨v, rfl, hrd, hb1⟩
  obtain ⟨A, n, c, rfl, hn, hc, hA⟩ := hrd.strs
  have hn22 : n = 22 := by rw [← hn]; decide
  subst hn22
  obtain ⟨b, off, rfl, hbl, hcell⟩ := hA (by omega)
  have HCell := Lib.hid hcell
  clear hrd hn hA hcell
  go_wp2_with fail
  go_loopw [9] (fun v wr => MarkRel w1 (s.data.toList.drop i) v wr) (fun v _ => 22 - (intOf v).toNat)
  case atStart => exact ⟨0, Nat.zero_le _, rfl, by simp, Below.refl _ _⟩
  case round =>
    obtain ⟨j, hj, rfl, hno, hbw⟩ := hrel
    by_cases hlt : j < 22
    · obtain ⟨m, hm⟩ : ∃ m, marksS[j]? = some m := get_some (by exact hlt)
      have hck : wr.cell? ⟨b, off + j, none⟩ = some (.string m) := (hbw.cell (by exact hbl)).trans (HCell.out j m hm)
      obtain ⟨m1, m2⟩ := marks_size hm
      have hltI : (j : Int) < 22 := by omega
      have hpf := prefix_iff s i m
      have HM := Lib.hid (marks_get hm)
      have HNo := Lib.hid hno
      have HB := Lib.hid hbw
      clear hm hno hbw
      have hs2 : s.size ≤ 9223372036854775807 := by omega
      by_cases hfit : i + m.size ≤ s.size
      · have hfI : (i : Int) + (m.size : Int) ≤ (s.size : Int) := by omega
        have hiz : (i : Int) ≤ (i : Int) + (m.size : Int) := by omega
        rcases hx : ((s.extract i (i + m.size)).toList == m.toList) with _ | _
        · have HN : Hid (MarkRel w1 (s.data.toList.drop i) (.int .i64 ((j : Int) + 1)) wr) := Lib.hid ⟨j + 1, hlt, by simp, fun y hy => by
            rw [take_next HM.out, List.mem_append, List.mem_singleton] at hy
            rcases hy with hy | hy
            · exact HNo.out y hy
            · rw [hy, ← Bool.not_eq_true]
              intro h
              exact bytes_ne hx (hpf.1 h).2, HB.out⟩
          have HN2 : Hid (∀ q, MarkRel w1 (s.data.toList.drop i) (.int .i64 ((j : Int) + 1)) (wr.drewN q)) := Lib.hid (fun q => by
            obtain ⟨a, b, c, d, e⟩ := HN.out
            exact ⟨a, b, c, d, below_drewN e q⟩)
          have hw1 : IntKind.i64.wrap ((i : Int) + (m.size : Int)) = (i : Int) + (m.size : Int) := IntWalk.i64_in _ (by omega)
          have hw2 : 0 ≤ (i : Int) + (m.size : Int) := by omega
          have hw3 : ((i : Int) + (m.size : Int)).toNat = i + m.size := by omega
          clear hpf
          go_wp2_with fail
          go_big_quiet (fail)
          clear hw1 hw2 hw3
          go_wp2_with fail
          go_roundw
          case rel => exact HN2.out _
          case measure => simp [intOf]; omega
        · have hpre : m.data.toList.isPrefixOf (s.data.toList.drop i) = true := hpf.2 ⟨.inl hfit, bytes_eq hx⟩
          have HV : Hid (oneE s.data.toList i = (3, (i : Int) + (m.size : Int), 0)) := Lib.hid (by
            have hml := mark_hit HM.out HNo.out hpre
            have hml' : markLen (s.data.toList.drop i) = m.size := hml
            rw [oneE_ok (HO.out.trans (if_neg (by rw [hml']; omega))), hml']; simp)
          have hw1 : IntKind.i64.wrap ((i : Int) + (m.size : Int)) = (i : Int) + (m.size : Int) := IntWalk.i64_in _ (by omega)
          have hw2 : 0 ≤ (i : Int) + (m.size : Int) := by omega
          have hw3 : ((i : Int) + (m.size : Int)).toNat = i + m.size := by omega
          clear hpf hpre
          go_wp2_with fail
          go_big_quiet (fail)
          clear hw1 hw2 hw3
          go_wp2_with fail
          go_ret3
          exact ⟨ret_one HV.out, below_two' hb1 (below_drewN HB.out _)⟩
      · have HN : Hid (MarkRel w1 (s.data.toList.drop i) (.int .i64 ((j : Int) + 1)) wr) := Lib.hid ⟨j + 1, hlt, by simp, fun y hy => by
          rw [take_next HM.out, List.mem_append, List.mem_singleton] at hy
          rcases hy with hy | hy
          · exact HNo.out y hy
          · rw [hy, ← Bool.not_eq_true]
            intro h
            rcases (hpf.1 h).1 with h' | h'
            · exact hfit h'
            · omega, HB.out⟩
        have HN2 : Hid (∀ q, MarkRel w1 (s.data.toList.drop i) (.int .i64 ((j : Int) + 1)) (wr.drewN q)) := Lib.hid (fun q => by
          obtain ⟨a, b, c, d, e⟩ := HN.out
          exact ⟨a, b, c, d, below_drewN e q⟩)
        have hd : decide ((i : Int) + (m.size : Int) ≤ (s.size : Int)) = false := decide_eq_false (by omega)
        have hw1 : IntKind.i64.wrap ((i : Int) + (m.size : Int)) = (i : Int) + (m.size : Int) := IntWalk.i64_in _ (by omega)
        clear hpf hfit
        go_wp2_with fail
        go_big_quiet (fail)
        clear hw1
        go_wp2_with fail
        go_roundw
        case rel => exact HN2.out _
        case measure => simp [intOf]; omega
    · have HV : Hid (oneE s.data.toList i = (0, 0, 2)) := Lib.hid (oneE_err (HO.out.trans (if_pos (mark_none (by
        have : j = 22 := by omega
        rw [this, List.take_of_length_le (by decide)] at hno; exact hno)))) (by decide))
      clear hno
      go_wp2_with fail
      go_ret3
      exact ⟨ret_one HV.out, below_two' hb1 hbw⟩

theorem rone_any (s : ByteArray) (i : Nat) (w : World) (hs : s.size ≤ 9223372036854775800) (hi : i ≤ s.size) : Calls Tryd.prog 41 #[.string s, .int .i64 i] w (OnePost s i w) := by
  by_cases h1 : cls s.data.toList i = 1
  · exact rone_name s i w (by omega) hi h1
  · by_cases h2 : cls s.data.toList i = 2
    · exact rone_num s i w (by omega) hi h2
    · exact rone_mark s i w hs hi h1 h2
end Go.Proofs.YtffdfajlfgeicaaDoor

namespace Go.Proofs.YtffdfajlfgeicaaDoor
open Go.RowKit ScanSpec
set_option maxRecDepth 100000

theorem info_tok : (Tryd.prog.info? 33).map (fun i => (i.zero, i.size, i.bytes)) = some (some (.agg #[.int .i64 0, .string ByteArray.empty, .int .i64 0, .int .i64 0]), 4, 40) := by kernel_rfl

/-- A token's cells. -/
def tokV (s : ByteArray) (t : Tok) : List Value := [.int .i64 t.kind, .string (s.extract t.at_ (t.at_ + t.len)), .int .i64 (pos s.data.toList t.at_).1, .int .i64 (pos s.data.toList t.at_).2]
def toksV (s : ByteArray) (l : List Tok) : List Value := l.flatMap (tokV s)
theorem tokV_length (s : ByteArray) (t : Tok) : (tokV s t).length = 4 := rfl
/-- A token's cells, by its two ends. -/
def tokC (s : ByteArray) (kd : Int) (i k : Nat) : List Value := [.int .i64 kd, .string (s.extract i k), .int .i64 (pos s.data.toList i).1, .int .i64 (pos s.data.toList i).2]
theorem tokC_one (s : ByteArray) (kd : Int) (i k : Nat) : ∀ u ∈ tokC s kd i k, u.oneCell' = true := by simp [tokC, Value.oneCell']
theorem tokC_eq {s : ByteArray} {kd : Int} {i ln k : Nat} (h : k = i + ln) : tokC s kd i k = tokV s ⟨kd, i, ln⟩ := by subst h; rfl
theorem toksV_length (s : ByteArray) (l : List Tok) : (toksV s l).length = l.length * 4 := flat_length (tokV_length s) l
theorem toksV_snoc (s : ByteArray) (l : List Tok) (t : Tok) : toksV s l ++ tokV s t = toksV s (l ++ [t]) := by simp [toksV]
theorem tokV_one (s : ByteArray) (t : Tok) : ∀ u ∈ tokV s t, u.oneCell' = true := by simp [tokV, Value.oneCell']

/-- All tokens of a text, or where its first fault is, and which. -/
def scanT (l : List UInt8) : List Tok × Nat × Int := if 65536 < l.length then ([], 0, 5) else scan l

theorem one_bd (d : List UInt8) (hd : 0 < d.length) : ((one d).2.2 = 0 → 1 ≤ (one d).2.1 ∧ (one d).2.1 ≤ d.length) ∧ ((one d).2.2 = 0 ∨ (one d).2.2 = 2 ∨ (one d).2.2 = 5) ∧ (0 ≤ (one d).1 ∧ (one d).1 ≤ 3) := by
  obtain ⟨c, hc⟩ : ∃ c, d[0]? = some c := get_some hd
  have hd0 : d.drop 0 = d := rfl
  have hml : markLen d ≤ d.length := by
    unfold markLen
    cases hf : marks.find? fun m => m.isPrefixOf d with
    | none => simp
    | some m =>
      have := List.find?_some hf
      rw [List.isPrefixOf_iff_prefix] at this
      exact this.length_le
  unfold one
  split
  · rename_i h1
    have hp : 0 < run isWord d := by
      have := run_pos (p := isWord) (l := d) (i := 0) hc (by rw [cls_some hc] at h1; simp [isWord, h1])
      rwa [hd0] at this
    have := run_le isWord d
    split <;> simp <;> omega
  · split
    · rename_i h1 h2
      have hp : 0 < run isNum d := by
        have := run_pos (p := isNum) (l := d) (i := 0) hc (by rw [cls_some hc] at h2; simp [isNum, h2])
        rwa [hd0] at this
      have := run_le isNum d
      split
      · simp
      · split <;> simp <;> omega
    · split <;> simp <;> omega

theorem scanGo_end {l : List UInt8} {f i : Nat} {acc : List Tok} (h : l.length ≤ i) : scanGo l f i acc = (acc ++ [⟨0, i, 0⟩], 0, 0) := by
  cases f with
  | zero => rfl
  | succ f => rw [scanGo, if_pos h]
theorem scanGo_err {l : List UInt8} {f i : Nat} {acc : List Tok} (h : i < l.length) (he : (one (l.drop i)).2.2 ≠ 0) : scanGo l (f + 1) i acc = ([], i, (one (l.drop i)).2.2) := by
  rw [scanGo, if_neg (by omega)]
  simp only [if_pos he]
theorem scanGo_full {l : List UInt8} {f i : Nat} {acc : List Tok} (h : i < l.length) (he : (one (l.drop i)).2.2 = 0) (hf : acc.length = 4000) : scanGo l (f + 1) i acc = ([], i, 8) := by
  rw [scanGo, if_neg (by omega)]
  simp [he, hf]
theorem scanGo_next {l : List UInt8} {f i : Nat} {acc : List Tok} (h : i < l.length) (he : (one (l.drop i)).2.2 = 0) (hf : acc.length ≠ 4000) :
    scanGo l (f + 1) i acc = scanGo l f (gap l (i + (one (l.drop i)).2.1)) (acc ++ [⟨(one (l.drop i)).1, i, (one (l.drop i)).2.1⟩]) := by
  rw [scanGo, if_neg (by omega)]
  simp [he, hf]

/-- What Tokens leaves. -/
def TokPost (W : World) (s : ByteArray) (e : Ending) (w' : World) : Prop :=
  Below W.heap.size W w' ∧
  ((scanT s.data.toList).2.2 ≠ 0 → e = .returned (.tuple #[.slice none 0 0, .agg #[.int .i64 (pos s.data.toList (scanT s.data.toList).2.1).1, .int .i64 (pos s.data.toList (scanT s.data.toList).2.1).2], .int .i64 (scanT s.data.toList).2.2])) ∧
  ((scanT s.data.toList).2.2 = 0 → ∃ v, e = .returned (.tuple #[v, .agg #[.int .i64 0, .int .i64 0], .int .i64 0]) ∧ Rdk 4 w' v (scanT s.data.toList).1.length (toksV s (scanT s.data.toList).1))

theorem one_ok {s : ByteArray} {i ln k2 : Nat} {kd : Int} (h : one (s.data.toList.drop i) = (kd, ln, 0)) (hk : k2 = i + ln) (hs : s.size ≤ 9223372036854775800) (hi : i ≤ s.size) (w : World) :
    Calls Tryd.prog 41 #[.string s, .int .i64 i] w fun e w' => e = .returned (.tuple #[.int .i64 kd, .int .i64 (k2 : Int), .int .i64 0]) ∧ Below w.heap.size w w' := by
  subst hk
  refine (rone_any s i w hs hi).mono fun e w' ⟨he, hb⟩ => ⟨?_, hb⟩
  rw [he, oneE_ok h]
theorem one_bad {s : ByteArray} {i : Nat} {er : Int} (h : (one (s.data.toList.drop i)).2.2 = er) (hne : er ≠ 0) (hs : s.size ≤ 9223372036854775800) (hi : i ≤ s.size) (w : World) :
    Calls Tryd.prog 41 #[.string s, .int .i64 i] w fun e w' => e = .returned (.tuple #[.int .i64 0, .int .i64 0, .int .i64 er]) ∧ Below w.heap.size w w' := by
  refine (rone_any s i w hs hi).mono fun e w' ⟨he, hb⟩ => ⟨?_, hb⟩
  rw [he]
  unfold oneE
  rw [if_neg (by rw [h]; exact hne), h]
theorem tok_bad {W w' : World} {s : ByteArray} {i : Nat} {er : Int} (hb : Below W.heap.size W w') (h : scanT s.data.toList = ([], i, er)) (hne : er ≠ 0) :
    TokPost W s (.returned (.tuple #[.slice none 0 0, .agg #[.int .i64 (pos s.data.toList i).1, .int .i64 (pos s.data.toList i).2], .int .i64 er])) w' :=
  ⟨hb, fun _ => by rw [h], fun h' => by rw [h] at h'; exact absurd h' hne⟩

def TokRel (W : World) (s : ByteArray) (ov iv : Value) (wr : World) : Prop :=
  ∃ (i f g cap n : Nat) (acc : List Tok), iv = .int .i64 i ∧ i ≤ s.size ∧ ov = .slice (some ⟨g, 0, none⟩) n cap ∧ acc.length = n ∧ wr.ownsRow (W.heap.size + 1) 33 4 (.slice (some ⟨g, 0, none⟩) n cap) n (toksV s acc) ∧
    scanGo s.data.toList f i acc = scan s.data.toList ∧ s.size ≤ i + f ∧ n ≤ 4000 ∧ wr.heap[W.heap.size]? = some (.cells #[.int .i64 0, .int .i64 0] 31 (0, 0)) ∧ Below W.heap.size W wr ∧ W.heap.size + 1 ≤ wr.heap.size

theorem tok_start {w : World} {s : ByteArray} (h : gap s.data.toList 0 ≤ s.data.toList.length) : TokRel w s (.slice (some ⟨w.heap.size + 1, 0, none⟩) 0 0) (.int .i64 (gap s.data.toList 0))
    ((w.alloc (.cells #[.int .i64 0, .int .i64 0] 31)).alloc (.cells #[] 33)) := by
  have e := World.size_alloc w (.cells #[.int .i64 0, .int .i64 0] 31)
  have ho := World.ownsRow_lit (base := w.heap.size + 1) (e := 33) (size := 4) (w.alloc (.cells #[.int .i64 0, .int .i64 0] 31)) #[] 0 (by rw [e]; exact Nat.le_refl _) (Nat.zero_le _) rfl
  rw [e] at ho
  refine ⟨gap s.data.toList 0, s.data.toList.length, w.heap.size + 1, 0, 0, [], rfl, h, rfl, rfl, ho, rfl, by rw [size_list']; omega, by omega, (heap_alloc_old _ _ (by simp)).trans (heap_alloc_new _ _), ((Below.refl _ _).alloc (Nat.le_refl _) _).alloc (by simp) _, by simp⟩

theorem tok_next {W w2 w3 w4 : World} {s : ByteArray} {i ln k2 f n g cap gg cap4 : Nat} {kd : Int} {acc : List Tok} {o : Obj} (_hS : scanT s.data.toList = scan s.data.toList) (hO : one (s.data.toList.drop i) = (kd, ln, 0)) (hK : k2 = i + ln) (hN : acc.length = n)
    (hGo : scanGo s.data.toList (f + 1) i acc = scan s.data.toList) (_hi : i ≤ s.size) (hlt : i < s.size) (hf : s.size ≤ i + (f + 1)) (h4 : n ≤ 4000) (hfull : ¬ n = 4000) (gb1 : k2 ≤ gap s.data.toList k2) (gb2 : gap s.data.toList k2 ≤ s.size) (hlnb : i < k2)
    (hr2 : w2.heap[W.heap.size]? = some (.cells #[.int .i64 0, .int .i64 0] 31 (0, 0))) (hb2 : Below W.heap.size W w2) (hsz : W.heap.size + 1 ≤ w2.heap.size) (hb3 : Below w2.heap.size w2 w3)
    (hown3 : w3.ownsRow (W.heap.size + 1) 33 4 (.slice (some ⟨g, 0, none⟩) n cap) n (toksV s acc)) (hg4 : (w3.alloc o).grownBy w4 (some g))
    (hown4 : w4.ownsRow (W.heap.size + 1) 33 4 (.slice (some ⟨gg, 0, none⟩) (n + 1) cap4) (n + 1) (toksV s acc ++ tokC s kd i k2)) :
    TokRel W s (.slice (some ⟨gg, 0, none⟩) (n + 1) cap4) (.int .i64 (gap s.data.toList k2)) w4 := by
  have hg := (hown3.lt g rfl).1
  have h3 : Below W.heap.size W w3 := hb2.trans (hb3.mono (by omega))
  have hs3 := hb3.size
  have hs4 := hg4.size
  rw [World.size_alloc] at hs4
  refine ⟨gap s.data.toList k2, f, gg, cap4, n + 1, acc ++ [⟨kd, i, ln⟩], rfl, gb2, rfl, by simp [hN], ?_, ?_, by omega, by omega, ?_, (h3.alloc h3.size o).grown hg4 (by simp; omega) (fun k hk => by cases hk; omega), by omega⟩
  · rw [← toksV_snoc, ← tokC_eq hK]; exact hown4
  · rw [← hGo, scanGo_next (by rw [size_list']; exact hlt) (by rw [hO]) (by rw [hN]; exact hfull), hO, hK]
  · rw [hg4.block W.heap.size (by simp; omega) (by simp; omega), heap_alloc_old _ _ (by omega), hb3.block _ (by omega), hr2]

/-- The end's cells. -/
def endC (s : ByteArray) (i : Nat) : List Value := [.int .i64 0, .string ByteArray.empty, .int .i64 (pos s.data.toList i).1, .int .i64 (pos s.data.toList i).2]
theorem endC_one (s : ByteArray) (i : Nat) : ∀ u ∈ endC s i, u.oneCell' = true := by simp [endC, Value.oneCell']
theorem endC_eq (s : ByteArray) (i : Nat) : endC s i = tokV s ⟨0, i, 0⟩ := by
  have e : s.extract i (i + 0) = ByteArray.empty := by
    apply ByteArray.ext
    simp [ByteArray.data_extract]
  unfold endC tokV
  rw [e]
theorem tok_end {W w4 : World} {s : ByteArray} {i f n gg cap4 : Nat} {acc : List Tok} {u v : Value} (hS : scanT s.data.toList = scan s.data.toList) (hN : acc.length = n) (hGo : scanGo s.data.toList f i acc = scan s.data.toList) (hge : s.size ≤ i)
    (hown4 : w4.ownsRow (W.heap.size + 1) 33 4 (.slice (some ⟨gg, 0, none⟩) (n + 1) cap4) (n + 1) (toksV s acc ++ endC s i)) (hb4 : Below W.heap.size W w4) :
    TokPost W s (.returned (.tuple #[.slice (some ⟨gg, 0, none⟩) (n + 1) cap4, .agg #[.int .i64 0, .int .i64 0], .int .i64 0])) ((w4.setCell ⟨W.heap.size, 0, none⟩ u).setCell ⟨W.heap.size, 1, none⟩ v) := by
  have e : scanT s.data.toList = (acc ++ [⟨0, i, 0⟩], 0, 0) := by rw [hS, ← hGo, scanGo_end (by rw [size_list']; exact hge)]
  refine ⟨(hb4.setCell (Nat.le_refl _) _).setCell (Nat.le_refl _) _, fun h => by rw [e] at h; exact absurd rfl h, fun _ => ⟨_, rfl, ?_⟩⟩
  rw [e]
  have h5 : ((w4.setCell ⟨W.heap.size, 0, none⟩ u).setCell ⟨W.heap.size, 1, none⟩ v).ownsRow (W.heap.size + 1) 33 4 (.slice (some ⟨gg, 0, none⟩) (n + 1) cap4) (n + 1) (toksV s acc ++ endC s i) :=
    ownsRow_setCell_below (ownsRow_setCell_below hown4 (by simp) u) (by simp) v
  rw [endC_eq, toksV_snoc] at h5
  have hl : (acc ++ [(⟨0, i, 0⟩ : Tok)]).length = n + 1 := by simp [hN]
  rw [← hl] at h5
  have := Rdk.own h5
  rwa [hl] at this ⊢

theorem end_block {B : Nat} {w3 w4 : World} {o : Obj} {c : Obj} {g n cap : Nat} (h : w3.heap[B]? = some c) (hg : B + 1 ≤ g) (hgr : (w3.alloc o).grownBy w4 (Value.ownBlock (.slice (some ⟨g, 0, none⟩) n cap))) : w4.heap[B]? = some c := by
  have hlt := (Array.getElem?_eq_some_iff.1 h).1
  rw [hgr.block B (by simp; omega) (by simp [Value.ownBlock]; omega), heap_alloc_old _ _ hlt, h]

set_option maxHeartbeats 4000000 in
theorem rtoks_any (s : ByteArray) (w : World) (hs : s.size ≤ 9223372036854775800) : Calls Tryd.prog 22 #[.string s] w (TokPost w s) := by
  obtain ⟨i0, hi, hz0, hz1, hz2⟩ := info_parts info_tok
  by_cases hbig : 65536 < s.size
  · have HS : Hid (scanT s.data.toList = ([], 0, 5)) := Lib.hid (if_pos hbig)
    go_enter Tryd.func22, Tryd.ntmps22
    go_wp2_with fail
    refine bodyPost_ret (v := .tuple #[.slice none 0 0, .agg #[.int .i64 1, .int .i64 1], .int .i64 5]) (by simp [results, Tryd.results22, go_sem]) rfl ⟨?_, fun _ => by rw [HS.out]; rfl, fun h => by rw [HS.out] at h; exact absurd h (by decide)⟩
    exact (Below.refl _ _).alloc (Nat.le_refl _) _
  · have HS : Hid (scanT s.data.toList = scan s.data.toList) := Lib.hid (if_neg hbig)
    have HG := Lib.hid (gap_bd (l := s.data.toList) (i := 0) (Nat.zero_le _)).2
    have HGap := Lib.hid (fun w => rgap_any s 0 w (by omega) (Nat.zero_le _))
    go_enter Tryd.func22, Tryd.ntmps22
    go_wp2_with (go_at_call 40; refine (HGap.out _).mono ?_; rintro e w' ⟨rfl, rfl⟩)
    go_loopw [5, 6] (fun o i wr => TokRel w s o i wr) (fun _ i _ => s.size - (intOf i).toNat)
    case atStart => exact tok_start HG.out
    case round =>
      obtain ⟨i, f, g, cap, n, acc, rfl, hi', rfl, hn, hown, hgo, hf, h4, hr, hbw, hsz⟩ := hrel
      by_cases hlt : i < s.size
      · obtain ⟨o1, o2, o3⟩ := one_bd (s.data.toList.drop i) (by rw [List.length_drop, size_list']; omega)
        obtain ⟨f, rfl⟩ : ∃ f', f = f' + 1 := ⟨f - 1, by omega⟩
        have HOwn := Lib.hid hown
        have HPos := Lib.hid (fun w => rpos_any s i w (by omega) hi')
        have HGo := Lib.hid hgo
        have HN := Lib.hid hn
        obtain ⟨er, her⟩ : ∃ er, er = (one (s.data.toList.drop i)).2.2 := ⟨_, rfl⟩
        by_cases he0 : er = 0
        · subst he0
          obtain ⟨kd, hkd⟩ : ∃ kd, kd = (one (s.data.toList.drop i)).1 := ⟨_, rfl⟩
          obtain ⟨ln, hln⟩ : ∃ ln, ln = (one (s.data.toList.drop i)).2.1 := ⟨_, rfl⟩
          have hone : one (s.data.toList.drop i) = (kd, ln, 0) := by rw [hkd, hln, her]
          obtain ⟨k2, hk2⟩ : ∃ k2, k2 = i + ln := ⟨_, rfl⟩
          have HOne := Lib.hid (fun w => one_ok hone hk2 hs hi' w)
          have HK := Lib.hid hk2
          have hln1 : 1 ≤ ln := by rw [hln]; exact (o1 her.symm).1
          have hln2 : i + ln ≤ s.size := by
            have := (o1 her.symm).2
            rw [← hln, List.length_drop, size_list'] at this
            omega
          have hlnb : i < k2 := by omega
          have hlnc : k2 ≤ s.size := by omega
          have hI0 : (0 : Int) ≤ (i : Int) := by omega
          have hI1 : (i : Int) ≤ (k2 : Int) := by omega
          have hI2 : (k2 : Int) ≤ (s.size : Int) := by omega
          have HO := Lib.hid hone
          clear o1 o2 o3 hkd hln hone her hk2 hln1 hln2
          by_cases hfull : n = 4000
          · have e4 : ((n : Int) == 4000) = true := by simp; omega
            have HT : Hid (scanT s.data.toList = ([], i, 8)) := Lib.hid (by
              rw [HS.out, ← HGo.out, scanGo_full (by rw [size_list']; exact hlt) (by rw [HO.out]) (by rw [HN.out]; exact hfull)])
            clear hfull hown hgo hn
            go_wp2_with (go_at_call 41; refine (HOne.out _).mono ?_)
            rintro e w2 ⟨rfl, hb2'⟩
            have hb2 := hbw.trans (hb2'.mono hbw.size)
            have hr2 := (hb2'.block w.heap.size (by omega)).trans hr
            have hsz2 := hb2'.size
            clear hr hbw hb2'
            go_wp2_with (go_at_call 42; refine (HPos.out _).mono ?_)
            rintro e w3 ⟨rfl, hb3⟩
            have hr3 := (hb3.block w.heap.size (by omega)).trans hr2
            have k0 := cell_of_block' hr3 (i := 0) rfl
            have k1 := cell_of_block' hr3 (i := 1) rfl
            have f0 := free_of_block' hr3 0
            have f1 := free_of_block' hr3 1
            have hs3 := (Array.getElem?_eq_some_iff.1 hr3).1
            have HR3 := Lib.hid hr3
            have HB3 := Lib.hid (below_two' hb2 hb3)
            clear hr3 hr2 hb3 hb2
            go_wp2_with fail
            have q0 := fun u => (store_pair HR3.out u u).1
            have q1 := fun u v => (store_pair HR3.out u v).2
            refine bodyPost_ret (v := .tuple #[.slice none 0 0, .agg #[.int .i64 (pos s.data.toList i).1, .int .i64 (pos s.data.toList i).2], .int .i64 8]) (by simp [results, Tryd.results22, go_sem, q0, q1]) rfl ?_
            exact tok_bad ((HB3.out.setCell (Nat.le_refl _) _).setCell (Nat.le_refl _) _) HT.out (by first | decide | omega)
          · have e4 : ((n : Int) == 4000) = false := by simp; omega
            have HGap2 := Lib.hid (fun w => rgap_any s k2 w (by omega) hlnc)
            obtain ⟨gb1, gb2⟩ := gap_bd (l := s.data.toList) (i := k2) hlnc
            rw [size_list'] at gb2
            clear hgo hn
            go_wp2_with (go_at_call 41; refine (HOne.out _).mono ?_)
            rintro e w2 ⟨rfl, hb2'⟩
            have hb2 := hbw.trans (hb2'.mono hbw.size)
            have hr2 := (hb2'.block w.heap.size (by omega)).trans hr
            have hsz2 := hb2'.size
            have hown2 := own_keep hown hb2'
            clear hr hbw hb2' hown
            go_wp2_with fail
            go_region_held3 (fun w' => True) (trivial)
              ((first
                | (go_at_call 42; refine (HPos.out _).mono ?_; rintro e w3 ⟨rfl, hb3'⟩; have hb3 : Below w2.heap.size w2 w3 := ⟨hb3'.os, hb3'.tape, hb3'.output, hb3'.size, hb3'.block⟩; clear hb3'; have hown3 := own_keep hown2 hb3)
                | (refine step_append_lies _ (by rfl) _ _ _ (by rfl) (w.heap.size + 1) 33 i0 _ 4 40 Tryd.underlying29 hi hz0 hz1 hz2 rfl (by decide) _ n (toksV s acc) (by rfl) ((hown3.alloc _).drew)
                    ⟨w3.heap.size, 0, none⟩ 1 1 (tokC s kd i k2) (by rfl) (by rfl) (World.news_of_block (cs := (tokC s kd i k2).toArray) (t := 33) (fr := (0, 0)) (heap_alloc_new w3 _)) (tokC_one s _ _ _)
                    (by decide) (by unfold maxLen; omega) (by omega) (by have := hb3.size; simp; omega) (w3.heap.size + 1) (by simp) ?_; intro gg cap4 w4 hown4 hgrow4 hat4 hlt4)))
            have hg4 : (w3.alloc (.cells (tokC s kd i k2).toArray 33)).grownBy w4 (some g) := ⟨hgrow4.os, hgrow4.tape, hgrow4.output, hgrow4.size, hgrow4.block⟩
            have HEnd := Lib.hid (tok_next HS.out HO.out HK.out HN.out HGo.out hi' hlt hf h4 hfull gb1 gb2 hlnb hr2 hb2 (by omega) hb3 hown3 hg4 hown4)
            clear hgrow4 hg4 hown4 hown3 hb3 hr2 hb2 hown2
            go_wp2_with (go_at_call 40; refine (HGap2.out _).mono ?_; rintro e w' ⟨rfl, rfl⟩)
            go_roundw
            case rel => exact HEnd.out
            case measure => simp [intOf]; omega
        · have e1 : (er == 0) = false := by simpa using he0
          have e2 : (er != 0) = true := by simpa using he0
          have HOne := Lib.hid (fun w => one_bad her.symm he0 hs hi' w)
          have HT : Hid (scanT s.data.toList = ([], i, er)) := Lib.hid (by
            rw [HS.out, ← HGo.out, scanGo_err (by rw [size_list']; exact hlt) (by rw [← her]; exact he0), ← her])
          clear o1 o2 o3 hown hgo hn
          go_wp2_with (go_at_call 41; refine (HOne.out _).mono ?_)
          rintro e w2 ⟨rfl, hb2'⟩
          have hb2 := hbw.trans (hb2'.mono hbw.size)
          have hr2 := (hb2'.block w.heap.size (by omega)).trans hr
          have hsz2 := hb2'.size
          clear hr hbw hb2' her
          go_wp2_with (go_at_call 42; refine (HPos.out _).mono ?_)
          rintro e w3 ⟨rfl, hb3⟩
          have hr3 := (hb3.block w.heap.size (by omega)).trans hr2
          have k0 := cell_of_block' hr3 (i := 0) rfl
          have k1 := cell_of_block' hr3 (i := 1) rfl
          have f0 := free_of_block' hr3 0
          have f1 := free_of_block' hr3 1
          have hs3 := (Array.getElem?_eq_some_iff.1 hr3).1
          have HR3 := Lib.hid hr3
          have HB3 := Lib.hid (below_two' hb2 hb3)
          clear hr3 hr2 hb3 hb2
          go_wp2_with fail
          have q0 := fun u => (store_pair HR3.out u u).1
          have q1 := fun u v => (store_pair HR3.out u v).2
          refine bodyPost_ret (v := .tuple #[.slice none 0 0, .agg #[.int .i64 (pos s.data.toList i).1, .int .i64 (pos s.data.toList i).2], .int .i64 er]) (by simp [results, Tryd.results22, go_sem, q0, q1]) rfl ?_
          exact tok_bad ((HB3.out.setCell (Nat.le_refl _) _).setCell (Nat.le_refl _) _) HT.out (by first | decide | omega)
      · have HPos := Lib.hid (fun w => rpos_any s i w (by omega) hi')
        have HGo := Lib.hid hgo
        have HN := Lib.hid hn
        clear hgo hn
        go_wp2_with (go_at_call 42; refine (HPos.out _).mono ?_)
        rintro e w3 ⟨rfl, hb3⟩
        have hown3 := own_keep hown hb3
        have hr3 := (hb3.block w.heap.size (by omega)).trans hr
        have hB3 := hbw.trans (hb3.mono hbw.size)
        have hs3 := hb3.size
        have hgb := (hown3.lt g rfl).1
        have HR3 := Lib.hid hr3
        clear hown hb3 hr hbw hr3
        go_wp2_with (at_builtin; refine wpList_append_lies _ rfl (.tmp 56) (.tmp 61) _ rfl (w.heap.size + 1) 33 i0 _ 4 40 Tryd.underlying29 hi hz0 hz1 hz2 rfl (by decide) _ n (toksV s acc) rfl (hown3.alloc _) ⟨w3.heap.size, 0, none⟩ 1 1 (endC s i) rfl rfl (World.news_of_block (cs := (endC s i).toArray) (t := 33) (fr := (0, 0)) (heap_alloc_new w3 _)) (endC_one s _) (by decide) ?_ ?_ ?_ (w3.heap.size + 1) ?_ ?_; (unfold maxLen; omega); omega; (simp; omega); (simp); intro gg cap4 w4 hown4 hgrow4 hat4 hlt4; have hr4 := end_block HR3.out hgb hgrow4; have k0 := cell_of_block' hr4 (i := 0) rfl; have k1 := cell_of_block' hr4 (i := 1) rfl; have f0 := free_of_block' hr4 0; have f1 := free_of_block' hr4 1; have hs4 := (Array.getElem?_eq_some_iff.1 hr4).1; have HR4 := Lib.hid hr4; clear hr4)
        have q0 := fun u => (store_pair HR4.out u u).1
        have q1 := fun u v => (store_pair HR4.out u v).2
        refine bodyPost_ret (v := .tuple #[.slice (some ⟨gg, 0, none⟩) (n + 1) cap4, .agg #[.int .i64 0, .int .i64 0], .int .i64 0]) (by simp [results, Tryd.results22, go_sem, q0, q1]) rfl ?_
        exact tok_end HS.out HN.out HGo.out (by omega) hown4 ((hB3.alloc hB3.size _).grown hgrow4 (by have := hB3.size; simp; omega) (fun k hk => by cases hk; exact Nat.le_trans (Nat.le_succ _) hgb))
end Go.Proofs.YtffdfajlfgeicaaDoor
