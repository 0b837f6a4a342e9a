/- ScanProgSpec, ScanFirst, ScanMark, Laid, ScanLaid, ExprLaid, OpenN, OpenD, TermOpen, EvalOpen, ActOpen, joined. -/
import Derived.Test.YtcfcpbkeedfbpaaDoorMS12
import Derived.Lib.Bytealg
import Derived.Lib.Strings
import Derived.Test.YtcfcpbkeedfbpaaDoorShelf
import Derived.LaidLaws
import Derived.ChangeArms
import Derived.Lib.LaidTab
import Derived.OpenShut
import Derived.Test.YtcfcpbkeedfbpaaDoorMS00
import Derived.LaidMore
import Derived.Stop.Joined
import Derived.Test.YtcfcpbkeedfbpaaDoorMS10
import Derived.Stop.LaidErr
import Derived.ProofKit
import Derived.Deep.Slices
import Derived.Test.YtcfcpbkeedfbpaaDoorRows
import Derived.Lib.SmallJoins
import Derived.Test.YtcfcpbkeedfbpaaDoorMS01
import Derived.Test.YtcfcpbkeedfbpaaDoorMS03
namespace Go.Proofs.YtcfcpbkeedfbpaaDoor
open Go.RowKit ScanSpec

def lowB (n : Int) : Bool := decide (97 ≤ n) && decide (n ≤ 122)
def digB (n : Int) : Bool := decide (48 ≤ n) && decide (n ≤ 57)
def wordB (n : Int) : Bool := (lowB n || digB n) || n == 95
theorem lowB_yes {n : Int} (h1 : 97 ≤ n) (h2 : n ≤ 122) : lowB n = true := by simp [lowB, h1, h2]
theorem lowB_no {n : Int} (h : ¬ (97 ≤ n ∧ n ≤ 122)) : lowB n = false := by simp [lowB]; omega
theorem digB_yes {n : Int} (h1 : 48 ≤ n) (h2 : n ≤ 57) : digB n = true := by simp [digB, h1, h2]
theorem digB_no {n : Int} (h : ¬ (48 ≤ n ∧ n ≤ 57)) : digB n = false := by simp [digB]; omega
theorem word_eq (c : UInt8) : wordB (c.toNat : Int) = isWord c := by
  rcases clsB_val c _ rfl with ⟨h1, h2, hc⟩ | ⟨h1, h2, hc⟩ | ⟨h1, hc⟩ | ⟨h1, hc⟩ | ⟨h1, hc⟩ | ⟨h1, n1, _, _, _, _, _, hc⟩
  all_goals
    unfold isWord wordB lowB digB
    rw [hc]
    rw [Bool.eq_iff_iff]
    simp
    omega
theorem dig_eq (c : UInt8) : digB (c.toNat : Int) = isNum c := by
  rcases clsB_val c _ rfl with ⟨h1, h2, hc⟩ | ⟨h1, h2, hc⟩ | ⟨h1, hc⟩ | ⟨h1, hc⟩ | ⟨h1, hc⟩ | ⟨h1, n1, _, _, _, _, _, hc⟩
  all_goals
    unfold isNum digB
    rw [hc]
    rw [Bool.eq_iff_iff]
    simp
    omega
theorem low_cls {l : List UInt8} {c : UInt8} (h : l[0]? = some c) : lowB (c.toNat : Int) = decide (cls l 0 = 1) := by
  rw [cls_some h]
  rcases clsB_val c _ rfl with ⟨h1, h2, hc⟩ | ⟨h1, h2, hc⟩ | ⟨h1, hc⟩ | ⟨h1, hc⟩ | ⟨h1, hc⟩ | ⟨h1, n1, _, _, _, _, _, hc⟩
  all_goals
    unfold lowB
    rw [hc, Bool.eq_iff_iff]
    simp
    omega
theorem dig_cls {l : List UInt8} {c : UInt8} (h : l[0]? = some c) : digB (c.toNat : Int) = decide (cls l 0 = 2) := by
  rw [cls_some h, dig_eq]; rfl
/-- Behind a run of digits: a byte of a name is one that is no digit. -/
theorem num_then {l : List UInt8} : (cls l (run isNum l) = 1 ∨ cls l (run isNum l) = 3) ↔ ∃ c, l[run isNum l]? = some c ∧ isWord c = true := by
  have hno : ∀ c, l[run isNum l]? = some c → isNum c = false := by
    induction l with
    | nil => simp
    | cons a t ih =>
      intro c hc
      rw [run] at hc
      split at hc
      · exact ih c (by simpa using hc)
      · rename_i h
        simp at hc; subst hc; simpa using h
  constructor
  · intro h
    have h1 : 1 ≤ cls l (run isNum l) := by omega
    obtain ⟨c, hc, hw⟩ := isWord_cls h1 (by omega)
    exact ⟨c, hc, hw⟩
  · rintro ⟨c, hc, hw⟩
    have hn := hno c hc
    rw [cls_some hc]
    simp only [isWord, isNum, Bool.and_eq_true, decide_eq_true_eq, decide_eq_false_iff_not] at hw hn
    omega

/-- The marks of one byte. -/
def singlesL : List UInt8 := [123, 125, 91, 93, 40, 41, 44, 59, 61, 60, 62, 43, 45, 42, 47]
abbrev singlesS : ByteArray := ⟨#[123, 125, 91, 93, 40, 41, 44, 59, 61, 60, 62, 43, 45, 42, 47]⟩
theorem marks_parts : marks = marks.take 7 ++ singlesL.map (fun x => [x]) := by decide
theorem idx_cons (b c : UInt8) (l : List UInt8) : 0 ≤ Lib.indexByte (b :: l) c ↔ (b = c ∨ 0 ≤ Lib.indexByte l c) := by
  rw [Lib.indexByte]
  have := Lib.indexByte_ge l c
  by_cases h : b = c
  · subst h; simp
  · have h' : (b == c) = false := by simpa using h
    rw [h']
    simp only [Bool.false_eq_true, if_false, h, false_or]
    split
    · rename_i h1
      simp at h1
      omega
    · rename_i h1
      simp at h1
      omega
theorem single_find (S : List UInt8) (c : UInt8) (t : List UInt8) : ((S.map fun x => [x]).find? fun m => m.isPrefixOf (c :: t)) = if 0 ≤ Lib.indexByte S c then some [c] else none := by
  induction S with
  | nil => simp [Lib.indexByte]
  | cons b S ih =>
    rw [List.map_cons, List.find?_cons]
    by_cases h : b = c
    · subst h
      rw [if_pos ((idx_cons b b S).2 (.inl rfl))]
      simp [List.isPrefixOf]
    · have h' : (b == c) = false := by simpa using h
      have e : ([b].isPrefixOf (c :: t)) = false := by simp [List.isPrefixOf, h']
      rw [e]
      simp only
      rw [ih]
      by_cases h2 : 0 ≤ Lib.indexByte S c
      · rw [if_pos h2, if_pos ((idx_cons b c S).2 (.inr h2))]
      · rw [if_neg h2, if_neg (fun h3 => ((idx_cons b c S).1 h3).elim h h2)]
theorem markLen_single {c : UInt8} {t : List UInt8} (h : ∀ y ∈ marks.take 7, y.isPrefixOf (c :: t) = false) : markLen (c :: t) = if 0 ≤ Lib.indexByte singlesL c then 1 else 0 := by
  unfold markLen
  rw [marks_parts, List.find?_append, List.find?_eq_none.2 (fun y hy => by rw [h y hy]; simp), Option.none_or, single_find]
  split
  · rename_i m hm
    split at hm
    · rename_i h1
      cases hm
      rw [if_pos h1]; rfl
    · cases hm
  · rename_i hm
    split at hm
    · cases hm
    · rename_i h1
      rw [if_neg h1]

/-- No line feed. -/
def notNl (c : UInt8) : Bool := !(c.toNat == 10)
theorem remark_len (l : List UInt8) : (if 0 ≤ Lib.indexByte l 10 then Lib.indexByte l 10 else (l.length : Int)) = (run notNl l : Int) := by
  induction l with
  | nil => simp [Lib.indexByte, run]
  | cons b t ih =>
    rw [run, Lib.indexByte]
    have hge := Lib.indexByte_ge t 10
    by_cases h : b = 10
    · subst h
      simp [notNl]
    · have h' : (b == 10) = false := by simpa using h
      have hn : b.toNat ≠ 10 := fun e => h (UInt8.toNat_inj.1 e)
      have hp : notNl b = true := by simp [notNl, hn]
      rw [h', if_pos hp]
      have e : (if (Lib.indexByte t 10 == -1) = true then (-1 : Int) else Lib.indexByte t 10 + 1) = if Lib.indexByte t 10 = -1 then -1 else Lib.indexByte t 10 + 1 := by
        by_cases h1 : Lib.indexByte t 10 = -1
        · rw [if_pos h1, if_pos (by simpa using h1)]
        · rw [if_neg h1, if_neg (by simpa using h1)]
      simp only [Bool.false_eq_true, if_false, List.length_cons]
      rw [e]
      by_cases h1 : Lib.indexByte t 10 = -1
      · rw [if_pos h1]
        rw [if_neg (by omega)] at ih
        rw [if_neg (by decide)]
        omega
      · rw [if_neg h1]
        rw [if_pos (by omega)] at ih
        rw [if_pos (by omega)]
        omega
theorem run_first {p : UInt8 → Bool} {l : List UInt8} : ∀ j, j < run p l → ∃ c, l[j]? = some c ∧ p c = true := by
  induction l with
  | nil => intro j h; simp [run] at h
  | cons a t ih =>
    intro j h
    rw [run] at h
    split at h
    · rename_i ha
      cases j with
      | zero => exact ⟨a, rfl, ha⟩
      | succ j => exact ih j (by omega)
    · omega
theorem run_end {p : UInt8 → Bool} {l : List UInt8} {c : UInt8} (h : l[run p l]? = some c) : p c = false := by
  induction l with
  | nil => simp at h
  | cons a t ih =>
    rw [run] at h
    split at h
    · exact ih (by simpa using h)
    · rename_i ha
      simp at h; subst h; simpa using ha
/-- Bytes that are no line feeds are gone past within the line. -/
theorem pos_along {l : List UInt8} {j : Nat} : ∀ n, (∀ k, k < n → ∃ c, l[j + k]? = some c ∧ c.toNat ≠ 10) → pos l (j + n) = ((pos l j).1, (pos l j).2 + n)
  | 0, _ => by simp
  | n + 1, h => by
    obtain ⟨c, hc, h10⟩ := h n (by omega)
    rw [← Nat.add_assoc, pos_next hc, if_neg h10, pos_along n (fun k hk => h k (by omega))]
    ext
    · rfl
    · simp; omega
theorem rem_run {l : List UInt8} {j : Nat} : ∀ n, (∀ k, k < n → ∃ c, l[j + k]? = some c ∧ c.toNat ≠ 10) → rem l (j + n) = rem l j
  | 0, _ => rfl
  | n + 1, h => by
    obtain ⟨c, hc, h10⟩ := h n (by omega)
    rw [← Nat.add_assoc, rem_next hc h10, rem_run n (fun k hk => h k (by omega))]
theorem remark_bytes {l : List UInt8} {j : Nat} : ∀ k, k < run notNl (l.drop j) → ∃ c, l[j + k]? = some c ∧ c.toNat ≠ 10 := by
  intro k hk
  obtain ⟨c, hc, hp⟩ := run_first k hk
  rw [List.getElem?_drop] at hc
  exact ⟨c, hc, by simpa [notNl] using hp⟩
/-- A remark is gone past. -/
theorem gap_past {l : List UInt8} {j : Nat} (h : cls l j = 5) : gap l (j + run notNl (l.drop j)) = gap l j ∧ pos l (j + run notNl (l.drop j)) = ((pos l j).1, (pos l j).2 + (run notNl (l.drop j) : Nat)) := by
  refine ⟨?_, pos_along _ remark_bytes⟩
  have h1 := rem_run _ (remark_bytes (l := l) (j := j))
  rw [← gap_remark h, ← h1]
  rcases hc : l[j + run notNl (l.drop j)]? with _ | c
  · exact (rem_end (List.getElem?_eq_none_iff.1 hc)).symm
  · rw [← List.getElem?_drop] at hc
    have := run_end hc
    rw [List.getElem?_drop] at hc
    exact (rem_line hc (by simpa [notNl] using this)).symm
theorem cls_5_run {l : List UInt8} {j : Nat} (h : cls l j = 5) : 1 ≤ run notNl (l.drop j) := by
  unfold cls at h
  split at h
  · rename_i c hc
    exact run_pos hc (by simp [notNl, clsB_35 h])
  · simp at h
/-- In a token there is no line feed. -/
theorem one_noline {l : List UInt8} {j ln : Nat} {kd : Int} (h : ScanSpec.one (l.drop j) = (kd, ln, 0)) : ∀ k, k < ln → ∃ c, l[j + k]? = some c ∧ c.toNat ≠ 10 := by
  intro k hk
  have word : ∀ {n : Nat}, k < n → n = run isWord (l.drop j) → ∃ c, l[j + k]? = some c ∧ c.toNat ≠ 10 := by
    intro n hn e
    subst e
    obtain ⟨c, hc, hp⟩ := run_first k hn
    rw [List.getElem?_drop] at hc
    refine ⟨c, hc, fun e => ?_⟩
    rw [← word_eq, e] at hp
    exact absurd hp (by decide)
  have num : ∀ {n : Nat}, k < n → n = run isNum (l.drop j) → ∃ c, l[j + k]? = some c ∧ c.toNat ≠ 10 := by
    intro n hn e
    subst e
    obtain ⟨c, hc, hp⟩ := run_first k hn
    rw [List.getElem?_drop] at hc
    refine ⟨c, hc, fun e => ?_⟩
    rw [← dig_eq, e] at hp
    exact absurd hp (by decide)
  unfold ScanSpec.one at h
  split at h
  · split at h
    · cases h
    · simp only [Prod.mk.injEq] at h
      exact word hk h.2.1.symm
  · split at h
    · split at h
      · cases h
      · split at h
        · cases h
        · simp only [Prod.mk.injEq] at h
          exact num hk h.2.1.symm
    · split at h
      · cases h
      · simp only [Prod.mk.injEq] at h
        obtain ⟨-, h, -⟩ := h
        subst h
        unfold markLen at hk
        cases hf : marks.find? fun m => m.isPrefixOf (l.drop j) with
        | none => rw [hf] at hk; simp at hk
        | some m =>
          rw [hf] at hk
          have hm := List.mem_of_find?_eq_some hf
          have hp := List.find?_some hf
          rw [List.isPrefixOf_iff_prefix] at hp
          obtain ⟨t, ht⟩ := hp
          have hc : l[j + k]? = some m[k] := by
            rw [← List.getElem?_drop, ← ht, List.getElem?_append_left hk, List.getElem?_eq_getElem hk]
          have all : ∀ y ∈ marks, ∀ x ∈ y, x.toNat ≠ 10 := by decide
          exact ⟨_, hc, all m hm _ (List.getElem_mem hk)⟩
theorem txt_ne {s : ByteArray} (h : 0 < s.size) : s.toList.isEmpty = false := by
  have e : s.toList.length = s.size := by rw [ByteArray.toList_eq]; rfl
  cases h' : s.toList with
  | nil => rw [h'] at e; simp at e; omega
  | cons a l => rfl
theorem extract_drop (s : ByteArray) (j : Nat) : (s.extract j s.size).data.toList = s.data.toList.drop j := by
  rw [ByteArray.data_extract, Array.toList_extract, List.extract_eq_take_drop]
  rw [List.take_of_length_le]
  rw [List.length_drop, size_list']
  exact Nat.le_refl _
theorem extract_extract (s : ByteArray) (j n : Nat) : (s.extract j s.size).extract n (s.extract j s.size).size = s.extract (j + n) s.size := by
  apply ByteArray.ext
  apply Array.toList_inj.mp
  rw [extract_drop, extract_drop, extract_drop, List.drop_drop]
theorem extract_head (s : ByteArray) (j n : Nat) (_h : j + n ≤ s.size) : (s.extract j s.size).extract 0 n = s.extract j (j + n) := by
  apply ByteArray.ext
  apply Array.toList_inj.mp
  rw [ByteArray.data_extract, Array.toList_extract, List.extract_eq_take_drop, extract_drop, ByteArray.data_extract, Array.toList_extract, List.extract_eq_take_drop, List.drop_zero]
  congr 1
  omega
theorem extract_all (s : ByteArray) : s.extract 0 s.size = s := by
  apply ByteArray.ext
  apply Array.toList_inj.mp
  rw [extract_drop]; rfl
theorem extract_size' (s : ByteArray) (j : Nat) : (s.extract j s.size).size = s.size - j := by
  rw [← size_list', extract_drop, List.length_drop, size_list']
end Go.Proofs.YtcfcpbkeedfbpaaDoor

namespace Go.Proofs.YtcfcpbkeedfbpaaDoor
open Go.RowKit ScanSpec

def RunSz (l : List UInt8) (p : UInt8 → Bool) (v : Value) : Prop := ∃ k : Nat, k ≤ l.length ∧ v = .int .i64 k ∧ k + run p (l.drop k) = run p l
end Go.Proofs.YtcfcpbkeedfbpaaDoor

namespace Go.Proofs.YtcfcpbkeedfbpaaDoor
open Go.RowKit ScanSpec
set_option maxRecDepth 100000

/-- The table of marks of two bytes holds what it was laid with. -/
def pairsV : Array Value := #[.string ⟨#[45, 62]⟩, .string ⟨#[58, 61]⟩, .string ⟨#[60, 61]⟩, .string ⟨#[62, 61]⟩, .string ⟨#[33, 61]⟩, .string ⟨#[61, 61]⟩, .string ⟨#[46, 46]⟩]
theorem ret3 {a b c a' b' c' : Int} (h : (a, b, c) = (a', b', c')) : Ending.returned (.tuple #[.int .i64 a, .int .i64 b, .int .i64 c]) = .returned (.tuple #[.int .i64 a', .int .i64 b', .int .i64 c']) := by
  cases h; rfl
theorem byte_u8 (c : UInt8) : ((c.toNat : Int)).toNat.toUInt8 = c := by simp

def PairRel (d : List UInt8) (v : Value) : Prop := ∃ j : Int, 0 ≤ j ∧ j ≤ 7 ∧ v = .int .i64 j ∧ ∀ y ∈ marks.take j.toNat, y.isPrefixOf d = false
def MarkPost (d : List UInt8) (w : World) (e : Ending) (w' : World) : Prop :=
  ∃ kd ln er : Int, (kd, ln, er) = (if markLen d = 0 then (0, 0, 2) else (3, (markLen d : Int), 0)) ∧ e = .returned (.tuple #[.int .i64 kd, .int .i64 ln, .int .i64 er]) ∧ w = w'
theorem pair_next {d : List UInt8} {n : Nat} {m : List UInt8} (h : ∀ y ∈ marks.take n, y.isPrefixOf d = false) (hm : marks[n]? = some m) (hf : m.isPrefixOf d = false) : ∀ y ∈ marks.take (n + 1), y.isPrefixOf d = false := by
  intro y hy
  rw [take_next hm, List.mem_append, List.mem_singleton] at hy
  rcases hy with hy | rfl
  · exact h y hy
  · exact hf
theorem pair_hit {d : List UInt8} {w : World} {n : Nat} {m : List UInt8} (h : ∀ y ∈ marks.take n, y.isPrefixOf d = false) (hm : marks[n]? = some m) (hf : m.isPrefixOf d = true) (hl : m.length = 2) :
    MarkPost d w (.returned (.tuple #[.int .i64 3, .int .i64 2, .int .i64 0])) w := by
  have := mark_hit hm h hf
  refine ⟨_, _, _, ?_, rfl, rfl⟩
  rw [this, hl]; rfl

theorem ty_string : ∀ h, (Tryd.prog.types[9]'h).size = 1 := fun _ => by kernel_rfl
def FirstPost (d : List UInt8) (w : World) (e : Ending) (w' : World) : Prop :=
  ∃ kd er : Int, ∃ ln : Nat, (kd, ln, er) = ScanSpec.one d ∧ e = .returned (.tuple #[.int .i64 kd, .int .i64 ln, .int .i64 er]) ∧ w = w'
end Go.Proofs.YtcfcpbkeedfbpaaDoor

namespace Go.Proofs.YtcfcpbkeedfbpaaDoor
open Go.RowKit

theorem cells_of_strs {H : Type} {enc : TypeId × Value → H} {P : Program} {w : World} {base : Nat} {sp : Nat → Bool} {held : Bool} {fuel : Nat} {t e : TypeId} {n : Nat} {cs : List Value} {bs : List (List UInt8)} {p : List MemPlace}
    (ht : P.underlying t = some (.array n e)) (he : P.underlying e = some .string) (hce : P.cellsOf e = 1) (hct : P.cellsOf t = n)
    (h : DataW.trod enc P w base sp held fuel t cs = some (.agg (bs.map fun b => .lit (.string b)), p)) : cs = bs.map fun b => Value.string ⟨b.toArray⟩ := by
  obtain ⟨xs, m, rfl, hx, hl, hxl, hel⟩ := DataW.trod_array ht h
  simp only [Prod.mk.injEq, DataW.agg.injEq] at hx
  have hxs := hx.1
  have hbl : bs.length = n := by
    have := congrArg List.length hxs
    simp at this
    omega
  rw [hct] at hl
  apply List.ext_getElem?
  intro i
  by_cases hi : i < n
  · obtain ⟨b, hb⟩ : ∃ b, xs[i]? = some b := get_some (by omega)
    have hf := (hel i hi).trans hb
    rw [hce, Nat.mul_one] at hf
    obtain ⟨s, hc, rfl, _⟩ := DataW.trod_string he hf
    have h1 : cs[i]? = some (.string s) := by
      have := congrArg (·[0]?) hc
      simpa [List.getElem?_take, List.getElem?_drop] using this
    have h2 : (xs.map (·.1))[i]? = some (DataW.lit (.string s.data.toList) : DataW H) := by simp [hb]
    rw [← hxs] at h2
    simp only [List.getElem?_map, Option.map_eq_some_iff, DataW.lit.injEq, Lit.string.injEq] at h2
    obtain ⟨z, hz, rfl⟩ := h2
    simp [h1, hz]
  · rw [List.getElem?_eq_none (by omega), List.getElem?_eq_none (by simp; omega)]
end Go.Proofs.YtcfcpbkeedfbpaaDoor

namespace Go.Proofs.YtcfcpbkeedfbpaaDoor
open Go.RowKit ScanSpec

def pairsB : List (List UInt8) := [[45, 62], [58, 61], [60, 61], [62, 61], [33, 61], [61, 61], [46, 46]]
end Go.Proofs.YtcfcpbkeedfbpaaDoor

namespace Go.Proofs.YtcfcpbkeedfbpaaDoor
open Go.RowKit ExprSpec
set_option maxRecDepth 100000

theorem list5 {α : Type} {l : List α} (h : l.length = 5) : ∃ a b c d e, l = [a, b, c, d, e] := by
  match l, h with
  | [a, b, c, d, e], _ => exact ⟨a, b, c, d, e, rfl⟩
def sgD {H : Type} (s : Sg) : DataW H := .agg [.lit (.string s.t.data.toList), .lit (.int .i64 s.op), .lit (.int .i64 s.lev), .lit (.int .i64 s.left), .lit (.int .i64 s.right)]
theorem sg_cells : Tryd.prog.cellsOf 114 = 5 := by kernel_rfl
theorem sg_table : Tryd.prog.cellsOf 129 = 55 := by kernel_rfl
theorem sg_str : Tryd.prog.cellsOf 9 = 1 := by kernel_rfl
theorem sg_int : Tryd.prog.cellsOf 3 = 1 := by kernel_rfl
theorem sign_part {H : Type} {enc : TypeId × Value → H} {w : World} {base : Nat} {sp : Nat → Bool} {held : Bool} {fuel : Nat} {cs : List Value} {s : Sg} {p : List MemPlace}
    (h : DataW.trod enc Tryd.prog w base sp held fuel 114 cs = some (sgD s, p)) : cs = sgC s := by
  obtain ⟨xs, n, _, hx, hl, hlen, hf⟩ := DataW.trod_struct Tryd.underlying114 h
  obtain ⟨a, b, c, d, e, rfl⟩ := list5 (hl.trans sg_cells)
  obtain ⟨y0, y1, y2, y3, y4, rfl⟩ := list5 hlen
  have g0 : DataW.trod enc Tryd.prog w base sp held n 9 (([a, b, c, d, e].drop 0).take (Tryd.prog.cellsOf 9)) = some y0 := hf 0 _ rfl
  rw [sg_str] at g0
  have g1 : DataW.trod enc Tryd.prog w base sp held n 3 (([a, b, c, d, e].drop 1).take (Tryd.prog.cellsOf 3)) = some y1 := hf 1 _ rfl
  rw [sg_int] at g1
  have g2 : DataW.trod enc Tryd.prog w base sp held n 3 (([a, b, c, d, e].drop 2).take (Tryd.prog.cellsOf 3)) = some y2 := hf 2 _ rfl
  rw [sg_int] at g2
  have g3 : DataW.trod enc Tryd.prog w base sp held n 3 (([a, b, c, d, e].drop 3).take (Tryd.prog.cellsOf 3)) = some y3 := hf 3 _ rfl
  rw [sg_int] at g3
  have g4 : DataW.trod enc Tryd.prog w base sp held n 3 (([a, b, c, d, e].drop 4).take (Tryd.prog.cellsOf 3)) = some y4 := hf 4 _ rfl
  rw [sg_int] at g4
  obtain ⟨s0, c0, rfl, -⟩ := DataW.trod_string Tryd.underlying9 g0
  obtain ⟨n1, c1, rfl, -⟩ := DataW.trod_int Tryd.underlying3 g1
  obtain ⟨n2, c2, rfl, -⟩ := DataW.trod_int Tryd.underlying3 g2
  obtain ⟨n3, c3, rfl, -⟩ := DataW.trod_int Tryd.underlying3 g3
  obtain ⟨n4, c4, rfl, -⟩ := DataW.trod_int Tryd.underlying3 g4
  simp at c0 c1 c2 c3 c4
  subst c0 c1 c2 c3 c4
  simp only [sgD, List.map_cons, List.map_nil, Prod.mk.injEq, DataW.agg.injEq, List.cons.injEq, DataW.lit.injEq, Lit.string.injEq, Lit.int.injEq, true_and, and_true] at hx
  obtain ⟨⟨h0, h1, h2, h3, h4⟩, -⟩ := hx
  have h0' : s.t = s0 := ByteArray.ext (Array.toList_inj.mp h0)
  subst h0' h1 h2 h3 h4
  rfl
theorem flat_parts {α β : Type} {g : α → List β} {k : Nat} (hg : ∀ a, (g a).length = k) : ∀ (L : List α) (cs : List β), cs.length = L.length * k → (∀ i a, L[i]? = some a → (cs.drop (i * k)).take k = g a) → cs = L.flatMap g
  | [], cs, hl, _ => by simpa using hl
  | a :: L, cs, hl, h => by
    have h0 := h 0 a rfl
    rw [Nat.zero_mul, List.drop_zero] at h0
    rw [List.length_cons, Nat.succ_mul] at hl
    have ih := flat_parts hg L (cs.drop k) (by rw [List.length_drop]; omega) (fun i b hb => by
      rw [List.drop_drop, show k + i * k = (i + 1) * k by rw [Nat.succ_mul]; omega]
      exact h (i + 1) b hb)
    rw [List.flatMap_cons, ← ih, ← h0, List.take_append_drop]
theorem gSigns : Tryd.prog.globalNamed "semblance/expr.signs" = some 0 := by kernel_rfl
theorem tSigns : (Tryd.prog.globals[0]?).map (·.type) = some 129 := by kernel_rfl
theorem laid_signs {H : Type} : (Rows.laid_semblance_expr_signs : DataW H) = .agg (sgs.map sgD) := rfl
theorem signs_one {W : World} {rest : List (String × DataW Unit)} (h : laidMet Tryd.prog (("semblance/expr.signs", Rows.laid_semblance_expr_signs) :: rest) W) : SignsIn W := by
  obtain ⟨ps, ⟨g', t', cs, fuel, p, q, hg', ht', hvar, hd, _, _⟩, _⟩ := h
  obtain rfl := Option.some.inj (gSigns.symm.trans hg')
  obtain rfl := Option.some.inj (tSigns.symm.trans ht')
  rw [laid_signs] at hd
  obtain ⟨xs, m, _, hx, hl, hxl, hel⟩ := DataW.trod_array Tryd.underlying129 hd
  simp only [Prod.mk.injEq, DataW.agg.injEq] at hx
  have hxs := hx.1
  rw [sg_table] at hl
  have hc : cs.toList = sgs.flatMap sgC := by
    refine flat_parts (k := 5) (fun s => rfl) sgs _ (by rw [hl]; rfl) (fun i s hs => ?_)
    have hi : i < 11 := by have := get_lt hs; rwa [sgs_len] at this
    obtain ⟨y, hy⟩ : ∃ y, xs[i]? = some y := get_some (by omega)
    have hf := (hel i hi).trans hy
    rw [sg_cells] at hf
    have h2 : (xs.map (·.1))[i]? = some y.1 := by simp [hy]
    rw [← hxs, List.getElem?_map, hs] at h2
    have h3 : sgD s = y.1 := Option.some.inj h2
    obtain ⟨y1, y2⟩ := y
    subst h3
    exact sign_part hf
  have e : cs = signsV := Array.toList_inj.mp hc
  subst e
  unfold World.var? at hvar
  rw [gSigns] at hvar
  simp only [Option.bind_some] at hvar
  split at hvar
  · rename_i cs' T fr hb
    cases hvar
    exact ⟨T, fr, hb⟩
  · cases hvar
theorem signs_in {W : World} {x : String × DataW Unit} {rest : List (String × DataW Unit)} (h : laidMet Tryd.prog (x :: ("semblance/expr.signs", Rows.laid_semblance_expr_signs) :: rest) W) : SignsIn W := signs_one (laidMet.tail h)
end Go.Proofs.YtcfcpbkeedfbpaaDoor

namespace Go.Proofs.YtcfcpbkeedfbpaaDoor
open Go.RowKit Go.ChangeShapes Go.WideShapes Go.Deep

theorem cell_there' {w : World} {b o : Nat} {u : Value} (h : w.cell? ⟨b, o, none⟩ = some u) : b < w.heap.size := by
  rcases Nat.lt_or_ge b w.heap.size with hlt | hge
  · exact hlt
  · simp [World.cell?, Array.getElem?_eq_none hge] at h
theorem list_of {α : Type} {R : Nat → α → Prop} : ∀ n, (∀ i, i < n → ∃ a, R i a) → ∃ l : List α, l.length = n ∧ ∀ i a, l[i]? = some a → R i a
  | 0, _ => ⟨[], rfl, fun i a h => by simp at h⟩
  | n + 1, h => by
    obtain ⟨l, hl, hR⟩ := list_of n (fun i hi => h i (by omega))
    obtain ⟨a, ha⟩ := h n (by omega)
    refine ⟨l ++ [a], by simp [hl], fun i b hb => ?_⟩
    rcases Nat.lt_or_ge i l.length with hlt | hge
    · rw [List.getElem?_append_left hlt] at hb
      exact hR i b hb
    · rw [List.getElem?_append_right hge] at hb
      obtain hi : i - l.length = 0 := by
        have := (List.getElem?_eq_some_iff.1 hb).1
        simp at this
        omega
      rw [hi] at hb
      simp at hb
      subst hb
      obtain rfl : i = n := by omega
      exact ha
theorem flat_at {α : Type} {k : Nat} {f : α → List Value} (hf : ∀ a, (f a).length = k) (hk : 0 < k) {l : List α} {q : Nat} {u : Value} (h : (l.flatMap f)[q]? = some u) : ∃ a, l[q / k]? = some a ∧ (f a)[q % k]? = some u := by
  have hq : q < l.length * k := by have := (List.getElem?_eq_some_iff.1 h).1; rwa [flat_length hf] at this
  have hi : q / k < l.length := Nat.div_lt_of_lt_mul (by rwa [Nat.mul_comm] at hq)
  refine ⟨l[q / k], List.getElem?_eq_getElem hi, ?_⟩
  rw [← flat_get hf (List.getElem?_eq_getElem hi) (Nat.mod_lt q hk), Nat.mul_comm (q / k) k, Nat.div_add_mod]
  exact h

theorem open_rows {α : Type} {f : α → List Value} {Good : α → Prop} {k : Nat} {H : Type} {enc : TypeId × Value → H} {P : Program} {W : World} {base b0 : Nat} {spare : Nat → Bool} {held : Bool} {r : Reach} {t e : TypeId} {v : Value} {d : DataW H} {p : List MemPlace}
    (hf : ∀ a, (f a).length = k) (hk0 : 0 < k) (hk : P.cellsOf e = k) (hu : P.underlying t = some (.slice e))
    (hdec : ∀ n cs x, DataW.trod enc P W base spare held n e cs = some x → ∃ a, cs = f a ∧ Good a)
    (hv : Value.okWide P W r b0 t v) (h : DataW.Trod enc P W base spare held t v d p) :
    ∃ (A : Option Addr) (n cp : Nat) (l : List α), v = .slice A n cp ∧ n = l.length ∧ Rdk k W (.slice A n cp) n (l.flatMap f) ∧ (∀ a ∈ l, Good a) ∧ n ≤ 9223372036854775807 := by
  obtain ⟨a0, len, cap, rfl⟩ := okWide_slice hu hv
  obtain ⟨fuel, hx⟩ := h
  rcases open_slice hu hx with ⟨hcs, _⟩ | ⟨a, len', cap', m, n, D, Pl, hcs, hb, hl, hm, hmm, _, hi⟩
  · simp [Value.cells] at hcs
    obtain ⟨rfl, rfl, rfl⟩ := hcs
    exact ⟨none, 0, 0, [], rfl, rfl, Rdk.nil k W, by simp, by omega⟩
  · simp [Value.cells] at hcs
    obtain ⟨rfl, rfl, rfl⟩ := hcs
    rw [hk] at hi
    have hlm : len ≤ m := by rw [hmm]; split <;> omega
    obtain ⟨l, hll, hR⟩ := list_of (R := fun i (x : α) => (∀ j, j < k → W.cell? ((a.add (i * k)).add j) = (f x)[j]?) ∧ Good x) len (fun i hlt => by
      obtain ⟨cs', hc, ht⟩ := hi i (by omega)
      obtain ⟨x, rfl, hg⟩ := hdec _ _ _ ht
      obtain ⟨_, _, hat⟩ := World.cells?_some hc
      exact ⟨x, hat, hg⟩)
    refine ⟨some a, len, cap, l, rfl, hll.symm, ⟨some a, cap, rfl, hl, by rw [flat_length hf, hll], fun h0 => ?_⟩, fun x hx => ?_, by unfold maxLen at hm; omega⟩
    · obtain ⟨x, hx0⟩ : ∃ x, l[0]? = some x := get_some (by omega)
      obtain ⟨u, hu0⟩ : ∃ u, (f x)[0]? = some u := get_some (by rw [hf]; exact hk0)
      obtain ⟨b, off, spot⟩ := a
      have h00 := (hR 0 x hx0).1 0 hk0
      rw [hu0] at h00
      have hspot : spot = none := by simpa [Addr.add] using World.cell?_spot h00
      subst hspot
      rw [addr_add, addr_add] at h00
      refine ⟨b, off, rfl, cell_there' h00, fun q u hq => ?_⟩
      obtain ⟨y, hy, hu⟩ := flat_at hf hk0 hq
      have := (hR _ y hy).1 (q % k) (Nat.mod_lt q hk0)
      rw [addr_add, addr_add, Nat.add_assoc, Nat.mul_comm (q / k) k, Nat.div_add_mod, hu] at this
      exact this
    · obtain ⟨i, hi⟩ := List.mem_iff_getElem?.1 hx
      exact (hR i x hi).2
end Go.Proofs.YtcfcpbkeedfbpaaDoor

namespace Go.Proofs.YtcfcpbkeedfbpaaDoor
namespace OpenD
open Go.RowKit Go.ChangeShapes Go.WideShapes Go.Deep
set_option maxRecDepth 100000

theorem cells_int : Tryd.prog.cellsOf 3 = 1 := by kernel_rfl
theorem cells_str : Tryd.prog.cellsOf 9 = 1 := by kernel_rfl
section
variable {H : Type} {enc : TypeId × Value → H} {W : World} {base : Nat} {spare : Nat → Bool} {held : Bool}
theorem dec_int {n : Nat} {c : Value} {x : Option (DataW H × List MemPlace)} (h : DataW.trod enc Tryd.prog W base spare held n 3 [c] = x) (hx : x.isSome) : ∃ k, c = .int .i64 k := by
  obtain ⟨y, rfl⟩ := Option.isSome_iff_exists.1 hx
  obtain ⟨k, hc, _⟩ := DataW.trod_int Tryd.underlying3 h
  simp at hc
  exact ⟨k, hc⟩
theorem dec_str {n : Nat} {c : Value} {x : Option (DataW H × List MemPlace)} (h : DataW.trod enc Tryd.prog W base spare held n 9 [c] = x) (hx : x.isSome) : ∃ s : ByteArray, c = .string s ∧ s.size ≤ 9223372036854775807 := by
  obtain ⟨y, rfl⟩ := Option.isSome_iff_exists.1 hx
  obtain ⟨s, hc, _, hs⟩ := DataW.trod_string Tryd.underlying9 h
  simp at hc
  exact ⟨s, hc, hs⟩
theorem some_at {α : Type} {l : List α} {i : Nat} (h : i < l.length) : (l[i]?).isSome := by rw [List.getElem?_eq_getElem h]; rfl
end
end OpenD
end Go.Proofs.YtcfcpbkeedfbpaaDoor

namespace Go.Proofs.YtcfcpbkeedfbpaaDoor
open Go.RowKit Go.ChangeShapes Go.WideShapes Go.Deep TermSpec OpenD
set_option maxRecDepth 100000

theorem cells_term : Tryd.prog.cellsOf 30 = 3 := by kernel_rfl
section
variable {H : Type} {enc : TypeId × Value → H} {W : World} {base : Nat} {spare : Nat → Bool} {held : Bool}
theorem dec_term (n : Nat) (cs : List Value) (x : DataW H × List MemPlace) (h : DataW.trod enc Tryd.prog W base spare held n 30 cs = some x) : ∃ t : Tm, cs = tmV t ∧ t.s.size ≤ 9223372036854775807 := by
  obtain ⟨xs, m, _, _, hl, hxl, hg⟩ := DataW.trod_struct Tryd.underlying30 h
  rw [cells_term] at hl
  have hxl' : xs.length = 3 := hxl
  match cs, hl with
  | [c0, c1, c2], _ =>
    have g0 : DataW.trod enc Tryd.prog W base spare held m 3 (([c0, c1, c2].drop 0).take (Tryd.prog.cellsOf 3)) = xs[0]? := hg 0 _ rfl
    have g1 : DataW.trod enc Tryd.prog W base spare held m 3 (([c0, c1, c2].drop 1).take (Tryd.prog.cellsOf 3)) = xs[1]? := hg 1 _ rfl
    have g2 : DataW.trod enc Tryd.prog W base spare held m 9 (([c0, c1, c2].drop 2).take (Tryd.prog.cellsOf 9)) = xs[2]? := hg 2 _ rfl
    rw [OpenD.cells_int] at g0 g1
    rw [OpenD.cells_str] at g2
    obtain ⟨a, rfl⟩ := OpenD.dec_int g0 (OpenD.some_at (by omega))
    obtain ⟨b, rfl⟩ := OpenD.dec_int g1 (OpenD.some_at (by omega))
    obtain ⟨s, rfl, hs⟩ := OpenD.dec_str g2 (OpenD.some_at (by omega))
    exact ⟨⟨a, b, s⟩, rfl, hs⟩
variable {b0 : Nat} {r : Reach} {v : Value} {d : DataW H} {p : List MemPlace}
theorem open_terms (hv : Value.okWide Tryd.prog W r b0 26 v) (h : DataW.Trod enc Tryd.prog W base spare held 26 v d p) :
    ∃ (A : Option Addr) (n cp : Nat) (l : List Tm), v = .slice A n cp ∧ Tms W (.slice A n cp) l ∧ n = l.length ∧ Small l ∧ n ≤ 9223372036854775807 := by
  obtain ⟨A, n, cp, l, hv', hn, hR, hG, hb⟩ := open_rows (f := tmV) (Good := fun t => t.s.size ≤ 9223372036854775807) tmV_length (by decide) cells_term Tryd.underlying26 dec_term hv h
  exact ⟨A, n, cp, l, hv', ⟨n, hn, hR⟩, hn, hG, hb⟩
end
end Go.Proofs.YtcfcpbkeedfbpaaDoor

namespace Go.Proofs.YtcfcpbkeedfbpaaDoor
open Go.RowKit Go.ChangeShapes Go.WideShapes Go.Deep TermSpec EvalSpec
set_option maxRecDepth 100000

theorem open_rows_c {α : Type} {f : α → List Value} {Good : α → Prop} {k : Nat} {H : Type} {enc : TypeId × Value → H} {P : Program} {W : World} {base : Nat} {spare : Nat → Bool} {held : Bool} {fuel : Nat} {t e : TypeId} {v : Value} {x : DataW H × List MemPlace}
    (hf : ∀ a, (f a).length = k) (hk0 : 0 < k) (hk : P.cellsOf e = k) (hu : P.underlying t = some (.slice e))
    (hdec : ∀ n cs x, DataW.trod enc P W base spare held n e cs = some x → ∃ a, cs = f a ∧ Good a)
    (h : DataW.trod enc P W base spare held fuel t [v] = some x) :
    ∃ (A : Option Addr) (n cp : Nat) (l : List α), v = .slice A n cp ∧ n = l.length ∧ Rdk k W (.slice A n cp) n (l.flatMap f) ∧ (∀ a ∈ l, Good a) ∧ n ≤ 9223372036854775807 := by
  rcases open_slice hu h with ⟨hcs, _⟩ | ⟨a, len, cap, m, n, D, Pl, hcs, hb, hl, hm, hmm, _, hi⟩
  · cases hcs
    exact ⟨none, 0, 0, [], rfl, rfl, Rdk.nil k W, by simp, by omega⟩
  · cases hcs
    rw [hk] at hi
    have hlm : len ≤ m := by rw [hmm]; split <;> omega
    obtain ⟨l, hll, hR⟩ := list_of (R := fun i (x : α) => (∀ j, j < k → W.cell? ((a.add (i * k)).add j) = (f x)[j]?) ∧ Good x) len (fun i hlt => by
      obtain ⟨cs', hc, ht⟩ := hi i (by omega)
      obtain ⟨x, rfl, hg⟩ := hdec _ _ _ ht
      obtain ⟨_, _, hat⟩ := World.cells?_some hc
      exact ⟨x, hat, hg⟩)
    refine ⟨some a, len, cap, l, rfl, hll.symm, ⟨some a, cap, rfl, hl, by rw [flat_length hf, hll], fun h0 => ?_⟩, fun x hx => ?_, by unfold maxLen at hm; omega⟩
    · obtain ⟨x, hx0⟩ : ∃ x, l[0]? = some x := get_some (by omega)
      obtain ⟨u, hu0⟩ : ∃ u, (f x)[0]? = some u := get_some (by rw [hf]; exact hk0)
      obtain ⟨b, off, spot⟩ := a
      have h00 := (hR 0 x hx0).1 0 hk0
      rw [hu0] at h00
      have hspot : spot = none := by simpa [Addr.add] using World.cell?_spot h00
      subst hspot
      rw [addr_add, addr_add] at h00
      refine ⟨b, off, rfl, cell_there' h00, fun q u hq => ?_⟩
      obtain ⟨y, hy, hu⟩ := flat_at hf hk0 hq
      have := (hR _ y hy).1 (q % k) (Nat.mod_lt q hk0)
      rw [addr_add, addr_add, Nat.add_assoc, Nat.mul_comm (q / k) k, Nat.div_add_mod, hu] at this
      exact this
    · obtain ⟨i, hi⟩ := List.mem_iff_getElem?.1 hx
      exact (hR i x hi).2
theorem open_strs_c {H : Type} {enc : TypeId × Value → H} {P : Program} {W : World} {base : Nat} {spare : Nat → Bool} {held : Bool} {fuel : Nat} {t e : TypeId} {v : Value} {x : DataW H × List MemPlace}
    (hu : P.underlying t = some (.slice e)) (he : P.underlying e = some .string) (hone : P.cellsOf e = 1) (h : DataW.trod enc P W base spare held fuel t [v] = some x) :
    ∃ (A : Option Addr) (n c : Nat) (l : List ByteArray), v = .slice A n c ∧ Rd W (.slice A n c) (strV l) ∧ l.length ≤ 9223372036854775807 := by
  rcases open_strings hu he hone h with ⟨hcs, hx⟩ | ⟨a, len, cap, ss, hcs, _, hl, hm, hz, hx, hcell, hws⟩
  · cases hcs
    exact ⟨none, 0, 0, [], rfl, Rd.nil _, by simp⟩
  · cases hcs
    have hlen : len ≤ ss.length := by rw [hz]; split <;> omega
    have htl : (ss.take len).length = len := by rw [List.length_take]; omega
    refine ⟨some a, len, cap, ss.take len, rfl, ⟨_, len, cap, rfl, by rw [strV_length, htl], hl, fun h0 => ?_⟩, by rw [htl]; unfold maxLen at hm; omega⟩
    obtain ⟨b, off, spot⟩ := a
    have hspot : spot = none := by simpa [Addr.add] using World.cell?_spot (hcell 0 (by omega))
    subst hspot
    have h00 := hcell 0 (by omega)
    rw [addr_add] at h00
    refine ⟨b, off, rfl, cell_there' h00, fun j u hj => ?_⟩
    have hjl := get_lt hj
    rw [strV_length, htl] at hjl
    have := hcell j (by omega)
    rw [addr_add] at this
    rw [this]
    rw [strV_get, List.getElem?_take_of_lt hjl, List.getElem?_eq_getElem (by omega)] at hj
    rw [List.getD_eq_getElem?_getD, List.getElem?_eq_getElem (by omega)]
    exact hj

theorem cells_var : Tryd.prog.cellsOf 33 = 4 := by kernel_rfl
theorem cells_env : Tryd.prog.cellsOf 37 = 6 := by kernel_rfl
theorem cells_vars : Tryd.prog.cellsOf 34 = 1 := by kernel_rfl
theorem cells_strs : Tryd.prog.cellsOf 35 = 1 := by kernel_rfl
theorem cells_arr4 : Tryd.prog.cellsOf 22 = 4 := by kernel_rfl
section
variable {H : Type} {enc : TypeId × Value → H} {W : World} {base : Nat} {spare : Nat → Bool} {held : Bool}
theorem dec_var (n : Nat) (cs : List Value) (x : DataW H × List MemPlace) (h : DataW.trod enc Tryd.prog W base spare held n 33 cs = some x) : ∃ v : Vr, cs = vrV v ∧ True := by
  obtain ⟨xs, m, _, _, hl, hxl, hg⟩ := DataW.trod_struct Tryd.underlying33 h
  rw [cells_var] at hl
  have hxl' : xs.length = 4 := hxl
  match cs, hl with
  | [c0, c1, c2, c3], _ =>
    have g0 : DataW.trod enc Tryd.prog W base spare held m 9 (([c0, c1, c2, c3].drop 0).take (Tryd.prog.cellsOf 9)) = xs[0]? := hg 0 _ rfl
    have g1 : DataW.trod enc Tryd.prog W base spare held m 3 (([c0, c1, c2, c3].drop 1).take (Tryd.prog.cellsOf 3)) = xs[1]? := hg 1 _ rfl
    have g2 : DataW.trod enc Tryd.prog W base spare held m 3 (([c0, c1, c2, c3].drop 2).take (Tryd.prog.cellsOf 3)) = xs[2]? := hg 2 _ rfl
    have g3 : DataW.trod enc Tryd.prog W base spare held m 3 (([c0, c1, c2, c3].drop 3).take (Tryd.prog.cellsOf 3)) = xs[3]? := hg 3 _ rfl
    rw [OpenD.cells_int] at g1 g2 g3
    rw [OpenD.cells_str] at g0
    obtain ⟨s, rfl, _⟩ := OpenD.dec_str g0 (OpenD.some_at (by omega))
    obtain ⟨a, rfl⟩ := OpenD.dec_int g1 (OpenD.some_at (by omega))
    obtain ⟨b, rfl⟩ := OpenD.dec_int g2 (OpenD.some_at (by omega))
    obtain ⟨c, rfl⟩ := OpenD.dec_int g3 (OpenD.some_at (by omega))
    exact ⟨⟨s, a, b, c⟩, rfl, trivial⟩
theorem dec_arr4 {n : Nat} {c0 c1 c2 c3 : Value} {x : Option (DataW H × List MemPlace)} (h : DataW.trod enc Tryd.prog W base spare held n 22 [c0, c1, c2, c3] = x) (hx : x.isSome) : ∃ a b c d, c0 = .int .i64 a ∧ c1 = .int .i64 b ∧ c2 = .int .i64 c ∧ c3 = .int .i64 d := by
  obtain ⟨y, rfl⟩ := Option.isSome_iff_exists.1 hx
  obtain ⟨xs, m, _, _, _, hxl, hi⟩ := DataW.trod_array Tryd.underlying22 h
  have g0 := hi 0 (by omega)
  have g1 := hi 1 (by omega)
  have g2 := hi 2 (by omega)
  have g3 := hi 3 (by omega)
  rw [OpenD.cells_int] at g0 g1 g2 g3
  obtain ⟨a, rfl⟩ := OpenD.dec_int (c := c0) g0 (OpenD.some_at (by omega))
  obtain ⟨b, rfl⟩ := OpenD.dec_int (c := c1) g1 (OpenD.some_at (by omega))
  obtain ⟨c, rfl⟩ := OpenD.dec_int (c := c2) g2 (OpenD.some_at (by omega))
  obtain ⟨d, rfl⟩ := OpenD.dec_int (c := c3) g3 (OpenD.some_at (by omega))
  exact ⟨a, b, c, d, rfl, rfl, rfl, rfl⟩
variable {b0 : Nat} {r : Reach} {v : Value} {d : DataW H} {p : List MemPlace}
theorem open_env (hv : Value.okWide Tryd.prog W r b0 37 v) (h : DataW.Trod enc Tryd.prog W base spare held 37 v d p) :
    ∃ (q : EP) (e : Ev), v = envV q e ∧ EnvIn W q e := by
  obtain ⟨cs, rfl, _⟩ := okWide_struct Tryd.underlying37 hv
  obtain ⟨fuel, hx⟩ := h
  obtain ⟨xs, m, _, _, hl, hxl, hg⟩ := DataW.trod_struct Tryd.underlying37 hx
  rw [cells_env] at hl
  have hxl' : xs.length = 3 := hxl
  obtain ⟨l⟩ := cs
  match l, hl with
  | [c0, c1, c2, c3, c4, c5], _ =>
    have g0 : DataW.trod enc Tryd.prog W base spare held m 34 (([c0, c1, c2, c3, c4, c5].drop 0).take (Tryd.prog.cellsOf 34)) = xs[0]? := hg 0 _ rfl
    have g1 : DataW.trod enc Tryd.prog W base spare held m 22 (([c0, c1, c2, c3, c4, c5].drop 1).take (Tryd.prog.cellsOf 22)) = xs[1]? := hg 1 _ rfl
    have g2 : DataW.trod enc Tryd.prog W base spare held m 35 (([c0, c1, c2, c3, c4, c5].drop 5).take (Tryd.prog.cellsOf 35)) = xs[2]? := hg 2 _ rfl
    rw [cells_vars] at g0
    rw [cells_arr4] at g1
    rw [cells_strs] at g2
    obtain ⟨y0, e0⟩ := Option.isSome_iff_exists.1 (OpenD.some_at (l := xs) (i := 0) (by omega))
    obtain ⟨y2, e2⟩ := Option.isSome_iff_exists.1 (OpenD.some_at (l := xs) (i := 2) (by omega))
    rw [e0] at g0
    rw [e2] at g2
    obtain ⟨A, n, cp, vs, rfl, hn, hR, _, hb⟩ := open_rows_c (v := c0) (f := vrV) (Good := fun _ => True) vrV_length (by decide) cells_var Tryd.underlying34 dec_var g0
    obtain ⟨a, b, c, d, rfl, rfl, rfl, rfl⟩ := dec_arr4 (c0 := c1) (c1 := c2) (c2 := c3) (c3 := c4) g1 (OpenD.some_at (by omega))
    obtain ⟨A', n', c', is, rfl, hS, hSb⟩ := open_strs_c (v := c5) Tryd.underlying35 Tryd.underlying9 OpenD.cells_str g2
    exact ⟨⟨A, n, cp, A', n', c'⟩, ⟨vs, a, b, c, d, is⟩, rfl, ⟨hn, hR⟩, hS, by simp only; omega, hSb⟩
end
end Go.Proofs.YtcfcpbkeedfbpaaDoor

namespace Go.Proofs.YtcfcpbkeedfbpaaDoor
open Go.RowKit Go.ChangeShapes Go.WideShapes Go.Deep TermSpec EvalSpec ActSpec
set_option maxRecDepth 100000

theorem cells_act : Tryd.prog.cellsOf 28 = 3 := by kernel_rfl
theorem cells_bool : Tryd.prog.cellsOf 4 = 1 := by kernel_rfl
theorem cells_trms : Tryd.prog.cellsOf 26 = 1 := by kernel_rfl
theorem wf_i64 {n : Int} (h : (Lit.int .i64 n).wf = true) : -9223372036854775808 ≤ n ∧ n ≤ 9223372036854775807 := by
  have e1 : IntKind.i64.min = -9223372036854775808 := by kernel_rfl
  have e2 : IntKind.i64.max = 9223372036854775807 := by kernel_rfl
  simp [Lit.wf, e1, e2] at h
  exact h
section
variable {H : Type} {enc : TypeId × Value → H} {W : World} {base : Nat} {spare : Nat → Bool} {held : Bool}
theorem dec_int_fit {n : Nat} {c : Value} {x : Option (DataW H × List MemPlace)} (h : DataW.trod enc Tryd.prog W base spare held n 3 [c] = x) (hx : x.isSome) : ∃ k, c = .int .i64 k ∧ -9223372036854775808 ≤ k ∧ k ≤ 9223372036854775807 := by
  obtain ⟨y, rfl⟩ := Option.isSome_iff_exists.1 hx
  obtain ⟨k, hc, _, hw⟩ := DataW.trod_int Tryd.underlying3 h
  simp at hc
  exact ⟨k, hc, wf_i64 hw⟩
theorem dec_bool {n : Nat} {c : Value} {x : Option (DataW H × List MemPlace)} (h : DataW.trod enc Tryd.prog W base spare held n 4 [c] = x) (hx : x.isSome) : ∃ b, c = .bool b := by
  obtain ⟨y, rfl⟩ := Option.isSome_iff_exists.1 hx
  obtain ⟨k, hc, _⟩ := DataW.trod_bool Tryd.underlying4 h
  simp at hc
  exact ⟨k, hc⟩
/-- An act that came in. -/
def GoodAP (W : World) (p : AP) : Prop := p.a.s.size ≤ 9223372036854775807 ∧ Small p.a.x ∧ p.a.x.length ≤ 9223372036854775807 ∧ Tms W (.slice p.xA p.xn p.xc) p.a.x
theorem dec_act (n : Nat) (cs : List Value) (x : DataW H × List MemPlace) (h : DataW.trod enc Tryd.prog W base spare held n 28 cs = some x) : ∃ p : AP, cs = acV p ∧ GoodAP W p := by
  obtain ⟨xs, m, _, _, hl, hxl, hg⟩ := DataW.trod_struct Tryd.underlying28 h
  rw [cells_act] at hl
  have hxl' : xs.length = 3 := hxl
  match cs, hl with
  | [c0, c1, c2], _ =>
    have g0 : DataW.trod enc Tryd.prog W base spare held m 9 (([c0, c1, c2].drop 0).take (Tryd.prog.cellsOf 9)) = xs[0]? := hg 0 _ rfl
    have g1 : DataW.trod enc Tryd.prog W base spare held m 4 (([c0, c1, c2].drop 1).take (Tryd.prog.cellsOf 4)) = xs[1]? := hg 1 _ rfl
    have g2 : DataW.trod enc Tryd.prog W base spare held m 26 (([c0, c1, c2].drop 2).take (Tryd.prog.cellsOf 26)) = xs[2]? := hg 2 _ rfl
    rw [OpenD.cells_str] at g0
    rw [cells_bool] at g1
    rw [cells_trms] at g2
    obtain ⟨s, rfl, hs⟩ := OpenD.dec_str g0 (OpenD.some_at (by omega))
    obtain ⟨b, rfl⟩ := dec_bool g1 (OpenD.some_at (by omega))
    obtain ⟨y2, e2⟩ := Option.isSome_iff_exists.1 (OpenD.some_at (l := xs) (i := 2) (by omega))
    rw [e2] at g2
    obtain ⟨A, k, cp, l, rfl, hn, hR, hG, hb⟩ := open_rows_c (v := c2) (f := tmV) (Good := fun t => t.s.size ≤ 9223372036854775807) tmV_length (by decide) cells_term Tryd.underlying26 dec_term g2
    exact ⟨⟨⟨s, b, l⟩, A, k, cp⟩, rfl, hs, hG, by simp only; omega, ⟨k, hn, hR⟩⟩
theorem dec_var_fit (n : Nat) (cs : List Value) (x : DataW H × List MemPlace) (h : DataW.trod enc Tryd.prog W base spare held n 33 cs = some x) : ∃ v : Vr, cs = vrV v ∧ VFit v := by
  obtain ⟨xs, m, _, _, hl, hxl, hg⟩ := DataW.trod_struct Tryd.underlying33 h
  rw [cells_var] at hl
  have hxl' : xs.length = 4 := hxl
  match cs, hl with
  | [c0, c1, c2, c3], _ =>
    have g0 : DataW.trod enc Tryd.prog W base spare held m 9 (([c0, c1, c2, c3].drop 0).take (Tryd.prog.cellsOf 9)) = xs[0]? := hg 0 _ rfl
    have g1 : DataW.trod enc Tryd.prog W base spare held m 3 (([c0, c1, c2, c3].drop 1).take (Tryd.prog.cellsOf 3)) = xs[1]? := hg 1 _ rfl
    have g2 : DataW.trod enc Tryd.prog W base spare held m 3 (([c0, c1, c2, c3].drop 2).take (Tryd.prog.cellsOf 3)) = xs[2]? := hg 2 _ rfl
    have g3 : DataW.trod enc Tryd.prog W base spare held m 3 (([c0, c1, c2, c3].drop 3).take (Tryd.prog.cellsOf 3)) = xs[3]? := hg 3 _ rfl
    rw [OpenD.cells_int] at g1 g2 g3
    rw [OpenD.cells_str] at g0
    obtain ⟨s, rfl, _⟩ := OpenD.dec_str g0 (OpenD.some_at (by omega))
    obtain ⟨a, rfl, a1, a2⟩ := dec_int_fit g1 (OpenD.some_at (by omega))
    obtain ⟨b, rfl, b1, b2⟩ := dec_int_fit g2 (OpenD.some_at (by omega))
    obtain ⟨c, rfl⟩ := OpenD.dec_int g3 (OpenD.some_at (by omega))
    exact ⟨⟨s, a, b, c⟩, rfl, a1, a2, b1, b2⟩
variable {b0 : Nat} {r : Reach} {v : Value} {d : DataW H} {p : List MemPlace}
theorem open_acts (hv : Value.okWide Tryd.prog W r b0 31 v) (h : DataW.Trod enc Tryd.prog W base spare held 31 v d p) :
    ∃ (A : Option Addr) (n cp : Nat) (l : List Ac), v = .slice A n cp ∧ Acs W (.slice A n cp) l ∧ (∀ a ∈ l, a.s.size ≤ 9223372036854775807 ∧ Small a.x ∧ a.x.length ≤ 9223372036854775807) ∧ l.length ≤ 9223372036854775807 := by
  obtain ⟨A, n, cp, ps, hv', hn, hR, hG, hb⟩ := open_rows (f := acV) (Good := GoodAP W) acV_length (by decide) cells_act Tryd.underlying31 dec_act hv h
  refine ⟨A, n, cp, ps.map (·.a), hv', ⟨ps, rfl, by rw [List.length_map, ← hn]; exact hR, fun p hp => (hG p hp).2.2.2⟩, fun a ha => ?_, by rw [List.length_map]; omega⟩
  obtain ⟨p, hp, rfl⟩ := List.mem_map.1 ha
  exact ⟨(hG p hp).1, (hG p hp).2.1, (hG p hp).2.2.1⟩
theorem open_env_fit (hv : Value.okWide Tryd.prog W r b0 37 v) (h : DataW.Trod enc Tryd.prog W base spare held 37 v d p) :
    ∃ (q : EP) (e : Ev), v = envV q e ∧ EnvIn W q e ∧ ∀ v ∈ e.vars, VFit v := by
  obtain ⟨cs, rfl, _⟩ := okWide_struct Tryd.underlying37 hv
  obtain ⟨fuel, hx⟩ := h
  obtain ⟨xs, m, _, _, hl, hxl, hg⟩ := DataW.trod_struct Tryd.underlying37 hx
  rw [cells_env] at hl
  have hxl' : xs.length = 3 := hxl
  obtain ⟨l⟩ := cs
  match l, hl with
  | [c0, c1, c2, c3, c4, c5], _ =>
    have g0 : DataW.trod enc Tryd.prog W base spare held m 34 (([c0, c1, c2, c3, c4, c5].drop 0).take (Tryd.prog.cellsOf 34)) = xs[0]? := hg 0 _ rfl
    have g1 : DataW.trod enc Tryd.prog W base spare held m 22 (([c0, c1, c2, c3, c4, c5].drop 1).take (Tryd.prog.cellsOf 22)) = xs[1]? := hg 1 _ rfl
    have g2 : DataW.trod enc Tryd.prog W base spare held m 35 (([c0, c1, c2, c3, c4, c5].drop 5).take (Tryd.prog.cellsOf 35)) = xs[2]? := hg 2 _ rfl
    rw [cells_vars] at g0
    rw [cells_arr4] at g1
    rw [cells_strs] at g2
    obtain ⟨y0, e0⟩ := Option.isSome_iff_exists.1 (OpenD.some_at (l := xs) (i := 0) (by omega))
    obtain ⟨y2, e2⟩ := Option.isSome_iff_exists.1 (OpenD.some_at (l := xs) (i := 2) (by omega))
    rw [e0] at g0
    rw [e2] at g2
    obtain ⟨A, n, cp, vs, rfl, hn, hR, hF, hb⟩ := open_rows_c (v := c0) (f := vrV) (Good := VFit) vrV_length (by decide) cells_var Tryd.underlying34 dec_var_fit g0
    obtain ⟨a, b, c, d, rfl, rfl, rfl, rfl⟩ := dec_arr4 (c0 := c1) (c1 := c2) (c2 := c3) (c3 := c4) g1 (OpenD.some_at (by omega))
    obtain ⟨A', n', c', is, rfl, hS, hSb⟩ := open_strs_c (v := c5) Tryd.underlying35 Tryd.underlying9 OpenD.cells_str g2
    exact ⟨⟨A, n, cp, A', n', c'⟩, ⟨vs, a, b, c, d, is⟩, rfl, ⟨⟨hn, hR⟩, hS, by simp only; omega, hSb⟩, hF⟩
theorem open_v4 (hv : Value.okWide Tryd.prog W r b0 22 v) (h : DataW.Trod enc Tryd.prog W base spare held 22 v d p) : ∃ x : V4, v = v4A x ∧ True := by
  simp only [Value.okWide, Tryd.underlying22] at hv
  obtain ⟨cs, rfl, hsz, _⟩ := hv
  rw [cells_arr4] at hsz
  obtain ⟨fuel, hx⟩ := h
  obtain ⟨l⟩ := cs
  have hl : l.length = 4 := by simpa using hsz
  match l, hl with
  | [c0, c1, c2, c3], _ =>
    obtain ⟨a, b, c, d, rfl, rfl, rfl, rfl⟩ := dec_arr4 (c0 := c0) (c1 := c1) (c2 := c2) (c3 := c3) hx rfl
    exact ⟨⟨a, b, c, d⟩, rfl, trivial⟩
end
end Go.Proofs.YtcfcpbkeedfbpaaDoor
