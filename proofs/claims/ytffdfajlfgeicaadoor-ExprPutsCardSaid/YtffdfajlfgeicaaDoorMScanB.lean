/- ScanProgSpec, ScanFirst, ScanMark, ScanNext, ScanRead, ScanToks, ScanLaid, joined. -/
import Derived.Test.YtffdfajlfgeicaaDoorMScanA
import Derived.Lib.Bytealg
import Derived.Lib.Strings
import Derived.Test.YtffdfajlfgeicaaDoorShelf
import Derived.RegionTactic
import Derived.ChangeAlike
import Derived.Deep.LoopGhost
import Derived.Test.YtffdfajlfgeicaaDoorMKits
import Derived.LaidMore
import Derived.Stop.Joined
namespace Go.Proofs.YtffdfajlfgeicaaDoor
open Go.RowKit ScanSpec

def lowB (n : Int) : Bool := decide (97 ≤ n) && decide (n ≤ 122)
def digB (n : Int) : Bool := decide (48 ≤ n) && decide (n ≤ 57)
def wordB (n : Int) : Bool := (lowB n || digB n) || n == 95
theorem lowB_yes {n : Int} (h1 : 97 ≤ n) (h2 : n ≤ 122) : lowB n = true := by simp [lowB, h1, h2]
theorem lowB_no {n : Int} (h : ¬ (97 ≤ n ∧ n ≤ 122)) : lowB n = false := by simp [lowB]; omega
theorem digB_yes {n : Int} (h1 : 48 ≤ n) (h2 : n ≤ 57) : digB n = true := by simp [digB, h1, h2]
theorem digB_no {n : Int} (h : ¬ (48 ≤ n ∧ n ≤ 57)) : digB n = false := by simp [digB]; omega
theorem word_eq (c : UInt8) : wordB (c.toNat : Int) = isWord c := by
  rcases clsB_val c _ rfl with ⟨h1, h2, hc⟩ | ⟨h1, h2, hc⟩ | ⟨h1, hc⟩ | ⟨h1, hc⟩ | ⟨h1, hc⟩ | ⟨h1, n1, _, _, _, _, _, hc⟩
  all_goals
    unfold isWord wordB lowB digB
    rw [hc]
    rw [Bool.eq_iff_iff]
    simp
    omega
theorem dig_eq (c : UInt8) : digB (c.toNat : Int) = isNum c := by
  rcases clsB_val c _ rfl with ⟨h1, h2, hc⟩ | ⟨h1, h2, hc⟩ | ⟨h1, hc⟩ | ⟨h1, hc⟩ | ⟨h1, hc⟩ | ⟨h1, n1, _, _, _, _, _, hc⟩
  all_goals
    unfold isNum digB
    rw [hc]
    rw [Bool.eq_iff_iff]
    simp
    omega
theorem low_cls {l : List UInt8} {c : UInt8} (h : l[0]? = some c) : lowB (c.toNat : Int) = decide (cls l 0 = 1) := by
  rw [cls_some h]
  rcases clsB_val c _ rfl with ⟨h1, h2, hc⟩ | ⟨h1, h2, hc⟩ | ⟨h1, hc⟩ | ⟨h1, hc⟩ | ⟨h1, hc⟩ | ⟨h1, n1, _, _, _, _, _, hc⟩
  all_goals
    unfold lowB
    rw [hc, Bool.eq_iff_iff]
    simp
    omega
theorem dig_cls {l : List UInt8} {c : UInt8} (h : l[0]? = some c) : digB (c.toNat : Int) = decide (cls l 0 = 2) := by
  rw [cls_some h, dig_eq]; rfl
/-- Behind a run of digits: a byte of a name is one that is no digit. -/
theorem num_then {l : List UInt8} : (cls l (run isNum l) = 1 ∨ cls l (run isNum l) = 3) ↔ ∃ c, l[run isNum l]? = some c ∧ isWord c = true := by
  have hno : ∀ c, l[run isNum l]? = some c → isNum c = false := by
    induction l with
    | nil => simp
    | cons a t ih =>
      intro c hc
      rw [run] at hc
      split at hc
      · exact ih c (by simpa using hc)
      · rename_i h
        simp at hc; subst hc; simpa using h
  constructor
  · intro h
    have h1 : 1 ≤ cls l (run isNum l) := by omega
    obtain ⟨c, hc, hw⟩ := isWord_cls h1 (by omega)
    exact ⟨c, hc, hw⟩
  · rintro ⟨c, hc, hw⟩
    have hn := hno c hc
    rw [cls_some hc]
    simp only [isWord, isNum, Bool.and_eq_true, decide_eq_true_eq, decide_eq_false_iff_not] at hw hn
    omega

/-- The marks of one byte. -/
def singlesL : List UInt8 := [123, 125, 91, 93, 40, 41, 44, 59, 61, 60, 62, 43, 45, 42, 47]
abbrev singlesS : ByteArray := ⟨#[123, 125, 91, 93, 40, 41, 44, 59, 61, 60, 62, 43, 45, 42, 47]⟩
theorem marks_parts : marks = marks.take 7 ++ singlesL.map (fun x => [x]) := by decide
theorem idx_cons (b c : UInt8) (l : List UInt8) : 0 ≤ Lib.indexByte (b :: l) c ↔ (b = c ∨ 0 ≤ Lib.indexByte l c) := by
  rw [Lib.indexByte]
  have := Lib.indexByte_ge l c
  by_cases h : b = c
  · subst h; simp
  · have h' : (b == c) = false := by simpa using h
    rw [h']
    simp only [Bool.false_eq_true, if_false, h, false_or]
    split
    · rename_i h1
      simp at h1
      omega
    · rename_i h1
      simp at h1
      omega
theorem single_find (S : List UInt8) (c : UInt8) (t : List UInt8) : ((S.map fun x => [x]).find? fun m => m.isPrefixOf (c :: t)) = if 0 ≤ Lib.indexByte S c then some [c] else none := by
  induction S with
  | nil => simp [Lib.indexByte]
  | cons b S ih =>
    rw [List.map_cons, List.find?_cons]
    by_cases h : b = c
    · subst h
      rw [if_pos ((idx_cons b b S).2 (.inl rfl))]
      simp [List.isPrefixOf]
    · have h' : (b == c) = false := by simpa using h
      have e : ([b].isPrefixOf (c :: t)) = false := by simp [List.isPrefixOf, h']
      rw [e]
      simp only
      rw [ih]
      by_cases h2 : 0 ≤ Lib.indexByte S c
      · rw [if_pos h2, if_pos ((idx_cons b c S).2 (.inr h2))]
      · rw [if_neg h2, if_neg (fun h3 => ((idx_cons b c S).1 h3).elim h h2)]
theorem markLen_single {c : UInt8} {t : List UInt8} (h : ∀ y ∈ marks.take 7, y.isPrefixOf (c :: t) = false) : markLen (c :: t) = if 0 ≤ Lib.indexByte singlesL c then 1 else 0 := by
  unfold markLen
  rw [marks_parts, List.find?_append, List.find?_eq_none.2 (fun y hy => by rw [h y hy]; simp), Option.none_or, single_find]
  split
  · rename_i m hm
    split at hm
    · rename_i h1
      cases hm
      rw [if_pos h1]; rfl
    · cases hm
  · rename_i hm
    split at hm
    · cases hm
    · rename_i h1
      rw [if_neg h1]

/-- No line feed. -/
def notNl (c : UInt8) : Bool := !(c.toNat == 10)
theorem remark_len (l : List UInt8) : (if 0 ≤ Lib.indexByte l 10 then Lib.indexByte l 10 else (l.length : Int)) = (run notNl l : Int) := by
  induction l with
  | nil => simp [Lib.indexByte, run]
  | cons b t ih =>
    rw [run, Lib.indexByte]
    have hge := Lib.indexByte_ge t 10
    by_cases h : b = 10
    · subst h
      simp [notNl]
    · have h' : (b == 10) = false := by simpa using h
      have hn : b.toNat ≠ 10 := fun e => h (UInt8.toNat_inj.1 e)
      have hp : notNl b = true := by simp [notNl, hn]
      rw [h', if_pos hp]
      have e : (if (Lib.indexByte t 10 == -1) = true then (-1 : Int) else Lib.indexByte t 10 + 1) = if Lib.indexByte t 10 = -1 then -1 else Lib.indexByte t 10 + 1 := by
        by_cases h1 : Lib.indexByte t 10 = -1
        · rw [if_pos h1, if_pos (by simpa using h1)]
        · rw [if_neg h1, if_neg (by simpa using h1)]
      simp only [Bool.false_eq_true, if_false, List.length_cons]
      rw [e]
      by_cases h1 : Lib.indexByte t 10 = -1
      · rw [if_pos h1]
        rw [if_neg (by omega)] at ih
        rw [if_neg (by decide)]
        omega
      · rw [if_neg h1]
        rw [if_pos (by omega)] at ih
        rw [if_pos (by omega)]
        omega
theorem run_first {p : UInt8 → Bool} {l : List UInt8} : ∀ j, j < run p l → ∃ c, l[j]? = some c ∧ p c = true := by
  induction l with
  | nil => intro j h; simp [run] at h
  | cons a t ih =>
    intro j h
    rw [run] at h
    split at h
    · rename_i ha
      cases j with
      | zero => exact ⟨a, rfl, ha⟩
      | succ j => exact ih j (by omega)
    · omega
theorem run_end {p : UInt8 → Bool} {l : List UInt8} {c : UInt8} (h : l[run p l]? = some c) : p c = false := by
  induction l with
  | nil => simp at h
  | cons a t ih =>
    rw [run] at h
    split at h
    · exact ih (by simpa using h)
    · rename_i ha
      simp at h; subst h; simpa using ha
/-- Bytes that are no line feeds are gone past within the line. -/
theorem pos_along {l : List UInt8} {j : Nat} : ∀ n, (∀ k, k < n → ∃ c, l[j + k]? = some c ∧ c.toNat ≠ 10) → pos l (j + n) = ((pos l j).1, (pos l j).2 + n)
  | 0, _ => by simp
  | n + 1, h => by
    obtain ⟨c, hc, h10⟩ := h n (by omega)
    rw [← Nat.add_assoc, pos_next hc, if_neg h10, pos_along n (fun k hk => h k (by omega))]
    ext
    · rfl
    · simp; omega
theorem rem_run {l : List UInt8} {j : Nat} : ∀ n, (∀ k, k < n → ∃ c, l[j + k]? = some c ∧ c.toNat ≠ 10) → rem l (j + n) = rem l j
  | 0, _ => rfl
  | n + 1, h => by
    obtain ⟨c, hc, h10⟩ := h n (by omega)
    rw [← Nat.add_assoc, rem_next hc h10, rem_run n (fun k hk => h k (by omega))]
theorem remark_bytes {l : List UInt8} {j : Nat} : ∀ k, k < run notNl (l.drop j) → ∃ c, l[j + k]? = some c ∧ c.toNat ≠ 10 := by
  intro k hk
  obtain ⟨c, hc, hp⟩ := run_first k hk
  rw [List.getElem?_drop] at hc
  exact ⟨c, hc, by simpa [notNl] using hp⟩
/-- A remark is gone past. -/
theorem gap_past {l : List UInt8} {j : Nat} (h : cls l j = 5) : gap l (j + run notNl (l.drop j)) = gap l j ∧ pos l (j + run notNl (l.drop j)) = ((pos l j).1, (pos l j).2 + (run notNl (l.drop j) : Nat)) := by
  refine ⟨?_, pos_along _ remark_bytes⟩
  have h1 := rem_run _ (remark_bytes (l := l) (j := j))
  rw [← gap_remark h, ← h1]
  rcases hc : l[j + run notNl (l.drop j)]? with _ | c
  · exact (rem_end (List.getElem?_eq_none_iff.1 hc)).symm
  · rw [← List.getElem?_drop] at hc
    have := run_end hc
    rw [List.getElem?_drop] at hc
    exact (rem_line hc (by simpa [notNl] using this)).symm
theorem cls_5_run {l : List UInt8} {j : Nat} (h : cls l j = 5) : 1 ≤ run notNl (l.drop j) := by
  unfold cls at h
  split at h
  · rename_i c hc
    exact run_pos hc (by simp [notNl, clsB_35 h])
  · simp at h
/-- In a token there is no line feed. -/
theorem one_noline {l : List UInt8} {j ln : Nat} {kd : Int} (h : one (l.drop j) = (kd, ln, 0)) : ∀ k, k < ln → ∃ c, l[j + k]? = some c ∧ c.toNat ≠ 10 := by
  intro k hk
  have word : ∀ {n : Nat}, k < n → n = run isWord (l.drop j) → ∃ c, l[j + k]? = some c ∧ c.toNat ≠ 10 := by
    intro n hn e
    subst e
    obtain ⟨c, hc, hp⟩ := run_first k hn
    rw [List.getElem?_drop] at hc
    refine ⟨c, hc, fun e => ?_⟩
    rw [← word_eq, e] at hp
    exact absurd hp (by decide)
  have num : ∀ {n : Nat}, k < n → n = run isNum (l.drop j) → ∃ c, l[j + k]? = some c ∧ c.toNat ≠ 10 := by
    intro n hn e
    subst e
    obtain ⟨c, hc, hp⟩ := run_first k hn
    rw [List.getElem?_drop] at hc
    refine ⟨c, hc, fun e => ?_⟩
    rw [← dig_eq, e] at hp
    exact absurd hp (by decide)
  unfold one at h
  split at h
  · split at h
    · cases h
    · simp only [Prod.mk.injEq] at h
      exact word hk h.2.1.symm
  · split at h
    · split at h
      · cases h
      · split at h
        · cases h
        · simp only [Prod.mk.injEq] at h
          exact num hk h.2.1.symm
    · split at h
      · cases h
      · simp only [Prod.mk.injEq] at h
        obtain ⟨-, h, -⟩ := h
        subst h
        unfold markLen at hk
        cases hf : marks.find? fun m => m.isPrefixOf (l.drop j) with
        | none => rw [hf] at hk; simp at hk
        | some m =>
          rw [hf] at hk
          have hm := List.mem_of_find?_eq_some hf
          have hp := List.find?_some hf
          rw [List.isPrefixOf_iff_prefix] at hp
          obtain ⟨t, ht⟩ := hp
          have hc : l[j + k]? = some m[k] := by
            rw [← List.getElem?_drop, ← ht, List.getElem?_append_left hk, List.getElem?_eq_getElem hk]
          have all : ∀ y ∈ marks, ∀ x ∈ y, x.toNat ≠ 10 := by decide
          exact ⟨_, hc, all m hm _ (List.getElem_mem hk)⟩
theorem txt_ne {s : ByteArray} (h : 0 < s.size) : s.toList.isEmpty = false := by
  have e : s.toList.length = s.size := by rw [ByteArray.toList_eq]; rfl
  cases h' : s.toList with
  | nil => rw [h'] at e; simp at e; omega
  | cons a l => rfl
theorem extract_drop (s : ByteArray) (j : Nat) : (s.extract j s.size).data.toList = s.data.toList.drop j := by
  rw [ByteArray.data_extract, Array.toList_extract, List.extract_eq_take_drop]
  rw [List.take_of_length_le]
  rw [List.length_drop, size_list']
  exact Nat.le_refl _
theorem extract_extract (s : ByteArray) (j n : Nat) : (s.extract j s.size).extract n (s.extract j s.size).size = s.extract (j + n) s.size := by
  apply ByteArray.ext
  apply Array.toList_inj.mp
  rw [extract_drop, extract_drop, extract_drop, List.drop_drop]
theorem extract_head (s : ByteArray) (j n : Nat) (h : j + n ≤ s.size) : (s.extract j s.size).extract 0 n = s.extract j (j + n) := by
  apply ByteArray.ext
  apply Array.toList_inj.mp
  rw [ByteArray.data_extract, Array.toList_extract, List.extract_eq_take_drop, extract_drop, ByteArray.data_extract, Array.toList_extract, List.extract_eq_take_drop, List.drop_zero]
  congr 1
  omega
theorem extract_all (s : ByteArray) : s.extract 0 s.size = s := by
  apply ByteArray.ext
  apply Array.toList_inj.mp
  rw [extract_drop]; rfl
theorem extract_size' (s : ByteArray) (j : Nat) : (s.extract j s.size).size = s.size - j := by
  rw [← size_list', extract_drop, List.length_drop, size_list']
end Go.Proofs.YtffdfajlfgeicaaDoor

namespace Go.Proofs.YtffdfajlfgeicaaDoor
open Go.RowKit ScanSpec
set_option maxRecDepth 100000

theorem letter_any (n : Int) (w : World) : Calls Tryd.prog 83 #[.int .u8 n] w fun e w' => e = .returned (.bool (lowB n)) ∧ w = w' := by
  by_cases h1 : 97 ≤ n
  · by_cases h2 : n ≤ 122
    · have HV := Lib.hid (lowB_yes h1 h2)
      go_enter Tryd.func83, Tryd.ntmps83
      go_wp2
      go_ret
      exact ⟨ret_bool HV.out.symm, rfl⟩
    · have HV := Lib.hid (lowB_no (n := n) (by omega))
      have h2' : decide (n ≤ 122) = false := decide_eq_false h2
      clear h2
      go_enter Tryd.func83, Tryd.ntmps83
      go_wp2
      go_ret
      exact ⟨ret_bool HV.out.symm, rfl⟩
  · have HV := Lib.hid (lowB_no (n := n) (by omega))
    have h1' : decide (97 ≤ n) = false := decide_eq_false h1
    clear h1
    go_enter Tryd.func83, Tryd.ntmps83
    go_wp2
    go_ret
    exact ⟨ret_bool HV.out.symm, rfl⟩
theorem digit_any (n : Int) (w : World) : Calls Tryd.prog 85 #[.int .u8 n] w fun e w' => e = .returned (.bool (digB n)) ∧ w = w' := by
  by_cases h1 : 48 ≤ n
  · by_cases h2 : n ≤ 57
    · have HV := Lib.hid (digB_yes h1 h2)
      go_enter Tryd.func85, Tryd.ntmps85
      go_wp2
      go_ret
      exact ⟨ret_bool HV.out.symm, rfl⟩
    · have HV := Lib.hid (digB_no (n := n) (by omega))
      have h2' : decide (n ≤ 57) = false := decide_eq_false h2
      clear h2
      go_enter Tryd.func85, Tryd.ntmps85
      go_wp2
      go_ret
      exact ⟨ret_bool HV.out.symm, rfl⟩
  · have HV := Lib.hid (digB_no (n := n) (by omega))
    have h1' : decide (48 ≤ n) = false := decide_eq_false h1
    clear h1
    go_enter Tryd.func85, Tryd.ntmps85
    go_wp2
    go_ret
    exact ⟨ret_bool HV.out.symm, rfl⟩
theorem inName_any (n : Int) (w : World) : Calls Tryd.prog 100 #[.int .u8 n] w fun e w' => e = .returned (.bool (wordB n)) ∧ w = w' := by
  have HW : Hid (wordB n = ((lowB n || digB n) || n == 95)) := Lib.hid rfl
  rcases hl : lowB n with _ | _
  · rcases hd : digB n with _ | _
    · have HL := Lib.hid (fun w => letter_any n w)
      have HD := Lib.hid (fun w => digit_any n w)
      rw [hl, hd] at HW
      rw [hl] at HL
      rw [hd] at HD
      clear hl hd
      go_enter Tryd.func100, Tryd.ntmps100
      go_wp2_with (first | (go_at_call 83; refine (HL.out _).mono ?_; rintro e w' ⟨rfl, rfl⟩) | (go_at_call 85; refine (HD.out _).mono ?_; rintro e w' ⟨rfl, rfl⟩))
      go_ret
      exact ⟨ret_bool (by rw [HW.out]; rfl), rfl⟩
    · have HL := Lib.hid (fun w => letter_any n w)
      have HD := Lib.hid (fun w => digit_any n w)
      rw [hl, hd] at HW
      rw [hl] at HL
      rw [hd] at HD
      clear hl hd
      go_enter Tryd.func100, Tryd.ntmps100
      go_wp2_with (first | (go_at_call 83; refine (HL.out _).mono ?_; rintro e w' ⟨rfl, rfl⟩) | (go_at_call 85; refine (HD.out _).mono ?_; rintro e w' ⟨rfl, rfl⟩))
      go_ret
      exact ⟨ret_bool (by rw [HW.out]; rfl), rfl⟩
  · have HL := Lib.hid (fun w => letter_any n w)
    rw [hl] at HW HL
    clear hl
    go_enter Tryd.func100, Tryd.ntmps100
    go_wp2_with (go_at_call 83; refine (HL.out _).mono ?_; rintro e w' ⟨rfl, rfl⟩)
    go_ret
    exact ⟨ret_bool (by rw [HW.out]; rfl), rfl⟩

def RunSz (l : List UInt8) (p : UInt8 → Bool) (v : Value) : Prop := ∃ k : Nat, k ≤ l.length ∧ v = .int .i64 k ∧ k + run p (l.drop k) = run p l
set_option maxHeartbeats 1000000 in
theorem run_word (s : ByteArray) (w : World) (hs : s.size ≤ 9223372036854775807) :
    Calls Tryd.prog 99 #[.string s, .func (.func 100) #[] #[]] w fun e w' => e = .returned (.int .i64 (run isWord s.data.toList)) ∧ w = w' := by
  have HF := Lib.hid (fun (c : UInt8) (w : World) => (by rw [← word_eq]; exact inName_any _ w : Calls Tryd.prog 100 #[.int .u8 c.toNat] w fun e w' => e = .returned (.bool (isWord c)) ∧ w = w'))
  go_enter Tryd.func99, Tryd.ntmps99
  go_wp2
  go_loop [5] (fun v => RunSz s.data.toList isWord v) (fun v => s.size - (intOf v).toNat)
  case atStart => exact ⟨0, Nat.zero_le _, rfl, by simp⟩
  case round =>
    obtain ⟨k, hk, rfl, hr⟩ := hrel
    rw [size_list'] at hk
    have HR := Lib.hid hr
    clear hr
    by_cases hlt : k < s.size
    · have hck := byte_at' s k hlt
      rcases hp : isWord s[k] with _ | _
      · have HC := Lib.hid (fun w => HF.out s[k] w)
        rw [hp] at HC
        have HE : Hid ((run isWord s.data.toList : Int) = (k : Int)) := Lib.hid (by
          have := run_stop (p := isWord) (l := s.data.toList) (i := k) (fun c hc => by rw [hck] at hc; cases hc; exact hp)
          have := HR.out
          omega)
        clear hp hck
        go_wp2_with (go_at_call 100; refine (HC.out _).mono ?_; rintro e w' ⟨rfl, rfl⟩)
        go_ret
        exact ⟨ret_int HE.out.symm, rfl⟩
      · have HC := Lib.hid (fun w => HF.out s[k] w)
        rw [hp] at HC
        have HN : Hid (RunSz s.data.toList isWord (.int .i64 ((k : Int) + 1))) := Lib.hid ⟨k + 1, by rw [size_list']; omega, by simp, (run_next hck hp).trans HR.out⟩
        clear hp hck
        go_wp2_with (go_at_call 100; refine (HC.out _).mono ?_; rintro e w' ⟨rfl, rfl⟩)
        go_round
        case rel => exact HN.out
        case measure => simp [intOf]; omega
    · have HE : Hid ((run isWord s.data.toList : Int) = (k : Int)) := Lib.hid (by
        have := run_stop (p := isWord) (l := s.data.toList) (i := k) (fun c hc => by have := get_lt hc; rw [size_list'] at this; omega)
        have := HR.out
        omega)
      have hd : decide (k < s.size) = false := decide_eq_false hlt
      go_wp2_with fail
      go_ret
      exact ⟨ret_int HE.out.symm, rfl⟩
set_option maxHeartbeats 1000000 in
theorem run_num (s : ByteArray) (w : World) (hs : s.size ≤ 9223372036854775807) :
    Calls Tryd.prog 99 #[.string s, .func (.func 85) #[] #[]] w fun e w' => e = .returned (.int .i64 (run isNum s.data.toList)) ∧ w = w' := by
  have HF := Lib.hid (fun (c : UInt8) (w : World) => (by rw [← dig_eq]; exact digit_any _ w : Calls Tryd.prog 85 #[.int .u8 c.toNat] w fun e w' => e = .returned (.bool (isNum c)) ∧ w = w'))
  go_enter Tryd.func99, Tryd.ntmps99
  go_wp2
  go_loop [5] (fun v => RunSz s.data.toList isNum v) (fun v => s.size - (intOf v).toNat)
  case atStart => exact ⟨0, Nat.zero_le _, rfl, by simp⟩
  case round =>
    obtain ⟨k, hk, rfl, hr⟩ := hrel
    rw [size_list'] at hk
    have HR := Lib.hid hr
    clear hr
    by_cases hlt : k < s.size
    · have hck := byte_at' s k hlt
      rcases hp : isNum s[k] with _ | _
      · have HC := Lib.hid (fun w => HF.out s[k] w)
        rw [hp] at HC
        have HE : Hid ((run isNum s.data.toList : Int) = (k : Int)) := Lib.hid (by
          have := run_stop (p := isNum) (l := s.data.toList) (i := k) (fun c hc => by rw [hck] at hc; cases hc; exact hp)
          have := HR.out
          omega)
        clear hp hck
        go_wp2_with (go_at_call 85; refine (HC.out _).mono ?_; rintro e w' ⟨rfl, rfl⟩)
        go_ret
        exact ⟨ret_int HE.out.symm, rfl⟩
      · have HC := Lib.hid (fun w => HF.out s[k] w)
        rw [hp] at HC
        have HN : Hid (RunSz s.data.toList isNum (.int .i64 ((k : Int) + 1))) := Lib.hid ⟨k + 1, by rw [size_list']; omega, by simp, (run_next hck hp).trans HR.out⟩
        clear hp hck
        go_wp2_with (go_at_call 85; refine (HC.out _).mono ?_; rintro e w' ⟨rfl, rfl⟩)
        go_round
        case rel => exact HN.out
        case measure => simp [intOf]; omega
    · have HE : Hid ((run isNum s.data.toList : Int) = (k : Int)) := Lib.hid (by
        have := run_stop (p := isNum) (l := s.data.toList) (i := k) (fun c hc => by have := get_lt hc; rw [size_list'] at this; omega)
        have := HR.out
        omega)
      have hd : decide (k < s.size) = false := decide_eq_false hlt
      go_wp2_with fail
      go_ret
      exact ⟨ret_int HE.out.symm, rfl⟩
end Go.Proofs.YtffdfajlfgeicaaDoor

namespace Go.Proofs.YtffdfajlfgeicaaDoor
open Go.RowKit ScanSpec
set_option maxRecDepth 100000

/-- The table of marks of two bytes holds what it was laid with. -/
def pairsV : Array Value := #[.string ⟨#[45, 62]⟩, .string ⟨#[58, 61]⟩, .string ⟨#[60, 61]⟩, .string ⟨#[62, 61]⟩, .string ⟨#[33, 61]⟩, .string ⟨#[61, 61]⟩, .string ⟨#[46, 46]⟩]
def PairsIn (w : World) : Prop := ∃ T fr, w.heap[1]? = some (.cells pairsV T fr)
theorem PairsIn.pos {w : World} (h : PairsIn w) : 1 < w.heap.size := by
  obtain ⟨T, fr, h⟩ := h
  exact (Array.getElem?_eq_some_iff.1 h).1
theorem PairsIn.keep {w w' : World} (h : PairsIn w) (hb : Below w.heap.size w w') : PairsIn w' := by
  have hp := h.pos
  obtain ⟨T, fr, h⟩ := h
  exact ⟨T, fr, (hb.block _ hp).trans h⟩
theorem PairsIn.alloc {w : World} (h : PairsIn w) (o : Obj) : PairsIn (w.alloc o) := h.keep ((Below.refl _ _).alloc (Nat.le_refl _) _)
theorem PairsIn.cell {w : World} (h : PairsIn w) {i : Nat} {v : Value} (hi : pairsV[i]? = some v) : w.cell? ⟨1, i, none⟩ = some v := by
  obtain ⟨T, fr, h⟩ := h
  simp [World.cell?, h, hi]

theorem ret3 {a b c a' b' c' : Int} (h : (a, b, c) = (a', b', c')) : Ending.returned (.tuple #[.int .i64 a, .int .i64 b, .int .i64 c]) = .returned (.tuple #[.int .i64 a', .int .i64 b', .int .i64 c']) := by
  cases h; rfl
theorem byte_u8 (c : UInt8) : ((c.toNat : Int)).toNat.toUInt8 = c := by simp

def PairRel (d : List UInt8) (v : Value) : Prop := ∃ j : Int, 0 ≤ j ∧ j ≤ 7 ∧ v = .int .i64 j ∧ ∀ y ∈ marks.take j.toNat, y.isPrefixOf d = false
def MarkPost (d : List UInt8) (w : World) (e : Ending) (w' : World) : Prop :=
  ∃ kd ln er : Int, (kd, ln, er) = (if markLen d = 0 then (0, 0, 2) else (3, (markLen d : Int), 0)) ∧ e = .returned (.tuple #[.int .i64 kd, .int .i64 ln, .int .i64 er]) ∧ w = w'
theorem pair_next {d : List UInt8} {n : Nat} {m : List UInt8} (h : ∀ y ∈ marks.take n, y.isPrefixOf d = false) (hm : marks[n]? = some m) (hf : m.isPrefixOf d = false) : ∀ y ∈ marks.take (n + 1), y.isPrefixOf d = false := by
  intro y hy
  rw [take_next hm, List.mem_append, List.mem_singleton] at hy
  rcases hy with hy | rfl
  · exact h y hy
  · exact hf
theorem pair_hit {d : List UInt8} {w : World} {n : Nat} {m : List UInt8} (h : ∀ y ∈ marks.take n, y.isPrefixOf d = false) (hm : marks[n]? = some m) (hf : m.isPrefixOf d = true) (hl : m.length = 2) :
    MarkPost d w (.returned (.tuple #[.int .i64 3, .int .i64 2, .int .i64 0])) w := by
  have := mark_hit hm h hf
  refine ⟨_, _, _, ?_, rfl, rfl⟩
  rw [this, hl]; rfl

theorem ty_string : ∀ h, (Tryd.prog.types[9]'h).size = 1 := fun _ => by kernel_rfl
set_option maxHeartbeats 4000000 in
theorem mark_any (s : ByteArray) (w : World) (hp : PairsIn w) (h0 : 0 < s.size) (hs : s.size ≤ 9223372036854775807) :
    Calls Tryd.prog 87 #[.string s] w (MarkPost s.data.toList w) := by
  have c0 : w.cell? ⟨1, 0, none⟩ = some (.string ⟨#[45, 62]⟩) := hp.cell (i := 0) rfl
  have c1 : w.cell? ⟨1, 1, none⟩ = some (.string ⟨#[58, 61]⟩) := hp.cell (i := 1) rfl
  have c2 : w.cell? ⟨1, 2, none⟩ = some (.string ⟨#[60, 61]⟩) := hp.cell (i := 2) rfl
  have c3 : w.cell? ⟨1, 3, none⟩ = some (.string ⟨#[62, 61]⟩) := hp.cell (i := 3) rfl
  have c4 : w.cell? ⟨1, 4, none⟩ = some (.string ⟨#[33, 61]⟩) := hp.cell (i := 4) rfl
  have c5 : w.cell? ⟨1, 5, none⟩ = some (.string ⟨#[61, 61]⟩) := hp.cell (i := 5) rfl
  have c6 : w.cell? ⟨1, 6, none⟩ = some (.string ⟨#[46, 46]⟩) := hp.cell (i := 6) rfl
  have hp0 := hp.pos
  go_enter Tryd.func87, Tryd.ntmps87
  go_wp2_with fail
  clear c0 c1 c2 c3 c4 c5 c6
  go_loop [8] (fun v => PairRel s.data.toList v) (fun v => 7 - (intOf v).toNat)
  case atStart => exact ⟨0, by omega, by omega, rfl, by simp⟩
  case round =>
    obtain ⟨j, hj0, hj7, rfl, hno⟩ := hrel
    have HN := Lib.hid hno
    clear hno
    rcases (show j = 0 ∨ j = 1 ∨ j = 2 ∨ j = 3 ∨ j = 4 ∨ j = 5 ∨ j = 6 ∨ j = 7 by omega) with rfl | rfl | rfl | rfl | rfl | rfl | rfl | rfl
    · have hx : ∀ w : World, (Instr.index 124 (.agg #[.string ⟨#[45, 62]⟩, .string ⟨#[58, 61]⟩, .string ⟨#[60, 61]⟩, .string ⟨#[62, 61]⟩, .string ⟨#[33, 61]⟩, .string ⟨#[61, 61]⟩, .string ⟨#[46, 46]⟩]) (.int .i64 0)).run Tryd.prog w = .ok (.string ⟨#[45, 62]⟩) w := fun _ => by kernel_rfl
      have HC := Lib.hid (fun w => Tryd.strings_HasPrefix s ⟨#[45, 62]⟩ w)
      rcases hf : Lib.hasPrefix s.data.toList (⟨#[45, 62]⟩ : ByteArray).data.toList with _ | _
      · have HR : Hid (PairRel s.data.toList (.int .i64 1)) := Lib.hid ⟨1, by omega, by omega, rfl, pair_next HN.out (m := [45, 62]) rfl hf⟩
        rw [hf] at HC
        clear hf
        go_wp2_with (go_at_call 101; refine (HC.out _).mono ?_; rintro e w' ⟨rfl, rfl⟩)
        go_round
        case rel => exact HR.out
        case measure => decide
      · have HR : Hid (MarkPost s.data.toList w (.returned (.tuple #[.int .i64 3, .int .i64 2, .int .i64 0])) w) := Lib.hid (pair_hit HN.out (m := [45, 62]) rfl hf rfl)
        rw [hf] at HC
        clear hf
        go_wp2_with (go_at_call 101; refine (HC.out _).mono ?_; rintro e w' ⟨rfl, rfl⟩)
        go_ret3
        exact HR.out
    · have hx : ∀ w : World, (Instr.index 124 (.agg #[.string ⟨#[45, 62]⟩, .string ⟨#[58, 61]⟩, .string ⟨#[60, 61]⟩, .string ⟨#[62, 61]⟩, .string ⟨#[33, 61]⟩, .string ⟨#[61, 61]⟩, .string ⟨#[46, 46]⟩]) (.int .i64 1)).run Tryd.prog w = .ok (.string ⟨#[58, 61]⟩) w := fun _ => by kernel_rfl
      have HC := Lib.hid (fun w => Tryd.strings_HasPrefix s ⟨#[58, 61]⟩ w)
      rcases hf : Lib.hasPrefix s.data.toList (⟨#[58, 61]⟩ : ByteArray).data.toList with _ | _
      · have HR : Hid (PairRel s.data.toList (.int .i64 2)) := Lib.hid ⟨2, by omega, by omega, rfl, pair_next HN.out (m := [58, 61]) rfl hf⟩
        rw [hf] at HC
        clear hf
        go_wp2_with (go_at_call 101; refine (HC.out _).mono ?_; rintro e w' ⟨rfl, rfl⟩)
        go_round
        case rel => exact HR.out
        case measure => decide
      · have HR : Hid (MarkPost s.data.toList w (.returned (.tuple #[.int .i64 3, .int .i64 2, .int .i64 0])) w) := Lib.hid (pair_hit HN.out (m := [58, 61]) rfl hf rfl)
        rw [hf] at HC
        clear hf
        go_wp2_with (go_at_call 101; refine (HC.out _).mono ?_; rintro e w' ⟨rfl, rfl⟩)
        go_ret3
        exact HR.out
    · have hx : ∀ w : World, (Instr.index 124 (.agg #[.string ⟨#[45, 62]⟩, .string ⟨#[58, 61]⟩, .string ⟨#[60, 61]⟩, .string ⟨#[62, 61]⟩, .string ⟨#[33, 61]⟩, .string ⟨#[61, 61]⟩, .string ⟨#[46, 46]⟩]) (.int .i64 2)).run Tryd.prog w = .ok (.string ⟨#[60, 61]⟩) w := fun _ => by kernel_rfl
      have HC := Lib.hid (fun w => Tryd.strings_HasPrefix s ⟨#[60, 61]⟩ w)
      rcases hf : Lib.hasPrefix s.data.toList (⟨#[60, 61]⟩ : ByteArray).data.toList with _ | _
      · have HR : Hid (PairRel s.data.toList (.int .i64 3)) := Lib.hid ⟨3, by omega, by omega, rfl, pair_next HN.out (m := [60, 61]) rfl hf⟩
        rw [hf] at HC
        clear hf
        go_wp2_with (go_at_call 101; refine (HC.out _).mono ?_; rintro e w' ⟨rfl, rfl⟩)
        go_round
        case rel => exact HR.out
        case measure => decide
      · have HR : Hid (MarkPost s.data.toList w (.returned (.tuple #[.int .i64 3, .int .i64 2, .int .i64 0])) w) := Lib.hid (pair_hit HN.out (m := [60, 61]) rfl hf rfl)
        rw [hf] at HC
        clear hf
        go_wp2_with (go_at_call 101; refine (HC.out _).mono ?_; rintro e w' ⟨rfl, rfl⟩)
        go_ret3
        exact HR.out
    · have hx : ∀ w : World, (Instr.index 124 (.agg #[.string ⟨#[45, 62]⟩, .string ⟨#[58, 61]⟩, .string ⟨#[60, 61]⟩, .string ⟨#[62, 61]⟩, .string ⟨#[33, 61]⟩, .string ⟨#[61, 61]⟩, .string ⟨#[46, 46]⟩]) (.int .i64 3)).run Tryd.prog w = .ok (.string ⟨#[62, 61]⟩) w := fun _ => by kernel_rfl
      have HC := Lib.hid (fun w => Tryd.strings_HasPrefix s ⟨#[62, 61]⟩ w)
      rcases hf : Lib.hasPrefix s.data.toList (⟨#[62, 61]⟩ : ByteArray).data.toList with _ | _
      · have HR : Hid (PairRel s.data.toList (.int .i64 4)) := Lib.hid ⟨4, by omega, by omega, rfl, pair_next HN.out (m := [62, 61]) rfl hf⟩
        rw [hf] at HC
        clear hf
        go_wp2_with (go_at_call 101; refine (HC.out _).mono ?_; rintro e w' ⟨rfl, rfl⟩)
        go_round
        case rel => exact HR.out
        case measure => decide
      · have HR : Hid (MarkPost s.data.toList w (.returned (.tuple #[.int .i64 3, .int .i64 2, .int .i64 0])) w) := Lib.hid (pair_hit HN.out (m := [62, 61]) rfl hf rfl)
        rw [hf] at HC
        clear hf
        go_wp2_with (go_at_call 101; refine (HC.out _).mono ?_; rintro e w' ⟨rfl, rfl⟩)
        go_ret3
        exact HR.out
    · have hx : ∀ w : World, (Instr.index 124 (.agg #[.string ⟨#[45, 62]⟩, .string ⟨#[58, 61]⟩, .string ⟨#[60, 61]⟩, .string ⟨#[62, 61]⟩, .string ⟨#[33, 61]⟩, .string ⟨#[61, 61]⟩, .string ⟨#[46, 46]⟩]) (.int .i64 4)).run Tryd.prog w = .ok (.string ⟨#[33, 61]⟩) w := fun _ => by kernel_rfl
      have HC := Lib.hid (fun w => Tryd.strings_HasPrefix s ⟨#[33, 61]⟩ w)
      rcases hf : Lib.hasPrefix s.data.toList (⟨#[33, 61]⟩ : ByteArray).data.toList with _ | _
      · have HR : Hid (PairRel s.data.toList (.int .i64 5)) := Lib.hid ⟨5, by omega, by omega, rfl, pair_next HN.out (m := [33, 61]) rfl hf⟩
        rw [hf] at HC
        clear hf
        go_wp2_with (go_at_call 101; refine (HC.out _).mono ?_; rintro e w' ⟨rfl, rfl⟩)
        go_round
        case rel => exact HR.out
        case measure => decide
      · have HR : Hid (MarkPost s.data.toList w (.returned (.tuple #[.int .i64 3, .int .i64 2, .int .i64 0])) w) := Lib.hid (pair_hit HN.out (m := [33, 61]) rfl hf rfl)
        rw [hf] at HC
        clear hf
        go_wp2_with (go_at_call 101; refine (HC.out _).mono ?_; rintro e w' ⟨rfl, rfl⟩)
        go_ret3
        exact HR.out
    · have hx : ∀ w : World, (Instr.index 124 (.agg #[.string ⟨#[45, 62]⟩, .string ⟨#[58, 61]⟩, .string ⟨#[60, 61]⟩, .string ⟨#[62, 61]⟩, .string ⟨#[33, 61]⟩, .string ⟨#[61, 61]⟩, .string ⟨#[46, 46]⟩]) (.int .i64 5)).run Tryd.prog w = .ok (.string ⟨#[61, 61]⟩) w := fun _ => by kernel_rfl
      have HC := Lib.hid (fun w => Tryd.strings_HasPrefix s ⟨#[61, 61]⟩ w)
      rcases hf : Lib.hasPrefix s.data.toList (⟨#[61, 61]⟩ : ByteArray).data.toList with _ | _
      · have HR : Hid (PairRel s.data.toList (.int .i64 6)) := Lib.hid ⟨6, by omega, by omega, rfl, pair_next HN.out (m := [61, 61]) rfl hf⟩
        rw [hf] at HC
        clear hf
        go_wp2_with (go_at_call 101; refine (HC.out _).mono ?_; rintro e w' ⟨rfl, rfl⟩)
        go_round
        case rel => exact HR.out
        case measure => decide
      · have HR : Hid (MarkPost s.data.toList w (.returned (.tuple #[.int .i64 3, .int .i64 2, .int .i64 0])) w) := Lib.hid (pair_hit HN.out (m := [61, 61]) rfl hf rfl)
        rw [hf] at HC
        clear hf
        go_wp2_with (go_at_call 101; refine (HC.out _).mono ?_; rintro e w' ⟨rfl, rfl⟩)
        go_ret3
        exact HR.out
    · have hx : ∀ w : World, (Instr.index 124 (.agg #[.string ⟨#[45, 62]⟩, .string ⟨#[58, 61]⟩, .string ⟨#[60, 61]⟩, .string ⟨#[62, 61]⟩, .string ⟨#[33, 61]⟩, .string ⟨#[61, 61]⟩, .string ⟨#[46, 46]⟩]) (.int .i64 6)).run Tryd.prog w = .ok (.string ⟨#[46, 46]⟩) w := fun _ => by kernel_rfl
      have HC := Lib.hid (fun w => Tryd.strings_HasPrefix s ⟨#[46, 46]⟩ w)
      rcases hf : Lib.hasPrefix s.data.toList (⟨#[46, 46]⟩ : ByteArray).data.toList with _ | _
      · have HR : Hid (PairRel s.data.toList (.int .i64 7)) := Lib.hid ⟨7, by omega, by omega, rfl, pair_next HN.out (m := [46, 46]) rfl hf⟩
        rw [hf] at HC
        clear hf
        go_wp2_with (go_at_call 101; refine (HC.out _).mono ?_; rintro e w' ⟨rfl, rfl⟩)
        go_round
        case rel => exact HR.out
        case measure => decide
      · have HR : Hid (MarkPost s.data.toList w (.returned (.tuple #[.int .i64 3, .int .i64 2, .int .i64 0])) w) := Lib.hid (pair_hit HN.out (m := [46, 46]) rfl hf rfl)
        rw [hf] at HC
        clear hf
        go_wp2_with (go_at_call 101; refine (HC.out _).mono ?_; rintro e w' ⟨rfl, rfl⟩)
        go_ret3
        exact HR.out
    · have HC := Lib.hid (fun w => Tryd.strings_IndexByte singlesS (s[0].toNat : Int) w)
      have hl : s.data.toList = s[0] :: s.data.toList.drop 1 := by
        have := drop_next (byte_at' s 0 h0)
        simpa using this
      have hm : markLen s.data.toList = if (0 : Int) ≤ Lib.indexByte singlesS.data.toList (s[0].toNat : Int).toNat.toUInt8 then 1 else 0 := by
        have h7 : ∀ y ∈ marks.take 7, y.isPrefixOf s.data.toList = false := HN.out
        rw [hl] at h7 ⊢
        rw [markLen_single h7, byte_u8]; rfl
      have HM := Lib.hid hm
      clear hm hl
      obtain ⟨x, hx⟩ : ∃ x, x = Lib.indexByte singlesS.data.toList (s[0].toNat : Int).toNat.toUInt8 := ⟨_, rfl⟩
      rw [← hx] at HC HM
      clear hx
      by_cases hge : 0 ≤ x
      · have HR : Hid (MarkPost s.data.toList w (.returned (.tuple #[.int .i64 3, .int .i64 1, .int .i64 0])) w) := Lib.hid ⟨3, 1, 0, by rw [HM.out, if_pos hge]; rfl, rfl, rfl⟩
        go_wp2_with (go_at_call 98; (with_reducible refine (HC.out _).mono ?_); rintro e w' ⟨rfl, rfl⟩)
        go_ret3
        exact HR.out
      · have HR : Hid (MarkPost s.data.toList w (.returned (.tuple #[.int .i64 0, .int .i64 0, .int .i64 2])) w) := Lib.hid ⟨0, 0, 2, by rw [HM.out, if_neg hge]; rfl, rfl, rfl⟩
        have hlt : x < 0 := by omega
        clear hge
        go_wp2_with (go_at_call 98; (with_reducible refine (HC.out _).mono ?_); rintro e w' ⟨rfl, rfl⟩)
        go_ret3
        exact HR.out
def FirstPost (d : List UInt8) (w : World) (e : Ending) (w' : World) : Prop :=
  ∃ kd er : Int, ∃ ln : Nat, (kd, ln, er) = one d ∧ e = .returned (.tuple #[.int .i64 kd, .int .i64 ln, .int .i64 er]) ∧ w = w'
theorem name_any (s : ByteArray) (w : World) (h1 : cls s.data.toList 0 = 1) (hs : s.size ≤ 9223372036854775807) : Calls Tryd.prog 84 #[.string s] w (FirstPost s.data.toList w) := by
  have HO := Lib.hid (one_name (l := s.data.toList) (i := 0) h1)
  rw [List.drop_zero] at HO
  have HC := Lib.hid (fun w => run_word s w hs)
  have hrl := run_le isWord s.data.toList
  rw [size_list'] at hrl
  obtain ⟨n, hn⟩ : ∃ n, n = run isWord s.data.toList := ⟨_, rfl⟩
  rw [← hn] at HO HC hrl
  clear hn h1
  by_cases hb : 12 < n
  · have HR : Hid (FirstPost s.data.toList w (.returned (.tuple #[.int .i64 0, .int .i64 0, .int .i64 5])) w) := Lib.hid ⟨0, 5, 0, (HO.out.trans (if_pos hb)).symm, rfl, rfl⟩
    have hbI : 12 < (n : Int) := by omega
    go_enter Tryd.func84, Tryd.ntmps84
    go_wp2_with (go_at_call 99; (with_reducible refine (HC.out _).mono ?_); rintro e w' ⟨rfl, rfl⟩)
    go_ret3
    exact HR.out
  · have HR : Hid (FirstPost s.data.toList w (.returned (.tuple #[.int .i64 1, .int .i64 n, .int .i64 0])) w) := Lib.hid ⟨1, 0, n, (HO.out.trans (if_neg hb)).symm, rfl, rfl⟩
    have hbI : (n : Int) ≤ 12 := by omega
    go_enter Tryd.func84, Tryd.ntmps84
    go_wp2_with (go_at_call 99; (with_reducible refine (HC.out _).mono ?_); rintro e w' ⟨rfl, rfl⟩)
    go_ret3
    exact HR.out
set_option maxHeartbeats 1000000 in
theorem number_any (s : ByteArray) (w : World) (h1 : cls s.data.toList 0 = 2) (hs : s.size ≤ 9223372036854775807) : Calls Tryd.prog 86 #[.string s] w (FirstPost s.data.toList w) := by
  have HO := Lib.hid (one_num (l := s.data.toList) (i := 0) h1)
  rw [List.drop_zero, Nat.zero_add] at HO
  have HC := Lib.hid (fun w => run_num s w hs)
  have hrl := run_le isNum s.data.toList
  rw [size_list'] at hrl
  have HT := Lib.hid (num_then (l := s.data.toList))
  obtain ⟨n, hn⟩ : ∃ n, n = run isNum s.data.toList := ⟨_, rfl⟩
  rw [← hn] at HO HC hrl HT
  clear hn h1
  have HE : ∀ hw : ¬ (cls s.data.toList n = 1 ∨ cls s.data.toList n = 3), Hid (one s.data.toList = if 9 < n then (0, 0, 5) else (2, n, 0)) := fun hw => Lib.hid (HO.out.trans (if_neg hw))
  by_cases hlt : n < s.size
  · have hb := byte_at' s n hlt
    have HI := Lib.hid (fun w => inName_any (s[n].toNat : Int) w)
    rcases hw : isWord s[n] with _ | _
    · have HE' := HE (fun h => by
        obtain ⟨c, hc, hc'⟩ := HT.out.1 h
        rw [hb] at hc; cases hc
        rw [hw] at hc'; cases hc')
      rw [word_eq, hw] at HI
      clear hw hb HE
      by_cases h9 : 9 < n
      · have HR : Hid (FirstPost s.data.toList w (.returned (.tuple #[.int .i64 0, .int .i64 0, .int .i64 5])) w) := Lib.hid ⟨0, 5, 0, (HE'.out.trans (if_pos h9)).symm, rfl, rfl⟩
        have hbI : 9 < (n : Int) := by omega
        go_enter Tryd.func86, Tryd.ntmps86
        go_wp2_with (first | (go_at_call 99; (with_reducible refine (HC.out _).mono ?_); rintro e w' ⟨rfl, rfl⟩) | (go_at_call 100; (with_reducible refine (HI.out _).mono ?_); rintro e w' ⟨rfl, rfl⟩))
        go_ret3
        exact HR.out
      · have HR : Hid (FirstPost s.data.toList w (.returned (.tuple #[.int .i64 2, .int .i64 n, .int .i64 0])) w) := Lib.hid ⟨2, 0, n, (HE'.out.trans (if_neg h9)).symm, rfl, rfl⟩
        have hbI : (n : Int) ≤ 9 := by omega
        go_enter Tryd.func86, Tryd.ntmps86
        go_wp2_with (first | (go_at_call 99; (with_reducible refine (HC.out _).mono ?_); rintro e w' ⟨rfl, rfl⟩) | (go_at_call 100; (with_reducible refine (HI.out _).mono ?_); rintro e w' ⟨rfl, rfl⟩))
        go_ret3
        exact HR.out
    · have HR : Hid (FirstPost s.data.toList w (.returned (.tuple #[.int .i64 0, .int .i64 0, .int .i64 2])) w) := Lib.hid ⟨0, 2, 0, (HO.out.trans (if_pos (HT.out.2 ⟨_, hb, hw⟩))).symm, rfl, rfl⟩
      rw [word_eq, hw] at HI
      clear hw hb HE
      go_enter Tryd.func86, Tryd.ntmps86
      go_wp2_with (first | (go_at_call 99; (with_reducible refine (HC.out _).mono ?_); rintro e w' ⟨rfl, rfl⟩) | (go_at_call 100; (with_reducible refine (HI.out _).mono ?_); rintro e w' ⟨rfl, rfl⟩))
      go_ret3
      exact HR.out
  · have HE' := HE (fun h => by
      obtain ⟨c, hc, _⟩ := HT.out.1 h
      have := get_lt hc
      rw [size_list'] at this
      omega)
    have hd : decide (n < s.size) = false := decide_eq_false hlt
    clear HE
    by_cases h9 : 9 < n
    · have HR : Hid (FirstPost s.data.toList w (.returned (.tuple #[.int .i64 0, .int .i64 0, .int .i64 5])) w) := Lib.hid ⟨0, 5, 0, (HE'.out.trans (if_pos h9)).symm, rfl, rfl⟩
      have hbI : 9 < (n : Int) := by omega
      go_enter Tryd.func86, Tryd.ntmps86
      go_wp2_with (go_at_call 99; (with_reducible refine (HC.out _).mono ?_); rintro e w' ⟨rfl, rfl⟩)
      go_ret3
      exact HR.out
    · have HR : Hid (FirstPost s.data.toList w (.returned (.tuple #[.int .i64 2, .int .i64 n, .int .i64 0])) w) := Lib.hid ⟨2, 0, n, (HE'.out.trans (if_neg h9)).symm, rfl, rfl⟩
      have hbI : (n : Int) ≤ 9 := by omega
      go_enter Tryd.func86, Tryd.ntmps86
      go_wp2_with (go_at_call 99; (with_reducible refine (HC.out _).mono ?_); rintro e w' ⟨rfl, rfl⟩)
      go_ret3
      exact HR.out

theorem first_end (w : World) : Calls Tryd.prog 61 #[.string ⟨#[]⟩] w fun e w' => e = .returned (.tuple #[.int .i64 0, .int .i64 0, .int .i64 0]) ∧ w = w' := by
  go_enter Tryd.func61, Tryd.ntmps61
  go_wp2_with fail
  go_ret3
  exact ⟨rfl, rfl⟩
set_option maxHeartbeats 1000000 in
theorem first_any (s : ByteArray) (w : World) (hp : PairsIn w) (h0 : 0 < s.size) (hs : s.size ≤ 9223372036854775807) : Calls Tryd.prog 61 #[.string s] w (FirstPost s.data.toList w) := by
  have hb := byte_at' s 0 h0
  have hne := txt_ne h0
  have hne1 : (s.toList == []) = false := by cases h : s.toList with | nil => rw [h] at hne; cases hne | cons a l => rfl
  have hne2 : ¬ s.toList = [] := by intro h; rw [h] at hne; cases hne
  have HL := Lib.hid (fun w => letter_any (s[0].toNat : Int) w)
  have HD := Lib.hid (fun w => digit_any (s[0].toNat : Int) w)
  rw [low_cls hb] at HL
  rw [dig_cls hb] at HD
  clear hb
  by_cases h1 : cls s.data.toList 0 = 1
  · have HC := Lib.hid (fun w => name_any s w h1 hs)
    rw [decide_eq_true h1] at HL
    clear h1 HD
    go_enter Tryd.func61, Tryd.ntmps61
    go_wp2_with (go_at_call 83; (with_reducible refine (HL.out _).mono ?_); rintro e w' ⟨rfl, rfl⟩)
    refine (HC.out _).mono ?_
    intro e w' h
    obtain ⟨kd, er, ln, hO, rfl, rfl⟩ := h
    have HR : Hid (FirstPost s.data.toList w (.returned (.tuple #[.int .i64 kd, .int .i64 ln, .int .i64 er])) w) := Lib.hid ⟨kd, er, ln, hO, rfl, rfl⟩
    clear hO
    go_wp2_with fail
    go_ret3
    exact HR.out
  · rw [decide_eq_false h1] at HL
    by_cases h2 : cls s.data.toList 0 = 2
    · have HC := Lib.hid (fun w => number_any s w h2 hs)
      rw [decide_eq_true h2] at HD
      clear h1 h2
      go_enter Tryd.func61, Tryd.ntmps61
      go_wp2_with (first | (go_at_call 83; (with_reducible refine (HL.out _).mono ?_); rintro e w' ⟨rfl, rfl⟩) | (go_at_call 85; (with_reducible refine (HD.out _).mono ?_); rintro e w' ⟨rfl, rfl⟩))
      refine (HC.out _).mono ?_
      intro e w' h
      obtain ⟨kd, er, ln, hO, rfl, rfl⟩ := h
      have HR : Hid (FirstPost s.data.toList w (.returned (.tuple #[.int .i64 kd, .int .i64 ln, .int .i64 er])) w) := Lib.hid ⟨kd, er, ln, hO, rfl, rfl⟩
      clear hO
      go_wp2_with fail
      go_ret3
      exact HR.out
    · have HC := Lib.hid (fun w hp => mark_any s w hp h0 hs)
      have HO := Lib.hid (one_mark (l := s.data.toList) (i := 0) h1 h2)
      rw [List.drop_zero] at HO
      rw [decide_eq_false h2] at HD
      clear h1 h2
      go_enter Tryd.func61, Tryd.ntmps61
      go_wp2_with (first | (go_at_call 83; (with_reducible refine (HL.out _).mono ?_); rintro e w' ⟨rfl, rfl⟩) | (go_at_call 85; (with_reducible refine (HD.out _).mono ?_); rintro e w' ⟨rfl, rfl⟩))
      refine (HC.out _ hp).mono ?_
      intro e w' h
      obtain ⟨kd, ln, er, hO, rfl, rfl⟩ := h
      have HR : Hid (FirstPost s.data.toList w (.returned (.tuple #[.int .i64 kd, .int .i64 ln, .int .i64 er])) w) := Lib.hid (by
        have h := HO.out
        by_cases hz : markLen s.data.toList = 0
        · rw [if_pos hz] at hO h
          cases hO
          exact ⟨0, 2, 0, h.symm, rfl, rfl⟩
        · rw [if_neg hz] at hO h
          cases hO
          exact ⟨3, 0, _, h.symm, rfl, rfl⟩)
      clear hO
      go_wp2_with fail
      go_ret3
      exact HR.out

theorem remark_any (s : ByteArray) (w : World) (hs : s.size ≤ 9223372036854775807) : Calls Tryd.prog 82 #[.string s] w fun e w' => e = .returned (.int .i64 (run notNl s.data.toList)) ∧ w = w' := by
  have HC := Lib.hid (fun w => Tryd.strings_IndexByte s 10 w)
  have HL := Lib.hid (remark_len s.data.toList)
  have e10 : (10 : Int).toNat.toUInt8 = 10 := rfl
  rw [e10] at HC
  obtain ⟨x, hx⟩ : ∃ x, x = Lib.indexByte s.data.toList 10 := ⟨_, rfl⟩
  rw [← hx] at HC HL
  clear hx e10
  by_cases hge : 0 ≤ x
  · go_enter Tryd.func82, Tryd.ntmps82
    go_wp2_with (go_at_call 98; (with_reducible refine (HC.out _).mono ?_); rintro e w' ⟨rfl, rfl⟩)
    go_ret
    exact ⟨ret_int (by rw [← HL.out, if_pos hge]), rfl⟩
  · have hlt : x < 0 := by omega
    have HE : Hid ((s.size : Int) = (run notNl s.data.toList : Int)) := Lib.hid (by rw [← HL.out, if_neg hge]; rfl)
    clear hge
    go_enter Tryd.func82, Tryd.ntmps82
    go_wp2_with (go_at_call 98; (with_reducible refine (HC.out _).mono ?_); rintro e w' ⟨rfl, rfl⟩)
    go_ret
    exact ⟨ret_int HE.out, rfl⟩
end Go.Proofs.YtffdfajlfgeicaaDoor

namespace Go.Proofs.YtffdfajlfgeicaaDoor
open Go.RowKit ScanSpec
set_option maxRecDepth 100000

/-- Block B holds a reader: what is left, the line and the byte. -/
def RdrAt (w : World) (B : Nat) (r : ByteArray) (a b : Int) : Prop := w.heap[B]? = some (.cells #[.string r, .int .i64 a, .int .i64 b] 76 (0, 0))
theorem RdrAt.lt {w : World} {B : Nat} {r : ByteArray} {a b : Int} (h : RdrAt w B r a b) : B < w.heap.size := (Array.getElem?_eq_some_iff.1 h).1
def PassPost (w : World) (B : Nat) (r : ByteArray) (n : Nat) (a b : Int) (e : Ending) (w' : World) : Prop := e = .returned (.tuple #[]) ∧ RdrAt w' B (r.extract n r.size) a (b + n) ∧ w.grownBy w' (some B)
set_option maxHeartbeats 1000000 in
theorem pass_any (B : Nat) (r : ByteArray) (n : Nat) (a b : Int) (w : World) (h : RdrAt w B r a b) (hn : n ≤ r.size) (hr : r.size ≤ 9223372036854775807) (hb0 : 0 ≤ b) (hb : b + n ≤ 9223372036854775807) :
    Calls Tryd.prog 62 #[.pointer (some ⟨B, 0, none⟩), .int .i64 n] w (PassPost w B r n a b) := by
  have hI : (n : Int) ≤ (r.size : Int) := by omega
  have h1 : RdrAt (w.setCell ⟨B, 0, none⟩ (.string (r.extract n r.size))) B (r.extract n r.size) a b := by
    have := block_setCell' h 0 (.string (r.extract n r.size))
    exact this
  have h2 : RdrAt ((w.setCell ⟨B, 0, none⟩ (.string (r.extract n r.size))).setCell ⟨B, 2, none⟩ (.int .i64 (b + n))) B (r.extract n r.size) a (b + n) := by
    have := block_setCell' h1 2 (.int .i64 (b + n))
    exact this
  have c0 : w.cell? ⟨B, 0, none⟩ = some (.string r) := cell_of_block' h (i := 0) rfl
  have f0 := free_of_block' h 0
  have c2 : (w.setCell ⟨B, 0, none⟩ (.string (r.extract n r.size))).cell? ⟨B, 2, none⟩ = some (.int .i64 b) := cell_of_block' h1 (i := 2) rfl
  have f2 := free_of_block' h1 2
  have HR : Hid (PassPost w B r n a b (.returned (.tuple #[])) ((w.setCell ⟨B, 0, none⟩ (.string (r.extract n r.size))).setCell ⟨B, 2, none⟩ (.int .i64 (b + n)))) :=
    Lib.hid ⟨rfl, h2, but_set (but_set (but_refl w _) 0 _) 2 _⟩
  clear h h1 h2
  go_enter Tryd.func62, Tryd.ntmps62
  go_wp2_with fail
  go_end0
  exact HR.out

/-- The reader stands at a place of the text. -/
def StandsAt (w : World) (B : Nat) (s : ByteArray) (j : Nat) : Prop := RdrAt w B (s.extract j s.size) (pos s.data.toList j).1 (pos s.data.toList j).2
theorem stands_on {w : World} {B : Nat} {s r : ByteArray} {j n : Nat} {a b : Int} (h : RdrAt w B (r.extract n r.size) a (b + n)) (hr : r = s.extract j s.size) (hp : pos s.data.toList (j + n) = (a, b + n)) : StandsAt w B s (j + n) := by
  subst hr
  rw [extract_extract] at h
  unfold StandsAt
  rw [hp]
  exact h
def SkipRel (w : World) (B : Nat) (s : ByteArray) (i k : Nat) (wr : World) : Prop :=
  ∃ j, j ≤ s.size ∧ k = s.size - j ∧ gap s.data.toList j = gap s.data.toList i ∧ StandsAt wr B s j ∧ w.grownBy wr (some B)
def SkipPost (w : World) (B : Nat) (s : ByteArray) (i : Nat) (e : Ending) (w' : World) : Prop := e = .returned (.tuple #[]) ∧ StandsAt w' B s (gap s.data.toList i) ∧ w.grownBy w' (some B)
theorem skip_stop {w wr : World} {B i j k : Nat} {s : ByteArray} (hk : k = s.size - j) (hg : gap s.data.toList j = gap s.data.toList i) (hR : StandsAt wr B s j) (hb : w.grownBy wr (some B)) (h4 : ¬ cls s.data.toList j = 4) (h5 : ¬ cls s.data.toList j = 5) :
    SkipPost w B s i (.returned (.tuple #[])) wr := by
  rw [gap_stop h4 h5] at hg
  exact ⟨rfl, hg ▸ hR, hb⟩
theorem skip_blank {w wr w2 : World} {B i j k : Nat} {s r : ByteArray} {a b : Int} (hj : j < s.size) (hk : k = s.size - j) (hg : gap s.data.toList j = gap s.data.toList i) (hr : r = s.extract j s.size) (ha : (pos s.data.toList j) = (a, b)) (hb : w.grownBy wr (some B))
    (h4 : cls s.data.toList j = 4) (h10 : ∀ c, s.data.toList[j]? = some c → c.toNat ≠ 10) (h : RdrAt w2 B (r.extract 1 r.size) a (b + (1 : Nat))) (hb2 : wr.grownBy w2 (some B)) : SkipRel w B s i (s.size - (j + 1)) w2 := by
  refine ⟨j + 1, by omega, rfl, (gap_blank h4).trans hg, stands_on h hr ?_, but_trans hb hb2⟩
  have hc := byte_at' s j hj
  rw [pos_next hc, if_neg (h10 _ hc), ha]; rfl
theorem skip_line {w wr w2 : World} {B i j k : Nat} {s r : ByteArray} {a b : Int} (hj : j < s.size) (hk : k = s.size - j) (hg : gap s.data.toList j = gap s.data.toList i) (hr : r = s.extract j s.size) (ha : (pos s.data.toList j) = (a, b)) (hb : w.grownBy wr (some B))
    (h4 : cls s.data.toList j = 4) (h10 : ∀ c, s.data.toList[j]? = some c → c.toNat = 10) (h : RdrAt w2 B (r.extract 1 r.size) (a + 1) 1) (hb2 : wr.grownBy w2 (some B)) : SkipRel w B s i (s.size - (j + 1)) w2 := by
  refine ⟨j + 1, by omega, rfl, (gap_blank h4).trans hg, ?_, but_trans hb hb2⟩
  have hc := byte_at' s j hj
  unfold StandsAt
  rw [pos_next hc, if_pos (h10 _ hc), ha]
  subst hr
  rw [extract_extract] at h
  exact h
theorem skip_remark {w wr w2 : World} {B i j k n : Nat} {s r : ByteArray} {a b : Int} (hj : j < s.size) (hk : k = s.size - j) (hg : gap s.data.toList j = gap s.data.toList i) (hr : r = s.extract j s.size) (ha : (pos s.data.toList j) = (a, b)) (hb : w.grownBy wr (some B))
    (h5 : cls s.data.toList j = 5) (hn : n = run notNl r.data.toList) (h : RdrAt w2 B (r.extract n r.size) a (b + n)) (hb2 : wr.grownBy w2 (some B)) : SkipRel w B s i (s.size - (j + n)) w2 ∧ s.size - (j + n) < k := by
  have h1 := gap_past h5
  have h2 := cls_5_run h5
  have e : run notNl (s.data.toList.drop j) = n := by rw [hn, hr, extract_drop]
  rw [e] at h1 h2
  have hle := run_le notNl (s.data.toList.drop j)
  rw [e, List.length_drop, size_list'] at hle
  exact ⟨⟨j + n, by omega, rfl, h1.1.trans hg, stands_on h hr (by rw [h1.2, ha]), but_trans hb hb2⟩, by omega⟩

set_option maxHeartbeats 4000000 in
theorem skip_any (B i : Nat) (s : ByteArray) (w : World) (hi : i ≤ s.size) (hs : s.size ≤ 9223372036854775800) (h : StandsAt w B s i) : Calls Tryd.prog 60 #[.pointer (some ⟨B, 0, none⟩)] w (SkipPost w B s i) := by
  have HS := Lib.hid h
  clear h
  go_enter Tryd.func60, Tryd.ntmps60
  go_wp2_with fail
  go_loopg [6] (s.size - i) (fun k u wr => SkipRel w B s i k wr)
  case atStart => exact ⟨i, hi, rfl, rfl, HS.out, but_refl _ _⟩
  case round =>
    obtain ⟨j, hj, hk, hg, hR, hb⟩ := hrel
    have hpb := pos_bd s.data.toList j
    obtain ⟨a, ha⟩ : ∃ a, a = (pos s.data.toList j).1 := ⟨_, rfl⟩
    obtain ⟨b, hbb⟩ : ∃ b, b = (pos s.data.toList j).2 := ⟨_, rfl⟩
    have HA : Hid (pos s.data.toList j = (a, b)) := Lib.hid (by rw [ha, hbb])
    rw [← ha, ← hbb] at hpb
    obtain ⟨p1, p2, p3, p4⟩ := hpb
    obtain ⟨r, hr⟩ : ∃ r, r = s.extract j s.size := ⟨_, rfl⟩
    have hsz : r.size = s.size - j := by rw [hr, extract_size']
    have HR : Hid (RdrAt wr B r a b) := Lib.hid (by have := hR; unfold StandsAt at this; rwa [← hr, ← ha, ← hbb] at this)
    have c0 : wr.cell? ⟨B, 0, none⟩ = some (.string r) := cell_of_block' HR.out (i := 0) rfl
    have HSt := Lib.hid hR
    have HG := Lib.hid hg
    have HK := Lib.hid hk
    have HB := Lib.hid hb
    have HRr := Lib.hid hr
    clear ha hbb hR hg hk hb
    by_cases hlt : j < s.size
    · have hrs : 0 < r.size := by omega
      have hrs2 : r.size ≤ 9223372036854775800 := by omega
      have hne := txt_ne hrs
      have hb0 : s.data.toList[j]? = some r[0] := by
        have := byte_at' r 0 hrs
        rw [← this]
        subst hr
        rw [extract_drop, List.getElem?_drop]; rfl
      have HB0 := Lib.hid hb0
      have hcl := Lib.hid (cls_some hb0)
      have hsj : r.size + j ≤ s.size := by omega
      clear hb0 hr hsz
      have hv := clsB_val r[0] _ rfl
      rcases hv with ⟨h1, h2, hc⟩ | ⟨h1, h2, hc⟩ | ⟨h1, hc⟩ | ⟨h1, hc⟩ | ⟨h1, hc⟩ | ⟨h1, n1, n2, n3, n4, n5, n6, hc⟩
      · have e32 : ((r[0].toNat : Int) == 32) = false := by simp; omega
        have e9 : ((r[0].toNat : Int) == 9) = false := by simp; omega
        have e13 : ((r[0].toNat : Int) == 13) = false := by simp; omega
        have e10 : ((r[0].toNat : Int) == 10) = false := by simp; omega
        have e35 : ((r[0].toNat : Int) == 35) = false := by simp; omega
        clear h1 h2
        have HS2 := Lib.hid (skip_stop HK.out HG.out HSt.out HB.out (by rw [hcl.out, hc]; decide) (by rw [hcl.out, hc]; decide))
        clear hc hcl
        go_wp2_with fail
        refine bodyPost_ret (results_none rfl _ _ _) rfl ?_
        exact HS2.out
      · have e32 : ((r[0].toNat : Int) == 32) = false := by simp; omega
        have e9 : ((r[0].toNat : Int) == 9) = false := by simp; omega
        have e13 : ((r[0].toNat : Int) == 13) = false := by simp; omega
        have e10 : ((r[0].toNat : Int) == 10) = false := by simp; omega
        have e35 : ((r[0].toNat : Int) == 35) = false := by simp; omega
        clear h1 h2
        have HS2 := Lib.hid (skip_stop HK.out HG.out HSt.out HB.out (by rw [hcl.out, hc]; decide) (by rw [hcl.out, hc]; decide))
        clear hc hcl
        go_wp2_with fail
        refine bodyPost_ret (results_none rfl _ _ _) rfl ?_
        exact HS2.out
      · have e32 : ((r[0].toNat : Int) == 32) = false := by simp; omega
        have e9 : ((r[0].toNat : Int) == 9) = false := by simp; omega
        have e13 : ((r[0].toNat : Int) == 13) = false := by simp; omega
        have e10 : ((r[0].toNat : Int) == 10) = false := by simp; omega
        have e35 : ((r[0].toNat : Int) == 35) = false := by simp; omega
        clear h1
        have HS2 := Lib.hid (skip_stop HK.out HG.out HSt.out HB.out (by rw [hcl.out, hc]; decide) (by rw [hcl.out, hc]; decide))
        clear hc hcl
        go_wp2_with fail
        refine bodyPost_ret (results_none rfl _ _ _) rfl ?_
        exact HS2.out
      · rcases h1 with h1 | h1 | h1 | h1
        · have e32 : ((r[0].toNat : Int) == 32) = true := by simp; omega
          have HC := Lib.hid (fun w h => pass_any B r 1 a b w h (by omega) (by omega) (by omega) (by omega))
          have HCl : Hid (cls s.data.toList j = 4 ∧ ∀ c, s.data.toList[j]? = some c → c.toNat ≠ 10) := Lib.hid ⟨hcl.out.trans hc, fun c h => by rw [HB0.out] at h; cases h; omega⟩
          clear hc h1 hcl
          go_wp2_with fail
          refine (HC.out _ HR.out).mono ?_
          rintro e w2 ⟨rfl, hR2, hb2⟩
          have HN := Lib.hid (skip_blank hlt HK.out HG.out HRr.out HA.out HB.out HCl.out.1 HCl.out.2 hR2 hb2)
          have HM : Hid (s.size - (j + 1) < gk) := Lib.hid (by have := HK.out; omega)
          clear hR2 hb2
          go_wp2_with fail
          go_roundg (s.size - (j + 1))
          case rel => exact HN.out
          case measure => exact HM.out
        · have e32 : ((r[0].toNat : Int) == 32) = false := by simp; omega
          have e9 : ((r[0].toNat : Int) == 9) = true := by simp; omega
          have HC := Lib.hid (fun w h => pass_any B r 1 a b w h (by omega) (by omega) (by omega) (by omega))
          have HCl : Hid (cls s.data.toList j = 4 ∧ ∀ c, s.data.toList[j]? = some c → c.toNat ≠ 10) := Lib.hid ⟨hcl.out.trans hc, fun c h => by rw [HB0.out] at h; cases h; omega⟩
          clear hc h1 hcl
          go_wp2_with fail
          refine (HC.out _ HR.out).mono ?_
          rintro e w2 ⟨rfl, hR2, hb2⟩
          have HN := Lib.hid (skip_blank hlt HK.out HG.out HRr.out HA.out HB.out HCl.out.1 HCl.out.2 hR2 hb2)
          have HM : Hid (s.size - (j + 1) < gk) := Lib.hid (by have := HK.out; omega)
          clear hR2 hb2
          go_wp2_with fail
          go_roundg (s.size - (j + 1))
          case rel => exact HN.out
          case measure => exact HM.out
        · have e32 : ((r[0].toNat : Int) == 32) = false := by simp; omega
          have e9 : ((r[0].toNat : Int) == 9) = false := by simp; omega
          have e13 : ((r[0].toNat : Int) == 13) = false := by simp; omega
          have e10 : ((r[0].toNat : Int) == 10) = true := by simp; omega
          have HC := Lib.hid (fun w h => pass_any B r 1 a b w h (by omega) (by omega) (by omega) (by omega))
          have HCl : Hid (cls s.data.toList j = 4 ∧ ∀ c, s.data.toList[j]? = some c → c.toNat = 10) := Lib.hid ⟨hcl.out.trans hc, fun c h => by rw [HB0.out] at h; cases h; omega⟩
          clear hc h1 hcl
          go_wp2_with fail
          refine (HC.out _ HR.out).mono ?_
          rintro e w2 ⟨rfl, hR2, hb2⟩
          have q1 : RdrAt (w2.setCell ⟨B, 1, none⟩ (.int .i64 (a + 1))) B (r.extract 1 r.size) (a + 1) (b + (1 : Nat)) := block_setCell' hR2 1 _
          have q2 : RdrAt ((w2.setCell ⟨B, 1, none⟩ (.int .i64 (a + 1))).setCell ⟨B, 2, none⟩ (.int .i64 1)) B (r.extract 1 r.size) (a + 1) 1 := block_setCell' q1 2 _
          have d1 : w2.cell? ⟨B, 1, none⟩ = some (.int .i64 a) := cell_of_block' hR2 (i := 1) rfl
          have d2 : w2.cell? ⟨B, 2, none⟩ = some (.int .i64 (b + (1 : Nat))) := cell_of_block' hR2 (i := 2) rfl
          have g1 := free_of_block' hR2 1
          have g2 := free_of_block' hR2 2
          have HN := Lib.hid (skip_line hlt HK.out HG.out HRr.out HA.out HB.out HCl.out.1 HCl.out.2 q2 (but_set (but_set hb2 1 _) 2 _))
          have HM : Hid (s.size - (j + 1) < gk) := Lib.hid (by have := HK.out; omega)
          clear hR2 hb2 q1 q2
          go_wp2_with fail
          go_roundg (s.size - (j + 1))
          case rel => exact HN.out
          case measure => exact HM.out
        · have e32 : ((r[0].toNat : Int) == 32) = false := by simp; omega
          have e9 : ((r[0].toNat : Int) == 9) = false := by simp; omega
          have e13 : ((r[0].toNat : Int) == 13) = true := by simp; omega
          have HC := Lib.hid (fun w h => pass_any B r 1 a b w h (by omega) (by omega) (by omega) (by omega))
          have HCl : Hid (cls s.data.toList j = 4 ∧ ∀ c, s.data.toList[j]? = some c → c.toNat ≠ 10) := Lib.hid ⟨hcl.out.trans hc, fun c h => by rw [HB0.out] at h; cases h; omega⟩
          clear hc h1 hcl
          go_wp2_with fail
          refine (HC.out _ HR.out).mono ?_
          rintro e w2 ⟨rfl, hR2, hb2⟩
          have HN := Lib.hid (skip_blank hlt HK.out HG.out HRr.out HA.out HB.out HCl.out.1 HCl.out.2 hR2 hb2)
          have HM : Hid (s.size - (j + 1) < gk) := Lib.hid (by have := HK.out; omega)
          clear hR2 hb2
          go_wp2_with fail
          go_roundg (s.size - (j + 1))
          case rel => exact HN.out
          case measure => exact HM.out
      · have e32 : ((r[0].toNat : Int) == 32) = false := by simp; omega
        have e9 : ((r[0].toNat : Int) == 9) = false := by simp; omega
        have e13 : ((r[0].toNat : Int) == 13) = false := by simp; omega
        have e10 : ((r[0].toNat : Int) == 10) = false := by simp; omega
        have e35 : ((r[0].toNat : Int) == 35) = true := by simp; omega
        have hrl := run_le notNl r.data.toList
        rw [size_list'] at hrl
        have HRm := Lib.hid (fun w => remark_any r w (by omega))
        obtain ⟨m, hm⟩ : ∃ m, m = run notNl r.data.toList := ⟨_, rfl⟩
        rw [← hm] at HRm hrl
        have HMm := Lib.hid hm
        have HC := Lib.hid (fun w h => pass_any B r m a b w h (by omega) (by omega) (by omega) (by omega))
        have HCl : Hid (cls s.data.toList j = 5) := Lib.hid (hcl.out.trans hc)
        clear hc h1 hcl hm
        go_wp2_with (go_at_call 82; (with_reducible refine (HRm.out _).mono ?_); rintro e w' ⟨rfl, rfl⟩)
        refine (HC.out _ HR.out).mono ?_
        rintro e w2 ⟨rfl, hR2, hb2⟩
        have HN := Lib.hid (skip_remark hlt HK.out HG.out HRr.out HA.out HB.out HCl.out HMm.out hR2 hb2)
        clear hR2 hb2
        go_wp2_with fail
        go_roundg (s.size - (j + m))
        case rel => exact HN.out.1
        case measure => exact HN.out.2
      · have e32 : ((r[0].toNat : Int) == 32) = false := by simp; omega
        have e9 : ((r[0].toNat : Int) == 9) = false := by simp; omega
        have e13 : ((r[0].toNat : Int) == 13) = false := by simp; omega
        have e10 : ((r[0].toNat : Int) == 10) = false := by simp; omega
        have e35 : ((r[0].toNat : Int) == 35) = false := by simp; omega
        clear h1 n1 n2 n3 n4 n5 n6
        have HS2 := Lib.hid (skip_stop HK.out HG.out HSt.out HB.out (by rw [hcl.out, hc]; decide) (by rw [hcl.out, hc]; decide))
        clear hc hcl
        go_wp2_with fail
        refine bodyPost_ret (results_none rfl _ _ _) rfl ?_
        exact HS2.out
    · have hcl := cls_none (l := s.data.toList) (i := j) (by rw [size_list']; omega)
      have HS2 := Lib.hid (skip_stop HK.out HG.out HSt.out HB.out (by rw [hcl]; decide) (by rw [hcl]; decide))
      have hr0 : r.size = 0 := by omega
      have hl : r.toList = [] := by rw [ByteArray.toList_eq, ← List.length_eq_zero_iff]; exact hr0
      clear hcl hr hsz hr0
      go_wp2_with fail
      go_end0
      exact HS2.out
end Go.Proofs.YtffdfajlfgeicaaDoor

namespace Go.Proofs.YtffdfajlfgeicaaDoor
open Go.RowKit ScanSpec
set_option maxRecDepth 100000

theorem PairsIn.but {w w' : World} {B : Nat} (h : PairsIn w) (hb : w.grownBy w' (some B)) (hB : 1 ≠ B) : PairsIn w' := by
  have hp := h.pos
  obtain ⟨T, fr, h⟩ := h
  exact ⟨T, fr, (hb.block _ hp (by simpa using hB)).trans h⟩
abbrev tokZ : Obj := .cells #[.int .i64 0, .string ⟨#[]⟩, .int .i64 0, .int .i64 0] 33
abbrev tokH (p1 p2 : Int) : Obj := .cells #[.int .i64 0, .string ⟨#[]⟩, .int .i64 p1, .int .i64 p2] 33
def tokA (s : ByteArray) (kd : Int) (i n : Nat) : Value := .agg #[.int .i64 kd, .string (s.extract i (i + n)), .int .i64 (pos s.data.toList i).1, .int .i64 (pos s.data.toList i).2]
def NextGood (w : World) (B : Nat) (s : ByteArray) (i : Nat) (kd : Int) (n : Nat) (e : Ending) (w' : World) : Prop :=
  e = .returned (.tuple #[tokA s kd i n, .int .i64 0]) ∧ StandsAt w' B s (i + n) ∧ w.grownBy w' (some B)
/-- Behind the first call: where the reader stands, what the two tokens' blocks hold. -/
structure NextMid (w w3 : World) (B tb : Nat) (r : ByteArray) (p1 p2 : Int) : Prop where
  rdr : RdrAt w3 B r p1 p2
  tok : w3.heap[tb]? = some (.cells #[.int .i64 0, .string ⟨#[]⟩, .int .i64 p1, .int .i64 p2] 33 (0, 0))
  res : w3.heap[w.heap.size]? = some (.cells #[.int .i64 0, .string ⟨#[]⟩, .int .i64 0, .int .i64 0] 33 (0, 0))
  but : w.grownBy w3 (some B)
  lt : w.heap.size < tb
  bne : B ≠ tb
  top : tb < w3.heap.size
theorem next_mid {w w2 : World} {B : Nat} {s r : ByteArray} {g : Nat} {p1 p2 : Int} (hB : B < w.heap.size) (hR : StandsAt w2 B s g) (hr : s.extract g s.size = r) (hp : pos s.data.toList g = (p1, p2)) (hb : (w.alloc tokZ).grownBy w2 (some B)) :
    NextMid w (w2.alloc (tokH p1 p2)) B w2.heap.size r p1 p2 := by
  have h2 := hb.size
  rw [World.size_alloc] at h2
  unfold StandsAt at hR
  rw [hr, hp] at hR
  exact ⟨(heap_alloc_old _ _ hR.lt).trans hR, heap_alloc_new _ _, (heap_alloc_old _ _ (by omega)).trans ((hb.block w.heap.size (by simp) (by simp; omega)).trans (heap_alloc_new _ _)), but_from (but_alloc hb _), by omega, Nat.ne_of_lt hR.lt, by simp⟩

structure NextMid4 (w w4 : World) (B tb : Nat) (r : ByteArray) (p1 p2 : Int) (u v : Value) : Prop where
  rdr : RdrAt w4 B r p1 p2
  tok : w4.heap[tb]? = some (.cells #[u, v, .int .i64 p1, .int .i64 p2] 33 (0, 0))
  res : w4.heap[w.heap.size]? = some (.cells #[.int .i64 0, .string ⟨#[]⟩, .int .i64 0, .int .i64 0] 33 (0, 0))
  but : w.grownBy w4 (some B)
  lt : w.heap.size < tb
  bne : B ≠ tb
structure NextMid5 (w w4 : World) (B tb : Nat) (p1 p2 : Int) (u v : Value) : Prop where
  tok : w4.heap[tb]? = some (.cells #[u, v, .int .i64 p1, .int .i64 p2] 33 (0, 0))
  res : w4.heap[w.heap.size]? = some (.cells #[.int .i64 0, .string ⟨#[]⟩, .int .i64 0, .int .i64 0] 33 (0, 0))
  but : w.grownBy w4 (some B)
theorem next_past {w w4 w5 : World} {B tb : Nat} {r : ByteArray} {p1 p2 : Int} {u v : Value} (hB : B < w.heap.size) (h : NextMid4 w w4 B tb r p1 p2 u v) (hb : w4.grownBy w5 (some B)) : NextMid5 w w5 B tb p1 p2 u v :=
  ⟨(hb.block _ (Array.getElem?_eq_some_iff.1 h.tok).1 (by simpa using Ne.symm h.bne)).trans h.tok, (hb.block _ (Array.getElem?_eq_some_iff.1 h.res).1 (by simp; omega)).trans h.res, but_trans h.but hb⟩
theorem next_fin {w w5 : World} {B tb g n : Nat} {s r : ByteArray} {kd p1 p2 : Int} {u v x0 x1 x2 x3 : Value} (hB : B < w.heap.size) (h : NextMid5 w w5 B tb p1 p2 u v) (hS : StandsAt w5 B s (g + n)) (hr : s.extract g s.size = r) (hp : pos s.data.toList g = (p1, p2)) (hn : g + n ≤ s.size) :
    NextGood w B s g kd n (.returned (.tuple #[.agg #[.int .i64 kd, .string (r.extract 0 n), .int .i64 p1, .int .i64 p2], .int .i64 0]))
      ((((w5.setCell ⟨w.heap.size, 0, none⟩ x0).setCell ⟨w.heap.size, 1, none⟩ x1).setCell ⟨w.heap.size, 2, none⟩ x2).setCell ⟨w.heap.size, 3, none⟩ x3) := by
  have hb : ∀ (W : World) (j : Nat) (x : Value), (W.setCell ⟨w.heap.size, j, none⟩ x).heap[B]? = W.heap[B]? := fun W j x => Below.heap_setCell _ _ _ _ (Nat.ne_of_lt hB)
  refine ⟨?_, ?_, but_set_new (but_set_new (but_set_new (but_set_new h.but (Nat.le_refl _) _ _) (Nat.le_refl _) _ _) (Nat.le_refl _) _ _) (Nat.le_refl _) _ _⟩
  · subst hr
    rw [extract_head s g n hn, tokA, hp]
  · exact (hb _ _ _).trans ((hb _ _ _).trans ((hb _ _ _).trans ((hb _ _ _).trans hS)))

set_option maxHeartbeats 4000000 in
theorem next_good (B i : Nat) (s : ByteArray) (w : World) (hi : i ≤ s.size) (hs : s.size ≤ 9223372036854775800) (h : StandsAt w B s i) (kd : Int) (n : Nat)
    (hn : gap s.data.toList i + n ≤ s.size) (hl : ∀ k, k < n → ∃ c, s.data.toList[gap s.data.toList i + k]? = some c ∧ c.toNat ≠ 10)
    (hF : ∀ w', w.grownBy w' (some B) → Calls Tryd.prog 61 #[.string (s.extract (gap s.data.toList i) s.size)] w' fun e w2 => e = .returned (.tuple #[.int .i64 kd, .int .i64 n, .int .i64 0]) ∧ w' = w2) :
    Calls Tryd.prog 38 #[.pointer (some ⟨B, 0, none⟩)] w (NextGood w B s (gap s.data.toList i) kd n) := by
  have HS := Lib.hid (fun w h => skip_any B i s w hi hs h)
  have hBlt := h.lt
  have HSt := Lib.hid h
  obtain ⟨g, hg⟩ : ∃ g, g = gap s.data.toList i := ⟨_, rfl⟩
  rw [← hg] at hn hl hF ⊢
  obtain ⟨r, hr⟩ : ∃ r, s.extract g s.size = r := ⟨_, rfl⟩
  obtain ⟨p1, p2, hp⟩ : ∃ p1 p2, pos s.data.toList g = (p1, p2) := ⟨_, _, rfl⟩
  have hrs : r.size + g = s.size := by rw [← hr, extract_size']; omega
  have hpb := pos_bd s.data.toList g
  rw [hp] at hpb
  obtain ⟨b1, b2, b3, b4⟩ := hpb
  simp only at b1 b2 b3 b4
  rw [hr] at hF
  have HP := Lib.hid hp
  have HRr := Lib.hid hr
  have HGp := Lib.hid hg
  have HL := Lib.hid hl
  have HF := Lib.hid hF
  have hnr : n ≤ r.size := by omega
  have hnI : (n : Int) ≤ (r.size : Int) := by omega
  have HPs := Lib.hid (fun w h => pass_any B r n p1 p2 w h (by omega) (by omega) (by omega) (by omega))
  clear h hg hl hF hp hr
  go_enter Tryd.func38, Tryd.ntmps38
  go_wp2_with fail
  refine (HS.out _ (by exact (heap_alloc_old _ _ hBlt).trans HSt.out)).mono ?_
  rintro e w2 ⟨rfl, hR2, hb2⟩
  rw [← HGp.out] at hR2
  have HM := Lib.hid (next_mid hBlt hR2 HRr.out HP.out hb2)
  have c0 : w2.cell? ⟨B, 0, none⟩ = some (.string r) := by have := cell_of_block' hR2 (i := 0) rfl; rwa [HRr.out] at this
  have c1 : w2.cell? ⟨B, 1, none⟩ = some (.int .i64 p1) := by have := cell_of_block' hR2 (i := 1) rfl; rwa [HP.out] at this
  have c2 : w2.cell? ⟨B, 2, none⟩ = some (.int .i64 p2) := by have := cell_of_block' hR2 (i := 2) rfl; rwa [HP.out] at this
  have hB2 := hR2.lt
  clear hR2 hb2
  go_wp2_with fail
  refine (HF.out _ HM.out.but).mono ?_
  rintro e w' ⟨rfl, rfl⟩
  obtain ⟨tb, htb⟩ : ∃ tb, tb = w2.heap.size := ⟨_, rfl⟩
  generalize hW3 : w2.alloc (tokH p1 p2) = w3 at HM ⊢
  rw [← htb] at HM ⊢
  clear hW3 c0 c1 c2 htb hB2
  have c0 : w3.cell? ⟨B, 0, none⟩ = some (.string r) := cell_of_block' HM.out.rdr (i := 0) rfl
  have t0 := cell_of_block' HM.out.tok (i := 0) rfl
  have t1 := cell_of_block' HM.out.tok (i := 1) rfl
  have f0 := free_of_block' HM.out.tok 0
  have f1 := free_of_block' HM.out.tok 1
  have q0 : (w3.setCell ⟨tb, 0, none⟩ (.int .i64 kd)).heap[tb]? = some (.cells #[.int .i64 kd, .string ⟨#[]⟩, .int .i64 p1, .int .i64 p2] 33 (0, 0)) := block_setCell' HM.out.tok 0 _
  have d0 : (w3.setCell ⟨tb, 0, none⟩ (.int .i64 kd)).cell? ⟨B, 0, none⟩ = some (.string r) := cell_of_block' ((Below.heap_setCell _ _ _ _ HM.out.bne).trans HM.out.rdr) (i := 0) rfl
  have d1 := cell_of_block' q0 (i := 1) rfl
  have g1 := free_of_block' q0 1
  clear q0
  go_wp2_with fail
  go_region
  have hT4 : ((w3.setCell ⟨tb, 0, none⟩ (.int .i64 kd)).setCell ⟨tb, 1, none⟩ (.string (r.extract 0 n))).heap[tb]? = some (.cells #[.int .i64 kd, .string (r.extract 0 n), .int .i64 p1, .int .i64 p2] 33 (0, 0)) := block_setCell' (block_setCell' HM.out.tok 0 _) 1 _
  have HM4 : Hid (NextMid4 w ((w3.setCell ⟨tb, 0, none⟩ (.int .i64 kd)).setCell ⟨tb, 1, none⟩ (.string (r.extract 0 n))).drew B tb r p1 p2 (.int .i64 kd) (.string (r.extract 0 n))) :=
    Lib.hid ⟨(Below.heap_setCell _ _ _ _ HM.out.bne).trans ((Below.heap_setCell _ _ _ _ HM.out.bne).trans HM.out.rdr), hT4, (Below.heap_setCell _ _ _ _ (Nat.ne_of_lt HM.out.lt)).trans ((Below.heap_setCell _ _ _ _ (Nat.ne_of_lt HM.out.lt)).trans HM.out.res),
      but_drew (but_set_new (but_set_new HM.out.but (Nat.le_of_lt HM.out.lt) _ _) (Nat.le_of_lt HM.out.lt) _ _), HM.out.lt, HM.out.bne⟩
  clear hT4 d0 d1 g1 c0 t0 t1 f0 f1
  generalize ((w3.setCell ⟨tb, 0, none⟩ (.int .i64 kd)).setCell ⟨tb, 1, none⟩ (.string (r.extract 0 n))).drew = w4 at HM4 ⊢
  go_wp2_with fail
  refine (HPs.out _ HM4.out.rdr).mono ?_
  rintro e w5 ⟨rfl, hR5, hb5⟩
  have HM5 := Lib.hid (next_past hBlt HM4.out hb5)
  have HR5 := Lib.hid (stands_on hR5 HRr.out.symm (by rw [pos_along _ HL.out, HP.out]))
  clear hR5 hb5
  have c0 := cell_of_block' HM5.out.tok (i := 0) rfl
  have c1 := cell_of_block' HM5.out.tok (i := 1) rfl
  have c2 := cell_of_block' HM5.out.tok (i := 2) rfl
  have c3 := cell_of_block' HM5.out.tok (i := 3) rfl
  have r0 := cell_of_block' HM5.out.res (i := 0) rfl
  have r1 := cell_of_block' HM5.out.res (i := 1) rfl
  have r2 := cell_of_block' HM5.out.res (i := 2) rfl
  have r3 := cell_of_block' HM5.out.res (i := 3) rfl
  have f0 := free_of_block' HM5.out.res 0
  have f1 := free_of_block' HM5.out.res 1
  have f2 := free_of_block' HM5.out.res 2
  have f3 := free_of_block' HM5.out.res 3
  go_wp2_with fail
  have q0 := fun u => (store_four HM5.out.res u u u u).1
  have q1 := fun u v => (store_four HM5.out.res u v v v).2.1
  have q2 := fun u v x => (store_four HM5.out.res u v x x).2.2.1
  have q3 := fun u v x y => (store_four HM5.out.res u v x y).2.2.2
  refine bodyPost_ret (v := .tuple #[.agg #[.int .i64 kd, .string (r.extract 0 n), .int .i64 p1, .int .i64 p2], .int .i64 0]) (by simp [results, Tryd.results38, go_sem, q0, q1, q2, q3]) rfl ?_
  exact next_fin hBlt HM5.out HR5.out HRr.out HP.out hn

def NextBad (w : World) (B : Nat) (s : ByteArray) (i : Nat) (er : Int) (e : Ending) (w' : World) : Prop :=
  e = .returned (.tuple #[.agg #[.int .i64 0, .string ⟨#[]⟩, .int .i64 (pos s.data.toList i).1, .int .i64 (pos s.data.toList i).2], .int .i64 er]) ∧ w.grownBy w' (some B)
set_option maxHeartbeats 4000000 in
theorem next_bad (B i : Nat) (s : ByteArray) (w : World) (hi : i ≤ s.size) (hs : s.size ≤ 9223372036854775800) (h : StandsAt w B s i) (er : Int) (hne : er ≠ 0)
    (hF : ∀ w', w.grownBy w' (some B) → Calls Tryd.prog 61 #[.string (s.extract (gap s.data.toList i) s.size)] w' fun e w2 => e = .returned (.tuple #[.int .i64 0, .int .i64 0, .int .i64 er]) ∧ w' = w2) :
    Calls Tryd.prog 38 #[.pointer (some ⟨B, 0, none⟩)] w (NextBad w B s (gap s.data.toList i) er) := by
  have HS := Lib.hid (fun w h => skip_any B i s w hi hs h)
  have hBlt := h.lt
  have HSt := Lib.hid h
  obtain ⟨g, hg⟩ : ∃ g, g = gap s.data.toList i := ⟨_, rfl⟩
  rw [← hg] at hF ⊢
  obtain ⟨r, hr⟩ : ∃ r, s.extract g s.size = r := ⟨_, rfl⟩
  obtain ⟨p1, p2, hp⟩ : ∃ p1 p2, pos s.data.toList g = (p1, p2) := ⟨_, _, rfl⟩
  rw [hr] at hF
  have HP := Lib.hid hp
  have HRr := Lib.hid hr
  have HGp := Lib.hid hg
  have HF := Lib.hid hF
  have e0 : (er == 0) = false := by simpa using hne
  have e1 : (er != 0) = true := by simpa using hne
  clear h hg hF hp hr hne
  go_enter Tryd.func38, Tryd.ntmps38
  go_wp2_with fail
  refine (HS.out _ (by exact (heap_alloc_old _ _ hBlt).trans HSt.out)).mono ?_
  rintro e w2 ⟨rfl, hR2, hb2⟩
  rw [← HGp.out] at hR2
  have HM := Lib.hid (next_mid hBlt hR2 HRr.out HP.out hb2)
  have c0 : w2.cell? ⟨B, 0, none⟩ = some (.string r) := by have := cell_of_block' hR2 (i := 0) rfl; rwa [HRr.out] at this
  have c1 : w2.cell? ⟨B, 1, none⟩ = some (.int .i64 p1) := by have := cell_of_block' hR2 (i := 1) rfl; rwa [HP.out] at this
  have c2 : w2.cell? ⟨B, 2, none⟩ = some (.int .i64 p2) := by have := cell_of_block' hR2 (i := 2) rfl; rwa [HP.out] at this
  have hB2 := hR2.lt
  clear hR2 hb2
  go_wp2_with fail
  refine (HF.out _ HM.out.but).mono ?_
  rintro e w' ⟨rfl, rfl⟩
  obtain ⟨tb, htb⟩ : ∃ tb, tb = w2.heap.size := ⟨_, rfl⟩
  generalize hW3 : w2.alloc (tokH p1 p2) = w3 at HM ⊢
  rw [← htb] at HM ⊢
  clear hW3 c0 c1 c2 htb hB2
  have c0 := cell_of_block' HM.out.tok (i := 0) rfl
  have c1 := cell_of_block' HM.out.tok (i := 1) rfl
  have c2 := cell_of_block' HM.out.tok (i := 2) rfl
  have c3 := cell_of_block' HM.out.tok (i := 3) rfl
  have r0 := cell_of_block' HM.out.res (i := 0) rfl
  have r1 := cell_of_block' HM.out.res (i := 1) rfl
  have r2 := cell_of_block' HM.out.res (i := 2) rfl
  have r3 := cell_of_block' HM.out.res (i := 3) rfl
  have f0 := free_of_block' HM.out.res 0
  have f1 := free_of_block' HM.out.res 1
  have f2 := free_of_block' HM.out.res 2
  have f3 := free_of_block' HM.out.res 3
  go_wp2_with fail
  have q0 := fun u => (store_four HM.out.res u u u u).1
  have q1 := fun u v => (store_four HM.out.res u v v v).2.1
  have q2 := fun u v x => (store_four HM.out.res u v x x).2.2.1
  have q3 := fun u v x y => (store_four HM.out.res u v x y).2.2.2
  refine bodyPost_ret (v := .tuple #[.agg #[.int .i64 0, .string ⟨#[]⟩, .int .i64 p1, .int .i64 p2], .int .i64 er]) (by simp [results, Tryd.results38, go_sem, q0, q1, q2, q3]) rfl ?_
  exact ⟨by rw [HP.out], but_set_new (but_set_new (but_set_new (but_set_new HM.out.but (Nat.le_refl _) _ _) (Nat.le_refl _) _ _) (Nat.le_refl _) _ _) (Nat.le_refl _) _ _⟩
end Go.Proofs.YtffdfajlfgeicaaDoor

namespace Go.Proofs.YtffdfajlfgeicaaDoor
open Go.RowKit ScanSpec
set_option maxRecDepth 100000

theorem one_kind {d : List UInt8} {kd : Int} {ln : Nat} (h : one d = (kd, ln, 0)) : kd ≠ 0 := by
  intro hk
  subst hk
  unfold one at h
  split at h
  · split at h <;> simp at h
  · split at h
    · split at h
      · simp at h
      · split at h <;> simp at h
    · split at h <;> simp at h
theorem one_zero {d : List UInt8} {kd er : Int} {ln : Nat} (h : one d = (kd, ln, er)) (hne : er ≠ 0) : kd = 0 ∧ ln = 0 := by
  unfold one at h
  split at h
  · split at h
    · cases h; exact ⟨rfl, rfl⟩
    · cases h; exact absurd rfl hne
  · split at h
    · split at h
      · cases h; exact ⟨rfl, rfl⟩
      · split at h
        · cases h; exact ⟨rfl, rfl⟩
        · cases h; exact absurd rfl hne
    · split at h
      · cases h; exact ⟨rfl, rfl⟩
      · cases h; exact absurd rfl hne

set_option maxHeartbeats 2000000 in
theorem stoks_long (s : ByteArray) (w : World) (h : 65536 < s.size) : Calls Tryd.prog 20 #[.string s] w (TokPost w s) := by
  have HT : Hid (scanT s.data.toList = ([], 0, 5)) := Lib.hid (if_pos h)
  have hI : 65536 < (s.size : Int) := by omega
  go_enter Tryd.func20, Tryd.ntmps20
  go_wp2_with fail
  go_region
  all_goals
    go_wp2_with fail
    refine bodyPost_ret (v := .tuple #[.slice none 0 0, .agg #[.int .i64 1, .int .i64 1], .int .i64 5]) (by simp [results, Tryd.results20, go_sem]) rfl ?_
    exact ⟨(((Below.refl _ _).alloc (Nat.le_refl _) _).alloc (by simp) _).drew, fun _ => by rw [HT.out]; rfl, fun h => by rw [HT.out] at h; exact absurd h (by decide)⟩

/-- At the head of the loop. -/
structure TokLoop (W : World) (s : ByteArray) (k : Nat) (v : Value) (n j : Nat) (acc : List Tok) (wr : World) : Prop where
  hk : k = s.size - j
  hj : j ≤ s.size
  hn : acc.length = n
  own : wr.ownsRow (W.heap.size + 3) 33 4 v n (toksV s acc)
  go : ∃ f, scanGo s.data.toList f (gap s.data.toList j) acc = scan s.data.toList ∧ s.size ≤ gap s.data.toList j + f
  few : n ≤ 4000
  res : wr.heap[W.heap.size]? = some (.cells #[.int .i64 0, .int .i64 0] 31 (0, 0))
  rdr : StandsAt wr (W.heap.size + 2) s j
  below : Below W.heap.size W wr
  top : W.heap.size + 3 ≤ wr.heap.size
def TokLoopR (W : World) (s : ByteArray) (k : Nat) (v : Value) (wr : World) : Prop := ∃ n j acc, TokLoop W s k v n j acc wr
theorem toks_start {w : World} {s : ByteArray} : TokLoopR w s s.size (.slice none 0 0)
    (((w.alloc (.cells #[.int .i64 0, .int .i64 0] 31)).alloc (.cells #[.int .i64 1, .int .i64 1] 31)).alloc (.cells #[.string s, .int .i64 1, .int .i64 1] 76)) := by
  have e1 := World.size_alloc w (.cells #[.int .i64 0, .int .i64 0] 31)
  have e2 := World.size_alloc (w.alloc (.cells #[.int .i64 0, .int .i64 0] 31)) (.cells #[.int .i64 1, .int .i64 1] 31)
  have hg := (gap_bd (l := s.data.toList) (i := 0) (Nat.zero_le _)).1
  refine ⟨0, 0, [], by omega, Nat.zero_le _, rfl, ⟨rfl, .inl ⟨rfl, rfl⟩⟩, ⟨s.size, rfl, by omega⟩, by omega, ?_, ?_, ?_, by simp⟩
  · exact (heap_alloc_old _ _ (by simp; omega)).trans ((heap_alloc_old _ _ (by simp)).trans (heap_alloc_new _ _))
  · unfold StandsAt RdrAt
    have := heap_alloc_new ((w.alloc (.cells #[.int .i64 0, .int .i64 0] 31)).alloc (.cells #[.int .i64 1, .int .i64 1] 31)) (.cells #[.string s, .int .i64 1, .int .i64 1] 76)
    rw [e2, e1] at this
    rw [extract_all]
    exact this
  · exact (((Below.refl _ _).alloc (Nat.le_refl _) _).alloc (by simp) _).alloc (by simp; omega) _

/-- Behind the append. -/
structure TokMid (W : World) (s : ByteArray) (tb x : Nat) (kd p1 p2 : Int) (tx : ByteArray) (w4 : World) : Prop where
  tok : w4.heap[tb]? = some (.cells #[.int .i64 kd, .string tx, .int .i64 p1, .int .i64 p2] 33 (0, 0))
  res : w4.heap[W.heap.size]? = some (.cells #[.int .i64 0, .int .i64 0] 31 (0, 0))
  rdr : StandsAt w4 (W.heap.size + 2) s x
  below : Below W.heap.size W w4
  top : W.heap.size + 3 ≤ w4.heap.size
abbrev tokO (kd : Int) (tx : ByteArray) (p1 p2 : Int) : Obj := .cells #[.int .i64 kd, .string tx, .int .i64 p1, .int .i64 p2] 33
theorem toks_mid {W wr w2 w4 : World} {s tx : ByteArray} {k n j x : Nat} {v : Value} {acc : List Tok} {kd p1 p2 : Int} (hL : TokLoop W s k v n j acc wr) (hb : wr.grownBy w2 (some (W.heap.size + 2))) (hR : StandsAt w2 (W.heap.size + 2) s x)
    (hg : ((w2.alloc (tokO kd tx p1 p2)).alloc (tokO kd tx p1 p2)).grownBy w4 v.ownBlock) : TokMid W s w2.heap.size x kd p1 p2 tx w4 := by
  have hv := own_block_bd (own_but hL.own hb (by omega))
  have ht := hL.top
  have h2 := hb.size
  have h4 := hg.size
  simp only [World.size_alloc] at h4
  have old : ∀ i, i < w2.heap.size → (i < W.heap.size + 3) → w4.heap[i]? = w2.heap[i]? := fun i hi hj =>
    (hg.block i (by simp; omega) (fun e => by have := (hv i e.symm).1; omega)).trans ((heap_alloc_old _ _ (by simp; omega)).trans (heap_alloc_old _ _ hi))
  refine ⟨?_, ?_, ?_, ?_, by omega⟩
  · exact (hg.block w2.heap.size (by simp; omega) (fun e => by have := (hv _ e.symm).2; omega)).trans ((heap_alloc_old _ _ (by simp)).trans (heap_alloc_new _ _))
  · exact (old _ (by omega) (by omega)).trans ((hb.block _ (by omega) (by simp)).trans hL.res)
  · exact (old _ (by omega) (by omega)).trans hR
  · refine hL.below.trans ⟨?_, ?_, ?_, by omega, fun i hi => (old i (by omega) (by omega)).trans (hb.block i (by omega) (by simp; omega))⟩
    · exact hg.os.trans hb.os
    · exact hg.tape.trans hb.tape
    · exact hg.output.trans hb.output
theorem toks_done {W w4 : World} {s : ByteArray} {tb x g n cap k j : Nat} {acc : List Tok} {v u0 u1 : Value} {wr : World} {p1 p2 : Int} {tx : ByteArray} (hm : s.size ≤ 65536) (hL : TokLoop W s k v n j acc wr) (hG : g = gap s.data.toList j) (hP : pos s.data.toList g = (p1, p2)) (hge : g = s.size) (hM : TokMid W s tb x 0 p1 p2 tx w4) {gg : Nat}
    (hown : w4.ownsRow (W.heap.size + 3) 33 4 (.slice (some ⟨gg, 0, none⟩) (n + 1) cap) (n + 1) (toksV s acc ++ [.int .i64 0, .string ⟨#[]⟩, .int .i64 p1, .int .i64 p2])) :
    TokPost W s (.returned (.tuple #[.slice (some ⟨gg, 0, none⟩) (n + 1) cap, .agg #[.int .i64 0, .int .i64 0], .int .i64 0])) ((w4.setCell ⟨W.heap.size, 0, none⟩ u0).setCell ⟨W.heap.size, 1, none⟩ u1) := by
  obtain ⟨f, hgo, hf⟩ := hL.go
  rw [← hG] at hgo
  refine tok_end (i := g) (f := f) ((show scanT s.data.toList = scan s.data.toList from if_neg (by rw [size_list']; omega))) hL.hn hgo (by omega) ?_ hM.below
  have e : endC s g = [.int .i64 0, .string ⟨#[]⟩, .int .i64 p1, .int .i64 p2] := by
    unfold endC
    rw [hP]; rfl
  rw [e]
  exact own_weak hown (by omega)
theorem toks_next {W w4 wr : World} {s : ByteArray} {tb g n ln cap gg k j : Nat} {acc : List Tok} {v : Value} {kd p1 p2 : Int} (hL : TokLoop W s k v n j acc wr) (hG : g = gap s.data.toList j) (hP : pos s.data.toList g = (p1, p2)) (hlt : g < s.size) (hO : one (s.data.toList.drop g) = (kd, ln, 0)) (hfull : ¬ n = 4000)
    (hln : 1 ≤ ln) (hle : g + ln ≤ s.size) (hM : TokMid W s tb (g + ln) kd p1 p2 (s.extract g (g + ln)) w4)
    (hown : w4.ownsRow (W.heap.size + 3) 33 4 (.slice (some ⟨gg, 0, none⟩) (n + 1) cap) (n + 1) (toksV s acc ++ [.int .i64 kd, .string (s.extract g (g + ln)), .int .i64 p1, .int .i64 p2])) :
    TokLoopR W s (s.size - (g + ln)) (.slice (some ⟨gg, 0, none⟩) (n + 1) cap) w4 ∧ s.size - (g + ln) < k := by
  obtain ⟨f, hgo, hf⟩ := hL.go
  rw [← hG] at hgo hf
  obtain ⟨f, rfl⟩ : ∃ f', f = f' + 1 := ⟨f - 1, by omega⟩
  have hk := hL.hk
  have hn := hL.hn
  have hfew := hL.few
  have hjg := (gap_bd (l := s.data.toList) (i := j) hL.hj).1
  rw [← hG] at hjg
  have hgb := (gap_bd (l := s.data.toList) (i := g + ln) hle).1
  refine ⟨⟨n + 1, g + ln, acc ++ [⟨kd, g, ln⟩], rfl, hle, by simp [hn], ?_, ⟨f, ?_, by omega⟩, by omega, hM.res, hM.rdr, hM.below, hM.top⟩, by omega⟩
  · rw [← toksV_snoc]
    have e : tokV s ⟨kd, g, ln⟩ = [.int .i64 kd, .string (s.extract g (g + ln)), .int .i64 p1, .int .i64 p2] := by
      unfold tokV
      rw [hP]
    rw [e]
    exact hown
  · rw [← hgo, scanGo_next (by rw [size_list']; exact hlt) (by rw [hO]) (by rw [hn]; exact hfull), hO]
theorem toks_fault {W wr : World} {s : ByteArray} {g n ln k j : Nat} {acc : List Tok} {v : Value} {kd er : Int} (hm : s.size ≤ 65536) (hL : TokLoop W s k v n j acc wr) (hG : g = gap s.data.toList j) (hlt : g < s.size) (hO : one (s.data.toList.drop g) = (kd, ln, er)) (hne : er ≠ 0) : scanT s.data.toList = ([], g, er) := by
  obtain ⟨f, hgo, hf⟩ := hL.go
  rw [← hG] at hgo hf
  obtain ⟨f, rfl⟩ : ∃ f', f = f' + 1 := ⟨f - 1, by omega⟩
  rw [show scanT s.data.toList = scan s.data.toList from if_neg (by rw [size_list']; omega), ← hgo, scanGo_err (by rw [size_list']; exact hlt) (by rw [hO]; exact hne), hO]
theorem toks_full {W wr : World} {s : ByteArray} {g n ln k j : Nat} {acc : List Tok} {v : Value} {kd : Int} (hm : s.size ≤ 65536) (hL : TokLoop W s k v n j acc wr) (hG : g = gap s.data.toList j) (hlt : g < s.size) (hO : one (s.data.toList.drop g) = (kd, ln, 0)) (hfull : n = 4000) : scanT s.data.toList = ([], g, 8) := by
  obtain ⟨f, hgo, hf⟩ := hL.go
  rw [← hG] at hgo hf
  obtain ⟨f, rfl⟩ : ∃ f', f = f' + 1 := ⟨f - 1, by omega⟩
  rw [show scanT s.data.toList = scan s.data.toList from if_neg (by rw [size_list']; omega), ← hgo, scanGo_full (by rw [size_list']; exact hlt) (by rw [hO]) (by rw [hL.hn]; exact hfull)]
/-- What the fault's return leaves. -/
theorem toks_ret {W wr w2 : World} {s : ByteArray} {k n j g : Nat} {v u0 u1 : Value} {acc : List Tok} {o : Obj} {p1 p2 er : Int} (hL : TokLoop W s k v n j acc wr) (hb : wr.grownBy w2 (some (W.heap.size + 2))) (hP : pos s.data.toList g = (p1, p2)) (hT : scanT s.data.toList = ([], g, er)) (hne : er ≠ 0) :
    TokPost W s (.returned (.tuple #[.slice none 0 0, .agg #[.int .i64 p1, .int .i64 p2], .int .i64 er])) (((w2.alloc o).setCell ⟨W.heap.size, 0, none⟩ u0).setCell ⟨W.heap.size, 1, none⟩ u1).drew := by
  have ht := hL.top
  have h2 := hb.size
  have hB : Below W.heap.size W w2 := hL.below.trans ⟨hb.os, hb.tape, hb.output, h2, fun i hi => hb.block i (by omega) (by simp; omega)⟩
  have := tok_bad (s := s) (i := g) (er := er) ((((hB.alloc (by omega) o).setCell (p := ⟨W.heap.size, 0, none⟩) (Nat.le_refl _) u0).setCell (p := ⟨W.heap.size, 1, none⟩) (Nat.le_refl _) u1).drew) hT hne
  rwa [hP] at this
theorem toks_res {W wr w2 : World} {s : ByteArray} {k n j : Nat} {v : Value} {acc : List Tok} (o : Obj) (hL : TokLoop W s k v n j acc wr) (hb : wr.grownBy w2 (some (W.heap.size + 2))) :
    (w2.alloc o).heap[W.heap.size]? = some (.cells #[.int .i64 0, .int .i64 0] 31 (0, 0)) := by
  have ht := hL.top
  have h2 := hb.size
  exact (heap_alloc_old _ _ (by omega)).trans ((hb.block _ (by omega) (by simp)).trans hL.res)
theorem toks_good {s tx : ByteArray} {j g B ln : Nat} {kd p1 p2 : Int} {wr : World} (hpw : PairsIn wr) (hB : 1 ≠ B) (hg : g = gap s.data.toList j) (hp : pos s.data.toList g = (p1, p2)) (he : g < s.size) (hO : one (s.data.toList.drop g) = (kd, ln, 0)) (hle : g + ln ≤ s.size) (htx : tx = s.extract g (g + ln)) (hj : j ≤ s.size) (hs : s.size ≤ 9223372036854775800) (h : StandsAt wr B s j) :
    Calls Tryd.prog 38 #[.pointer (some ⟨B, 0, none⟩)] wr fun e w' => e = .returned (.tuple #[.agg #[.int .i64 kd, .string tx, .int .i64 p1, .int .i64 p2], .int .i64 0]) ∧ StandsAt w' B s (g + ln) ∧ wr.grownBy w' (some B) := by
  subst htx
  have hsz := extract_size' s g
  refine (next_good B j s wr hj hs h kd ln (by omega) (fun k hk => by rw [← hg]; exact one_noline hO k hk) (fun w' hb => ?_)).mono ?_
  · rw [← hg]
    refine (first_any (s.extract g s.size) w' (hpw.but hb hB) (by omega) (by omega)).mono ?_
    rintro e w2 ⟨kd', er', ln', hO', he', hw'⟩
    rw [extract_drop, hO] at hO'
    cases hO'
    exact ⟨he', hw'⟩
  · rintro e w' ⟨h1, h2, h3⟩
    rw [← hg] at h1 h2
    refine ⟨?_, h2, h3⟩
    rw [h1, tokA, hp]
theorem toks_wrong {s : ByteArray} {j g B ln : Nat} {kd p1 p2 er : Int} {wr : World} (hpw : PairsIn wr) (hB : 1 ≠ B) (hg : g = gap s.data.toList j) (hp : pos s.data.toList g = (p1, p2)) (he : g < s.size) (hO : one (s.data.toList.drop g) = (kd, ln, er)) (hne : er ≠ 0) (hj : j ≤ s.size) (hs : s.size ≤ 9223372036854775800) (h : StandsAt wr B s j) :
    Calls Tryd.prog 38 #[.pointer (some ⟨B, 0, none⟩)] wr fun e w' => e = .returned (.tuple #[.agg #[.int .i64 0, .string ⟨#[]⟩, .int .i64 p1, .int .i64 p2], .int .i64 er]) ∧ wr.grownBy w' (some B) := by
  have hsz := extract_size' s g
  obtain ⟨rfl, rfl⟩ := one_zero hO hne
  refine (next_bad B j s wr hj hs h er hne (fun w' hb => ?_)).mono ?_
  · rw [← hg]
    refine (first_any (s.extract g s.size) w' (hpw.but hb hB) (by omega) (by omega)).mono ?_
    rintro e w2 ⟨kd', er', ln', hO', he', hw'⟩
    rw [extract_drop, hO] at hO'
    cases hO'
    exact ⟨he', hw'⟩
  · rintro e w' ⟨h1, h3⟩
    rw [← hg] at h1
    refine ⟨?_, h3⟩
    rw [h1, hp]
theorem toks_end {s : ByteArray} {j g B : Nat} {p1 p2 : Int} {wr : World} (hg : g = gap s.data.toList j) (hp : pos s.data.toList g = (p1, p2)) (he : g = s.size) (hj : j ≤ s.size) (hs : s.size ≤ 9223372036854775800) (h : StandsAt wr B s j) :
    Calls Tryd.prog 38 #[.pointer (some ⟨B, 0, none⟩)] wr fun e w' => e = .returned (.tuple #[.agg #[.int .i64 0, .string ⟨#[]⟩, .int .i64 p1, .int .i64 p2], .int .i64 0]) ∧ StandsAt w' B s g ∧ wr.grownBy w' (some B) := by
  have hx : s.extract g s.size = ⟨#[]⟩ := by
    apply ByteArray.ext
    apply Array.toList_inj.mp
    rw [extract_drop, List.drop_eq_nil_of_le (by rw [size_list']; omega)]
  refine (next_good B j s wr hj hs h 0 0 (by omega) (fun k hk => absurd hk (by omega)) (fun w' _ => ?_)).mono ?_
  · rw [← hg, hx]
    exact first_end w'
  · rintro e w' ⟨h1, h2, h3⟩
    rw [← hg] at h1 h2
    refine ⟨?_, h2, h3⟩
    rw [h1, tokA, hp, show s.extract g (g + 0) = ⟨#[]⟩ by
      apply ByteArray.ext
      simp [ByteArray.data_extract]]

set_option maxHeartbeats 4000000 in
theorem stoks_short (s : ByteArray) (w : World) (hp : PairsIn w) (h : s.size ≤ 65536) : Calls Tryd.prog 20 #[.string s] w (TokPost w s) := by
  have hI : (s.size : Int) ≤ 65536 := by omega
  have HP := Lib.hid hp
  clear hp
  obtain ⟨i0, hi, hz0, hz1, hz2⟩ := info_parts info_tok
  go_enter Tryd.func20, Tryd.ntmps20
  go_wp2_with fail
  go_loopg [6] s.size (fun k v wr => TokLoopR w s k v wr)
  case atStart => exact toks_start
  case round =>
    obtain ⟨n, j, acc, hL⟩ := hrel
    obtain ⟨A, c, rfl⟩ := own_shape hL.own
    have hj := hL.hj
    have hg := gap_bd (l := s.data.toList) (i := j) hj
    rw [size_list'] at hg
    obtain ⟨g, hgE⟩ : ∃ g, g = gap s.data.toList j := ⟨_, rfl⟩
    obtain ⟨p1, p2, hpE⟩ : ∃ p1 p2, pos s.data.toList g = (p1, p2) := ⟨_, _, rfl⟩
    have HG := Lib.hid hgE
    have HPos := Lib.hid hpE
    have HL := Lib.hid hL
    have HPw : Hid (PairsIn wr) := Lib.hid (HP.out.keep hL.below)
    rw [← hgE] at hg
    obtain ⟨hg1, hg2⟩ := hg
    clear hL hgE hpE
    by_cases hge : g = s.size
    · have HN : Hid (Calls Tryd.prog 38 #[.pointer (some ⟨w.heap.size + 2, 0, none⟩)] wr fun e w' => e = .returned (.tuple #[.agg #[.int .i64 0, .string ⟨#[]⟩, .int .i64 p1, .int .i64 p2], .int .i64 0]) ∧ StandsAt w' (w.heap.size + 2) s g ∧ wr.grownBy w' (some (w.heap.size + 2))) := Lib.hid (toks_end HG.out HPos.out hge hj (by omega) HL.out.rdr)
      have HGe := Lib.hid hge
      clear hge
      go_wp2_with fail
      refine (HN.out).mono ?_
      rintro e w2 ⟨rfl, hR2, hb2⟩
      have hown2 := own_but HL.out.own hb2 (by omega)
      have hsz2 := hb2.size
      have htop := HL.out.top
      have hfew := HL.out.few
      have HR2 := Lib.hid hR2
      have HB2 := Lib.hid hb2
      have hown3 := (hown2.alloc (.cells #[.int .i64 0, .string ⟨#[]⟩, .int .i64 p1, .int .i64 p2] 33)).alloc (.cells #[.int .i64 0, .string ⟨#[]⟩, .int .i64 p1, .int .i64 p2] 33)
      have hnew := heap_alloc_new (w2.alloc (.cells #[.int .i64 0, .string ⟨#[]⟩, .int .i64 p1, .int .i64 p2] 33)) (.cells #[.int .i64 0, .string ⟨#[]⟩, .int .i64 p1, .int .i64 p2] 33)
      rw [World.size_alloc] at hnew
      have HOwn := Lib.hid hown3
      have HNew := Lib.hid hnew
      clear hR2 hb2 hown2 hown3 hnew
      go_wp2_with (at_builtin; refine wpList_append_lies _ rfl (.tmp 39) (.tmp 41) _ rfl (w.heap.size + 3) 33 i0 _ 4 40 Tryd.underlying29 hi hz0 hz1 hz2 rfl (by decide) _ n (toksV s acc) rfl HOwn.out ⟨w2.heap.size + 1, 0, none⟩ 1 1 [.int .i64 0, .string ⟨#[]⟩, .int .i64 p1, .int .i64 p2] rfl rfl (World.news_of_block (cs := #[.int .i64 0, .string ⟨#[]⟩, .int .i64 p1, .int .i64 p2]) (t := 33) (fr := (0, 0)) HNew.out) (by simp [Value.oneCell']) (by decide) ?_ ?_ ?_ (w2.heap.size + 2) ?_ ?_; (unfold maxLen; omega); omega; (simp; omega); (simp); intro gg cap4 w4 hown4 hgrow4 hat4 hlt4; have HM := Lib.hid (toks_mid HL.out HB2.out HR2.out hgrow4); have k0 := cell_of_block' HM.out.tok (i := 0) rfl; have r0 := cell_of_block' HM.out.res (i := 0) rfl; have r1 := cell_of_block' HM.out.res (i := 1) rfl; have f0 := free_of_block' HM.out.res 0; have f1 := free_of_block' HM.out.res 1; have HOwn4 := Lib.hid hown4; have htop4 := HM.out.top; clear hgrow4 hown4)
      have q0 := fun u => (store_pair HM.out.res u u).1
      have q1 := fun u v => (store_pair HM.out.res u v).2
      refine bodyPost_ret (v := .tuple #[.slice (some ⟨gg, 0, none⟩) (n + 1) cap4, .agg #[.int .i64 0, .int .i64 0], .int .i64 0]) (by simp [results, Tryd.results20, go_sem, q0, q1]) rfl ?_
      exact toks_done h HL.out HG.out HPos.out HGe.out HM.out HOwn4.out
    · have hlt : g < s.size := by omega
      obtain ⟨kd, ln, er, hO⟩ : ∃ kd ln er, one (s.data.toList.drop g) = (kd, ln, er) := ⟨_, _, _, rfl⟩
      have htop := HL.out.top
      have hfew := HL.out.few
      have HO := Lib.hid hO
      by_cases her : er = 0
      · subst her
        have hb1 := (one_bd (s.data.toList.drop g) (by rw [List.length_drop, size_list']; omega)).1
        rw [hO] at hb1
        obtain ⟨hln, hle⟩ := hb1 rfl
        rw [List.length_drop, size_list'] at hle
        have hle' : g + ln ≤ s.size := by simp only at hle; omega
        have hln' : 1 ≤ ln := hln
        have hkd := one_kind hO
        have hkd0 : (kd == 0) = false := by simpa using hkd
        have hkd1 : (kd != 0) = true := by simpa using hkd
        obtain ⟨tx, htx⟩ : ∃ tx, tx = s.extract g (g + ln) := ⟨_, rfl⟩
        have HN := Lib.hid (toks_good HPw.out (by omega) HG.out HPos.out hlt hO hle' htx hj (by omega) HL.out.rdr)
        have HTx := Lib.hid htx
        clear hO hb1 hln hle hkd hge htx
        by_cases hfull : n = 4000
        · have e4 : ((n : Int) == 4000) = true := by simp; omega
          have HT := Lib.hid (toks_full h HL.out HG.out hlt HO.out hfull)
          clear hfull
          go_wp2_with fail
          refine (HN.out).mono ?_
          rintro e w2 ⟨rfl, hR2, hb2⟩
          have hres := toks_res (tokO kd tx p1 p2) HL.out hb2
          have hsz2 := hb2.size
          have r0 := cell_of_block' hres (i := 0) rfl
          have r1 := cell_of_block' hres (i := 1) rfl
          have f0 := free_of_block' hres 0
          have f1 := free_of_block' hres 1
          have HRes := Lib.hid hres
          have HB2 := Lib.hid hb2
          clear hR2 hres hb2
          go_wp2_with fail
          go_region
          all_goals
            go_wp2_with fail
            have q0 := fun u => (store_pair HRes.out u u).1
            have q1 := fun u v => (store_pair HRes.out u v).2
            refine bodyPost_ret (v := .tuple #[.slice none 0 0, .agg #[.int .i64 p1, .int .i64 p2], .int .i64 8]) (by simp [results, Tryd.results20, go_sem, q0, q1]) rfl ?_
            exact toks_ret HL.out HB2.out HPos.out HT.out (by decide)
        · have e4 : ((n : Int) == 4000) = false := by simp; omega
          have HFu := Lib.hid hfull
          clear hfull
          go_wp2_with fail
          refine (HN.out).mono ?_
          rintro e w2 ⟨rfl, hR2, hb2⟩
          have hown2 := own_but HL.out.own hb2 (by omega)
          have hsz2 := hb2.size
          have HR2 := Lib.hid hR2
          have HB2 := Lib.hid hb2
          have hown3 := (hown2.alloc (tokO kd tx p1 p2)).alloc (tokO kd tx p1 p2)
          have hnew := heap_alloc_new (w2.alloc (tokO kd tx p1 p2)) (tokO kd tx p1 p2)
          rw [World.size_alloc] at hnew
          have HOwn := Lib.hid hown3
          have HNew := Lib.hid hnew
          clear hR2 hb2 hown2 hown3 hnew
          go_wp2_with (at_builtin; refine wpList_append_lies _ rfl (.tmp 39) (.tmp 41) _ rfl (w.heap.size + 3) 33 i0 _ 4 40 Tryd.underlying29 hi hz0 hz1 hz2 rfl (by decide) _ n (toksV s acc) rfl HOwn.out ⟨w2.heap.size + 1, 0, none⟩ 1 1 [.int .i64 kd, .string tx, .int .i64 p1, .int .i64 p2] rfl rfl (World.news_of_block (cs := #[.int .i64 kd, .string tx, .int .i64 p1, .int .i64 p2]) (t := 33) (fr := (0, 0)) HNew.out) (by simp [Value.oneCell']) (by decide) ?_ ?_ ?_ (w2.heap.size + 2) ?_ ?_; (unfold maxLen; omega); omega; (simp; omega); (simp); intro gg cap4 w4 hown4 hgrow4 hat4 hlt4; have HM := Lib.hid (toks_mid HL.out HB2.out HR2.out hgrow4); have k0 := cell_of_block' HM.out.tok (i := 0) rfl; have r0 := cell_of_block' HM.out.res (i := 0) rfl; have r1 := cell_of_block' HM.out.res (i := 1) rfl; have f0 := free_of_block' HM.out.res 0; have f1 := free_of_block' HM.out.res 1; have HOwn4 := Lib.hid hown4; have htop4 := HM.out.top; clear hgrow4 hown4)
          have HEnd := Lib.hid (toks_next HL.out HG.out HPos.out hlt HO.out HFu.out hln' hle' (by have := HM.out; rwa [HTx.out] at this) (by have := HOwn4.out; rwa [HTx.out] at this))
          go_roundg (s.size - (g + ln))
          case rel => exact HEnd.out.1
          case measure => exact HEnd.out.2
      · have HN := Lib.hid (toks_wrong HPw.out (by omega) HG.out HPos.out hlt hO her hj (by omega) HL.out.rdr)
        have HT := Lib.hid (toks_fault h HL.out HG.out hlt HO.out her)
        have e0 : (er == 0) = false := by simpa using her
        have e1 : (er != 0) = true := by simpa using her
        clear hO hge
        have HEr := Lib.hid her
        clear her
        go_wp2_with fail
        refine (HN.out).mono ?_
        rintro e w2 ⟨rfl, hb2⟩
        have hres := toks_res (tokO 0 ⟨#[]⟩ p1 p2) HL.out hb2
        have hsz2 := hb2.size
        have r0 := cell_of_block' hres (i := 0) rfl
        have r1 := cell_of_block' hres (i := 1) rfl
        have f0 := free_of_block' hres 0
        have f1 := free_of_block' hres 1
        have HRes := Lib.hid hres
        have HB2 := Lib.hid hb2
        clear hres hb2
        go_wp2_with fail
        go_region
        all_goals
          go_wp2_with fail
          have q0 := fun u => (store_pair HRes.out u u).1
          have q1 := fun u v => (store_pair HRes.out u v).2
          refine bodyPost_ret (v := .tuple #[.slice none 0 0, .agg #[.int .i64 p1, .int .i64 p2], .int .i64 er]) (by simp [results, Tryd.results20, go_sem, q0, q1]) rfl ?_
          exact toks_ret HL.out HB2.out HPos.out HT.out HEr.out

theorem stoks_any (s : ByteArray) (w : World) (hp : PairsIn w) : Calls Tryd.prog 20 #[.string s] w (TokPost w s) := by
  by_cases h : 65536 < s.size
  · exact stoks_long s w h
  · exact stoks_short s w hp (by omega)
end Go.Proofs.YtffdfajlfgeicaaDoor

namespace Go.Proofs.YtffdfajlfgeicaaDoor
open Go.RowKit ScanSpec
set_option maxRecDepth 100000

def pairsB : List (List UInt8) := [[45, 62], [58, 61], [60, 61], [62, 61], [33, 61], [61, 61], [46, 46]]
theorem gPairs : Tryd.prog.globalNamed "semblance/scan.pairs" = some 1 := by kernel_rfl
theorem tPairs : (Tryd.prog.globals[1]?).map (·.type) = some 124 := by kernel_rfl
theorem pairs_in {W : World} {rest : List (String × DataW Unit)} (h : laidMet Tryd.prog (("semblance/scan.pairs", Rows.laid_semblance_scan_pairs) :: rest) W) : PairsIn W := by
  obtain ⟨ps, ⟨g', t', cs, fuel, p, q, hg', ht', hvar, hd, _, _⟩, _⟩ := h
  obtain rfl := Option.some.inj (gPairs.symm.trans hg')
  obtain rfl := Option.some.inj (tPairs.symm.trans ht')
  have hc := cells_of_strs (bs := pairsB) Tryd.underlying124 Tryd.underlying9 (by kernel_rfl) (by kernel_rfl) hd
  have e : cs = pairsV := Array.toList_inj.mp hc
  subst e
  unfold World.var? at hvar
  rw [gPairs] at hvar
  simp only [Option.bind_some] at hvar
  split at hvar
  · rename_i cs' T fr hb
    cases hvar
    exact ⟨T, fr, hb⟩
  · cases hvar
end Go.Proofs.YtffdfajlfgeicaaDoor
