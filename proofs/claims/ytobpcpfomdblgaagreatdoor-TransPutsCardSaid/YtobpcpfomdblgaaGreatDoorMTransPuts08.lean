/- ScanProgSpec, ScanFirst, ScanMark, joined. -/
import Derived.Test.YtobpcpfomdblgaaGreatDoorMTransPuts07
import Derived.Lib.Bytealg
import Derived.Lib.Strings
import Derived.Test.YtobpcpfomdblgaaGreatDoorShelf
namespace Go.Proofs.YtobpcpfomdblgaaGreatDoor
open Go.RowKit ScanSpec

def lowB (n : Int) : Bool := decide (97 ≤ n) && decide (n ≤ 122)
def digB (n : Int) : Bool := decide (48 ≤ n) && decide (n ≤ 57)
def wordB (n : Int) : Bool := (lowB n || digB n) || n == 95
theorem lowB_yes {n : Int} (h1 : 97 ≤ n) (h2 : n ≤ 122) : lowB n = true := by simp [lowB, h1, h2]
theorem lowB_no {n : Int} (h : ¬ (97 ≤ n ∧ n ≤ 122)) : lowB n = false := by simp [lowB]; omega
theorem digB_yes {n : Int} (h1 : 48 ≤ n) (h2 : n ≤ 57) : digB n = true := by simp [digB, h1, h2]
theorem digB_no {n : Int} (h : ¬ (48 ≤ n ∧ n ≤ 57)) : digB n = false := by simp [digB]; omega
theorem word_eq (c : UInt8) : wordB (c.toNat : Int) = isWord c := by
  rcases clsB_val c _ rfl with ⟨h1, h2, hc⟩ | ⟨h1, h2, hc⟩ | ⟨h1, hc⟩ | ⟨h1, hc⟩ | ⟨h1, hc⟩ | ⟨h1, n1, _, _, _, _, _, hc⟩
  all_goals
    unfold isWord wordB lowB digB
    rw [hc]
    rw [Bool.eq_iff_iff]
    simp
    omega
theorem dig_eq (c : UInt8) : digB (c.toNat : Int) = isNum c := by
  rcases clsB_val c _ rfl with ⟨h1, h2, hc⟩ | ⟨h1, h2, hc⟩ | ⟨h1, hc⟩ | ⟨h1, hc⟩ | ⟨h1, hc⟩ | ⟨h1, n1, _, _, _, _, _, hc⟩
  all_goals
    unfold isNum digB
    rw [hc]
    rw [Bool.eq_iff_iff]
    simp
    omega
theorem low_cls {l : List UInt8} {c : UInt8} (h : l[0]? = some c) : lowB (c.toNat : Int) = decide (cls l 0 = 1) := by
  rw [cls_some h]
  rcases clsB_val c _ rfl with ⟨h1, h2, hc⟩ | ⟨h1, h2, hc⟩ | ⟨h1, hc⟩ | ⟨h1, hc⟩ | ⟨h1, hc⟩ | ⟨h1, n1, _, _, _, _, _, hc⟩
  all_goals
    unfold lowB
    rw [hc, Bool.eq_iff_iff]
    simp
    omega
theorem dig_cls {l : List UInt8} {c : UInt8} (h : l[0]? = some c) : digB (c.toNat : Int) = decide (cls l 0 = 2) := by
  rw [cls_some h, dig_eq]; rfl
/-- Behind a run of digits: a byte of a name is one that is no digit. -/
theorem num_then {l : List UInt8} : (cls l (run isNum l) = 1 ∨ cls l (run isNum l) = 3) ↔ ∃ c, l[run isNum l]? = some c ∧ isWord c = true := by
  have hno : ∀ c, l[run isNum l]? = some c → isNum c = false := by
    induction l with
    | nil => simp
    | cons a t ih =>
      intro c hc
      rw [run] at hc
      split at hc
      · exact ih c (by simpa using hc)
      · rename_i h
        simp at hc; subst hc; simpa using h
  constructor
  · intro h
    have h1 : 1 ≤ cls l (run isNum l) := by omega
    obtain ⟨c, hc, hw⟩ := isWord_cls h1 (by omega)
    exact ⟨c, hc, hw⟩
  · rintro ⟨c, hc, hw⟩
    have hn := hno c hc
    rw [cls_some hc]
    simp only [isWord, isNum, Bool.and_eq_true, decide_eq_true_eq, decide_eq_false_iff_not] at hw hn
    omega

/-- The marks of one byte. -/
def singlesL : List UInt8 := [123, 125, 91, 93, 40, 41, 44, 59, 61, 60, 62, 43, 45, 42, 47]
abbrev singlesS : ByteArray := ⟨#[123, 125, 91, 93, 40, 41, 44, 59, 61, 60, 62, 43, 45, 42, 47]⟩
theorem marks_parts : marks = marks.take 7 ++ singlesL.map (fun x => [x]) := by decide
theorem idx_cons (b c : UInt8) (l : List UInt8) : 0 ≤ Lib.indexByte (b :: l) c ↔ (b = c ∨ 0 ≤ Lib.indexByte l c) := by
  rw [Lib.indexByte]
  have := Lib.indexByte_ge l c
  by_cases h : b = c
  · subst h; simp
  · have h' : (b == c) = false := by simpa using h
    rw [h']
    simp only [Bool.false_eq_true, if_false, h, false_or]
    split
    · rename_i h1
      simp at h1
      omega
    · rename_i h1
      simp at h1
      omega
theorem single_find (S : List UInt8) (c : UInt8) (t : List UInt8) : ((S.map fun x => [x]).find? fun m => m.isPrefixOf (c :: t)) = if 0 ≤ Lib.indexByte S c then some [c] else none := by
  induction S with
  | nil => simp [Lib.indexByte]
  | cons b S ih =>
    rw [List.map_cons, List.find?_cons]
    by_cases h : b = c
    · subst h
      rw [if_pos ((idx_cons b b S).2 (.inl rfl))]
      simp [List.isPrefixOf]
    · have h' : (b == c) = false := by simpa using h
      have e : ([b].isPrefixOf (c :: t)) = false := by simp [List.isPrefixOf, h']
      rw [e]
      simp only
      rw [ih]
      by_cases h2 : 0 ≤ Lib.indexByte S c
      · rw [if_pos h2, if_pos ((idx_cons b c S).2 (.inr h2))]
      · rw [if_neg h2, if_neg (fun h3 => ((idx_cons b c S).1 h3).elim h h2)]
theorem markLen_single {c : UInt8} {t : List UInt8} (h : ∀ y ∈ marks.take 7, y.isPrefixOf (c :: t) = false) : markLen (c :: t) = if 0 ≤ Lib.indexByte singlesL c then 1 else 0 := by
  unfold markLen
  rw [marks_parts, List.find?_append, List.find?_eq_none.2 (fun y hy => by rw [h y hy]; simp), Option.none_or, single_find]
  split
  · rename_i m hm
    split at hm
    · rename_i h1
      cases hm
      rw [if_pos h1]; rfl
    · cases hm
  · rename_i hm
    split at hm
    · cases hm
    · rename_i h1
      rw [if_neg h1]

/-- No line feed. -/
def notNl (c : UInt8) : Bool := !(c.toNat == 10)
theorem remark_len (l : List UInt8) : (if 0 ≤ Lib.indexByte l 10 then Lib.indexByte l 10 else (l.length : Int)) = (run notNl l : Int) := by
  induction l with
  | nil => simp [Lib.indexByte, run]
  | cons b t ih =>
    rw [run, Lib.indexByte]
    have hge := Lib.indexByte_ge t 10
    by_cases h : b = 10
    · subst h
      simp [notNl]
    · have h' : (b == 10) = false := by simpa using h
      have hn : b.toNat ≠ 10 := fun e => h (UInt8.toNat_inj.1 e)
      have hp : notNl b = true := by simp [notNl, hn]
      rw [h', if_pos hp]
      have e : (if (Lib.indexByte t 10 == -1) = true then (-1 : Int) else Lib.indexByte t 10 + 1) = if Lib.indexByte t 10 = -1 then -1 else Lib.indexByte t 10 + 1 := by
        by_cases h1 : Lib.indexByte t 10 = -1
        · rw [if_pos h1, if_pos (by simpa using h1)]
        · rw [if_neg h1, if_neg (by simpa using h1)]
      simp only [Bool.false_eq_true, if_false, List.length_cons]
      rw [e]
      by_cases h1 : Lib.indexByte t 10 = -1
      · rw [if_pos h1]
        rw [if_neg (by omega)] at ih
        rw [if_neg (by decide)]
        omega
      · rw [if_neg h1]
        rw [if_pos (by omega)] at ih
        rw [if_pos (by omega)]
        omega
theorem run_first {p : UInt8 → Bool} {l : List UInt8} : ∀ j, j < run p l → ∃ c, l[j]? = some c ∧ p c = true := by
  induction l with
  | nil => intro j h; simp [run] at h
  | cons a t ih =>
    intro j h
    rw [run] at h
    split at h
    · rename_i ha
      cases j with
      | zero => exact ⟨a, rfl, ha⟩
      | succ j => exact ih j (by omega)
    · omega
theorem run_end {p : UInt8 → Bool} {l : List UInt8} {c : UInt8} (h : l[run p l]? = some c) : p c = false := by
  induction l with
  | nil => simp at h
  | cons a t ih =>
    rw [run] at h
    split at h
    · exact ih (by simpa using h)
    · rename_i ha
      simp at h; subst h; simpa using ha
/-- Bytes that are no line feeds are gone past within the line. -/
theorem pos_along {l : List UInt8} {j : Nat} : ∀ n, (∀ k, k < n → ∃ c, l[j + k]? = some c ∧ c.toNat ≠ 10) → pos l (j + n) = ((pos l j).1, (pos l j).2 + n)
  | 0, _ => by simp
  | n + 1, h => by
    obtain ⟨c, hc, h10⟩ := h n (by omega)
    rw [← Nat.add_assoc, pos_next hc, if_neg h10, pos_along n (fun k hk => h k (by omega))]
    ext
    · rfl
    · simp; omega
theorem rem_run {l : List UInt8} {j : Nat} : ∀ n, (∀ k, k < n → ∃ c, l[j + k]? = some c ∧ c.toNat ≠ 10) → rem l (j + n) = rem l j
  | 0, _ => rfl
  | n + 1, h => by
    obtain ⟨c, hc, h10⟩ := h n (by omega)
    rw [← Nat.add_assoc, rem_next hc h10, rem_run n (fun k hk => h k (by omega))]
theorem remark_bytes {l : List UInt8} {j : Nat} : ∀ k, k < run notNl (l.drop j) → ∃ c, l[j + k]? = some c ∧ c.toNat ≠ 10 := by
  intro k hk
  obtain ⟨c, hc, hp⟩ := run_first k hk
  rw [List.getElem?_drop] at hc
  exact ⟨c, hc, by simpa [notNl] using hp⟩
/-- A remark is gone past. -/
theorem gap_past {l : List UInt8} {j : Nat} (h : cls l j = 5) : gap l (j + run notNl (l.drop j)) = gap l j ∧ pos l (j + run notNl (l.drop j)) = ((pos l j).1, (pos l j).2 + (run notNl (l.drop j) : Nat)) := by
  refine ⟨?_, pos_along _ remark_bytes⟩
  have h1 := rem_run _ (remark_bytes (l := l) (j := j))
  rw [← gap_remark h, ← h1]
  rcases hc : l[j + run notNl (l.drop j)]? with _ | c
  · exact (rem_end (List.getElem?_eq_none_iff.1 hc)).symm
  · rw [← List.getElem?_drop] at hc
    have := run_end hc
    rw [List.getElem?_drop] at hc
    exact (rem_line hc (by simpa [notNl] using this)).symm
theorem cls_5_run {l : List UInt8} {j : Nat} (h : cls l j = 5) : 1 ≤ run notNl (l.drop j) := by
  unfold cls at h
  split at h
  · rename_i c hc
    exact run_pos hc (by simp [notNl, clsB_35 h])
  · simp at h
/-- In a token there is no line feed. -/
theorem one_noline {l : List UInt8} {j ln : Nat} {kd : Int} (h : ScanSpec.one (l.drop j) = (kd, ln, 0)) : ∀ k, k < ln → ∃ c, l[j + k]? = some c ∧ c.toNat ≠ 10 := by
  intro k hk
  have word : ∀ {n : Nat}, k < n → n = run isWord (l.drop j) → ∃ c, l[j + k]? = some c ∧ c.toNat ≠ 10 := by
    intro n hn e
    subst e
    obtain ⟨c, hc, hp⟩ := run_first k hn
    rw [List.getElem?_drop] at hc
    refine ⟨c, hc, fun e => ?_⟩
    rw [← word_eq, e] at hp
    exact absurd hp (by decide)
  have num : ∀ {n : Nat}, k < n → n = run isNum (l.drop j) → ∃ c, l[j + k]? = some c ∧ c.toNat ≠ 10 := by
    intro n hn e
    subst e
    obtain ⟨c, hc, hp⟩ := run_first k hn
    rw [List.getElem?_drop] at hc
    refine ⟨c, hc, fun e => ?_⟩
    rw [← dig_eq, e] at hp
    exact absurd hp (by decide)
  unfold ScanSpec.one at h
  split at h
  · split at h
    · cases h
    · simp only [Prod.mk.injEq] at h
      exact word hk h.2.1.symm
  · split at h
    · split at h
      · cases h
      · split at h
        · cases h
        · simp only [Prod.mk.injEq] at h
          exact num hk h.2.1.symm
    · split at h
      · cases h
      · simp only [Prod.mk.injEq] at h
        obtain ⟨-, h, -⟩ := h
        subst h
        unfold markLen at hk
        cases hf : marks.find? fun m => m.isPrefixOf (l.drop j) with
        | none => rw [hf] at hk; simp at hk
        | some m =>
          rw [hf] at hk
          have hm := List.mem_of_find?_eq_some hf
          have hp := List.find?_some hf
          rw [List.isPrefixOf_iff_prefix] at hp
          obtain ⟨t, ht⟩ := hp
          have hc : l[j + k]? = some m[k] := by
            rw [← List.getElem?_drop, ← ht, List.getElem?_append_left hk, List.getElem?_eq_getElem hk]
          have all : ∀ y ∈ marks, ∀ x ∈ y, x.toNat ≠ 10 := by decide
          exact ⟨_, hc, all m hm _ (List.getElem_mem hk)⟩
theorem txt_ne {s : ByteArray} (h : 0 < s.size) : s.toList.isEmpty = false := by
  have e : s.toList.length = s.size := by rw [ByteArray.toList_eq]; rfl
  cases h' : s.toList with
  | nil => rw [h'] at e; simp at e; omega
  | cons a l => rfl
theorem extract_drop (s : ByteArray) (j : Nat) : (s.extract j s.size).data.toList = s.data.toList.drop j := by
  rw [ByteArray.data_extract, Array.toList_extract, List.extract_eq_take_drop]
  rw [List.take_of_length_le]
  rw [List.length_drop, size_list']
  exact Nat.le_refl _
theorem extract_extract (s : ByteArray) (j n : Nat) : (s.extract j s.size).extract n (s.extract j s.size).size = s.extract (j + n) s.size := by
  apply ByteArray.ext
  apply Array.toList_inj.mp
  rw [extract_drop, extract_drop, extract_drop, List.drop_drop]
theorem extract_head (s : ByteArray) (j n : Nat) (_h : j + n ≤ s.size) : (s.extract j s.size).extract 0 n = s.extract j (j + n) := by
  apply ByteArray.ext
  apply Array.toList_inj.mp
  rw [ByteArray.data_extract, Array.toList_extract, List.extract_eq_take_drop, extract_drop, ByteArray.data_extract, Array.toList_extract, List.extract_eq_take_drop, List.drop_zero]
  congr 1
  omega
theorem extract_all (s : ByteArray) : s.extract 0 s.size = s := by
  apply ByteArray.ext
  apply Array.toList_inj.mp
  rw [extract_drop]; rfl
theorem extract_size' (s : ByteArray) (j : Nat) : (s.extract j s.size).size = s.size - j := by
  rw [← size_list', extract_drop, List.length_drop, size_list']
end Go.Proofs.YtobpcpfomdblgaaGreatDoor

namespace Go.Proofs.YtobpcpfomdblgaaGreatDoor
open Go.RowKit ScanSpec
set_option maxRecDepth 100000

theorem letter_any (n : Int) (w : World) : Calls Tryz.prog 80 #[.int .u8 n] w fun e w' => e = .returned (.bool (lowB n)) ∧ w = w' := by
  by_cases h1 : 97 ≤ n
  · by_cases h2 : n ≤ 122
    · have HV := Lib.hid (lowB_yes h1 h2)
      go_enter Tryz.func80, Tryz.ntmps80
      go_wp2
      go_ret
      exact ⟨ret_bool HV.out.symm, rfl⟩
    · have HV := Lib.hid (lowB_no (n := n) (by omega))
      have h2' : decide (n ≤ 122) = false := decide_eq_false h2
      clear h2
      go_enter Tryz.func80, Tryz.ntmps80
      go_wp2
      go_ret
      exact ⟨ret_bool HV.out.symm, rfl⟩
  · have HV := Lib.hid (lowB_no (n := n) (by omega))
    have h1' : decide (97 ≤ n) = false := decide_eq_false h1
    clear h1
    go_enter Tryz.func80, Tryz.ntmps80
    go_wp2
    go_ret
    exact ⟨ret_bool HV.out.symm, rfl⟩
theorem digit_any (n : Int) (w : World) : Calls Tryz.prog 82 #[.int .u8 n] w fun e w' => e = .returned (.bool (digB n)) ∧ w = w' := by
  by_cases h1 : 48 ≤ n
  · by_cases h2 : n ≤ 57
    · have HV := Lib.hid (digB_yes h1 h2)
      go_enter Tryz.func82, Tryz.ntmps82
      go_wp2
      go_ret
      exact ⟨ret_bool HV.out.symm, rfl⟩
    · have HV := Lib.hid (digB_no (n := n) (by omega))
      have h2' : decide (n ≤ 57) = false := decide_eq_false h2
      clear h2
      go_enter Tryz.func82, Tryz.ntmps82
      go_wp2
      go_ret
      exact ⟨ret_bool HV.out.symm, rfl⟩
  · have HV := Lib.hid (digB_no (n := n) (by omega))
    have h1' : decide (48 ≤ n) = false := decide_eq_false h1
    clear h1
    go_enter Tryz.func82, Tryz.ntmps82
    go_wp2
    go_ret
    exact ⟨ret_bool HV.out.symm, rfl⟩
theorem inName_any (n : Int) (w : World) : Calls Tryz.prog 99 #[.int .u8 n] w fun e w' => e = .returned (.bool (wordB n)) ∧ w = w' := by
  have HW : Hid (wordB n = ((lowB n || digB n) || n == 95)) := Lib.hid rfl
  rcases hl : lowB n with _ | _
  · rcases hd : digB n with _ | _
    · have HL := Lib.hid (fun w => letter_any n w)
      have HD := Lib.hid (fun w => digit_any n w)
      rw [hl, hd] at HW
      rw [hl] at HL
      rw [hd] at HD
      clear hl hd
      go_enter Tryz.func99, Tryz.ntmps99
      go_wp2_with (first | (go_at_call 80; refine (HL.out _).mono ?_; rintro e w' ⟨rfl, rfl⟩) | (go_at_call 82; refine (HD.out _).mono ?_; rintro e w' ⟨rfl, rfl⟩))
      go_ret
      exact ⟨ret_bool (by rw [HW.out]; rfl), rfl⟩
    · have HL := Lib.hid (fun w => letter_any n w)
      have HD := Lib.hid (fun w => digit_any n w)
      rw [hl, hd] at HW
      rw [hl] at HL
      rw [hd] at HD
      clear hl hd
      go_enter Tryz.func99, Tryz.ntmps99
      go_wp2_with (first | (go_at_call 80; refine (HL.out _).mono ?_; rintro e w' ⟨rfl, rfl⟩) | (go_at_call 82; refine (HD.out _).mono ?_; rintro e w' ⟨rfl, rfl⟩))
      go_ret
      exact ⟨ret_bool (by rw [HW.out]; rfl), rfl⟩
  · have HL := Lib.hid (fun w => letter_any n w)
    rw [hl] at HW HL
    clear hl
    go_enter Tryz.func99, Tryz.ntmps99
    go_wp2_with (go_at_call 80; refine (HL.out _).mono ?_; rintro e w' ⟨rfl, rfl⟩)
    go_ret
    exact ⟨ret_bool (by rw [HW.out]; rfl), rfl⟩

def RunSz (l : List UInt8) (p : UInt8 → Bool) (v : Value) : Prop := ∃ k : Nat, k ≤ l.length ∧ v = .int .i64 k ∧ k + run p (l.drop k) = run p l
set_option maxHeartbeats 1000000 in
theorem run_word (s : ByteArray) (w : World) (hs : s.size ≤ 9223372036854775807) :
    Calls Tryz.prog 98 #[.string s, .func (.func 99) #[] #[]] w fun e w' => e = .returned (.int .i64 (run isWord s.data.toList)) ∧ w = w' := by
  have HF := Lib.hid (fun (c : UInt8) (w : World) => (by rw [← word_eq]; exact inName_any _ w : Calls Tryz.prog 99 #[.int .u8 c.toNat] w fun e w' => e = .returned (.bool (isWord c)) ∧ w = w'))
  go_enter Tryz.func98, Tryz.ntmps98
  go_wp2
  go_loop [5] (fun v => RunSz s.data.toList isWord v) (fun v => s.size - (intOf v).toNat)
  case atStart => exact ⟨0, Nat.zero_le _, rfl, by simp⟩
  case round =>
    obtain ⟨k, hk, rfl, hr⟩ := hrel
    rw [size_list'] at hk
    have HR := Lib.hid hr
    clear hr
    by_cases hlt : k < s.size
    · have hck := byte_at' s k hlt
      rcases hp : isWord s[k] with _ | _
      · have HC := Lib.hid (fun w => HF.out s[k] w)
        rw [hp] at HC
        have HE : Hid ((run isWord s.data.toList : Int) = (k : Int)) := Lib.hid (by
          have := run_stop (p := isWord) (l := s.data.toList) (i := k) (fun c hc => by rw [hck] at hc; cases hc; exact hp)
          have := HR.out
          omega)
        clear hp hck
        go_wp2_with (go_at_call 99; refine (HC.out _).mono ?_; rintro e w' ⟨rfl, rfl⟩)
        go_ret
        exact ⟨ret_int HE.out.symm, rfl⟩
      · have HC := Lib.hid (fun w => HF.out s[k] w)
        rw [hp] at HC
        have HN : Hid (RunSz s.data.toList isWord (.int .i64 ((k : Int) + 1))) := Lib.hid ⟨k + 1, by rw [size_list']; omega, by simp, (run_next hck hp).trans HR.out⟩
        clear hp hck
        go_wp2_with (go_at_call 99; refine (HC.out _).mono ?_; rintro e w' ⟨rfl, rfl⟩)
        go_round
        case rel => exact HN.out
        case measure => simp [intOf]; omega
    · have HE : Hid ((run isWord s.data.toList : Int) = (k : Int)) := Lib.hid (by
        have := run_stop (p := isWord) (l := s.data.toList) (i := k) (fun c hc => by have := get_lt hc; rw [size_list'] at this; omega)
        have := HR.out
        omega)
      have hd : decide (k < s.size) = false := decide_eq_false hlt
      go_wp2_with fail
      go_ret
      exact ⟨ret_int HE.out.symm, rfl⟩
set_option maxHeartbeats 1000000 in
theorem run_num (s : ByteArray) (w : World) (hs : s.size ≤ 9223372036854775807) :
    Calls Tryz.prog 98 #[.string s, .func (.func 82) #[] #[]] w fun e w' => e = .returned (.int .i64 (run isNum s.data.toList)) ∧ w = w' := by
  have HF := Lib.hid (fun (c : UInt8) (w : World) => (by rw [← dig_eq]; exact digit_any _ w : Calls Tryz.prog 82 #[.int .u8 c.toNat] w fun e w' => e = .returned (.bool (isNum c)) ∧ w = w'))
  go_enter Tryz.func98, Tryz.ntmps98
  go_wp2
  go_loop [5] (fun v => RunSz s.data.toList isNum v) (fun v => s.size - (intOf v).toNat)
  case atStart => exact ⟨0, Nat.zero_le _, rfl, by simp⟩
  case round =>
    obtain ⟨k, hk, rfl, hr⟩ := hrel
    rw [size_list'] at hk
    have HR := Lib.hid hr
    clear hr
    by_cases hlt : k < s.size
    · have hck := byte_at' s k hlt
      rcases hp : isNum s[k] with _ | _
      · have HC := Lib.hid (fun w => HF.out s[k] w)
        rw [hp] at HC
        have HE : Hid ((run isNum s.data.toList : Int) = (k : Int)) := Lib.hid (by
          have := run_stop (p := isNum) (l := s.data.toList) (i := k) (fun c hc => by rw [hck] at hc; cases hc; exact hp)
          have := HR.out
          omega)
        clear hp hck
        go_wp2_with (go_at_call 82; refine (HC.out _).mono ?_; rintro e w' ⟨rfl, rfl⟩)
        go_ret
        exact ⟨ret_int HE.out.symm, rfl⟩
      · have HC := Lib.hid (fun w => HF.out s[k] w)
        rw [hp] at HC
        have HN : Hid (RunSz s.data.toList isNum (.int .i64 ((k : Int) + 1))) := Lib.hid ⟨k + 1, by rw [size_list']; omega, by simp, (run_next hck hp).trans HR.out⟩
        clear hp hck
        go_wp2_with (go_at_call 82; refine (HC.out _).mono ?_; rintro e w' ⟨rfl, rfl⟩)
        go_round
        case rel => exact HN.out
        case measure => simp [intOf]; omega
    · have HE : Hid ((run isNum s.data.toList : Int) = (k : Int)) := Lib.hid (by
        have := run_stop (p := isNum) (l := s.data.toList) (i := k) (fun c hc => by have := get_lt hc; rw [size_list'] at this; omega)
        have := HR.out
        omega)
      have hd : decide (k < s.size) = false := decide_eq_false hlt
      go_wp2_with fail
      go_ret
      exact ⟨ret_int HE.out.symm, rfl⟩
end Go.Proofs.YtobpcpfomdblgaaGreatDoor

namespace Go.Proofs.YtobpcpfomdblgaaGreatDoor
open Go.RowKit ScanSpec
set_option maxRecDepth 100000

/-- The table of marks of two bytes holds what it was laid with. -/
def pairsV : Array Value := #[.string ⟨#[45, 62]⟩, .string ⟨#[58, 61]⟩, .string ⟨#[60, 61]⟩, .string ⟨#[62, 61]⟩, .string ⟨#[33, 61]⟩, .string ⟨#[61, 61]⟩, .string ⟨#[46, 46]⟩]
def PairsIn (w : World) : Prop := ∃ T fr, w.heap[0]? = some (.cells pairsV T fr)
theorem PairsIn.pos {w : World} (h : PairsIn w) : 0 < w.heap.size := by
  obtain ⟨T, fr, h⟩ := h
  exact (Array.getElem?_eq_some_iff.1 h).1
theorem PairsIn.keep {w w' : World} (h : PairsIn w) (hb : Below w.heap.size w w') : PairsIn w' := by
  have hp := h.pos
  obtain ⟨T, fr, h⟩ := h
  exact ⟨T, fr, (hb.block _ hp).trans h⟩
theorem PairsIn.alloc {w : World} (h : PairsIn w) (o : Obj) : PairsIn (w.alloc o) := h.keep ((Below.refl _ _).alloc (Nat.le_refl _) _)
theorem PairsIn.cell {w : World} (h : PairsIn w) {i : Nat} {v : Value} (hi : pairsV[i]? = some v) : w.cell? ⟨0, i, none⟩ = some v := by
  obtain ⟨T, fr, h⟩ := h
  simp [World.cell?, h, hi]

theorem byte_u8 (c : UInt8) : ((c.toNat : Int)).toNat.toUInt8 = c := by simp

def PairRel (d : List UInt8) (v : Value) : Prop := ∃ j : Int, 0 ≤ j ∧ j ≤ 7 ∧ v = .int .i64 j ∧ ∀ y ∈ marks.take j.toNat, y.isPrefixOf d = false
def MarkPost (d : List UInt8) (w : World) (e : Ending) (w' : World) : Prop :=
  ∃ kd ln er : Int, (kd, ln, er) = (if markLen d = 0 then (0, 0, 2) else (3, (markLen d : Int), 0)) ∧ e = .returned (.tuple #[.int .i64 kd, .int .i64 ln, .int .i64 er]) ∧ w = w'
theorem pair_next {d : List UInt8} {n : Nat} {m : List UInt8} (h : ∀ y ∈ marks.take n, y.isPrefixOf d = false) (hm : marks[n]? = some m) (hf : m.isPrefixOf d = false) : ∀ y ∈ marks.take (n + 1), y.isPrefixOf d = false := by
  intro y hy
  rw [take_next hm, List.mem_append, List.mem_singleton] at hy
  rcases hy with hy | rfl
  · exact h y hy
  · exact hf
theorem pair_hit {d : List UInt8} {w : World} {n : Nat} {m : List UInt8} (h : ∀ y ∈ marks.take n, y.isPrefixOf d = false) (hm : marks[n]? = some m) (hf : m.isPrefixOf d = true) (hl : m.length = 2) :
    MarkPost d w (.returned (.tuple #[.int .i64 3, .int .i64 2, .int .i64 0])) w := by
  have := mark_hit hm h hf
  refine ⟨_, _, _, ?_, rfl, rfl⟩
  rw [this, hl]; rfl

set_option maxHeartbeats 4000000 in
theorem mark_any (s : ByteArray) (w : World) (hp : PairsIn w) (h0 : 0 < s.size) (_hs : s.size ≤ 9223372036854775807) :
    Calls Tryz.prog 84 #[.string s] w (MarkPost s.data.toList w) := by
  have c0 : w.cell? ⟨0, 0, none⟩ = some (.string ⟨#[45, 62]⟩) := hp.cell (i := 0) rfl
  have c1 : w.cell? ⟨0, 1, none⟩ = some (.string ⟨#[58, 61]⟩) := hp.cell (i := 1) rfl
  have c2 : w.cell? ⟨0, 2, none⟩ = some (.string ⟨#[60, 61]⟩) := hp.cell (i := 2) rfl
  have c3 : w.cell? ⟨0, 3, none⟩ = some (.string ⟨#[62, 61]⟩) := hp.cell (i := 3) rfl
  have c4 : w.cell? ⟨0, 4, none⟩ = some (.string ⟨#[33, 61]⟩) := hp.cell (i := 4) rfl
  have c5 : w.cell? ⟨0, 5, none⟩ = some (.string ⟨#[61, 61]⟩) := hp.cell (i := 5) rfl
  have c6 : w.cell? ⟨0, 6, none⟩ = some (.string ⟨#[46, 46]⟩) := hp.cell (i := 6) rfl
  have hp0 := hp.pos
  go_enter Tryz.func84, Tryz.ntmps84
  go_wp2_with fail
  clear c0 c1 c2 c3 c4 c5 c6
  go_loop [8] (fun v => PairRel s.data.toList v) (fun v => 7 - (intOf v).toNat)
  case atStart => exact ⟨0, by omega, by omega, rfl, by simp⟩
  case round =>
    obtain ⟨j, hj0, hj7, rfl, hno⟩ := hrel
    have HN := Lib.hid hno
    clear hno
    rcases (show j = 0 ∨ j = 1 ∨ j = 2 ∨ j = 3 ∨ j = 4 ∨ j = 5 ∨ j = 6 ∨ j = 7 by omega) with rfl | rfl | rfl | rfl | rfl | rfl | rfl | rfl
    · have hx : ∀ w : World, (Instr.index 135 (.agg #[.string ⟨#[45, 62]⟩, .string ⟨#[58, 61]⟩, .string ⟨#[60, 61]⟩, .string ⟨#[62, 61]⟩, .string ⟨#[33, 61]⟩, .string ⟨#[61, 61]⟩, .string ⟨#[46, 46]⟩]) (.int .i64 0)).run Tryz.prog w = .ok (.string ⟨#[45, 62]⟩) w := fun _ => by kernel_rfl
      have HC := Lib.hid (fun w => Tryz.strings_HasPrefix s ⟨#[45, 62]⟩ w)
      rcases hf : Lib.hasPrefix s.data.toList (⟨#[45, 62]⟩ : ByteArray).data.toList with _ | _
      · have HR : Hid (PairRel s.data.toList (.int .i64 1)) := Lib.hid ⟨1, by omega, by omega, rfl, pair_next HN.out (m := [45, 62]) rfl hf⟩
        rw [hf] at HC
        clear hf
        go_wp2_with (go_at_call 100; refine (HC.out _).mono ?_; rintro e w' ⟨rfl, rfl⟩)
        go_round
        case rel => exact HR.out
        case measure => decide
      · have HR : Hid (MarkPost s.data.toList w (.returned (.tuple #[.int .i64 3, .int .i64 2, .int .i64 0])) w) := Lib.hid (pair_hit HN.out (m := [45, 62]) rfl hf rfl)
        rw [hf] at HC
        clear hf
        go_wp2_with (go_at_call 100; refine (HC.out _).mono ?_; rintro e w' ⟨rfl, rfl⟩)
        go_ret3
        exact HR.out
    · have hx : ∀ w : World, (Instr.index 135 (.agg #[.string ⟨#[45, 62]⟩, .string ⟨#[58, 61]⟩, .string ⟨#[60, 61]⟩, .string ⟨#[62, 61]⟩, .string ⟨#[33, 61]⟩, .string ⟨#[61, 61]⟩, .string ⟨#[46, 46]⟩]) (.int .i64 1)).run Tryz.prog w = .ok (.string ⟨#[58, 61]⟩) w := fun _ => by kernel_rfl
      have HC := Lib.hid (fun w => Tryz.strings_HasPrefix s ⟨#[58, 61]⟩ w)
      rcases hf : Lib.hasPrefix s.data.toList (⟨#[58, 61]⟩ : ByteArray).data.toList with _ | _
      · have HR : Hid (PairRel s.data.toList (.int .i64 2)) := Lib.hid ⟨2, by omega, by omega, rfl, pair_next HN.out (m := [58, 61]) rfl hf⟩
        rw [hf] at HC
        clear hf
        go_wp2_with (go_at_call 100; refine (HC.out _).mono ?_; rintro e w' ⟨rfl, rfl⟩)
        go_round
        case rel => exact HR.out
        case measure => decide
      · have HR : Hid (MarkPost s.data.toList w (.returned (.tuple #[.int .i64 3, .int .i64 2, .int .i64 0])) w) := Lib.hid (pair_hit HN.out (m := [58, 61]) rfl hf rfl)
        rw [hf] at HC
        clear hf
        go_wp2_with (go_at_call 100; refine (HC.out _).mono ?_; rintro e w' ⟨rfl, rfl⟩)
        go_ret3
        exact HR.out
    · have hx : ∀ w : World, (Instr.index 135 (.agg #[.string ⟨#[45, 62]⟩, .string ⟨#[58, 61]⟩, .string ⟨#[60, 61]⟩, .string ⟨#[62, 61]⟩, .string ⟨#[33, 61]⟩, .string ⟨#[61, 61]⟩, .string ⟨#[46, 46]⟩]) (.int .i64 2)).run Tryz.prog w = .ok (.string ⟨#[60, 61]⟩) w := fun _ => by kernel_rfl
      have HC := Lib.hid (fun w => Tryz.strings_HasPrefix s ⟨#[60, 61]⟩ w)
      rcases hf : Lib.hasPrefix s.data.toList (⟨#[60, 61]⟩ : ByteArray).data.toList with _ | _
      · have HR : Hid (PairRel s.data.toList (.int .i64 3)) := Lib.hid ⟨3, by omega, by omega, rfl, pair_next HN.out (m := [60, 61]) rfl hf⟩
        rw [hf] at HC
        clear hf
        go_wp2_with (go_at_call 100; refine (HC.out _).mono ?_; rintro e w' ⟨rfl, rfl⟩)
        go_round
        case rel => exact HR.out
        case measure => decide
      · have HR : Hid (MarkPost s.data.toList w (.returned (.tuple #[.int .i64 3, .int .i64 2, .int .i64 0])) w) := Lib.hid (pair_hit HN.out (m := [60, 61]) rfl hf rfl)
        rw [hf] at HC
        clear hf
        go_wp2_with (go_at_call 100; refine (HC.out _).mono ?_; rintro e w' ⟨rfl, rfl⟩)
        go_ret3
        exact HR.out
    · have hx : ∀ w : World, (Instr.index 135 (.agg #[.string ⟨#[45, 62]⟩, .string ⟨#[58, 61]⟩, .string ⟨#[60, 61]⟩, .string ⟨#[62, 61]⟩, .string ⟨#[33, 61]⟩, .string ⟨#[61, 61]⟩, .string ⟨#[46, 46]⟩]) (.int .i64 3)).run Tryz.prog w = .ok (.string ⟨#[62, 61]⟩) w := fun _ => by kernel_rfl
      have HC := Lib.hid (fun w => Tryz.strings_HasPrefix s ⟨#[62, 61]⟩ w)
      rcases hf : Lib.hasPrefix s.data.toList (⟨#[62, 61]⟩ : ByteArray).data.toList with _ | _
      · have HR : Hid (PairRel s.data.toList (.int .i64 4)) := Lib.hid ⟨4, by omega, by omega, rfl, pair_next HN.out (m := [62, 61]) rfl hf⟩
        rw [hf] at HC
        clear hf
        go_wp2_with (go_at_call 100; refine (HC.out _).mono ?_; rintro e w' ⟨rfl, rfl⟩)
        go_round
        case rel => exact HR.out
        case measure => decide
      · have HR : Hid (MarkPost s.data.toList w (.returned (.tuple #[.int .i64 3, .int .i64 2, .int .i64 0])) w) := Lib.hid (pair_hit HN.out (m := [62, 61]) rfl hf rfl)
        rw [hf] at HC
        clear hf
        go_wp2_with (go_at_call 100; refine (HC.out _).mono ?_; rintro e w' ⟨rfl, rfl⟩)
        go_ret3
        exact HR.out
    · have hx : ∀ w : World, (Instr.index 135 (.agg #[.string ⟨#[45, 62]⟩, .string ⟨#[58, 61]⟩, .string ⟨#[60, 61]⟩, .string ⟨#[62, 61]⟩, .string ⟨#[33, 61]⟩, .string ⟨#[61, 61]⟩, .string ⟨#[46, 46]⟩]) (.int .i64 4)).run Tryz.prog w = .ok (.string ⟨#[33, 61]⟩) w := fun _ => by kernel_rfl
      have HC := Lib.hid (fun w => Tryz.strings_HasPrefix s ⟨#[33, 61]⟩ w)
      rcases hf : Lib.hasPrefix s.data.toList (⟨#[33, 61]⟩ : ByteArray).data.toList with _ | _
      · have HR : Hid (PairRel s.data.toList (.int .i64 5)) := Lib.hid ⟨5, by omega, by omega, rfl, pair_next HN.out (m := [33, 61]) rfl hf⟩
        rw [hf] at HC
        clear hf
        go_wp2_with (go_at_call 100; refine (HC.out _).mono ?_; rintro e w' ⟨rfl, rfl⟩)
        go_round
        case rel => exact HR.out
        case measure => decide
      · have HR : Hid (MarkPost s.data.toList w (.returned (.tuple #[.int .i64 3, .int .i64 2, .int .i64 0])) w) := Lib.hid (pair_hit HN.out (m := [33, 61]) rfl hf rfl)
        rw [hf] at HC
        clear hf
        go_wp2_with (go_at_call 100; refine (HC.out _).mono ?_; rintro e w' ⟨rfl, rfl⟩)
        go_ret3
        exact HR.out
    · have hx : ∀ w : World, (Instr.index 135 (.agg #[.string ⟨#[45, 62]⟩, .string ⟨#[58, 61]⟩, .string ⟨#[60, 61]⟩, .string ⟨#[62, 61]⟩, .string ⟨#[33, 61]⟩, .string ⟨#[61, 61]⟩, .string ⟨#[46, 46]⟩]) (.int .i64 5)).run Tryz.prog w = .ok (.string ⟨#[61, 61]⟩) w := fun _ => by kernel_rfl
      have HC := Lib.hid (fun w => Tryz.strings_HasPrefix s ⟨#[61, 61]⟩ w)
      rcases hf : Lib.hasPrefix s.data.toList (⟨#[61, 61]⟩ : ByteArray).data.toList with _ | _
      · have HR : Hid (PairRel s.data.toList (.int .i64 6)) := Lib.hid ⟨6, by omega, by omega, rfl, pair_next HN.out (m := [61, 61]) rfl hf⟩
        rw [hf] at HC
        clear hf
        go_wp2_with (go_at_call 100; refine (HC.out _).mono ?_; rintro e w' ⟨rfl, rfl⟩)
        go_round
        case rel => exact HR.out
        case measure => decide
      · have HR : Hid (MarkPost s.data.toList w (.returned (.tuple #[.int .i64 3, .int .i64 2, .int .i64 0])) w) := Lib.hid (pair_hit HN.out (m := [61, 61]) rfl hf rfl)
        rw [hf] at HC
        clear hf
        go_wp2_with (go_at_call 100; refine (HC.out _).mono ?_; rintro e w' ⟨rfl, rfl⟩)
        go_ret3
        exact HR.out
    · have hx : ∀ w : World, (Instr.index 135 (.agg #[.string ⟨#[45, 62]⟩, .string ⟨#[58, 61]⟩, .string ⟨#[60, 61]⟩, .string ⟨#[62, 61]⟩, .string ⟨#[33, 61]⟩, .string ⟨#[61, 61]⟩, .string ⟨#[46, 46]⟩]) (.int .i64 6)).run Tryz.prog w = .ok (.string ⟨#[46, 46]⟩) w := fun _ => by kernel_rfl
      have HC := Lib.hid (fun w => Tryz.strings_HasPrefix s ⟨#[46, 46]⟩ w)
      rcases hf : Lib.hasPrefix s.data.toList (⟨#[46, 46]⟩ : ByteArray).data.toList with _ | _
      · have HR : Hid (PairRel s.data.toList (.int .i64 7)) := Lib.hid ⟨7, by omega, by omega, rfl, pair_next HN.out (m := [46, 46]) rfl hf⟩
        rw [hf] at HC
        clear hf
        go_wp2_with (go_at_call 100; refine (HC.out _).mono ?_; rintro e w' ⟨rfl, rfl⟩)
        go_round
        case rel => exact HR.out
        case measure => decide
      · have HR : Hid (MarkPost s.data.toList w (.returned (.tuple #[.int .i64 3, .int .i64 2, .int .i64 0])) w) := Lib.hid (pair_hit HN.out (m := [46, 46]) rfl hf rfl)
        rw [hf] at HC
        clear hf
        go_wp2_with (go_at_call 100; refine (HC.out _).mono ?_; rintro e w' ⟨rfl, rfl⟩)
        go_ret3
        exact HR.out
    · have HC := Lib.hid (fun w => Tryz.strings_IndexByte singlesS (s[0].toNat : Int) w)
      have hl : s.data.toList = s[0] :: s.data.toList.drop 1 := by
        have := drop_next (byte_at' s 0 h0)
        simpa using this
      have hm : markLen s.data.toList = if (0 : Int) ≤ Lib.indexByte singlesS.data.toList (s[0].toNat : Int).toNat.toUInt8 then 1 else 0 := by
        have h7 : ∀ y ∈ marks.take 7, y.isPrefixOf s.data.toList = false := HN.out
        rw [hl] at h7 ⊢
        rw [markLen_single h7, byte_u8]; rfl
      have HM := Lib.hid hm
      clear hm hl
      obtain ⟨x, hx⟩ : ∃ x, x = Lib.indexByte singlesS.data.toList (s[0].toNat : Int).toNat.toUInt8 := ⟨_, rfl⟩
      rw [← hx] at HC HM
      clear hx
      by_cases hge : 0 ≤ x
      · have HR : Hid (MarkPost s.data.toList w (.returned (.tuple #[.int .i64 3, .int .i64 1, .int .i64 0])) w) := Lib.hid ⟨3, 1, 0, by rw [HM.out, if_pos hge]; rfl, rfl, rfl⟩
        go_wp2_with (go_at_call 97; (with_reducible refine (HC.out _).mono ?_); rintro e w' ⟨rfl, rfl⟩)
        go_ret3
        exact HR.out
      · have HR : Hid (MarkPost s.data.toList w (.returned (.tuple #[.int .i64 0, .int .i64 0, .int .i64 2])) w) := Lib.hid ⟨0, 0, 2, by rw [HM.out, if_neg hge]; rfl, rfl, rfl⟩
        have hlt : x < 0 := by omega
        clear hge
        go_wp2_with (go_at_call 97; (with_reducible refine (HC.out _).mono ?_); rintro e w' ⟨rfl, rfl⟩)
        go_ret3
        exact HR.out
def FirstPost (d : List UInt8) (w : World) (e : Ending) (w' : World) : Prop :=
  ∃ kd er : Int, ∃ ln : Nat, (kd, ln, er) = ScanSpec.one d ∧ e = .returned (.tuple #[.int .i64 kd, .int .i64 ln, .int .i64 er]) ∧ w = w'
theorem name_any (s : ByteArray) (w : World) (h1 : cls s.data.toList 0 = 1) (hs : s.size ≤ 9223372036854775807) : Calls Tryz.prog 81 #[.string s] w (FirstPost s.data.toList w) := by
  have HO := Lib.hid (one_name (l := s.data.toList) (i := 0) h1)
  rw [List.drop_zero] at HO
  have HC := Lib.hid (fun w => run_word s w hs)
  have hrl := run_le isWord s.data.toList
  rw [size_list'] at hrl
  obtain ⟨n, hn⟩ : ∃ n, n = run isWord s.data.toList := ⟨_, rfl⟩
  rw [← hn] at HO HC hrl
  clear hn h1
  by_cases hb : 12 < n
  · have HR : Hid (FirstPost s.data.toList w (.returned (.tuple #[.int .i64 0, .int .i64 0, .int .i64 5])) w) := Lib.hid ⟨0, 5, 0, (HO.out.trans (if_pos hb)).symm, rfl, rfl⟩
    have hbI : 12 < (n : Int) := by omega
    go_enter Tryz.func81, Tryz.ntmps81
    go_wp2_with (go_at_call 98; (with_reducible refine (HC.out _).mono ?_); rintro e w' ⟨rfl, rfl⟩)
    go_ret3
    exact HR.out
  · have HR : Hid (FirstPost s.data.toList w (.returned (.tuple #[.int .i64 1, .int .i64 n, .int .i64 0])) w) := Lib.hid ⟨1, 0, n, (HO.out.trans (if_neg hb)).symm, rfl, rfl⟩
    have hbI : (n : Int) ≤ 12 := by omega
    go_enter Tryz.func81, Tryz.ntmps81
    go_wp2_with (go_at_call 98; (with_reducible refine (HC.out _).mono ?_); rintro e w' ⟨rfl, rfl⟩)
    go_ret3
    exact HR.out
set_option maxHeartbeats 1000000 in
theorem number_any (s : ByteArray) (w : World) (h1 : cls s.data.toList 0 = 2) (hs : s.size ≤ 9223372036854775807) : Calls Tryz.prog 83 #[.string s] w (FirstPost s.data.toList w) := by
  have HO := Lib.hid (one_num (l := s.data.toList) (i := 0) h1)
  rw [List.drop_zero, Nat.zero_add] at HO
  have HC := Lib.hid (fun w => run_num s w hs)
  have hrl := run_le isNum s.data.toList
  rw [size_list'] at hrl
  have HT := Lib.hid (num_then (l := s.data.toList))
  obtain ⟨n, hn⟩ : ∃ n, n = run isNum s.data.toList := ⟨_, rfl⟩
  rw [← hn] at HO HC hrl HT
  clear hn h1
  have HE : ∀ hw : ¬ (cls s.data.toList n = 1 ∨ cls s.data.toList n = 3), Hid (ScanSpec.one s.data.toList = if 9 < n then (0, 0, 5) else (2, n, 0)) := fun hw => Lib.hid (HO.out.trans (if_neg hw))
  by_cases hlt : n < s.size
  · have hb := byte_at' s n hlt
    have HI := Lib.hid (fun w => inName_any (s[n].toNat : Int) w)
    rcases hw : isWord s[n] with _ | _
    · have HE' := HE (fun h => by
        obtain ⟨c, hc, hc'⟩ := HT.out.1 h
        rw [hb] at hc; cases hc
        rw [hw] at hc'; cases hc')
      rw [word_eq, hw] at HI
      clear hw hb HE
      by_cases h9 : 9 < n
      · have HR : Hid (FirstPost s.data.toList w (.returned (.tuple #[.int .i64 0, .int .i64 0, .int .i64 5])) w) := Lib.hid ⟨0, 5, 0, (HE'.out.trans (if_pos h9)).symm, rfl, rfl⟩
        have hbI : 9 < (n : Int) := by omega
        go_enter Tryz.func83, Tryz.ntmps83
        go_wp2_with (first | (go_at_call 98; (with_reducible refine (HC.out _).mono ?_); rintro e w' ⟨rfl, rfl⟩) | (go_at_call 99; (with_reducible refine (HI.out _).mono ?_); rintro e w' ⟨rfl, rfl⟩))
        go_ret3
        exact HR.out
      · have HR : Hid (FirstPost s.data.toList w (.returned (.tuple #[.int .i64 2, .int .i64 n, .int .i64 0])) w) := Lib.hid ⟨2, 0, n, (HE'.out.trans (if_neg h9)).symm, rfl, rfl⟩
        have hbI : (n : Int) ≤ 9 := by omega
        go_enter Tryz.func83, Tryz.ntmps83
        go_wp2_with (first | (go_at_call 98; (with_reducible refine (HC.out _).mono ?_); rintro e w' ⟨rfl, rfl⟩) | (go_at_call 99; (with_reducible refine (HI.out _).mono ?_); rintro e w' ⟨rfl, rfl⟩))
        go_ret3
        exact HR.out
    · have HR : Hid (FirstPost s.data.toList w (.returned (.tuple #[.int .i64 0, .int .i64 0, .int .i64 2])) w) := Lib.hid ⟨0, 2, 0, (HO.out.trans (if_pos (HT.out.2 ⟨_, hb, hw⟩))).symm, rfl, rfl⟩
      rw [word_eq, hw] at HI
      clear hw hb HE
      go_enter Tryz.func83, Tryz.ntmps83
      go_wp2_with (first | (go_at_call 98; (with_reducible refine (HC.out _).mono ?_); rintro e w' ⟨rfl, rfl⟩) | (go_at_call 99; (with_reducible refine (HI.out _).mono ?_); rintro e w' ⟨rfl, rfl⟩))
      go_ret3
      exact HR.out
  · have HE' := HE (fun h => by
      obtain ⟨c, hc, _⟩ := HT.out.1 h
      have := get_lt hc
      rw [size_list'] at this
      omega)
    have hd : decide (n < s.size) = false := decide_eq_false hlt
    clear HE
    by_cases h9 : 9 < n
    · have HR : Hid (FirstPost s.data.toList w (.returned (.tuple #[.int .i64 0, .int .i64 0, .int .i64 5])) w) := Lib.hid ⟨0, 5, 0, (HE'.out.trans (if_pos h9)).symm, rfl, rfl⟩
      have hbI : 9 < (n : Int) := by omega
      go_enter Tryz.func83, Tryz.ntmps83
      go_wp2_with (go_at_call 98; (with_reducible refine (HC.out _).mono ?_); rintro e w' ⟨rfl, rfl⟩)
      go_ret3
      exact HR.out
    · have HR : Hid (FirstPost s.data.toList w (.returned (.tuple #[.int .i64 2, .int .i64 n, .int .i64 0])) w) := Lib.hid ⟨2, 0, n, (HE'.out.trans (if_neg h9)).symm, rfl, rfl⟩
      have hbI : (n : Int) ≤ 9 := by omega
      go_enter Tryz.func83, Tryz.ntmps83
      go_wp2_with (go_at_call 98; (with_reducible refine (HC.out _).mono ?_); rintro e w' ⟨rfl, rfl⟩)
      go_ret3
      exact HR.out

theorem first_end (w : World) : Calls Tryz.prog 58 #[.string ⟨#[]⟩] w fun e w' => e = .returned (.tuple #[.int .i64 0, .int .i64 0, .int .i64 0]) ∧ w = w' := by
  go_enter Tryz.func58, Tryz.ntmps58
  go_wp2_with fail
  go_ret3
  exact ⟨rfl, rfl⟩
set_option maxHeartbeats 1000000 in
theorem first_any (s : ByteArray) (w : World) (hp : PairsIn w) (h0 : 0 < s.size) (hs : s.size ≤ 9223372036854775807) : Calls Tryz.prog 58 #[.string s] w (FirstPost s.data.toList w) := by
  have hb := byte_at' s 0 h0
  have hne := txt_ne h0
  have hne1 : (s.toList == []) = false := by cases h : s.toList with | nil => rw [h] at hne; cases hne | cons a l => rfl
  have hne2 : ¬ s.toList = [] := by intro h; rw [h] at hne; cases hne
  have HL := Lib.hid (fun w => letter_any (s[0].toNat : Int) w)
  have HD := Lib.hid (fun w => digit_any (s[0].toNat : Int) w)
  rw [low_cls hb] at HL
  rw [dig_cls hb] at HD
  clear hb
  by_cases h1 : cls s.data.toList 0 = 1
  · have HC := Lib.hid (fun w => name_any s w h1 hs)
    rw [decide_eq_true h1] at HL
    clear h1 HD
    go_enter Tryz.func58, Tryz.ntmps58
    go_wp2_with (go_at_call 80; (with_reducible refine (HL.out _).mono ?_); rintro e w' ⟨rfl, rfl⟩)
    refine (HC.out _).mono ?_
    intro e w' h
    obtain ⟨kd, er, ln, hO, rfl, rfl⟩ := h
    have HR : Hid (FirstPost s.data.toList w (.returned (.tuple #[.int .i64 kd, .int .i64 ln, .int .i64 er])) w) := Lib.hid ⟨kd, er, ln, hO, rfl, rfl⟩
    clear hO
    go_wp2_with fail
    go_ret3
    exact HR.out
  · rw [decide_eq_false h1] at HL
    by_cases h2 : cls s.data.toList 0 = 2
    · have HC := Lib.hid (fun w => number_any s w h2 hs)
      rw [decide_eq_true h2] at HD
      clear h1 h2
      go_enter Tryz.func58, Tryz.ntmps58
      go_wp2_with (first | (go_at_call 80; (with_reducible refine (HL.out _).mono ?_); rintro e w' ⟨rfl, rfl⟩) | (go_at_call 82; (with_reducible refine (HD.out _).mono ?_); rintro e w' ⟨rfl, rfl⟩))
      refine (HC.out _).mono ?_
      intro e w' h
      obtain ⟨kd, er, ln, hO, rfl, rfl⟩ := h
      have HR : Hid (FirstPost s.data.toList w (.returned (.tuple #[.int .i64 kd, .int .i64 ln, .int .i64 er])) w) := Lib.hid ⟨kd, er, ln, hO, rfl, rfl⟩
      clear hO
      go_wp2_with fail
      go_ret3
      exact HR.out
    · have HC := Lib.hid (fun w hp => mark_any s w hp h0 hs)
      have HO := Lib.hid (one_mark (l := s.data.toList) (i := 0) h1 h2)
      rw [List.drop_zero] at HO
      rw [decide_eq_false h2] at HD
      clear h1 h2
      go_enter Tryz.func58, Tryz.ntmps58
      go_wp2_with (first | (go_at_call 80; (with_reducible refine (HL.out _).mono ?_); rintro e w' ⟨rfl, rfl⟩) | (go_at_call 82; (with_reducible refine (HD.out _).mono ?_); rintro e w' ⟨rfl, rfl⟩))
      refine (HC.out _ hp).mono ?_
      intro e w' h
      obtain ⟨kd, ln, er, hO, rfl, rfl⟩ := h
      have HR : Hid (FirstPost s.data.toList w (.returned (.tuple #[.int .i64 kd, .int .i64 ln, .int .i64 er])) w) := Lib.hid (by
        have h := HO.out
        by_cases hz : markLen s.data.toList = 0
        · rw [if_pos hz] at hO h
          cases hO
          exact ⟨0, 2, 0, h.symm, rfl, rfl⟩
        · rw [if_neg hz] at hO h
          cases hO
          exact ⟨3, 0, _, h.symm, rfl, rfl⟩)
      clear hO
      go_wp2_with fail
      go_ret3
      exact HR.out

theorem remark_any (s : ByteArray) (w : World) (_hs : s.size ≤ 9223372036854775807) : Calls Tryz.prog 79 #[.string s] w fun e w' => e = .returned (.int .i64 (run notNl s.data.toList)) ∧ w = w' := by
  have HC := Lib.hid (fun w => Tryz.strings_IndexByte s 10 w)
  have HL := Lib.hid (remark_len s.data.toList)
  have e10 : (10 : Int).toNat.toUInt8 = 10 := rfl
  rw [e10] at HC
  obtain ⟨x, hx⟩ : ∃ x, x = Lib.indexByte s.data.toList 10 := ⟨_, rfl⟩
  rw [← hx] at HC HL
  clear hx e10
  by_cases hge : 0 ≤ x
  · go_enter Tryz.func79, Tryz.ntmps79
    go_wp2_with (go_at_call 97; (with_reducible refine (HC.out _).mono ?_); rintro e w' ⟨rfl, rfl⟩)
    go_ret
    exact ⟨ret_int (by rw [← HL.out, if_pos hge]), rfl⟩
  · have hlt : x < 0 := by omega
    have HE : Hid ((s.size : Int) = (run notNl s.data.toList : Int)) := Lib.hid (by rw [← HL.out, if_neg hge]; rfl)
    clear hge
    go_enter Tryz.func79, Tryz.ntmps79
    go_wp2_with (go_at_call 97; (with_reducible refine (HC.out _).mono ?_); rintro e w' ⟨rfl, rfl⟩)
    go_ret
    exact ⟨ret_int HE.out, rfl⟩
end Go.Proofs.YtobpcpfomdblgaaGreatDoor
