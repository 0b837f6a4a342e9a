/- What the program's functions of one token answer (letter, digit, inName, run, name, number, mark, first). Conditions: a text no longer than memory holds; the table of marks of two bytes holds what it was laid with. -/
import Derived.Test.YthmhlhegmnpagaaDoorScanProgSpec
import Derived.Test.YthmhlhegmnpagaaDoorShelf
namespace Go.Proofs.YthmhlhegmnpagaaDoor
open Go.RowKit ScanSpec

theorem letter_any (n : Int) (w : World) : Calls Tryd.prog 19 #[.int .u8 n] w fun e w' => e = .returned (.bool (lowB n)) ∧ w = w' := by
  by_cases h1 : 97 ≤ n
  · by_cases h2 : n ≤ 122
    · have HV := Lib.hid (lowB_yes h1 h2)
      go_enter Tryd.func19, Tryd.ntmps19
      go_wp2
      go_ret
      exact ⟨ret_bool HV.out.symm, rfl⟩
    · have HV := Lib.hid (lowB_no (n := n) (by omega))
      have h2' : decide (n ≤ 122) = false := decide_eq_false h2
      clear h2
      go_enter Tryd.func19, Tryd.ntmps19
      go_wp2
      go_ret
      exact ⟨ret_bool HV.out.symm, rfl⟩
  · have HV := Lib.hid (lowB_no (n := n) (by omega))
    have h1' : decide (97 ≤ n) = false := decide_eq_false h1
    clear h1
    go_enter Tryd.func19, Tryd.ntmps19
    go_wp2
    go_ret
    exact ⟨ret_bool HV.out.symm, rfl⟩
theorem digit_any (n : Int) (w : World) : Calls Tryd.prog 21 #[.int .u8 n] w fun e w' => e = .returned (.bool (digB n)) ∧ w = w' := by
  by_cases h1 : 48 ≤ n
  · by_cases h2 : n ≤ 57
    · have HV := Lib.hid (digB_yes h1 h2)
      go_enter Tryd.func21, Tryd.ntmps21
      go_wp2
      go_ret
      exact ⟨ret_bool HV.out.symm, rfl⟩
    · have HV := Lib.hid (digB_no (n := n) (by omega))
      have h2' : decide (n ≤ 57) = false := decide_eq_false h2
      clear h2
      go_enter Tryd.func21, Tryd.ntmps21
      go_wp2
      go_ret
      exact ⟨ret_bool HV.out.symm, rfl⟩
  · have HV := Lib.hid (digB_no (n := n) (by omega))
    have h1' : decide (48 ≤ n) = false := decide_eq_false h1
    clear h1
    go_enter Tryd.func21, Tryd.ntmps21
    go_wp2
    go_ret
    exact ⟨ret_bool HV.out.symm, rfl⟩
theorem inName_any (n : Int) (w : World) : Calls Tryd.prog 26 #[.int .u8 n] w fun e w' => e = .returned (.bool (wordB n)) ∧ w = w' := by
  have HW : Hid (wordB n = ((lowB n || digB n) || n == 95)) := Lib.hid rfl
  rcases hl : lowB n with _ | _
  · rcases hd : digB n with _ | _
    · have HL := Lib.hid (fun w => letter_any n w)
      have HD := Lib.hid (fun w => digit_any n w)
      rw [hl, hd] at HW
      rw [hl] at HL
      rw [hd] at HD
      clear hl hd
      go_enter Tryd.func26, Tryd.ntmps26
      go_wp2_with (first | (go_at_call 19; refine (HL.out _).mono ?_; rintro e w' ⟨rfl, rfl⟩) | (go_at_call 21; refine (HD.out _).mono ?_; rintro e w' ⟨rfl, rfl⟩))
      go_ret
      exact ⟨ret_bool (by rw [HW.out]; rfl), rfl⟩
    · have HL := Lib.hid (fun w => letter_any n w)
      have HD := Lib.hid (fun w => digit_any n w)
      rw [hl, hd] at HW
      rw [hl] at HL
      rw [hd] at HD
      clear hl hd
      go_enter Tryd.func26, Tryd.ntmps26
      go_wp2_with (first | (go_at_call 19; refine (HL.out _).mono ?_; rintro e w' ⟨rfl, rfl⟩) | (go_at_call 21; refine (HD.out _).mono ?_; rintro e w' ⟨rfl, rfl⟩))
      go_ret
      exact ⟨ret_bool (by rw [HW.out]; rfl), rfl⟩
  · have HL := Lib.hid (fun w => letter_any n w)
    rw [hl] at HW HL
    clear hl
    go_enter Tryd.func26, Tryd.ntmps26
    go_wp2_with (go_at_call 19; refine (HL.out _).mono ?_; rintro e w' ⟨rfl, rfl⟩)
    go_ret
    exact ⟨ret_bool (by rw [HW.out]; rfl), rfl⟩

def RunSz (l : List UInt8) (p : UInt8 → Bool) (v : Value) : Prop := ∃ k : Nat, k ≤ l.length ∧ v = .int .i64 k ∧ k + run p (l.drop k) = run p l
set_option maxHeartbeats 1000000 in
theorem run_word (s : ByteArray) (w : World) (hs : s.size ≤ 9223372036854775807) :
    Calls Tryd.prog 25 #[.string s, .func (.func 26) #[] #[]] w fun e w' => e = .returned (.int .i64 (run isWord s.data.toList)) ∧ w = w' := by
  have HF := Lib.hid (fun (c : UInt8) (w : World) => (by rw [← word_eq]; exact inName_any _ w : Calls Tryd.prog 26 #[.int .u8 c.toNat] w fun e w' => e = .returned (.bool (isWord c)) ∧ w = w'))
  go_enter Tryd.func25, Tryd.ntmps25
  go_wp2
  go_loop [5] (fun v => RunSz s.data.toList isWord v) (fun v => s.size - (intOf v).toNat)
  case atStart => exact ⟨0, Nat.zero_le _, rfl, by simp⟩
  case round =>
    obtain ⟨k, hk, rfl, hr⟩ := hrel
    rw [size_list'] at hk
    have HR := Lib.hid hr
    clear hr
    by_cases hlt : k < s.size
    · have hck := byte_at' s k hlt
      rcases hp : isWord s[k] with _ | _
      · have HC := Lib.hid (fun w => HF.out s[k] w)
        rw [hp] at HC
        have HE : Hid ((run isWord s.data.toList : Int) = (k : Int)) := Lib.hid (by
          have := run_stop (p := isWord) (l := s.data.toList) (i := k) (fun c hc => by rw [hck] at hc; cases hc; exact hp)
          have := HR.out
          omega)
        clear hp hck
        go_wp2_with (go_at_call 26; refine (HC.out _).mono ?_; rintro e w' ⟨rfl, rfl⟩)
        go_ret
        exact ⟨ret_int HE.out.symm, rfl⟩
      · have HC := Lib.hid (fun w => HF.out s[k] w)
        rw [hp] at HC
        have HN : Hid (RunSz s.data.toList isWord (.int .i64 ((k : Int) + 1))) := Lib.hid ⟨k + 1, by rw [size_list']; omega, by simp, (run_next hck hp).trans HR.out⟩
        clear hp hck
        go_wp2_with (go_at_call 26; refine (HC.out _).mono ?_; rintro e w' ⟨rfl, rfl⟩)
        go_round
        case rel => exact HN.out
        case measure => simp [intOf]; omega
    · have HE : Hid ((run isWord s.data.toList : Int) = (k : Int)) := Lib.hid (by
        have := run_stop (p := isWord) (l := s.data.toList) (i := k) (fun c hc => by have := get_lt hc; rw [size_list'] at this; omega)
        have := HR.out
        omega)
      have hd : decide (k < s.size) = false := decide_eq_false hlt
      go_wp2_with fail
      go_ret
      exact ⟨ret_int HE.out.symm, rfl⟩
set_option maxHeartbeats 1000000 in
theorem run_num (s : ByteArray) (w : World) (hs : s.size ≤ 9223372036854775807) :
    Calls Tryd.prog 25 #[.string s, .func (.func 21) #[] #[]] w fun e w' => e = .returned (.int .i64 (run isNum s.data.toList)) ∧ w = w' := by
  have HF := Lib.hid (fun (c : UInt8) (w : World) => (by rw [← dig_eq]; exact digit_any _ w : Calls Tryd.prog 21 #[.int .u8 c.toNat] w fun e w' => e = .returned (.bool (isNum c)) ∧ w = w'))
  go_enter Tryd.func25, Tryd.ntmps25
  go_wp2
  go_loop [5] (fun v => RunSz s.data.toList isNum v) (fun v => s.size - (intOf v).toNat)
  case atStart => exact ⟨0, Nat.zero_le _, rfl, by simp⟩
  case round =>
    obtain ⟨k, hk, rfl, hr⟩ := hrel
    rw [size_list'] at hk
    have HR := Lib.hid hr
    clear hr
    by_cases hlt : k < s.size
    · have hck := byte_at' s k hlt
      rcases hp : isNum s[k] with _ | _
      · have HC := Lib.hid (fun w => HF.out s[k] w)
        rw [hp] at HC
        have HE : Hid ((run isNum s.data.toList : Int) = (k : Int)) := Lib.hid (by
          have := run_stop (p := isNum) (l := s.data.toList) (i := k) (fun c hc => by rw [hck] at hc; cases hc; exact hp)
          have := HR.out
          omega)
        clear hp hck
        go_wp2_with (go_at_call 21; refine (HC.out _).mono ?_; rintro e w' ⟨rfl, rfl⟩)
        go_ret
        exact ⟨ret_int HE.out.symm, rfl⟩
      · have HC := Lib.hid (fun w => HF.out s[k] w)
        rw [hp] at HC
        have HN : Hid (RunSz s.data.toList isNum (.int .i64 ((k : Int) + 1))) := Lib.hid ⟨k + 1, by rw [size_list']; omega, by simp, (run_next hck hp).trans HR.out⟩
        clear hp hck
        go_wp2_with (go_at_call 21; refine (HC.out _).mono ?_; rintro e w' ⟨rfl, rfl⟩)
        go_round
        case rel => exact HN.out
        case measure => simp [intOf]; omega
    · have HE : Hid ((run isNum s.data.toList : Int) = (k : Int)) := Lib.hid (by
        have := run_stop (p := isNum) (l := s.data.toList) (i := k) (fun c hc => by have := get_lt hc; rw [size_list'] at this; omega)
        have := HR.out
        omega)
      have hd : decide (k < s.size) = false := decide_eq_false hlt
      go_wp2_with fail
      go_ret
      exact ⟨ret_int HE.out.symm, rfl⟩
end Go.Proofs.YthmhlhegmnpagaaDoor
