/- What Keyword and Is of the layer of names, and the reference's Keywords and Is, answer. Condition: a text no longer than memory holds. -/
import Derived.Test.YtbkgkdfameojfaaNamesPlace
import Derived.Lib.OthersKept
namespace Go.Proofs.Ytbkgkdfameojfaa
open Go.RowKit NamesSpec Go.Lib
set_option maxRecDepth 100000

theorem keywords_any (w : World) : Calls Try.prog 58 #[] w (RetStrs w kwS) := by
  go_enter Try.func58, Try.ntmps58
  go_wp2
  go_ret
  exact ⟨_, rfl, Rd.lit (cs := (strV kwS).toArray) rfl, (Below.refl _ _).alloc (Nat.le_refl _) _⟩

theorem toList_of (s : ByteArray) : s.toList = s.data.toList := ByteArray.toList_eq s
theorem kw_yes {s : ByteArray} {x : List UInt8} (h : (s.toList == x) = true) (hx : isKw x = true) : isKw s.data.toList = true := by
  rw [← toList_of, eq_of_beq h]; exact hx
theorem kw_no {s : ByteArray} (h : ∀ x ∈ kw, (s.toList == x) = false) : isKw s.data.toList = false := by
  rw [← toList_of]
  unfold isKw
  rw [Bool.eq_false_iff]
  intro hc
  have hm := List.contains_iff_mem.1 hc
  have := h _ hm
  simp at this

set_option maxHeartbeats 800000 in
theorem keyword_any (s : ByteArray) (w : World) : Calls Try.prog 59 #[.string s] w fun e w' => e = .returned (.bool (isKw s.data.toList)) ∧ w = w' := by
  rcases h0 : (s.toList == [99, 104, 97, 114, 116]) with _ | _
  case true =>
    go_enter Try.func59, Try.ntmps59
    go_wp2
    go_ret
    exact ⟨ret_bool (kw_yes h0 (by decide)).symm, rfl⟩
  rcases h1 : (s.toList == [101, 118, 101, 110, 116]) with _ | _
  case true =>
    go_enter Try.func59, Try.ntmps59
    go_wp2
    go_ret
    exact ⟨ret_bool (kw_yes h1 (by decide)).symm, rfl⟩
  rcases h2 : (s.toList == [118, 97, 114]) with _ | _
  case true =>
    go_enter Try.func59, Try.ntmps59
    go_wp2
    go_ret
    exact ⟨ret_bool (kw_yes h2 (by decide)).symm, rfl⟩
  rcases h3 : (s.toList == [108, 101, 97, 102]) with _ | _
  case true =>
    go_enter Try.func59, Try.ntmps59
    go_wp2
    go_ret
    exact ⟨ret_bool (kw_yes h3 (by decide)).symm, rfl⟩
  rcases h4 : (s.toList == [111, 114]) with _ | _
  case true =>
    go_enter Try.func59, Try.ntmps59
    go_wp2
    go_ret
    exact ⟨ret_bool (kw_yes h4 (by decide)).symm, rfl⟩
  rcases h5 : (s.toList == [97, 110, 100]) with _ | _
  case true =>
    go_enter Try.func59, Try.ntmps59
    go_wp2
    go_ret
    exact ⟨ret_bool (kw_yes h5 (by decide)).symm, rfl⟩
  rcases h6 : (s.toList == [101, 110, 116, 101, 114]) with _ | _
  case true =>
    go_enter Try.func59, Try.ntmps59
    go_wp2
    go_ret
    exact ⟨ret_bool (kw_yes h6 (by decide)).symm, rfl⟩
  rcases h7 : (s.toList == [101, 120, 105, 116]) with _ | _
  case true =>
    go_enter Try.func59, Try.ntmps59
    go_wp2
    go_ret
    exact ⟨ret_bool (kw_yes h7 (by decide)).symm, rfl⟩
  rcases h8 : (s.toList == [111, 110]) with _ | _
  case true =>
    go_enter Try.func59, Try.ntmps59
    go_wp2
    go_ret
    exact ⟨ret_bool (kw_yes h8 (by decide)).symm, rfl⟩
  rcases h9 : (s.toList == [97, 117, 116, 111]) with _ | _
  case true =>
    go_enter Try.func59, Try.ntmps59
    go_wp2
    go_ret
    exact ⟨ret_bool (kw_yes h9 (by decide)).symm, rfl⟩
  rcases h10 : (s.toList == [97, 110, 121]) with _ | _
  case true =>
    go_enter Try.func59, Try.ntmps59
    go_wp2
    go_ret
    exact ⟨ret_bool (kw_yes h10 (by decide)).symm, rfl⟩
  rcases h11 : (s.toList == [105, 110]) with _ | _
  case true =>
    go_enter Try.func59, Try.ntmps59
    go_wp2
    go_ret
    exact ⟨ret_bool (kw_yes h11 (by decide)).symm, rfl⟩
  rcases h12 : (s.toList == [109, 105, 110]) with _ | _
  case true =>
    go_enter Try.func59, Try.ntmps59
    go_wp2
    go_ret
    exact ⟨ret_bool (kw_yes h12 (by decide)).symm, rfl⟩
  rcases h13 : (s.toList == [109, 97, 120]) with _ | _
  case true =>
    go_enter Try.func59, Try.ntmps59
    go_wp2
    go_ret
    exact ⟨ret_bool (kw_yes h13 (by decide)).symm, rfl⟩
  rcases h14 : (s.toList == [110, 111, 116]) with _ | _
  case true =>
    go_enter Try.func59, Try.ntmps59
    go_wp2
    go_ret
    exact ⟨ret_bool (kw_yes h14 (by decide)).symm, rfl⟩
  rcases h15 : (s.toList == [116, 114, 117, 101]) with _ | _
  case true =>
    go_enter Try.func59, Try.ntmps59
    go_wp2
    go_ret
    exact ⟨ret_bool (kw_yes h15 (by decide)).symm, rfl⟩
  rcases h16 : (s.toList == [102, 97, 108, 115, 101]) with _ | _
  case true =>
    go_enter Try.func59, Try.ntmps59
    go_wp2
    go_ret
    exact ⟨ret_bool (kw_yes h16 (by decide)).symm, rfl⟩
  have HK : Hid (isKw s.data.toList = false) := Lib.hid (kw_no (by
    intro x hx
    simp only [kw, List.mem_cons, List.not_mem_nil, or_false] at hx
    rcases hx with rfl | rfl | rfl | rfl | rfl | rfl | rfl | rfl | rfl | rfl | rfl | rfl | rfl | rfl | rfl | rfl | rfl <;> assumption))
  go_enter Try.func59, Try.ntmps59
  go_wp2
  go_ret
  exact ⟨ret_bool HK.out.symm, rfl⟩

/-- May a name begin with a rune; may a rune stand in one? -/
def begB (r : Int) : Bool := decide (97 ≤ r) && decide (r ≤ 122)
def goB (r : Int) : Bool := begB r || decide (48 ≤ r) && decide (r ≤ 57) || decide (r = 95)
theorem begins_any (r : Int) (w : World) : Calls Try.prog 60 #[.int .i32 r] w fun e w' => e = .returned (.bool (begB r)) ∧ w = w' := by
  by_cases h1 : 97 ≤ r <;> by_cases h2 : r ≤ 122
  all_goals
    go_enter Try.func60, Try.ntmps60
    go_wp2
    go_ret
    exact ⟨ret_bool (by unfold begB; simp [h1, h2]), rfl⟩
theorem begins_is {r : Int} {b : Bool} (h : begB r = b) (w : World) : Calls Try.prog 60 #[.int .i32 r] w fun e w' => e = .returned (.bool b) ∧ w = w' := by
  subst h; exact begins_any r w
theorem goesOn_any (r : Int) (w : World) : Calls Try.prog 61 #[.int .i32 r] w fun e w' => e = .returned (.bool (goB r)) ∧ w = w' := by
  rcases hb : begB r with _ | _
  all_goals
    have HB := Lib.hid hb
    clear hb
    by_cases h1 : 48 ≤ r <;> by_cases h2 : r ≤ 57 <;> by_cases h3 : r = 95
    all_goals first
      | (exfalso; omega)
      | (try subst h3
         go_enter Try.func61, Try.ntmps61
         go_wp2_with (go_at_call 60; refine (begins_is HB.out _).mono ?_; rintro e w' ⟨rfl, rfl⟩)
         go_ret
         exact ⟨ret_bool (by unfold goB; rw [HB.out, Bool.eq_iff_iff]; simp; try omega), rfl⟩)
theorem goesOn_is {r : Int} {b : Bool} (h : goB r = b) (w : World) : Calls Try.prog 61 #[.int .i32 r] w fun e w' => e = .returned (.bool b) ∧ w = w' := by
  subst h; exact goesOn_any r w

theorem get_bang (s : ByteArray) (i : Nat) (h : i < s.size) : s.get! i = s[i] := by
  simp [ByteArray.get!, getElem!_pos, h]; rfl
theorem dec_big (s : ByteArray) (i : Nat) (h : i < s.size) (hb : 128 ≤ s[i].toNat) : 128 ≤ (Utf8.decode s i).1 := by
  unfold Utf8.decode
  simp only [Nat.add_zero, get_bang s i h]
  rw [if_neg (by omega)]
  repeat' split
  all_goals (try simp only [Utf8.runeError]) <;> (try simp only [Bool.and_eq_true, decide_eq_true_eq, ge_iff_le] at *) <;> omega
theorem goB_of (c : UInt8) : goB (c.toNat : Int) = later c := by
  rw [Bool.eq_iff_iff]
  simp [goB, begB, later, letter, UInt8.le_iff_toNat_le, ← UInt8.toNat_inj]
  omega
theorem begB_of (c : UInt8) : begB (c.toNat : Int) = letter c := by
  rw [Bool.eq_iff_iff]
  simp [begB, letter, UInt8.le_iff_toNat_le]
  omega
theorem later_small {c : UInt8} (h : later c = true) : c.toNat < 128 := by
  simp [later, letter, UInt8.le_iff_toNat_le, ← UInt8.toNat_inj] at h
  omega
theorem dec_later (s : ByteArray) (i : Nat) (h : i < s.size) : goB ((Utf8.decode s i).1 : Int) = later s[i] := by
  by_cases hb : s[i].toNat < 128
  · rw [decode_ascii s i h hb]; exact goB_of _
  · have h1 := dec_big s i h (by omega)
    have h2 : later s[i] = false := by
      rw [← Bool.not_eq_true]; intro hc; exact hb (later_small hc)
    rw [h2, ← Bool.not_eq_true]
    simp [goB, begB]
    omega
theorem dec_letter (s : ByteArray) (i : Nat) (h : i < s.size) : begB ((Utf8.decode s i).1 : Int) = letter s[i] := by
  by_cases hb : s[i].toNat < 128
  · rw [decode_ascii s i h hb]; exact begB_of _
  · have h1 := dec_big s i h (by omega)
    have h2 : letter s[i] = false := by
      rw [← Bool.not_eq_true]; intro hc; exact hb (later_small (letter_later hc))
    rw [h2, ← Bool.not_eq_true]
    simp [begB]
    omega
theorem dec_one (s : ByteArray) (i : Nat) (h : i < s.size) (hl : later s[i] = true) : (Utf8.decode s i).2 = 1 := by rw [decode_ascii s i h (later_small hl)]
theorem byte_at (s : ByteArray) (i : Nat) (h : i < s.size) : s.data.toList[i]? = some s[i] := by
  rw [List.getElem?_eq_getElem (by simpa using h)]; rfl
theorem str_nil' {s : ByteArray} (h : s.size = 0) : s.toList = [] := by
  rw [ByteArray.toList_eq, ← List.length_eq_zero_iff]; exact h
theorem str_ne' {s : ByteArray} (h : 0 < s.size) : s.toList.isEmpty = false := by
  have e : s.toList.length = s.size := by rw [ByteArray.toList_eq]; rfl
  cases h' : s.toList with
  | nil => rw [h'] at e; simp at e; omega
  | cons a l => rfl
theorem size_list (s : ByteArray) : s.data.toList.length = s.size := rfl

def IsRel (W : World) (s : ByteArray) (wr : World) : Prop := ∃ pos, pos ≤ s.size ∧ wr.heap[W.heap.size]? = some (.stringIter s pos) ∧ Below W.heap.size W wr ∧ (s.data.toList.take pos).all later = true ∧ (0 < pos → ∀ c, s.data.toList[0]? = some c → letter c = true)
theorem isRel_next {W wr : World} {s : ByteArray} {pos : Nat} (hp : pos < s.size) (hit : wr.heap[W.heap.size]? = some (.stringIter s pos)) (hb : Below W.heap.size W wr) (ha : (s.data.toList.take pos).all later = true)
    (h0 : 0 < pos → ∀ c, s.data.toList[0]? = some c → letter c = true) (hl : later s[pos] = true) (hz : pos = 0 → letter s[pos] = true) : IsRel W s (wr.iterAt W.heap.size s (pos + 1)) := by
  refine ⟨pos + 1, by omega, iterAt_heap _ _ _ _ _ hit, below_iterAt hb (Nat.le_refl _) _ _, ?_, fun _ c hc => ?_⟩
  · rw [take_next (byte_at s pos hp), List.all_append, ha]; simpa using hl
  · rcases Nat.eq_zero_or_pos pos with h | h
    · subst h
      rw [byte_at s 0 hp] at hc
      injection hc with hc
      exact hc ▸ hz rfl
    · exact h0 h c hc

set_option maxHeartbeats 1600000 in
theorem is_any (s : ByteArray) (w : World) (hs : s.size ≤ 9223372036854775807) : Calls Try.prog 53 #[.string s] w fun e w' => e = .returned (.bool (isName s.data.toList)) ∧ Below w.heap.size w w' := by
  rcases Nat.eq_zero_or_pos s.size with h0 | h0
  · have HE : Hid (isName s.data.toList = false) := Lib.hid (isName_size (.inl h0))
    have hnil := str_nil' h0
    clear h0 hs
    go_enter Try.func53, Try.ntmps53
    go_wp2
    go_ret
    exact ⟨ret_bool HE.out.symm, Below.refl _ _⟩
  · have hne := str_ne' h0
    by_cases h12 : 12 < s.size
    · have HE : Hid (isName s.data.toList = false) := Lib.hid (isName_size (.inr h12))
      go_enter Try.func53, Try.ntmps53
      go_wp2
      go_ret
      exact ⟨ret_bool HE.out.symm, Below.refl _ _⟩
    · rcases hk : isKw s.data.toList with _ | _
      case true =>
        have HE : Hid (isName s.data.toList = false) := Lib.hid (isName_kw hk)
        have HC := Lib.hid (hk ▸ keyword_any s w)
        clear hk
        go_enter Try.func53, Try.ntmps53
        go_wp2_with (go_at_call 59; refine HC.out.mono ?_; rintro e w' ⟨rfl, rfl⟩)
        go_ret
        exact ⟨ret_bool HE.out.symm, Below.refl _ _⟩
      have HC := Lib.hid (hk ▸ keyword_any s w)
      have HK := Lib.hid hk
      clear hk
      go_enter Try.func53, Try.ntmps53
      go_wp2_with (go_at_call 59; refine HC.out.mono ?_; rintro e w' ⟨rfl, rfl⟩)
      go_loopw [] (fun wr => IsRel w s wr) (fun wr => s.size - wr.iterPos w.heap.size)
      case atStart => exact ⟨0, Nat.zero_le _, World.iter_heap w s 0, (Below.refl _ w).alloc (Nat.le_refl _) _, rfl, fun h => absurd h (by omega)⟩
      case round =>
        obtain ⟨pos, hps, hit, hbw, hall, hhead⟩ := hrel
        by_cases hp : pos < s.size
        · have hnx : ∀ ty, (Instr.next (.pointer (some ⟨w.heap.size, 0, none⟩)) true ty).run Try.prog wr = _ := fun ty => Lib.run_next_any_at wr w.heap.size s pos ty hit hp
          have hgo := dec_later s pos hp
          have hbe := dec_letter s pos hp
          have hw1 := dec_one s pos hp
          have hat := byte_at s pos hp
          have hrel := isRel_next hp hit hbw hall hhead
          have HM : Hid (s.size - (wr.iterAt w.heap.size s (pos + 1)).iterPos w.heap.size < s.size - wr.iterPos w.heap.size) := Lib.hid (by
            simp only [World.iterPos, iterAt_heap _ _ _ _ _ hit, hit]; omega)
          obtain ⟨c, hc⟩ : ∃ c, c = s[pos] := ⟨_, rfl⟩
          rw [← hc] at hgo hbe hw1 hat hrel
          clear hc
          obtain ⟨r, hr⟩ : ∃ r, r = (Utf8.decode s pos).1 := ⟨_, rfl⟩
          obtain ⟨wd, hwd⟩ : ∃ wd, wd = (Utf8.decode s pos).2 := ⟨_, rfl⟩
          rw [← hr] at hgo hbe hnx
          rw [← hwd] at hw1 hnx
          clear hr hwd hall hhead
          have HB := Lib.hid hbw
          have HA := Lib.hid hat
          clear hat hit hbw
          rcases Nat.eq_zero_or_pos pos with hz | hz
          · subst hz
            rcases hl : letter c with _ | _
            · have HE : Hid (isName s.data.toList = false) := Lib.hid (isName_head HA.out hl)
              have HBc := Lib.hid (begins_is (hbe.trans hl))
              clear hl hbe hgo hw1 hrel HM
              go_wp2_with (go_at_call 60; refine (HBc.out _).mono ?_; rintro e w' ⟨rfl, rfl⟩)
              go_ret
              exact ⟨ret_bool HE.out.symm, below_iterAt HB.out (Nat.le_refl _) _ _⟩
            · have HBc := Lib.hid (begins_is (hbe.trans hl))
              have HGc := Lib.hid (goesOn_is (hgo.trans (letter_later hl)))
              have HR := Lib.hid (hrel (letter_later hl) (fun _ => hl))
              obtain rfl : wd = 1 := hw1 (letter_later hl)
              clear hl hbe hgo hrel hw1
              go_wp2_with (first | (go_at_call 60; refine (HBc.out _).mono ?_; rintro e w' ⟨rfl, rfl⟩) | (go_at_call 61; refine (HGc.out _).mono ?_; rintro e w' ⟨rfl, rfl⟩))
              go_roundw
              case rel => exact HR.out
              case measure => exact HM.out
          · have hz' : ((pos : Int) == 0) = false := by simp; omega
            rcases hl : later c with _ | _
            · have HE : Hid (isName s.data.toList = false) := Lib.hid (isName_later HA.out hl)
              have HGc := Lib.hid (goesOn_is (hgo.trans hl))
              clear hl hbe hgo hw1 hrel HM
              go_wp2_with (go_at_call 61; refine (HGc.out _).mono ?_; rintro e w' ⟨rfl, rfl⟩)
              go_ret
              exact ⟨ret_bool HE.out.symm, below_iterAt HB.out (Nat.le_refl _) _ _⟩
            · have HGc := Lib.hid (goesOn_is (hgo.trans hl))
              have HR := Lib.hid (hrel hl (fun h => absurd h (by omega)))
              obtain rfl : wd = 1 := hw1 hl
              clear hl hbe hgo hrel hw1
              go_wp2_with (go_at_call 61; refine (HGc.out _).mono ?_; rintro e w' ⟨rfl, rfl⟩)
              go_roundw
              case rel => exact HR.out
              case measure => exact HM.out
        · have hnx : ∀ ty, (Instr.next (.pointer (some ⟨w.heap.size, 0, none⟩)) true ty).run Try.prog wr = _ := fun ty => Lib.run_next_end_at wr w.heap.size s pos ty hit hp
          have hall' : s.data.toList.all later = true := by rw [List.take_of_length_le (by rw [size_list]; omega)] at hall; exact hall
          have HE : Hid (isName s.data.toList = true) := Lib.hid (isName_yes (by rw [size_list]; omega) (by rw [size_list]; omega) HK.out hall' (hhead (by omega)))
          clear hall hall' hhead
          go_wp2
          go_ret
          exact ⟨ret_bool HE.out.symm, hbw⟩
end Go.Proofs.Ytbkgkdfameojfaa
