/- What the reference's Is of the layer of names answers. Condition: a text no longer than memory holds. -/
import Derived.Test.YtbkgkdfameojfaaNamesWords
namespace Go.Proofs.Ytbkgkdfameojfaa
open Go.RowKit NamesSpec Go.Lib
set_option maxRecDepth 100000

theorem letter_iff (c : UInt8) : letter c = true ↔ 97 ≤ (c.toNat : Int) ∧ (c.toNat : Int) ≤ 122 := by
  simp [letter, UInt8.le_iff_toNat_le]; omega
theorem later_iff (c : UInt8) : later c = true ↔ (97 ≤ (c.toNat : Int) ∧ (c.toNat : Int) ≤ 122) ∨ (48 ≤ (c.toNat : Int) ∧ (c.toNat : Int) ≤ 57) ∨ (c.toNat : Int) = 95 := by
  rw [later, Bool.or_eq_true, Bool.or_eq_true, letter_iff]
  simp [UInt8.le_iff_toNat_le, ← UInt8.toNat_inj]; omega
theorem kw_place_is {s : ByteArray} {b : Bool} (h : isKw s.data.toList = b) : decide (0 ≤ idxOfS kwS s) = b := by rw [place_kw, h]

def RIsRel (s : ByteArray) (i : Value) : Prop := ∃ k : Nat, k ≤ s.size ∧ i = .int .i64 k ∧ (s.data.toList.take k).all later = true ∧ (0 < k → ∀ c, s.data.toList[0]? = some c → letter c = true)
theorem risRel_next {s : ByteArray} {k : Nat} (hp : k < s.size) (ha : (s.data.toList.take k).all later = true) (h0 : 0 < k → ∀ c, s.data.toList[0]? = some c → letter c = true) (hl : later s[k] = true) (hz : k = 0 → letter s[k] = true) : RIsRel s (.int .i64 (k + 1 : Nat)) := by
  refine ⟨k + 1, by omega, rfl, ?_, fun _ c hc => ?_⟩
  · rw [take_next (byte_at s k hp), List.all_append, ha]; simpa using hl
  · rcases Nat.eq_zero_or_pos k with h | h
    · subst h
      rw [byte_at s 0 hp] at hc
      injection hc with hc
      exact hc ▸ hz rfl
    · exact h0 h c hc

set_option maxHeartbeats 1600000 in
theorem ris_any (s : ByteArray) (w : World) (hs : s.size ≤ 9223372036854775807) : Calls Try.prog 51 #[.string s] w fun e w' => e = .returned (.bool (isName s.data.toList)) ∧ Below w.heap.size w w' := by
  by_cases h0 : s.size < 1
  · have HE : Hid (isName s.data.toList = false) := Lib.hid (isName_size (.inl (by rw [size_list]; omega)))
    go_enter Try.func51, Try.ntmps51
    go_wp2
    go_ret
    exact ⟨ret_bool HE.out.symm, Below.refl _ _⟩
  by_cases h12 : 12 < s.size
  · have HE : Hid (isName s.data.toList = false) := Lib.hid (isName_size (.inr h12))
    go_enter Try.func51, Try.ntmps51
    go_wp2
    go_ret
    exact ⟨ret_bool HE.out.symm, Below.refl _ _⟩
  rcases hk : isKw s.data.toList with _ | _
  case true =>
    have HE : Hid (isName s.data.toList = false) := Lib.hid (isName_kw hk)
    have hpl := kw_place_is hk
    clear hk
    go_enter Try.func51, Try.ntmps51
    go_wp2_with (first
      | (go_at_call 58; refine (keywords_any _).mono ?_; rintro e w' ⟨v, rfl, hrd, hbw⟩)
      | (go_at_call 28; refine (rplace_any _ kwS s _ hrd (by decide)).mono ?_; rintro e w' ⟨rfl, rfl⟩))
    go_ret
    exact ⟨ret_bool HE.out.symm, hbw⟩
  have hpl := kw_place_is hk
  have HK := Lib.hid hk
  clear hk
  go_enter Try.func51, Try.ntmps51
  go_wp2_with (first
    | (go_at_call 58; refine (keywords_any _).mono ?_; rintro e w' ⟨v, rfl, hrd, hbw⟩)
    | (go_at_call 28; refine (rplace_any _ kwS s _ hrd (by decide)).mono ?_; rintro e w' ⟨rfl, rfl⟩))
  clear hrd hpl
  go_loop [3] (fun i => RIsRel s i) (fun i => s.size - (RowKit.intOf i).toNat)
  case atStart => exact ⟨0, Nat.zero_le _, rfl, rfl, fun h => absurd h (by omega)⟩
  case round =>
    obtain ⟨k, hks, rfl, hall, hhead⟩ := hrel
    by_cases hp : k < s.size
    · have hrel := risRel_next hp hall hhead
      have hat := byte_at s k hp
      have hli := letter_iff s[k]
      have hla := later_iff s[k]
      have hub : (s[k].toNat : Int) ≤ 255 := by have := s[k].toNat_lt; omega
      have hlb : 0 ≤ (s[k].toNat : Int) := by omega
      by_cases hL : letter s[k] = true
      · have HR := Lib.hid (hrel (letter_later hL) (fun _ => hL))
        obtain ⟨g1, g2⟩ := hli.1 hL
        clear hrel hat hli hla hL hall hhead
        go_wp2
        go_round
        case rel => exact HR.out
        case measure => simp [RowKit.intOf]; omega
      · rcases Nat.eq_zero_or_pos k with hz | hz
        · subst hz
          have HE : Hid (isName s.data.toList = false) := Lib.hid (isName_head hat (by simpa using hL))
          have g : ¬ (97 ≤ (s[0].toNat : Int) ∧ (s[0].toNat : Int) ≤ 122) := fun h => hL (hli.2 h)
          clear hrel hat hli hla hL hall hhead
          by_cases g1 : 97 ≤ (s[0].toNat : Int)
          · have g2 : 122 < (s[0].toNat : Int) := by omega
            clear g
            go_wp2
            go_ret
            exact ⟨ret_bool HE.out.symm, hbw⟩
          · clear g
            go_wp2
            go_ret
            exact ⟨ret_bool HE.out.symm, hbw⟩
        · have hz' : ((k : Int) == 0) = false := by simp; omega
          have g : ¬ (97 ≤ (s[k].toNat : Int) ∧ (s[k].toNat : Int) ≤ 122) := fun h => hL (hli.2 h)
          by_cases hla' : later s[k] = true
          · have HR := Lib.hid (hrel hla' (fun h => absurd h (by omega)))
            have g3 := hla.1 hla'
            clear hrel hat hli hla hL hall hhead hla'
            have g4 : (48 ≤ (s[k].toNat : Int) ∧ (s[k].toNat : Int) ≤ 57) ∨ (s[k].toNat : Int) = 95 := by omega
            clear g3
            rcases g4 with ⟨g5, g6⟩ | g5
            · have g1 : ¬ 97 ≤ (s[k].toNat : Int) := by omega
              have g7 : ((s[k].toNat : Int) != 95) = true := by simp; omega
              clear g
              go_wp2
              go_round
              case rel => exact HR.out
              case measure => simp [RowKit.intOf]; omega
            · have g1 : ¬ 97 ≤ (s[k].toNat : Int) := by omega
              have g7 : ((s[k].toNat : Int) != 95) = false := by simp; omega
              clear g g5
              go_wp2
              go_round
              case rel => exact HR.out
              case measure => simp [RowKit.intOf]; omega
          · have HE : Hid (isName s.data.toList = false) := Lib.hid (isName_later hat (by simpa using hla'))
            have g3 : ¬ ((48 ≤ (s[k].toNat : Int) ∧ (s[k].toNat : Int) ≤ 57) ∨ (s[k].toNat : Int) = 95) := fun h => hla' (hla.2 (.inr h))
            have g7 : ((s[k].toNat : Int) != 95) = true := by simp; omega
            clear hrel hat hli hla hL hall hhead hla'
            by_cases g1 : 97 ≤ (s[k].toNat : Int)
            · have g2 : 122 < (s[k].toNat : Int) := by omega
              have g6 : ¬ (s[k].toNat : Int) < 48 := by omega
              have g8 : 57 < (s[k].toNat : Int) := by have : ¬ (s[k].toNat : Int) ≤ 122 := fun h => g ⟨g1, h⟩; omega
              clear g g3
              go_wp2
              go_ret
              exact ⟨ret_bool HE.out.symm, hbw⟩
            · clear g
              by_cases g6 : (s[k].toNat : Int) < 48
              · clear g3
                go_wp2
                go_ret
                exact ⟨ret_bool HE.out.symm, hbw⟩
              · have g8 : 57 < (s[k].toNat : Int) := by omega
                clear g3
                go_wp2
                go_ret
                exact ⟨ret_bool HE.out.symm, hbw⟩
    · have hall' : s.data.toList.all later = true := by rw [List.take_of_length_le (by rw [size_list]; omega)] at hall; exact hall
      have HE : Hid (isName s.data.toList = true) := Lib.hid (isName_yes (by rw [size_list]; omega) (by rw [size_list]; omega) HK.out hall' (hhead (by omega)))
      clear hall hall' hhead
      go_wp2
      go_ret
      exact ⟨ret_bool HE.out.symm, hbw⟩
end Go.Proofs.Ytbkgkdfameojfaa
