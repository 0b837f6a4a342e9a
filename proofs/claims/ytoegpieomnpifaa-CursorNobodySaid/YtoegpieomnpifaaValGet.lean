/- What numeral and Get of the layer of numbers, and the reference's Get, answer. Condition: the text is no longer than a slice may be. -/
import Derived.Test.YtoegpieomnpifaaValCalls
import Derived.Test.YtoegpieomnpifaaValTextSpec
import Derived.Lib.Hide
namespace Go.Proofs.Ytoegpieomnpifaa
open Go.RowKit ValSpec

theorem str_nil {s : ByteArray} (h : s.size = 0) : s.toList = [] := by
  rw [ByteArray.toList_eq, ← List.length_eq_zero_iff]; exact h
theorem str_ne {s : ByteArray} (h : 0 < s.size) : s.toList.isEmpty = false := by
  have e : s.toList.length = s.size := by rw [ByteArray.toList_eq]; rfl
  cases h' : s.toList with
  | nil => rw [h'] at e; simp at e; omega
  | cons a l => rfl
theorem val_bool {a b : Bool} (h : a = b) : Ending.returned (.bool a) = .returned (.bool b) := by rw [h]
theorem val_pair {a b c d : Int} (h : a = b) (h' : c = d) : Ending.returned (.tuple #[.int .i64 a, .int .i64 c]) = .returned (.tuple #[.int .i64 b, .int .i64 d]) := by rw [h, h']
theorem take_snoc (s : ByteArray) (k : Nat) (h : k < s.size) : s.data.toList.take (k + 1) = s.data.toList.take k ++ [s[k]] := by
  rw [List.take_succ_eq_append_getElem (by simpa using h)]; rfl
theorem take_all (s : ByteArray) : s.data.toList.take s.size = s.data.toList := by rw [List.take_of_length_le (by simp)]
theorem cons_of {s : ByteArray} (h : 0 < s.size) : ∃ tl, s.data.toList = s[0] :: tl ∧ tl.length + 1 = s.size := by
  have e : s.data.toList.length = s.size := rfl
  cases h' : s.data.toList with
  | nil => rw [h'] at e; simp at e; omega
  | cons a l =>
    rw [h'] at e
    refine ⟨l, ?_, by simpa using e⟩
    have : s.data.toList[0]'(by rw [h']; simp) = s[0] := rfl
    rw [← this]
    simp [h']
theorem num_zero {s : ByteArray} (h : 0 < s.size) (h0 : (s[0].toNat : Int) = 48) (h1 : 1 < s.size) : isNum s.data.toList = false := by
  obtain ⟨tl, e, hl⟩ := cons_of h
  have e0 : s[0] = 48 := UInt8.toNat_inj.mp (by show _ = 48; omega)
  rw [e, e0]
  have : 1 ≤ tl.length := by omega
  simp [isNum]
  intro h2; subst h2; simp at this
theorem num_else {s : ByteArray} (h : 0 < s.size) (h0 : ¬ (s[0].toNat : Int) = 48 ∨ s.size ≤ 1) : isNum s.data.toList = s.data.toList.all isDig := by
  obtain ⟨tl, e, hl⟩ := cons_of h
  rw [e]
  unfold isNum
  have e1 : (!(s[0] :: tl).isEmpty) = true := rfl
  rw [e1]
  rcases h0 with h0 | h0
  · have : ((s[0] :: tl).head? == some 48) = false := by
      rw [beq_eq_false_iff_ne]; intro h2; simp at h2; exact h0 (by rw [h2]; rfl)
    rw [this]; simp
  · have : tl = [] := by rw [← List.length_eq_zero_iff]; omega
    subst this; simp
theorem all_take_no {s : ByteArray} {k : Nat} (h : k < s.size) (hc : isDig s[k] = false) : s.data.toList.all isDig = false := by
  rw [List.all_eq_false]
  exact ⟨s[k], by rw [← Array.mem_def]; exact Array.getElem_mem _, by simp [hc]⟩

set_option maxHeartbeats 400000 in
theorem numeral_loop (s : ByteArray) (w : World) (hs : s.size ≤ 9223372036854775807) (hp : 0 < s.size) (h0 : ¬ (s[0].toNat : Int) = 48 ∨ s.size ≤ 1) :
    Calls Try.prog 35 #[.string s] w fun e w' => e = .returned (.bool (isNum s.data.toList)) ∧ w = w' := by
  have he := str_ne hp
  have HN := Lib.hid (num_else hp h0)
  have hz : ¬ ((s[0].toNat : Int) = 48 ∧ 1 < (s.size : Int)) := by omega
  by_cases hs0 : (s[0].toNat : Int) = 48
  all_goals
    (first | (have h1 : (s.size : Int) ≤ 1 := by omega) | skip)
    clear h0 hz
    go_enter Try.func35, Try.ntmps35
    go_wp2_with fail
    go_loop [18] (fun i => ∃ k : Nat, k ≤ s.size ∧ i = .int .i64 k ∧ (s.data.toList.take k).all isDig = true) (fun i => s.size - (intOf i).toNat)
    case atStart => exact ⟨0, Nat.zero_le _, rfl, rfl⟩
    case round =>
      obtain ⟨k, hk, rfl, hall⟩ := hrel
      have HA := Lib.hid hall
      clear hall
      by_cases hlt : k < s.size
      · by_cases hc1 : (s[k].toNat : Int) < 48
        · go_wp2_with fail
          go_ret
          exact ⟨val_bool (by rw [HN.out, all_take_no hlt (not_dig_lo hc1)]), rfl⟩
        · by_cases hc2 : 57 < (s[k].toNat : Int)
          · go_wp2_with fail
            go_ret
            exact ⟨val_bool (by rw [HN.out, all_take_no hlt (not_dig_hi hc2)]), rfl⟩
          · go_wp2_with fail
            go_round
            case rel => exact ⟨k + 1, by omega, by go_num, by rw [take_snoc s k hlt, List.all_append, HA.out]; simp [dig_mk (c := s[k]) (by omega) (by omega)]⟩
            case measure => simp [intOf]; omega
      · go_wp2_with fail
        go_ret
        exact ⟨val_bool (by have : k = s.size := by omega
                            rw [HN.out, ← take_all s, ← this, HA.out]), rfl⟩

theorem numeral_any (s : ByteArray) (w : World) (hs : s.size ≤ maxLen) :
    Calls Try.prog 35 #[.string s] w fun e w' => e = .returned (.bool (isNum s.data.toList)) ∧ w = w' := by
  unfold maxLen at hs
  by_cases h0 : s.size = 0
  · have he := str_nil h0
    have : s.data.toList = [] := by rw [← ByteArray.toList_eq]; exact he
    have HE := Lib.hid this
    clear this
    go_enter Try.func35, Try.ntmps35
    go_wp2_with fail
    go_ret
    exact ⟨val_bool (by rw [HE.out]; rfl), rfl⟩
  · have hp : 0 < s.size := by omega
    by_cases h1 : (s[0].toNat : Int) = 48 ∧ 1 < s.size
    · obtain ⟨h1, h2⟩ := h1
      have he := str_ne hp
      have HZ := Lib.hid (num_zero hp h1 h2)
      go_enter Try.func35, Try.ntmps35
      go_wp2_with fail
      go_ret
      exact ⟨val_bool HZ.out.symm, rfl⟩
    · exact numeral_loop s w hs hp (by omega)

theorem all_at {s : ByteArray} {k : Nat} (h : k < s.size) (ha : s.data.toList.all isDig = true) : isDig s[k] = true := by
  rw [List.all_eq_true] at ha
  exact ha _ (by rw [← Array.mem_def]; exact Array.getElem_mem _)

set_option maxHeartbeats 400000 in
theorem get_any (s : ByteArray) (w : World) (hs : s.size ≤ maxLen) :
    Calls Try.prog 34 #[.string s] w fun e w' => e = .returned (.tuple #[.int .i64 (getN s.data.toList), .int .i64 (getE s.data.toList)]) ∧ w = w' := by
  have hs' : s.size ≤ 9223372036854775807 := hs
  by_cases hn : isNum s.data.toList = true
  · have ha := isNum_all hn
    have HAll := Lib.hid ha
    have HNum := Lib.hid hn
    go_enter Try.func34, Try.ntmps34
    go_wp2_with (go_at_call 35; refine (numeral_any _ _ hs).mono ?_; rintro e w' ⟨rfl, rfl⟩)
    clear hn ha
    go_loop [4, 11] (fun n i => ∃ k : Nat, k ≤ s.size ∧ i = .int .i64 k ∧ n = .int .i64 (says (s.data.toList.take k)) ∧ says (s.data.toList.take k) ≤ 1000000) (fun _ i => s.size - (intOf i).toNat)
    case atStart => exact ⟨0, Nat.zero_le _, rfl, rfl, by show (0 : Int) ≤ 1000000; omega⟩
    case round =>
      obtain ⟨k, hk, rfl, rfl, hbig⟩ := hrel
      have hlo := says_nonneg _ (all_take k HAll.out)
      by_cases hlt : k < s.size
      · obtain ⟨b1, b2⟩ := dig_bd (all_at hlt HAll.out)
        have hsn : says (s.data.toList.take (k + 1)) = 10 * says (s.data.toList.take k) + ((s[k].toNat : Int) - 48) := by rw [take_snoc s k hlt, says_snoc]
        have HS := Lib.hid hsn
        have hle := says_take_le s.data.toList (k + 1) HAll.out
        rw [hsn] at hle
        have HL := Lib.hid hle
        clear hsn hle
        by_cases hb : 1000000 < 10 * says (s.data.toList.take k) + ((s[k].toNat : Int) - 48)
        · go_wp2_with fail
          go_ret2
          exact ⟨val_pair (by unfold getN; rw [if_pos HNum.out, if_pos (by have := HL.out; omega)]) (by unfold getE; rw [if_pos HNum.out, if_pos (by have := HL.out; omega)]), rfl⟩
        · go_wp2_with fail
          go_round
          case rel => exact ⟨k + 1, by omega, by go_num, by rw [HS.out], by rw [HS.out]; omega⟩
          case measure => simp [intOf]; omega
      · have hks : k = s.size := by omega
        have hsa : says (s.data.toList.take k) = says s.data.toList := by rw [hks, take_all]
        have HE := Lib.hid hsa
        clear hsa hks
        go_wp2_with fail
        go_ret2
        exact ⟨val_pair (by rw [HE.out]; unfold getN; rw [if_pos HNum.out, if_neg (by rw [← HE.out]; omega)]) (by unfold getE; rw [if_pos HNum.out, if_neg (by rw [← HE.out]; omega)]), rfl⟩
  · have hf : isNum s.data.toList = false := by simpa using hn
    clear hn
    have HF := Lib.hid hf
    go_enter Try.func34, Try.ntmps34
    go_wp2_with (go_at_call 35; refine (numeral_any _ _ hs).mono ?_; rintro e w' ⟨rfl, rfl⟩)
    go_ret2
    exact ⟨val_pair (by unfold getN; rw [HF.out]; rfl) (by unfold getE; rw [HF.out]; rfl), rfl⟩


theorem num_ok {s : ByteArray} (h : 0 < s.size) (ha : s.data.toList.all isDig = true) (h0 : (s[0].toNat : Int) = 48 → s.size ≤ 1) : isNum s.data.toList = true := by
  rw [num_else h (by by_cases e : (s[0].toNat : Int) = 48; exact .inr (h0 e); exact .inl e), ha]
theorem num_no {s : ByteArray} {k : Nat} (h : k < s.size) (hc : isDig s[k] = false) : isNum s.data.toList = false := by
  cases e : isNum s.data.toList with
  | false => rfl
  | true => have := all_at h (isNum_all e); rw [hc] at this; cases this

/-- What holds at the head of each round of the reference's loop: what was read so far. -/
def RGet (s : ByteArray) (z : Int) (n i : Value) : Prop := ∃ (k : Nat) (m : Int), k ≤ s.size ∧ i = .int .i64 k ∧ n = .int .i64 m ∧ 0 ≤ m ∧ m ≤ 10000009 ∧ (s.data.toList.take k).all isDig = true ∧ (m ≤ 1000000 → m = says (s.data.toList.take k)) ∧ (1000000 < m → 1000000 < says (s.data.toList.take k)) ∧ (z = 48 → k ≤ 1)

set_option maxHeartbeats 400000 in
theorem rget_any (s : ByteArray) (w : World) (hs : s.size ≤ maxLen) :
    Calls Try.prog 27 #[.string s] w fun e w' => e = .returned (.tuple #[.int .i64 (getN s.data.toList), .int .i64 (getE s.data.toList)]) ∧ w = w' := by
  have hs' : s.size ≤ 9223372036854775807 := hs
  by_cases h0 : s.size = 0
  · have he : s.data.toList = [] := by rw [← ByteArray.toList_eq]; exact str_nil h0
    have HE := Lib.hid he
    clear he hs
    go_enter Try.func27, Try.ntmps27
    go_wp2_with fail
    go_ret2
    exact ⟨val_pair (by rw [HE.out]; rfl) (by rw [HE.out]; rfl), rfl⟩
  · have hp : 0 < s.size := by omega
    have hp' : (0 : Int) < (s.size : Int) := by omega
    clear hs
    go_enter Try.func27, Try.ntmps27
    go_wp2_with fail
    go_loop [4, 5] (fun n i => RGet s (s[0].toNat : Int) n i) (fun _ i => s.size - (intOf i).toNat)
    case atStart => exact ⟨0, 0, Nat.zero_le _, rfl, rfl, by omega, by omega, rfl, fun _ => rfl, fun h => by omega, fun _ => by omega⟩
    case round =>
      obtain ⟨k, m, hk, rfl, rfl, m0, m1, hall, hm1, hm2, hz⟩ := hrel
      have HA := Lib.hid hall
      have H1 := Lib.hid hm1
      have H2 := Lib.hid hm2
      have HZ := Lib.hid hz
      clear hall hm1 hm2 hz
      by_cases hlt : k < s.size
      · by_cases hc1 : (s[k].toNat : Int) < 48
        · have HN := Lib.hid (num_no hlt (not_dig_lo hc1))
          go_wp2_with fail
          go_ret2
          exact ⟨val_pair (by unfold getN; rw [HN.out]; rfl) (by unfold getE; rw [HN.out]; rfl), rfl⟩
        · by_cases hc2 : 57 < (s[k].toNat : Int)
          · have HN := Lib.hid (num_no hlt (not_dig_hi hc2))
            go_wp2_with fail
            go_ret2
            exact ⟨val_pair (by unfold getN; rw [HN.out]; rfl) (by unfold getE; rw [HN.out]; rfl), rfl⟩
          · by_cases hc3 : k = 1 ∧ (s[0].toNat : Int) = 48
            · obtain ⟨rfl, hc3⟩ := hc3
              have HN := Lib.hid (num_zero hp hc3 hlt)
              go_wp2_with fail
              go_ret2
              exact ⟨val_pair (by unfold getN; rw [HN.out]; rfl) (by unfold getE; rw [HN.out]; rfl), rfl⟩
            · have HZ2 : Hid ((s[0].toNat : Int) = 48 → k + 1 ≤ 1) := Lib.hid fun e => by have := HZ.out e; omega
              have hsn : says (s.data.toList.take (k + 1)) = 10 * says (s.data.toList.take k) + ((s[k].toNat : Int) - 48) := by rw [take_snoc s k hlt, says_snoc]
              have HS := Lib.hid hsn
              have HA2 : Hid ((s.data.toList.take (k + 1)).all isDig = true) := Lib.hid (by rw [take_snoc s k hlt, List.all_append, HA.out]; simp [dig_mk (c := s[k]) (by omega) (by omega)])
              clear hsn
              by_cases hk1 : k = 1
              · have hc4 : ¬ (s[0].toNat : Int) = 48 := fun e => hc3 ⟨hk1, e⟩
                clear hc3
                subst hk1
                by_cases hb : m ≤ 1000000
                all_goals
                  go_wp2_with fail
                  go_round
                  case rel => first
                    | exact ⟨2, _, by omega, by go_num, rfl, by omega, by omega, HA2.out, fun _ => by rw [HS.out, ← H1.out (by omega)]; omega, fun _ => by rw [HS.out, ← H1.out (by omega)]; omega, HZ2.out⟩
                    | exact ⟨2, _, by omega, by go_num, rfl, by omega, by omega, HA2.out, fun _ => by omega, fun _ => by have := H2.out (by omega); rw [HS.out]; omega, HZ2.out⟩
                  case measure => simp [intOf]; omega
              · clear hc3
                have hk2 : ((k : Int) == 1) = false := by rw [beq_eq_false_iff_ne]; omega
                by_cases hb : m ≤ 1000000
                all_goals
                  go_wp2_with fail
                  go_round
                  case rel => first
                    | exact ⟨k + 1, _, by omega, by go_num, rfl, by omega, by omega, HA2.out, fun _ => by rw [HS.out, ← H1.out (by omega)]; omega, fun _ => by rw [HS.out, ← H1.out (by omega)]; omega, HZ2.out⟩
                    | exact ⟨k + 1, _, by omega, by go_num, rfl, by omega, by omega, HA2.out, fun _ => by omega, fun _ => by have := H2.out (by omega); rw [HS.out]; omega, HZ2.out⟩
                  case measure => simp [intOf]; omega
      · have hks : k = s.size := by omega
        subst hks
        have HA2 : Hid (s.data.toList.all isDig = true) := Lib.hid (by rw [← take_all s]; exact HA.out)
        have HN : Hid (isNum s.data.toList = true) := Lib.hid (num_ok hp HA2.out HZ.out)
        have H3 : Hid (m ≤ 1000000 → m = says s.data.toList) := Lib.hid (by have := H1.out; rwa [take_all] at this)
        have H4 : Hid (1000000 < m → 1000000 < says s.data.toList) := Lib.hid (by have := H2.out; rwa [take_all] at this)
        clear HA HA2 HZ H1 H2
        by_cases hb : 1000000 < m
        · go_wp2_with fail
          go_ret2
          exact ⟨val_pair (by unfold getN; rw [HN.out, if_pos rfl, if_pos (H4.out hb)]) (by unfold getE; rw [HN.out, if_pos rfl, if_pos (H4.out hb)]), rfl⟩
        · go_wp2_with fail
          go_ret2
          have e := H3.out (by omega)
          exact ⟨val_pair (by unfold getN; rw [HN.out, if_pos rfl, if_neg (by omega)]; exact e) (by unfold getE; rw [HN.out, if_pos rfl, if_neg (by omega)]), rfl⟩

end Go.Proofs.Ytoegpieomnpifaa
