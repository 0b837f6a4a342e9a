/- What the reference's Has, List and Of answer. Conditions: sets are numbers below 2^64; a list no longer than memory holds. -/
import Derived.Test.YtihgigmncgopjaaDoorGroupOps
import Derived.Test.YtihgigmncgopjaaDoorRowI
namespace Go.Proofs.YtihgigmncgopjaaDoor
open Go.RowKit GroupSpec NamesSpec
set_option maxRecDepth 100000

theorem half_nat (m k : Nat) : ((m / 2 ^ k : Nat) : Int) / 2 = ((m / 2 ^ (k + 1) : Nat) : Int) := by
  rw [← low_next]
  omega
theorem odd_nat (m k : Nat) : (((m / 2 ^ k : Nat) : Int) % 2 == 1) = m.testBit k := by
  rw [← low_bit, Bool.eq_iff_iff]
  simp only [beq_iff_eq, decide_eq_true_eq]
  omega
set_option maxHeartbeats 1000000 in
theorem rhas_any16 (m : Nat) (i : Int) (hm : m < 18446744073709551616) (w : World) : Calls Tryd.prog 6 #[.int .u64 m, .int .i64 i] w (SameB w (hasG m i)) := by
  by_cases h0 : i < 0
  · have HE : Hid (hasG m i = false) := Lib.hid (by unfold hasG; rw [decide_eq_false (by omega)]; rfl)
    go_enter Tryd.func6, Tryd.ntmps6
    go_wp2
    go_ret
    exact ⟨by rw [HE.out]; rfl, rfl⟩
  by_cases h1 : 63 < i
  · have HE : Hid (hasG m i = false) := Lib.hid (by unfold hasG; rw [decide_eq_false (by omega : ¬ i ≤ 63)]; simp)
    go_enter Tryd.func6, Tryd.ntmps6
    go_wp2
    go_ret
    exact ⟨by rw [HE.out]; rfl, rfl⟩
  obtain ⟨q, rfl⟩ : ∃ q : Nat, i = q := ⟨i.toNat, by omega⟩
  have hq : q < 64 := by omega
  have HE := Lib.hid (bit_hasG (m := m) hq)
  clear h0 h1
  go_enter Tryd.func6, Tryd.ntmps6
  go_wp2
  go_loop [0, 5] (fun v i => ∃ k : Nat, k ≤ q ∧ i = .int .i64 k ∧ v = .int .u64 (m / 2 ^ k : Nat)) (fun _ i => q - (RowKit.intOf i).toNat)
  case atStart => exact ⟨0, Nat.zero_le _, rfl, by simp⟩
  case round =>
    obtain ⟨k, hk, rfl, rfl⟩ := hrel
    have HD := Lib.hid (half_nat m k)
    have HO := Lib.hid (odd_nat m k)
    have hy : m / 2 ^ k < 18446744073709551616 := Nat.lt_of_le_of_lt (Nat.div_le_self _ _) hm
    generalize m / 2 ^ k = y at HD HO hy ⊢
    by_cases hlt : k < q
    · go_wp2
      go_round
      case rel => exact ⟨k + 1, by omega, by go_num, by rw [← HD.out]⟩
      case measure => simp [RowKit.intOf]; omega
    · obtain rfl : k = q := by omega
      go_wp2
      go_ret
      exact ⟨by rw [HE.out, ← HO.out]; rfl, rfl⟩
def RListRel (W : World) (m : Nat) (v p i : Value) (wr : World) : Prop := ∃ k : Nat, k ≤ 64 ∧ i = .int .i64 k ∧ v = .int .u64 (m / 2 ^ k : Nat) ∧ RowI W wr p (bitsTo m k)
set_option maxHeartbeats 2000000 in
theorem rlist_any (m : Nat) (hm : m < 18446744073709551616) (w : World) : Calls Tryd.prog 5 #[.int .u64 m] w (RetInts w (bitsL m)) := by
  have HL : Hid (bitsL m = bitsTo m 64) := Lib.hid rfl
  rw [HL.out]
  clear HL
  obtain ⟨i0, hi, hz0, hz1, hz2⟩ := info_parts inf_int
  have HI := Lib.hid (And.intro hi (And.intro hz0 (And.intro hz1 hz2)))
  clear hi hz0 hz1 hz2
  go_enter Tryd.func5, Tryd.ntmps5
  go_wp2_with fail
  go_loopw [0, 3, 4] (fun v p i wr => RListRel w m v p i wr) (fun _ _ i _ => 64 - (intOf i).toNat)
  case atStart => exact ⟨0, Nat.zero_le _, rfl, by simp, ⟨World.ownsRow_lit w #[] 0 (Nat.le_refl _) (Nat.zero_le _) rfl, (Below.refl _ _).alloc (Nat.le_refl _) _⟩⟩
  case round =>
    obtain ⟨k, hk, rfl, rfl, hrow⟩ := hrel
    have HR := Lib.hid hrow
    have HD := Lib.hid (half_nat m k)
    have HO := Lib.hid (odd_nat m k)
    have hy : m / 2 ^ k < 18446744073709551616 := Nat.lt_of_le_of_lt (Nat.div_le_self _ _) hm
    generalize m / 2 ^ k = y at HD HO hy ⊢
    by_cases hlt : k < 64
    · have HSZ : Hid (w.heap.size ≤ wr.heap.size) := Lib.hid HR.out.2.size
      have hkl := bitsTo_length m k
      have HL1 : Hid ((bitsTo m k).length + (intV [(k : Int)]).length ≤ maxLen) := Lib.hid (by simp [maxLen]; omega)
      have HL2 : Hid (((bitsTo m k).length + (intV [(k : Int)]).length) * 8 ≤ 140737488355328) := Lib.hid (by simp; omega)
      clear hkl hrow
      rcases hb : m.testBit k with _ | _
      · have HS := Lib.hid (bitsTo_no hb)
        have hodd := HO.out.trans hb
        clear hb
        go_wp2_with fail
        go_roundw
        case rel => exact ⟨k + 1, by omega, by go_num, by rw [← HD.out], by rw [HS.out]; exact HR.out⟩
        case measure => simp [intOf]; omega
      · have HS := Lib.hid (bitsTo_yes hb)
        have hodd := HO.out.trans hb
        clear hb
        go_wp2_with (at_builtin; refine wpList_append_rd _ rfl (.tmp 13) (.tmp 15) _ rfl w.heap.size 3 i0 (.int .i64 0) 8 Tryd.underlying23 HI.out.1 HI.out.2.1 HI.out.2.2.1 HI.out.2.2.2 rfl _ _ _ rfl (HR.out.1.alloc _) _ (intV [(k : Int)]) rfl (lit_here rfl rfl rfl) (intV_one _) HL1.out HL2.out ?_ ?_; (have := HSZ.out; simp; omega); intro p2 w2 hrow2 hg2 _; have HR2 := Lib.hid (RowI.add HR.out hrow2 hg2); clear hrow2 hg2)
        go_roundw
        case rel => exact ⟨k + 1, by omega, by go_num, by rw [← HD.out], by rw [HS.out]; exact HR2.out⟩
        case measure => simp [intOf]; omega
    · obtain rfl : k = 64 := by omega
      go_wp2_with fail
      go_ret
      exact HR.out.ret
set_option maxHeartbeats 2000000 in
theorem rof_any16 (v : Value) (l : List Int) (w : World) (h : Rd w v (intV l)) (hm : l.length ≤ 9223372036854775807) :
    Calls Tryd.prog 13 #[v] w (SameU w (ofG l)) := by
  obtain ⟨A, n, c, rfl, hn, hc, hA⟩ := h.ints
  have HA := Lib.hid hA
  have HN := Lib.hid hn
  have hm' : n ≤ 9223372036854775807 := by omega
  clear hA hn h hc hm
  obtain ⟨m, hM⟩ : ∃ m, m = ofG l := ⟨_, rfl⟩
  have hlt : m < 18446744073709551616 := by rw [hM]; exact ofG_lt l
  have HB : Hid (∀ j : Nat, j < 64 → m.testBit j = decide ((j : Int) ∈ l)) := Lib.hid fun j hj => by rw [hM, ofG_bit, decide_eq_true hj]; rfl
  rw [← hM]
  clear hM
  go_enter Tryd.func13, Tryd.ntmps13
  go_wp2
  go_loop [3, 4, 5] (fun v i _ => ∃ k : Nat, k ≤ 64 ∧ i = .int .i64 ((k : Int) - 1) ∧ v = .int .u64 (m / 2 ^ k : Nat)) (fun _ i _ => (RowKit.intOf i + 1).toNat)
  case atStart => exact ⟨64, Nat.le_refl _, rfl, by rw [Nat.div_eq_of_lt hlt]; rfl⟩
  case round =>
    obtain ⟨k, hk, rfl, rfl⟩ := hrel
    rcases k with _ | j
    · go_wp2
      go_ret
      exact of_same (by simp)
    · have hbit := HB.out j (by omega)
      have hy : m / 2 ^ (j + 1) < 9223372036854775808 := by
        have := low_next m j
        have h2 : m / 2 ^ j ≤ m := Nat.div_le_self _ _
        omega
      have hN1 := high_next m j
      rw [hbit] at hN1
      obtain ⟨y, hY⟩ : ∃ y, y = m / 2 ^ (j + 1) := ⟨_, rfl⟩
      obtain ⟨d, hd⟩ : ∃ d, d = 2 * y := ⟨_, rfl⟩
      rw [← hY] at hy hN1 ⊢
      rw [← hd] at hN1
      have hw1 : IntKind.u64.wrap (2 * (y : Int)) = (d : Int) := by rw [IntKind.wrap_u64]; omega
      have hw2 : IntKind.u64.wrap ((d : Int) + 1) = ((d + 1 : Nat) : Int) := by rw [IntKind.wrap_u64]; omega
      have HN1 := Lib.hid hN1
      clear hbit hN1 hY hd hy
      go_wp2
      go_loop [3, 5] (fun v i => ∃ q : Nat, q ≤ n ∧ i = .int .i64 q ∧ v = .int .u64 d ∧ (j : Int) ∉ l.take q) (fun _ i => n - (RowKit.intOf i).toNat)
      case atStart => exact ⟨0, Nat.zero_le _, rfl, by simp, by simp⟩
      case round =>
        obtain ⟨q, hq, rfl, rfl, hno⟩ := hrel
        have HNO := Lib.hid hno
        clear hno
        by_cases hqn : q < n
        · obtain ⟨b, off, rfl, hb, hcell⟩ := HA.out (by omega)
          obtain ⟨x, hx⟩ : ∃ x, l[q]? = some x := get_some (by have := HN.out; omega)
          have hck := hcell q x hx
          have HX := Lib.hid hx
          clear hcell hx
          by_cases hxj : x = (j : Int)
          · have HE : Hid (m / 2 ^ j = d + 1) := Lib.hid (by rw [HN1.out, decide_eq_true (by rw [← hxj]; exact List.mem_of_getElem? HX.out)]; rfl)
            subst hxj
            go_wp2
            go_round
            case rel => exact ⟨j, by omega, by go_num, by rw [HE.out]; simp⟩
            case measure => simp [RowKit.intOf]
          · have HXJ := Lib.hid hxj
            have g1 : (x == (j : Int)) = false := by simpa using hxj
            clear hxj
            go_wp2
            go_round
            case rel =>
              refine ⟨q + 1, by omega, by go_num, rfl, ?_⟩
              rw [take_next HX.out, List.mem_append, List.mem_singleton]
              rintro (h1 | h1)
              · exact HNO.out h1
              · exact HXJ.out h1.symm
            case measure => simp [RowKit.intOf]; omega
        · have HE : Hid (m / 2 ^ j = d) := Lib.hid (by
            have h1 := HNO.out
            have h2 := HN.out
            rw [List.take_of_length_le (by omega)] at h1
            rw [HN1.out, decide_eq_false h1]; rfl)
          go_wp2
          go_round
          case rel => exact ⟨j, by omega, by go_num, by rw [HE.out]⟩
          case measure => simp [RowKit.intOf]
end Go.Proofs.YtihgigmncgopjaaDoor
