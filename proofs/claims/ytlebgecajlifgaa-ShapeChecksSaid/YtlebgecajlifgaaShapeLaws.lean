/- The walks of layer 10's three laws: they return true, and what was in memory stays. Condition: the arguments are such. -/
import Derived.Test.YtlebgecajlifgaaShapeAwake
import Derived.Test.YtlebgecajlifgaaShapeRefMay
import Derived.Test.YtlebgecajlifgaaShapeRefTell
namespace Go.Proofs.Ytlebgecajlifgaa
open Go.RowKit ShapeSpec
set_option maxRecDepth 100000

set_option maxHeartbeats 2000000 in
theorem walk_ShapeChecks (A : Option Addr) (n c : Nat) (l : List Sh) (w : World) (h : Sts w (.slice A n c) l) (hm : n ≤ 9223372036854775807) :
    Calls Try.prog 3 #[.slice A n c] w fun e w' => e = .returned (.bool true) ∧ Below w.heap.size w w' := by
  have HAw := Lib.hid shawake_any
  by_cases hl : 100 < n
  · have hlI : (100 : Int) < n := by omega
    clear h
    go_enter Try.func3, Try.ntmps3
    go_wp2_with (go_at_call 6; (with_reducible refine (HAw.out _).mono ?_))
    rintro e w1 ⟨rfl, hb1⟩
    go_wp2_with fail
    go_ret
    exact ⟨rfl, hb1⟩
  · have hlI : ¬ (100 : Int) < n := by omega
    have HT := Lib.hid h
    have HC := Lib.hid (check_any A n c l w h hm)
    have HR := Lib.hid (fun w h => rshcheck_any A n c l w h hm)
    obtain ⟨ch, hch⟩ : ∃ ch, ch = chk l := ⟨_, rfl⟩
    rw [← hch] at HC HR
    have g1 : (ch == ch) = true := by simp
    clear h hch
    go_enter Try.func3, Try.ntmps3
    go_wp2_with (go_at_call 7; (with_reducible refine HC.out.mono ?_))
    rintro e w1 ⟨rfl, hb1⟩
    have HR1 := Lib.hid (HR.out _ (HT.out.keep hb1))
    have HB1 := Lib.hid hb1
    clear hb1
    go_wp2_with (go_at_call 8; (with_reducible refine HR1.out.mono ?_))
    rintro e w2 ⟨rfl, hb2⟩
    have HB2 := Lib.hid (below_two' HB1.out hb2)
    clear hb2
    go_wp2_with (go_at_call 6; (with_reducible refine (HAw.out _).mono ?_))
    rintro e w3 ⟨rfl, hb3⟩
    go_wp2_with fail
    go_ret
    exact ⟨rfl, below_two' HB2.out hb3⟩

theorem has_no_zero {l : List Sh} {i k : Int} (h : hasB l i = false) : kidsA l i = [] ∧ aboveA l i = [] ∧ depthA l i = 0 ∧ endA l i = 0 ∧ meetA l i k = -1 := by
  unfold kidsA aboveA depthA endA meetA
  simp [h]
theorem has_no_why {l : List Sh} {i : Int} (h : hasB l i = false) : chk l ≠ 0 ∨ (chk l = 0 ∧ i < 0) ∨ (chk l = 0 ∧ ¬ i < 0 ∧ (l.length : Int) ≤ i) := by
  by_cases hc : chk l = 0
  · by_cases h0 : i < 0
    · exact .inr (.inl ⟨hc, h0⟩)
    · refine .inr (.inr ⟨hc, h0, ?_⟩)
      have : decide (i < (l.length : Int)) = false := by
        simpa [hasB, hc, show 0 ≤ i by omega] using h
      have := of_decide_eq_false this
      omega
  · exact .inl hc

set_option maxRecDepth 100000 in
set_option maxHeartbeats 8000000 in
theorem tells_no (A : Option Addr) (n c : Nat) (l : List Sh) (i k : Int) (w : World) (h : Sts w (.slice A n c) l) (hl : n ≤ 100) (hb : hasB l i = false) :
    Calls Try.prog 4 #[.slice A n c, .int .i64 i, .int .i64 k] w fun e w' => e = .returned (.bool true) ∧ Below w.heap.size w w' := by
  have HAw := Lib.hid shawake_any
  have hn := h.len
  have hlI : ¬ (100 : Int) < n := by omega
  have HT := Lib.hid h
  have hm : n ≤ 9223372036854775807 := by omega
  obtain ⟨z1, z2, z3, z4, z5⟩ := has_no_zero (k := k) hb
  have HK := Lib.hid (shkids_any A n c l i w h hm)
  have HAB := Lib.hid (fun w h => shabove_any A n c l i w h hm)
  have HD := Lib.hid (fun w h => shdep_any A n c l i w h hm)
  have HE := Lib.hid (fun w h => shend_any A n c l i w h hm)
  have HM := Lib.hid (fun w h => shmeet_any A n c l i k w h hm)
  have HR := Lib.hid (fun w h => rshcheck_any A n c l w h hm)
  rw [z1] at HK
  rw [z2] at HAB
  rw [z3] at HD
  rw [z4] at HE
  rw [z5] at HM
  have HW := Lib.hid (has_no_why hb)
  obtain ⟨ch, hch⟩ : ∃ ch, ch = chk l := ⟨_, rfl⟩
  rw [← hch, ← hn] at HW
  rw [← hch] at HR
  clear h hch z1 z2 z3 z4 z5 hb hn
  go_enter Try.func4, Try.ntmps4
  go_wp2_with (go_at_call 9; (with_reducible refine HK.out.mono ?_))
  intro e w1 hret
  obtain ⟨A1, c1, rfl, -, hb1⟩ := retInts_shape hret
  have HB1 := Lib.hid hb1
  have HAB1 := Lib.hid (HAB.out _ (HT.out.keep HB1.out))
  clear hret hb1
  go_wp2_with (go_at_call 10; (with_reducible refine HAB1.out.mono ?_))
  intro e w2 hret
  obtain ⟨A2, c2, rfl, -, hb2⟩ := retInts_shape hret
  have HB2 := Lib.hid (below_two' HB1.out hb2)
  have HD2 := Lib.hid (HD.out _ (HT.out.keep HB2.out))
  clear hret hb2
  go_wp2_with (go_at_call 11; (with_reducible refine HD2.out.mono ?_))
  rintro e w3 ⟨rfl, hb3⟩
  have HB3 := Lib.hid (below_two' HB2.out hb3)
  have HE3 := Lib.hid (HE.out _ (HT.out.keep HB3.out))
  clear hb3
  go_wp2_with (go_at_call 12; (with_reducible refine HE3.out.mono ?_))
  rintro e w4 ⟨rfl, hb4⟩
  have HB4 := Lib.hid (below_two' HB3.out hb4)
  have HM4 := Lib.hid (HM.out _ (HT.out.keep HB4.out))
  clear hb4
  go_wp2_with (go_at_call 13; (with_reducible refine HM4.out.mono ?_))
  rintro e w5 ⟨rfl, hb5⟩
  have HB5 := Lib.hid (below_two' HB4.out hb5)
  have HR5 := Lib.hid (HR.out _ (HT.out.keep HB5.out))
  clear hb5
  rcases HW.out with hc | ⟨hc, h0⟩ | ⟨hc, h0, h1⟩
  · have g1 : (ch != 0) = true := by simpa using hc
    clear hc
    go_wp2_with (go_at_call 8; (with_reducible refine HR5.out.mono ?_))
    rintro e w6 ⟨rfl, hb6⟩
    have HB6 := Lib.hid (below_two' HB5.out hb6)
    clear hb6
    go_wp2_with (go_at_call 6; (with_reducible refine (HAw.out _).mono ?_))
    rintro e w7 ⟨rfl, hb7⟩
    go_wp2_with fail
    go_ret
    exact ⟨rfl, below_two' HB6.out hb7⟩
  · subst hc
    have g2 : decide (i < 0) = true := decide_eq_true h0
    go_wp2_with (go_at_call 8; (with_reducible refine HR5.out.mono ?_))
    rintro e w6 ⟨rfl, hb6⟩
    have HB6 := Lib.hid (below_two' HB5.out hb6)
    clear hb6
    go_wp2_with (go_at_call 6; (with_reducible refine (HAw.out _).mono ?_))
    rintro e w7 ⟨rfl, hb7⟩
    go_wp2_with fail
    go_ret
    exact ⟨rfl, below_two' HB6.out hb7⟩
  · subst hc
    have g2 : decide (i < 0) = false := decide_eq_false (by omega)
    have g3 : decide ((n : Int) ≤ i) = true := decide_eq_true h1
    go_wp2_with (go_at_call 8; (with_reducible refine HR5.out.mono ?_))
    rintro e w6 ⟨rfl, hb6⟩
    have HB6 := Lib.hid (below_two' HB5.out hb6)
    clear hb6
    go_wp2_with (go_at_call 6; (with_reducible refine (HAw.out _).mono ?_))
    rintro e w7 ⟨rfl, hb7⟩
    go_wp2_with fail
    go_ret
    exact ⟨rfl, below_two' HB6.out hb7⟩

theorem has_yes_all {l : List Sh} {a : Nat} {k : Int} (h : hasB l a = true) : kidsA l a = kids l a ∧ aboveA l a = upI l a ∧ depthA l a = ((up l a).length + 1 : Nat) ∧ endA l a = (endOf l a : Nat) ∧ meetA l a k = if hasB l k = true then meet l a k.toNat else -1 := by
  unfold kidsA aboveA depthA endA meetA
  simp [h]
theorem has_in {l : List Sh} {z : Nat} (hc : chk l = 0) (hz : z < l.length) : hasB l z = true := by simp [hasB, hc, hz]
theorem has_out {l : List Sh} {k : Int} (h : k < 0 ∨ (l.length : Int) ≤ k) : hasB l k = false := by
  unfold hasB
  rcases h with h | h
  · rw [decide_eq_false (show ¬ 0 ≤ k by omega)]; rfl
  · rw [decide_eq_false (show ¬ k < (l.length : Int) by omega)]; simp

set_option maxRecDepth 100000 in
set_option maxHeartbeats 16000000 in
theorem tells_yes (A : Option Addr) (n c : Nat) (l : List Sh) (a : Nat) (k : Int) (w : World) (h : Sts w (.slice A n c) l) (hl : n ≤ 100) (hb : hasB l a = true) :
    Calls Try.prog 4 #[.slice A n c, .int .i64 a, .int .i64 k] w fun e w' => e = .returned (.bool true) ∧ Below w.heap.size w w' := by
  have HAw := Lib.hid shawake_any
  have hn := h.len
  have hlI : ¬ (100 : Int) < n := by omega
  have HT := Lib.hid h
  have hm : n ≤ 9223372036854775807 := by omega
  obtain ⟨a', ea, -, han, hn60, hsu⟩ := has_at hn hb
  obtain rfl : a = a' := by omega
  have hc0 : chk l = 0 := by obtain ⟨_, _, _, hc⟩ := has_yes hb; exact hc
  obtain ⟨z1, z2, z3, z4, z5⟩ := has_yes_all (k := k) hb
  have HK := Lib.hid (shkids_any A n c l a w h hm)
  have HAB := Lib.hid (fun w h => shabove_any A n c l a w h hm)
  have HD := Lib.hid (fun w h => shdep_any A n c l a w h hm)
  have HE := Lib.hid (fun w h => shend_any A n c l a w h hm)
  have HM := Lib.hid (fun w h => shmeet_any A n c l a k w h hm)
  have HMB := Lib.hid (fun w h => shmeet_any A n c l k a w h hm)
  have HR := Lib.hid (fun w h => rshcheck_any A n c l w h hm)
  have HRA := Lib.hid (fun w h => rabove_any A n c n l a w h hsu han (Nat.le_refl _) (by omega))
  have HRK := Lib.hid (fun w h => rshkids_any A n c l a w h (by omega))
  have HRE := Lib.hid (fun w h => rshend_any A n c l a w h hsu han (by omega))
  have HRM := Lib.hid (fun w h z hz => rshmeet_any A n c l a z w h hsu han hz (by omega))
  rw [z1] at HK
  rw [z2] at HAB
  rw [z3] at HD
  rw [z4] at HE
  rw [z5] at HM
  rw [hc0] at HR
  have hkl : (kids l a).length ≤ n := by rw [hn]; exact kids_le l a l.length
  have hul := up_length_le l a
  have hul' := upI_length l a
  have HKN : Hid (k < 0 ∨ (n : Int) ≤ k → hasB l k = false) := Lib.hid (fun h => has_out (by rw [← hn]; exact h))
  have HKY : Hid (∀ z : Nat, k = z → z < n → hasB l k = true ∧ k.toNat = z ∧ meetA l k a = meet l a z) := Lib.hid (fun z hz hzn => by
    subst hz
    have hy := has_in hc0 (by rw [← hn]; exact hzn)
    refine ⟨hy, rfl, ?_⟩
    unfold meetA
    rw [if_pos ⟨hy, hb⟩]
    exact meet_comm (by rw [← hn]; exact hsu) _ _ _ (Nat.le_refl _) (by rw [← hn]; exact hzn) (by rw [← hn]; exact han))
  obtain ⟨ks, hks⟩ : ∃ ks, ks = kids l a := ⟨_, rfl⟩
  obtain ⟨us, hus⟩ : ∃ us, us = upI l a := ⟨_, rfl⟩
  obtain ⟨u, hu⟩ : ∃ u, u = (up l a).length := ⟨_, rfl⟩
  obtain ⟨q, hq⟩ : ∃ q, q = endOf l a := ⟨_, rfl⟩
  rw [← hks] at HK HRK hkl
  rw [← hus] at HAB HRA hul'
  rw [← hu] at HD hul hul'
  rw [← hq] at HE HRE
  have HUL := Lib.hid hul'
  have d1 : decide ((a : Int) < 0) = false := decide_eq_false (by omega)
  have d2 : decide (n ≤ a) = false := decide_eq_false (by omega)
  have d3 : (((u : Nat) : Int) + 1 != (u : Int) + 1) = false := by simp
  have d4 : (((q : Nat) : Int) != (q : Int)) = false := by simp
  clear h hc0 z1 z2 z3 z4 z5 hb hn hsu hks hus hu hq hul' ea
  go_enter Try.func4, Try.ntmps4
  go_wp2_with (go_at_call 9; (with_reducible refine HK.out.mono ?_))
  intro e w1 hret
  obtain ⟨A1, c1, rfl, hr1, hb1⟩ := retInts_shape hret
  have HB1 := Lib.hid hb1
  have HR1 := Lib.hid hr1
  have HAB1 := Lib.hid (HAB.out _ (HT.out.keep HB1.out))
  clear hret hb1 hr1
  go_wp2_with (go_at_call 10; (with_reducible refine HAB1.out.mono ?_))
  intro e w2 hret
  obtain ⟨A2, c2, rfl, hr2, hb2⟩ := retInts_shape hret
  have HB2 := Lib.hid (below_two' HB1.out hb2)
  have HK2 := Lib.hid (HR1.out.keep hb2)
  have HR2 := Lib.hid hr2
  have HD2 := Lib.hid (HD.out _ (HT.out.keep HB2.out))
  clear hret hb2 hr2
  go_wp2_with (go_at_call 11; (with_reducible refine HD2.out.mono ?_))
  rintro e w3 ⟨rfl, hb3⟩
  have HB3 := Lib.hid (below_two' HB2.out hb3)
  have HK3 := Lib.hid (HK2.out.keep hb3)
  have HR3 := Lib.hid (HR2.out.keep hb3)
  have HE3 := Lib.hid (HE.out _ (HT.out.keep HB3.out))
  clear hb3
  go_wp2_with (go_at_call 12; (with_reducible refine HE3.out.mono ?_))
  rintro e w4 ⟨rfl, hb4⟩
  have HB4 := Lib.hid (below_two' HB3.out hb4)
  have HK4 := Lib.hid (HK3.out.keep hb4)
  have HR4 := Lib.hid (HR3.out.keep hb4)
  have HM4 := Lib.hid (HM.out _ (HT.out.keep HB4.out))
  clear hb4
  obtain ⟨mm, hmm⟩ : ∃ mm, mm = (if hasB l k = true then meet l a k.toNat else -1) := ⟨_, rfl⟩
  rw [← hmm] at HM4
  have HMM := Lib.hid hmm
  clear hmm
  go_wp2_with (go_at_call 13; (with_reducible refine HM4.out.mono ?_))
  rintro e w5 ⟨rfl, hb5⟩
  have HB5 := Lib.hid (below_two' HB4.out hb5)
  have HK5 := Lib.hid (HK4.out.keep hb5)
  have HR5 := Lib.hid (HR4.out.keep hb5)
  have HX5 := Lib.hid (HR.out _ (HT.out.keep HB5.out))
  clear hb5
  go_wp2_with (go_at_call 8; (with_reducible refine HX5.out.mono ?_))
  rintro e w6 ⟨rfl, hb6⟩
  have HB6 := Lib.hid (below_two' HB5.out hb6)
  have HK6 := Lib.hid (HK5.out.keep hb6)
  have HR6 := Lib.hid (HR5.out.keep hb6)
  have HX6 := Lib.hid (HRA.out _ (HT.out.keep HB6.out))
  clear hb6
  go_wp2_with (go_at_call 14; (with_reducible refine HX6.out.mono ?_))
  intro e w7 hret
  obtain ⟨A7, c7, rfl, hr7, hb7⟩ := retInts_shape hret
  have HB7 := Lib.hid (below_two' HB6.out hb7)
  have HK7 := Lib.hid (HK6.out.keep hb7)
  have HR7 := Lib.hid (HR6.out.keep hb7)
  have HW7 := Lib.hid hr7
  have HX7 := Lib.hid (HRK.out _ (HT.out.keep HB7.out))
  clear hret hr7 hb7
  go_wp2_with (go_at_call 16; (with_reducible refine HX7.out.mono ?_))
  intro e w8 hret
  obtain ⟨A8, c8, rfl, hr8, hb8⟩ := retInts_shape hret
  have HB8 := Lib.hid (below_two' HB7.out hb8)
  have HR8 := Lib.hid (HR7.out.keep hb8)
  have HW8 := Lib.hid (HW7.out.keep hb8)
  have HX8 := Lib.hid (same_yes _ _ ks w8 (HK7.out.keep hb8) hr8 (by omega))
  clear hret hr8 hb8
  go_wp2_with (go_at_call 15; (with_reducible refine HX8.out.mono ?_))
  rintro e w9 ⟨rfl, hb9⟩
  have HB9 := Lib.hid (below_two' HB8.out hb9)
  have HX9 := Lib.hid (same_yes _ _ us w9 (HR8.out.keep hb9) (HW8.out.keep hb9) (by rw [HUL.out]; omega))
  clear hb9
  go_wp2_with (go_at_call 15; (with_reducible refine HX9.out.mono ?_))
  rintro e w10 ⟨rfl, hb10⟩
  have HB10 := Lib.hid (below_two' HB9.out hb10)
  have HX10 := Lib.hid (HRE.out _ (HT.out.keep HB10.out))
  clear hb10
  rw [HUL.out]
  go_wp2_with (go_at_call 17; (with_reducible refine HX10.out.mono ?_))
  rintro e w11 ⟨rfl, hb11⟩
  have HB11 := Lib.hid (below_two' HB10.out hb11)
  clear hb11
  by_cases hko : k < 0 ∨ (n : Int) ≤ k
  · have hm1 : mm = -1 := by rw [HMM.out, if_neg (by rw [HKN.out hko]; simp)]
    subst hm1
    rcases hko with hk0 | hkn
    · have e1 : decide (k < 0) = true := decide_eq_true hk0
      go_wp2_with (go_at_call 6; (with_reducible refine (HAw.out _).mono ?_))
      rintro e w12 ⟨rfl, hb12⟩
      go_wp2_with fail
      go_ret
      exact ⟨rfl, below_two' HB11.out hb12⟩
    · have e1 : decide (k < 0) = false := decide_eq_false (by omega)
      have e2 : decide ((n : Int) ≤ k) = true := decide_eq_true hkn
      go_wp2_with (go_at_call 6; (with_reducible refine (HAw.out _).mono ?_))
      rintro e w12 ⟨rfl, hb12⟩
      go_wp2_with fail
      go_ret
      exact ⟨rfl, below_two' HB11.out hb12⟩
  · obtain ⟨z, rfl⟩ := Int.eq_ofNat_of_zero_le (show 0 ≤ k by omega)
    have hzn : z < n := by omega
    obtain ⟨y1, y2, y3⟩ := HKY.out z rfl hzn
    have HMZ : Hid (mm = meet l a z) := Lib.hid (by rw [HMM.out, if_pos y1, y2])
    have HX11 := Lib.hid (HRM.out _ (HT.out.keep HB11.out) z hzn)
    have HMB' := HMB
    rw [y3] at HMB'
    rw [← HMZ.out] at HX11 HMB'
    have HMC := Lib.hid HMB'.out
    have e1 : decide ((z : Int) < 0) = false := decide_eq_false (by omega)
    have e2 : decide (n ≤ z) = false := decide_eq_false (by omega)
    have e3 : (mm == mm) = true := by simp
    clear y1 y2 y3 hko HMB HMB'
    go_wp2_with (go_at_call 18; (with_reducible refine HX11.out.mono ?_))
    rintro e w12 ⟨rfl, hb12⟩
    have HB12 := Lib.hid (below_two' HB11.out hb12)
    have HX12 := Lib.hid (HMC.out _ (HT.out.keep HB12.out))
    clear hb12
    go_wp2_with (go_at_call 13; (with_reducible refine HX12.out.mono ?_))
    rintro e w13 ⟨rfl, hb13⟩
    have HB13 := Lib.hid (below_two' HB12.out hb13)
    clear hb13
    go_wp2_with (go_at_call 6; (with_reducible refine (HAw.out _).mono ?_))
    rintro e w14 ⟨rfl, hb14⟩
    go_wp2_with fail
    go_ret
    exact ⟨rfl, below_two' HB13.out hb14⟩

set_option maxHeartbeats 1000000 in
theorem walk_ShapeTells (A : Option Addr) (n c : Nat) (l : List Sh) (i k : Int) (w : World) (h : Sts w (.slice A n c) l) (hm : n ≤ 9223372036854775807) (_ : (Lit.int .i64 i).wf = true) (_ : (Lit.int .i64 k).wf = true) :
    Calls Try.prog 4 #[.slice A n c, .int .i64 i, .int .i64 k] w fun e w' => e = .returned (.bool true) ∧ Below w.heap.size w w' := by
  by_cases hl : 100 < n
  · have HAw := Lib.hid shawake_any
    have hlI : (100 : Int) < n := by omega
    clear h
    go_enter Try.func4, Try.ntmps4
    go_wp2_with (go_at_call 6; (with_reducible refine (HAw.out _).mono ?_))
    rintro e w1 ⟨rfl, hb1⟩
    go_wp2_with fail
    go_ret
    exact ⟨rfl, hb1⟩
  · cases hb : hasB l i with
    | false => exact tells_no A n c l i k w h (by omega) hb
    | true =>
      obtain ⟨a, rfl, _⟩ := has_yes hb
      exact tells_yes A n c l a k w h (by omega) hb

def EndsQ (W : World) (n : Nat) (v : Value) (wr : World) : Prop := ∃ k : Nat, k ≤ n ∧ v = .int .i64 k ∧ Below W.heap.size W wr
theorem ends_at {l : List Sh} {n a k : Nat} (hn : n = l.length) (hs : SU l n) (ha : a < n) (hk : k < n) : (decide (a ≤ k) && decide (k < endOf l a)) = (meet l a k == (a : Int)) := by
  subst hn
  rw [Bool.eq_iff_iff]
  simp only [Bool.and_eq_true, decide_eq_true_eq, beq_iff_eq]
  rw [← end_iff hs ha hk, meet_is]

set_option maxRecDepth 100000 in
set_option maxHeartbeats 8000000 in
theorem ends_yes (A : Option Addr) (n c : Nat) (l : List Sh) (a : Nat) (w : World) (h : Sts w (.slice A n c) l) (hl : n ≤ 60) (hb : hasB l a = true) :
    Calls Try.prog 5 #[.slice A n c, .int .i64 a] w fun e w' => e = .returned (.bool true) ∧ Below w.heap.size w w' := by
  have HAw := Lib.hid shawake_any
  have hn := h.len
  have HT := Lib.hid h
  have hm : n ≤ 9223372036854775807 := by omega
  obtain ⟨a', ea, -, han, hn60, hsu⟩ := has_at hn hb
  obtain rfl : a = a' := by omega
  have hc0 : chk l = 0 := by obtain ⟨_, _, _, hc⟩ := has_yes hb; exact hc
  have HC := Lib.hid (check_any A n c l w h hm)
  rw [hc0] at HC
  have HE := Lib.hid (fun w h => shend_any A n c l a w h hm)
  rw [(has_yes_all (k := 0) hb).2.2.2.1] at HE
  have HM := Lib.hid (fun w (k : Nat) h => shmeet_any A n c l a k w h hm)
  have HMA : Hid (∀ k : Nat, k < n → meetA l a k = meet l a k) := Lib.hid (fun k hk => by
    rw [(has_yes_all (k := k) hb).2.2.2.2, if_pos (has_in hc0 (by rw [← hn]; exact hk))]
    rfl)
  have HQ : Hid (∀ k : Nat, k < n → (decide (a ≤ k) && decide (k < endOf l a)) = (meet l a k == (a : Int))) := Lib.hid (fun k hk => ends_at hn hsu han hk)
  have he := end_bd (l := l) (i := a) (by rw [← hn]; exact han)
  rw [← hn] at he
  obtain ⟨q, hq⟩ : ∃ q, q = endOf l a := ⟨_, rfl⟩
  rw [← hq] at HE HQ he
  obtain ⟨he1, he2⟩ := he
  have d0 : decide ((60 : Int) < n) = false := decide_eq_false (by omega)
  have d1 : decide ((a : Int) < 0) = false := decide_eq_false (by omega)
  have d2 : decide (n ≤ a) = false := decide_eq_false (by omega)
  have d3 : decide (a < q) = true := decide_eq_true he1
  have d4 : decide (q ≤ n) = true := decide_eq_true he2
  clear h hc0 hb hn hsu hq ea
  go_enter Try.func5, Try.ntmps5
  go_wp2_with (go_at_call 7; (with_reducible refine HC.out.mono ?_))
  rintro e w1 ⟨rfl, hb1⟩
  have HB1 := Lib.hid hb1
  have HE1 := Lib.hid (HE.out _ (HT.out.keep HB1.out))
  clear hb1
  go_wp2_with (go_at_call 12; (with_reducible refine HE1.out.mono ?_))
  rintro e w2 ⟨rfl, hb2⟩
  have HB2 := Lib.hid (below_two' HB1.out hb2)
  clear hb2
  go_wp2_with fail
  go_loopw [6] (fun v wr => EndsQ w n v wr) (fun v _ => n - (intOf v).toNat)
  case atStart => exact ⟨0, Nat.zero_le _, rfl, HB2.out⟩
  case round =>
    obtain ⟨k, hk, rfl, hbw⟩ := hrel
    have HBW := Lib.hid hbw
    clear hbw
    by_cases hlt : k < n
    · have hltI : (k : Int) < n := by omega
      have HM1 := Lib.hid (HM.out wr k (HT.out.keep HBW.out))
      rw [HMA.out k hlt] at HM1
      have hqk := HQ.out k hlt
      obtain ⟨mm, hmm⟩ : ∃ mm, mm = meet l a k := ⟨_, rfl⟩
      rw [← hmm] at HM1 hqk
      clear hmm
      by_cases h1 : a ≤ k
      · by_cases h2 : k < q
        · have g1 : decide (a ≤ k) = true := decide_eq_true h1
          have g2 : decide (k < q) = true := decide_eq_true h2
          have g3 : (mm == (a : Int)) = true := by rw [← hqk, g1, g2]; rfl
          clear hqk
          go_wp2_with (go_at_call 13; (with_reducible refine HM1.out.mono ?_))
          rintro e w3 ⟨rfl, hb3⟩
          have HB3 := Lib.hid (below_two' HBW.out hb3)
          clear hb3
          go_wp2_with fail
          go_roundw
          case rel => exact ⟨k + 1, by omega, by simp, HB3.out⟩
          case measure => simp [intOf]; omega
        · have g1 : decide (a ≤ k) = true := decide_eq_true h1
          have g2 : decide (k < q) = false := decide_eq_false h2
          have g3 : (mm == (a : Int)) = false := by rw [← hqk, g1, g2]; rfl
          clear hqk
          go_wp2_with (go_at_call 13; (with_reducible refine HM1.out.mono ?_))
          rintro e w3 ⟨rfl, hb3⟩
          have HB3 := Lib.hid (below_two' HBW.out hb3)
          clear hb3
          go_wp2_with fail
          go_roundw
          case rel => exact ⟨k + 1, by omega, by simp, HB3.out⟩
          case measure => simp [intOf]; omega
      · have g1 : decide (a ≤ k) = false := decide_eq_false h1
        have g3 : (mm == (a : Int)) = false := by rw [← hqk, g1]; rfl
        clear hqk
        go_wp2_with (go_at_call 13; (with_reducible refine HM1.out.mono ?_))
        rintro e w3 ⟨rfl, hb3⟩
        have HB3 := Lib.hid (below_two' HBW.out hb3)
        clear hb3
        go_wp2_with fail
        go_roundw
        case rel => exact ⟨k + 1, by omega, by simp, HB3.out⟩
        case measure => simp [intOf]; omega
    · obtain rfl : k = n := by omega
      go_wp2_with (go_at_call 6; (with_reducible refine (HAw.out _).mono ?_))
      rintro e w3 ⟨rfl, hb3⟩
      go_wp2_with fail
      go_ret
      exact ⟨rfl, below_two' HBW.out hb3⟩

set_option maxRecDepth 100000 in
set_option maxHeartbeats 4000000 in
theorem walk_ShapeEnds (A : Option Addr) (n c : Nat) (l : List Sh) (i : Int) (w : World) (h : Sts w (.slice A n c) l) (hm : n ≤ 9223372036854775807) (_ : (Lit.int .i64 i).wf = true) :
    Calls Try.prog 5 #[.slice A n c, .int .i64 i] w fun e w' => e = .returned (.bool true) ∧ Below w.heap.size w w' := by
  have HAw := Lib.hid shawake_any
  by_cases hl : 60 < n
  · have d0 : decide ((60 : Int) < n) = true := decide_eq_true (by omega)
    clear h
    go_enter Try.func5, Try.ntmps5
    go_wp2_with (go_at_call 6; (with_reducible refine (HAw.out _).mono ?_))
    rintro e w1 ⟨rfl, hb1⟩
    go_wp2_with fail
    go_ret
    exact ⟨rfl, hb1⟩
  cases hb : hasB l i with
  | true =>
    obtain ⟨a, rfl, _⟩ := has_yes hb
    exact ends_yes A n c l a w h (by omega) hb
  | false =>
    have d0 : decide ((60 : Int) < n) = false := decide_eq_false (by omega)
    have hn := h.len
    have HC := Lib.hid (check_any A n c l w h hm)
    have HW := has_no_why hb
    obtain ⟨ch, hch⟩ : ∃ ch, ch = chk l := ⟨_, rfl⟩
    rw [← hch, ← hn] at HW
    rw [← hch] at HC
    clear h hch hb hn
    rcases HW with hc | ⟨hc, h0⟩ | ⟨hc, h0, h1⟩
    · have g1 : (ch != 0) = true := by simpa using hc
      clear hc
      go_enter Try.func5, Try.ntmps5
      go_wp2_with (go_at_call 7; (with_reducible refine HC.out.mono ?_))
      rintro e w1 ⟨rfl, hb1⟩
      go_wp2_with (go_at_call 6; (with_reducible refine (HAw.out _).mono ?_))
      rintro e w2 ⟨rfl, hb2⟩
      go_wp2_with fail
      go_ret
      exact ⟨rfl, below_two' hb1 hb2⟩
    · subst hc
      have g2 : decide (i < 0) = true := decide_eq_true h0
      go_enter Try.func5, Try.ntmps5
      go_wp2_with (go_at_call 7; (with_reducible refine HC.out.mono ?_))
      rintro e w1 ⟨rfl, hb1⟩
      go_wp2_with (go_at_call 6; (with_reducible refine (HAw.out _).mono ?_))
      rintro e w2 ⟨rfl, hb2⟩
      go_wp2_with fail
      go_ret
      exact ⟨rfl, below_two' hb1 hb2⟩
    · subst hc
      have g2 : decide (i < 0) = false := decide_eq_false h0
      have g3 : decide ((n : Int) ≤ i) = true := decide_eq_true h1
      go_enter Try.func5, Try.ntmps5
      go_wp2_with (go_at_call 7; (with_reducible refine HC.out.mono ?_))
      rintro e w1 ⟨rfl, hb1⟩
      go_wp2_with (go_at_call 6; (with_reducible refine (HAw.out _).mono ?_))
      rintro e w2 ⟨rfl, hb2⟩
      go_wp2_with fail
      go_ret
      exact ⟨rfl, below_two' hb1 hb2⟩
end Go.Proofs.Ytlebgecajlifgaa
