/- EvalLawsNo, joined. -/
import Derived.Test.YtbkgkdfameojfaaMEvalRefAll
import Derived.Test.YtbkgkdfameojfaaMEvalLight
import Derived.Test.YtbkgkdfameojfaaMEvalAwake
import Derived.Test.YtbkgkdfameojfaaMEvalHoldsLaw
import Derived.Test.YtbkgkdfameojfaaMEvalAtWalk
namespace Go.Proofs.Ytbkgkdfameojfaa
open Go.RowKit Go.Sort TermSpec EvalSpec
set_option maxRecDepth 100000

set_option maxHeartbeats 4000000 in
theorem laws_no1 (A1 : Option Addr) (n1 c1 : Nat) (a : List Tm) (A2 : Option Addr) (n2 c2 : Nat) (b : List Tm) (p : EP) (e : Ev) (w : World) (hn1 : n1 = a.length) (hn2 : n2 = b.length) (ha : Tms w (.slice A1 n1 c1) a) (hb : Tms w (.slice A2 n2 c2) b) (he : EnvIn w p e)  (h1 : lightE e a = false) :
    Calls Try.prog 4 #[.slice A1 n1 c1, .slice A2 n2 c2, envV p e] w (RetB w true) := by
  have HLA := Lib.hid (fun w h h' => elight_any p e A1 n1 c1 a hn1 w h h')
  rw [h1] at HLA
  have HTA := Lib.hid ha
  have HTB := Lib.hid hb
  have HEN := Lib.hid he
  have HAW := Lib.hid (fun w => eawake_any w)
  obtain ⟨vA, vn, vc, iA, im, ic⟩ := p
  obtain ⟨vars, v0, v1, v2, v3, ins⟩ := e
  change Calls _ _ #[.slice A1 n1 c1, .slice A2 n2 c2, .agg #[.slice vA vn vc, .int .i64 v0, .int .i64 v1, .int .i64 v2, .int .i64 v3, .slice iA im ic]] _ _
  obtain ⟨w1, hw1⟩ : ∃ w1, w.alloc (.cells #[.slice vA vn vc, .int .i64 v0, .int .i64 v1, .int .i64 v2, .int .i64 v3, .slice iA im ic] 27) = w1 := ⟨_, rfl⟩
  have hbk := heap_alloc_new w (.cells #[.slice vA vn vc, .int .i64 v0, .int .i64 v1, .int .i64 v2, .int .i64 v3, .slice iA im ic] 27)
  have hbl := KitC.below_one w (.cells #[.slice vA vn vc, .int .i64 v0, .int .i64 v1, .int .i64 v2, .int .i64 v3, .slice iA im ic] 27)
  have HW1 := Lib.hid hw1
  rw [hw1] at hbk hbl
  have HB1 := Lib.hid hbl
  have HK1 := Lib.hid hbk
  obtain ⟨z0, z1, z2, z3, z4, z5⟩ := cells_6 hbk
  clear ha hb he hn1 hn2 hw1 hbk hbl h1
  go_enter Try.func4, Try.ntmps4
  go_wp2_with (go_at_call 5; (with_reducible refine (HLA.out _ (HTA.out.keep (KitC.below_one _ _)) (HEN.out.keep (KitC.below_one _ _))).mono ?_))
  rintro e2 w2 ⟨rfl, hb2⟩
  rw [HW1.out] at hb2
  have HB2 := Lib.hid (below_two' HB1.out hb2)
  have HK2 := Lib.hid (KitC.block_on HK1.out hb2)
  clear hb2 z0 z1 z2 z3 z4 z5
  obtain ⟨z0, z1, z2, z3, z4, z5⟩ := cells_6 HK2.out
  go_wp2_with (go_at_call 6; (with_reducible refine (HAW.out _).mono ?_))
  rintro e2 wz ⟨rfl, hbz⟩
  have HBZ := Lib.hid (below_two' HB2.out hbz)
  clear hbz z0 z1 z2 z3 z4 z5
  go_wp2_with fail
  go_ret
  exact ⟨rfl, HBZ.out⟩
set_option maxHeartbeats 4000000 in
theorem laws_no2 (A1 : Option Addr) (n1 c1 : Nat) (a : List Tm) (A2 : Option Addr) (n2 c2 : Nat) (b : List Tm) (p : EP) (e : Ev) (w : World) (hn1 : n1 = a.length) (hn2 : n2 = b.length) (ha : Tms w (.slice A1 n1 c1) a) (hb : Tms w (.slice A2 n2 c2) b) (he : EnvIn w p e) (h1 : lightE e a = true) (h2 : lightE e b = false) :
    Calls Try.prog 4 #[.slice A1 n1 c1, .slice A2 n2 c2, envV p e] w (RetB w true) := by
  obtain ⟨hl1, _, _, hsa0⟩ := light_parts h1
  have hsa := small_light hsa0
  have HLA := Lib.hid (fun w h h' => elight_any p e A1 n1 c1 a hn1 w h h')
  rw [h1] at HLA
  have HLB := Lib.hid (fun w h h' => elight_any p e A2 n2 c2 b hn2 w h h')
  rw [h2] at HLB
  have HTA := Lib.hid ha
  have HTB := Lib.hid hb
  have HEN := Lib.hid he
  have HAW := Lib.hid (fun w => eawake_any w)
  obtain ⟨vA, vn, vc, iA, im, ic⟩ := p
  obtain ⟨vars, v0, v1, v2, v3, ins⟩ := e
  change Calls _ _ #[.slice A1 n1 c1, .slice A2 n2 c2, .agg #[.slice vA vn vc, .int .i64 v0, .int .i64 v1, .int .i64 v2, .int .i64 v3, .slice iA im ic]] _ _
  obtain ⟨w1, hw1⟩ : ∃ w1, w.alloc (.cells #[.slice vA vn vc, .int .i64 v0, .int .i64 v1, .int .i64 v2, .int .i64 v3, .slice iA im ic] 27) = w1 := ⟨_, rfl⟩
  have hbk := heap_alloc_new w (.cells #[.slice vA vn vc, .int .i64 v0, .int .i64 v1, .int .i64 v2, .int .i64 v3, .slice iA im ic] 27)
  have hbl := KitC.below_one w (.cells #[.slice vA vn vc, .int .i64 v0, .int .i64 v1, .int .i64 v2, .int .i64 v3, .slice iA im ic] 27)
  have HW1 := Lib.hid hw1
  rw [hw1] at hbk hbl
  have HB1 := Lib.hid hbl
  have HK1 := Lib.hid hbk
  obtain ⟨z0, z1, z2, z3, z4, z5⟩ := cells_6 hbk
  clear ha hb he hn1 hn2 hw1 hbk hbl h1 hl1 hsa0 hsa h2
  go_enter Try.func4, Try.ntmps4
  go_wp2_with (go_at_call 5; (with_reducible refine (HLA.out _ (HTA.out.keep (KitC.below_one _ _)) (HEN.out.keep (KitC.below_one _ _))).mono ?_))
  rintro e2 w2 ⟨rfl, hb2⟩
  rw [HW1.out] at hb2
  have HB2 := Lib.hid (below_two' HB1.out hb2)
  have HK2 := Lib.hid (KitC.block_on HK1.out hb2)
  clear hb2 z0 z1 z2 z3 z4 z5
  obtain ⟨z0, z1, z2, z3, z4, z5⟩ := cells_6 HK2.out
  go_wp2_with (go_at_call 5; (with_reducible refine (HLB.out _ (HTB.out.keep HB2.out) (HEN.out.keep HB2.out)).mono ?_))
  rintro e2 w3 ⟨rfl, hb3⟩
  have HB3 := Lib.hid (below_two' HB2.out hb3)
  have HK3 := Lib.hid (KitC.block_on HK2.out hb3)
  clear hb3 z0 z1 z2 z3 z4 z5
  obtain ⟨z0, z1, z2, z3, z4, z5⟩ := cells_6 HK3.out
  go_wp2_with (go_at_call 6; (with_reducible refine (HAW.out _).mono ?_))
  rintro e2 wz ⟨rfl, hbz⟩
  have HBZ := Lib.hid (below_two' HB3.out hbz)
  clear hbz z0 z1 z2 z3 z4 z5
  go_wp2_with fail
  go_ret
  exact ⟨rfl, HBZ.out⟩
set_option maxHeartbeats 4000000 in
theorem laws_no3 (A1 : Option Addr) (n1 c1 : Nat) (a : List Tm) (A2 : Option Addr) (n2 c2 : Nat) (b : List Tm) (p : EP) (e : Ev) (w : World) (hn1 : n1 = a.length) (hn2 : n2 = b.length) (ha : Tms w (.slice A1 n1 c1) a) (hb : Tms w (.slice A2 n2 c2) b) (he : EnvIn w p e) (h1 : lightE e a = true) (h2 : lightE e b = true) (h3 : chkE e a ≠ 0) :
    Calls Try.prog 4 #[.slice A1 n1 c1, .slice A2 n2 c2, envV p e] w (RetB w true) := by
  obtain ⟨hl1, _, _, hsa0⟩ := light_parts h1
  have hsa := small_light hsa0
  obtain ⟨hl2, _, _, hsb0⟩ := light_parts h2
  have hsb := small_light hsb0
  have HLA := Lib.hid (fun w h h' => elight_any p e A1 n1 c1 a hn1 w h h')
  rw [h1] at HLA
  have HLB := Lib.hid (fun w h h' => elight_any p e A2 n2 c2 b hn2 w h h')
  rw [h2] at HLB
  have HCA := Lib.hid (fun w h h' => rechk_any p e A1 n1 c1 a hn1 (by omega) hsa w h h')
  obtain ⟨q, hq⟩ : ∃ q, q = chkE e a := ⟨_, rfl⟩
  rw [← hq] at HCA h3
  have g : (q != 0) = true := by simp [h3]
  clear hq
  have HTA := Lib.hid ha
  have HTB := Lib.hid hb
  have HEN := Lib.hid he
  have HAW := Lib.hid (fun w => eawake_any w)
  obtain ⟨vA, vn, vc, iA, im, ic⟩ := p
  obtain ⟨vars, v0, v1, v2, v3, ins⟩ := e
  change Calls _ _ #[.slice A1 n1 c1, .slice A2 n2 c2, .agg #[.slice vA vn vc, .int .i64 v0, .int .i64 v1, .int .i64 v2, .int .i64 v3, .slice iA im ic]] _ _
  obtain ⟨w1, hw1⟩ : ∃ w1, w.alloc (.cells #[.slice vA vn vc, .int .i64 v0, .int .i64 v1, .int .i64 v2, .int .i64 v3, .slice iA im ic] 27) = w1 := ⟨_, rfl⟩
  have hbk := heap_alloc_new w (.cells #[.slice vA vn vc, .int .i64 v0, .int .i64 v1, .int .i64 v2, .int .i64 v3, .slice iA im ic] 27)
  have hbl := KitC.below_one w (.cells #[.slice vA vn vc, .int .i64 v0, .int .i64 v1, .int .i64 v2, .int .i64 v3, .slice iA im ic] 27)
  have HW1 := Lib.hid hw1
  rw [hw1] at hbk hbl
  have HB1 := Lib.hid hbl
  have HK1 := Lib.hid hbk
  obtain ⟨z0, z1, z2, z3, z4, z5⟩ := cells_6 hbk
  clear ha hb he hn1 hn2 hw1 hbk hbl h1 h2 hl1 hl2 hsa0 hsb0 hsa hsb h3
  go_enter Try.func4, Try.ntmps4
  go_wp2_with (go_at_call 5; (with_reducible refine (HLA.out _ (HTA.out.keep (KitC.below_one _ _)) (HEN.out.keep (KitC.below_one _ _))).mono ?_))
  rintro e2 w2 ⟨rfl, hb2⟩
  rw [HW1.out] at hb2
  have HB2 := Lib.hid (below_two' HB1.out hb2)
  have HK2 := Lib.hid (KitC.block_on HK1.out hb2)
  clear hb2 z0 z1 z2 z3 z4 z5
  obtain ⟨z0, z1, z2, z3, z4, z5⟩ := cells_6 HK2.out
  go_wp2_with (go_at_call 5; (with_reducible refine (HLB.out _ (HTB.out.keep HB2.out) (HEN.out.keep HB2.out)).mono ?_))
  rintro e2 w3 ⟨rfl, hb3⟩
  have HB3 := Lib.hid (below_two' HB2.out hb3)
  have HK3 := Lib.hid (KitC.block_on HK2.out hb3)
  clear hb3 z0 z1 z2 z3 z4 z5
  obtain ⟨z0, z1, z2, z3, z4, z5⟩ := cells_6 HK3.out
  go_wp2_with (go_at_call 8; (with_reducible refine (HCA.out _ (HTA.out.keep HB3.out) (HEN.out.keep HB3.out)).mono ?_))
  rintro e2 w4 ⟨rfl, hb4⟩
  have HB4 := Lib.hid (below_two' HB3.out hb4)
  have HK4 := Lib.hid (KitC.block_on HK3.out hb4)
  clear hb4 z0 z1 z2 z3 z4 z5
  obtain ⟨z0, z1, z2, z3, z4, z5⟩ := cells_6 HK4.out
  go_wp2_with (go_at_call 6; (with_reducible refine (HAW.out _).mono ?_))
  rintro e2 wz ⟨rfl, hbz⟩
  have HBZ := Lib.hid (below_two' HB4.out hbz)
  clear hbz z0 z1 z2 z3 z4 z5
  go_wp2_with fail
  go_ret
  exact ⟨rfl, HBZ.out⟩
set_option maxHeartbeats 4000000 in
theorem laws_no4 (A1 : Option Addr) (n1 c1 : Nat) (a : List Tm) (A2 : Option Addr) (n2 c2 : Nat) (b : List Tm) (p : EP) (e : Ev) (w : World) (hn1 : n1 = a.length) (hn2 : n2 = b.length) (ha : Tms w (.slice A1 n1 c1) a) (hb : Tms w (.slice A2 n2 c2) b) (he : EnvIn w p e) (h1 : lightE e a = true) (h2 : lightE e b = true) (h3 : chkE e a = 0) (h4 : chkE e b ≠ 0) :
    Calls Try.prog 4 #[.slice A1 n1 c1, .slice A2 n2 c2, envV p e] w (RetB w true) := by
  obtain ⟨hl1, _, _, hsa0⟩ := light_parts h1
  have hsa := small_light hsa0
  obtain ⟨hl2, _, _, hsb0⟩ := light_parts h2
  have hsb := small_light hsb0
  have HLA := Lib.hid (fun w h h' => elight_any p e A1 n1 c1 a hn1 w h h')
  rw [h1] at HLA
  have HLB := Lib.hid (fun w h h' => elight_any p e A2 n2 c2 b hn2 w h h')
  rw [h2] at HLB
  have HCA := Lib.hid (fun w h h' => rechk_any p e A1 n1 c1 a hn1 (by omega) hsa w h h')
  rw [h3] at HCA
  have HCB := Lib.hid (fun w h h' => rechk_any p e A2 n2 c2 b hn2 (by omega) hsb w h h')
  obtain ⟨q, hq⟩ : ∃ q, q = chkE e b := ⟨_, rfl⟩
  rw [← hq] at HCB h4
  have g : (q != 0) = true := by simp [h4]
  clear hq
  have HTA := Lib.hid ha
  have HTB := Lib.hid hb
  have HEN := Lib.hid he
  have HAW := Lib.hid (fun w => eawake_any w)
  obtain ⟨vA, vn, vc, iA, im, ic⟩ := p
  obtain ⟨vars, v0, v1, v2, v3, ins⟩ := e
  change Calls _ _ #[.slice A1 n1 c1, .slice A2 n2 c2, .agg #[.slice vA vn vc, .int .i64 v0, .int .i64 v1, .int .i64 v2, .int .i64 v3, .slice iA im ic]] _ _
  obtain ⟨w1, hw1⟩ : ∃ w1, w.alloc (.cells #[.slice vA vn vc, .int .i64 v0, .int .i64 v1, .int .i64 v2, .int .i64 v3, .slice iA im ic] 27) = w1 := ⟨_, rfl⟩
  have hbk := heap_alloc_new w (.cells #[.slice vA vn vc, .int .i64 v0, .int .i64 v1, .int .i64 v2, .int .i64 v3, .slice iA im ic] 27)
  have hbl := KitC.below_one w (.cells #[.slice vA vn vc, .int .i64 v0, .int .i64 v1, .int .i64 v2, .int .i64 v3, .slice iA im ic] 27)
  have HW1 := Lib.hid hw1
  rw [hw1] at hbk hbl
  have HB1 := Lib.hid hbl
  have HK1 := Lib.hid hbk
  obtain ⟨z0, z1, z2, z3, z4, z5⟩ := cells_6 hbk
  clear ha hb he hn1 hn2 hw1 hbk hbl h1 h2 hl1 hl2 hsa0 hsb0 hsa hsb h3 h4
  go_enter Try.func4, Try.ntmps4
  go_wp2_with (go_at_call 5; (with_reducible refine (HLA.out _ (HTA.out.keep (KitC.below_one _ _)) (HEN.out.keep (KitC.below_one _ _))).mono ?_))
  rintro e2 w2 ⟨rfl, hb2⟩
  rw [HW1.out] at hb2
  have HB2 := Lib.hid (below_two' HB1.out hb2)
  have HK2 := Lib.hid (KitC.block_on HK1.out hb2)
  clear hb2 z0 z1 z2 z3 z4 z5
  obtain ⟨z0, z1, z2, z3, z4, z5⟩ := cells_6 HK2.out
  go_wp2_with (go_at_call 5; (with_reducible refine (HLB.out _ (HTB.out.keep HB2.out) (HEN.out.keep HB2.out)).mono ?_))
  rintro e2 w3 ⟨rfl, hb3⟩
  have HB3 := Lib.hid (below_two' HB2.out hb3)
  have HK3 := Lib.hid (KitC.block_on HK2.out hb3)
  clear hb3 z0 z1 z2 z3 z4 z5
  obtain ⟨z0, z1, z2, z3, z4, z5⟩ := cells_6 HK3.out
  go_wp2_with (go_at_call 8; (with_reducible refine (HCA.out _ (HTA.out.keep HB3.out) (HEN.out.keep HB3.out)).mono ?_))
  rintro e2 w4 ⟨rfl, hb4⟩
  have HB4 := Lib.hid (below_two' HB3.out hb4)
  have HK4 := Lib.hid (KitC.block_on HK3.out hb4)
  clear hb4 z0 z1 z2 z3 z4 z5
  obtain ⟨z0, z1, z2, z3, z4, z5⟩ := cells_6 HK4.out
  go_wp2_with (go_at_call 8; (with_reducible refine (HCB.out _ (HTB.out.keep HB4.out) (HEN.out.keep HB4.out)).mono ?_))
  rintro e2 w5 ⟨rfl, hb5⟩
  have HB5 := Lib.hid (below_two' HB4.out hb5)
  have HK5 := Lib.hid (KitC.block_on HK4.out hb5)
  clear hb5 z0 z1 z2 z3 z4 z5
  obtain ⟨z0, z1, z2, z3, z4, z5⟩ := cells_6 HK5.out
  go_wp2_with (go_at_call 6; (with_reducible refine (HAW.out _).mono ?_))
  rintro e2 wz ⟨rfl, hbz⟩
  have HBZ := Lib.hid (below_two' HB5.out hbz)
  clear hbz z0 z1 z2 z3 z4 z5
  go_wp2_with fail
  go_ret
  exact ⟨rfl, HBZ.out⟩
set_option maxHeartbeats 4000000 in
theorem laws_no5 (A1 : Option Addr) (n1 c1 : Nat) (a : List Tm) (A2 : Option Addr) (n2 c2 : Nat) (b : List Tm) (p : EP) (e : Ev) (w : World) (hn1 : n1 = a.length) (hn2 : n2 = b.length) (ha : Tms w (.slice A1 n1 c1) a) (hb : Tms w (.slice A2 n2 c2) b) (he : EnvIn w p e) (h1 : lightE e a = true) (h2 : lightE e b = true) (h3 : chkE e a = 0) (h4 : chkE e b = 0) (h5 : 36 < n1 + n2) :
    Calls Try.prog 4 #[.slice A1 n1 c1, .slice A2 n2 c2, envV p e] w (RetB w true) := by
  obtain ⟨hl1, _, _, hsa0⟩ := light_parts h1
  have hsa := small_light hsa0
  obtain ⟨hl2, _, _, hsb0⟩ := light_parts h2
  have hsb := small_light hsb0
  have HLA := Lib.hid (fun w h h' => elight_any p e A1 n1 c1 a hn1 w h h')
  rw [h1] at HLA
  have HLB := Lib.hid (fun w h h' => elight_any p e A2 n2 c2 b hn2 w h h')
  rw [h2] at HLB
  have HCA := Lib.hid (fun w h h' => rechk_any p e A1 n1 c1 a hn1 (by omega) hsa w h h')
  rw [h3] at HCA
  have HCB := Lib.hid (fun w h h' => rechk_any p e A2 n2 c2 b hn2 (by omega) hsb w h h')
  rw [h4] at HCB
  have b1 : n1 ≤ 60 := by omega
  have b2 : n2 ≤ 60 := by omega
  have g5 : decide (36 < (n1 : Int) + (n2 : Int)) = true := by simp; omega
  have HTA := Lib.hid ha
  have HTB := Lib.hid hb
  have HEN := Lib.hid he
  have HAW := Lib.hid (fun w => eawake_any w)
  obtain ⟨vA, vn, vc, iA, im, ic⟩ := p
  obtain ⟨vars, v0, v1, v2, v3, ins⟩ := e
  change Calls _ _ #[.slice A1 n1 c1, .slice A2 n2 c2, .agg #[.slice vA vn vc, .int .i64 v0, .int .i64 v1, .int .i64 v2, .int .i64 v3, .slice iA im ic]] _ _
  obtain ⟨w1, hw1⟩ : ∃ w1, w.alloc (.cells #[.slice vA vn vc, .int .i64 v0, .int .i64 v1, .int .i64 v2, .int .i64 v3, .slice iA im ic] 27) = w1 := ⟨_, rfl⟩
  have hbk := heap_alloc_new w (.cells #[.slice vA vn vc, .int .i64 v0, .int .i64 v1, .int .i64 v2, .int .i64 v3, .slice iA im ic] 27)
  have hbl := KitC.below_one w (.cells #[.slice vA vn vc, .int .i64 v0, .int .i64 v1, .int .i64 v2, .int .i64 v3, .slice iA im ic] 27)
  have HW1 := Lib.hid hw1
  rw [hw1] at hbk hbl
  have HB1 := Lib.hid hbl
  have HK1 := Lib.hid hbk
  obtain ⟨z0, z1, z2, z3, z4, z5⟩ := cells_6 hbk
  clear ha hb he hn1 hn2 hw1 hbk hbl h1 h2 hl1 hl2 hsa0 hsb0 hsa hsb h3 h4 h5
  go_enter Try.func4, Try.ntmps4
  go_wp2_with (go_at_call 5; (with_reducible refine (HLA.out _ (HTA.out.keep (KitC.below_one _ _)) (HEN.out.keep (KitC.below_one _ _))).mono ?_))
  rintro e2 w2 ⟨rfl, hb2⟩
  rw [HW1.out] at hb2
  have HB2 := Lib.hid (below_two' HB1.out hb2)
  have HK2 := Lib.hid (KitC.block_on HK1.out hb2)
  clear hb2 z0 z1 z2 z3 z4 z5
  obtain ⟨z0, z1, z2, z3, z4, z5⟩ := cells_6 HK2.out
  go_wp2_with (go_at_call 5; (with_reducible refine (HLB.out _ (HTB.out.keep HB2.out) (HEN.out.keep HB2.out)).mono ?_))
  rintro e2 w3 ⟨rfl, hb3⟩
  have HB3 := Lib.hid (below_two' HB2.out hb3)
  have HK3 := Lib.hid (KitC.block_on HK2.out hb3)
  clear hb3 z0 z1 z2 z3 z4 z5
  obtain ⟨z0, z1, z2, z3, z4, z5⟩ := cells_6 HK3.out
  go_wp2_with (go_at_call 8; (with_reducible refine (HCA.out _ (HTA.out.keep HB3.out) (HEN.out.keep HB3.out)).mono ?_))
  rintro e2 w4 ⟨rfl, hb4⟩
  have HB4 := Lib.hid (below_two' HB3.out hb4)
  have HK4 := Lib.hid (KitC.block_on HK3.out hb4)
  clear hb4 z0 z1 z2 z3 z4 z5
  obtain ⟨z0, z1, z2, z3, z4, z5⟩ := cells_6 HK4.out
  go_wp2_with (go_at_call 8; (with_reducible refine (HCB.out _ (HTB.out.keep HB4.out) (HEN.out.keep HB4.out)).mono ?_))
  rintro e2 w5 ⟨rfl, hb5⟩
  have HB5 := Lib.hid (below_two' HB4.out hb5)
  have HK5 := Lib.hid (KitC.block_on HK4.out hb5)
  clear hb5 z0 z1 z2 z3 z4 z5
  obtain ⟨z0, z1, z2, z3, z4, z5⟩ := cells_6 HK5.out
  go_wp2_with (go_at_call 6; (with_reducible refine (HAW.out _).mono ?_))
  rintro e2 wz ⟨rfl, hbz⟩
  have HBZ := Lib.hid (below_two' HB5.out hbz)
  clear hbz z0 z1 z2 z3 z4 z5
  go_wp2_with fail
  go_ret
  exact ⟨rfl, HBZ.out⟩
set_option maxHeartbeats 4000000 in
theorem laws_no6 (A1 : Option Addr) (n1 c1 : Nat) (a : List Tm) (A2 : Option Addr) (n2 c2 : Nat) (b : List Tm) (p : EP) (e : Ev) (w : World) (hn1 : n1 = a.length) (hn2 : n2 = b.length) (ha : Tms w (.slice A1 n1 c1) a) (hb : Tms w (.slice A2 n2 c2) b) (he : EnvIn w p e) (h1 : lightE e a = true) (h2 : lightE e b = true) (h3 : chkE e a = 0) (h4 : chkE e b = 0) (h5 : n1 + n2 ≤ 36) (h6 : 9 < depth a) :
    Calls Try.prog 4 #[.slice A1 n1 c1, .slice A2 n2 c2, envV p e] w (RetB w true) := by
  obtain ⟨hl1, _, _, hsa0⟩ := light_parts h1
  have hsa := small_light hsa0
  obtain ⟨hl2, _, _, hsb0⟩ := light_parts h2
  have hsb := small_light hsb0
  have HLA := Lib.hid (fun w h h' => elight_any p e A1 n1 c1 a hn1 w h h')
  rw [h1] at HLA
  have HLB := Lib.hid (fun w h h' => elight_any p e A2 n2 c2 b hn2 w h h')
  rw [h2] at HLB
  have HCA := Lib.hid (fun w h h' => rechk_any p e A1 n1 c1 a hn1 (by omega) hsa w h h')
  rw [h3] at HCA
  have HCB := Lib.hid (fun w h h' => rechk_any p e A2 n2 c2 b hn2 (by omega) hsb w h h')
  rw [h4] at HCB
  have b1 : n1 ≤ 60 := by omega
  have b2 : n2 ≤ 60 := by omega
  have g5 : decide (36 < (n1 : Int) + (n2 : Int)) = false := by simp; omega
  have HDA := Lib.hid (fun w h => rdep_zero A1 n1 c1 a hn1 (by omega) w h (chk_ok (chkE_ok h3).2.1).1)
  obtain ⟨da, hda⟩ : ∃ d, d = depth a := ⟨_, rfl⟩
  rw [← hda] at HDA h6
  have g6 : decide (9 < da) = true := by simp; omega
  have HTA := Lib.hid ha
  have HTB := Lib.hid hb
  have HEN := Lib.hid he
  have HAW := Lib.hid (fun w => eawake_any w)
  obtain ⟨vA, vn, vc, iA, im, ic⟩ := p
  obtain ⟨vars, v0, v1, v2, v3, ins⟩ := e
  change Calls _ _ #[.slice A1 n1 c1, .slice A2 n2 c2, .agg #[.slice vA vn vc, .int .i64 v0, .int .i64 v1, .int .i64 v2, .int .i64 v3, .slice iA im ic]] _ _
  obtain ⟨w1, hw1⟩ : ∃ w1, w.alloc (.cells #[.slice vA vn vc, .int .i64 v0, .int .i64 v1, .int .i64 v2, .int .i64 v3, .slice iA im ic] 27) = w1 := ⟨_, rfl⟩
  have hbk := heap_alloc_new w (.cells #[.slice vA vn vc, .int .i64 v0, .int .i64 v1, .int .i64 v2, .int .i64 v3, .slice iA im ic] 27)
  have hbl := KitC.below_one w (.cells #[.slice vA vn vc, .int .i64 v0, .int .i64 v1, .int .i64 v2, .int .i64 v3, .slice iA im ic] 27)
  have HW1 := Lib.hid hw1
  rw [hw1] at hbk hbl
  have HB1 := Lib.hid hbl
  have HK1 := Lib.hid hbk
  obtain ⟨z0, z1, z2, z3, z4, z5⟩ := cells_6 hbk
  clear ha hb he hn1 hn2 hw1 hbk hbl h1 h2 hl1 hl2 hsa0 hsb0 hsa hsb h3 h4 h5 h6 hda
  go_enter Try.func4, Try.ntmps4
  go_wp2_with (go_at_call 5; (with_reducible refine (HLA.out _ (HTA.out.keep (KitC.below_one _ _)) (HEN.out.keep (KitC.below_one _ _))).mono ?_))
  rintro e2 w2 ⟨rfl, hb2⟩
  rw [HW1.out] at hb2
  have HB2 := Lib.hid (below_two' HB1.out hb2)
  have HK2 := Lib.hid (KitC.block_on HK1.out hb2)
  clear hb2 z0 z1 z2 z3 z4 z5
  obtain ⟨z0, z1, z2, z3, z4, z5⟩ := cells_6 HK2.out
  go_wp2_with (go_at_call 5; (with_reducible refine (HLB.out _ (HTB.out.keep HB2.out) (HEN.out.keep HB2.out)).mono ?_))
  rintro e2 w3 ⟨rfl, hb3⟩
  have HB3 := Lib.hid (below_two' HB2.out hb3)
  have HK3 := Lib.hid (KitC.block_on HK2.out hb3)
  clear hb3 z0 z1 z2 z3 z4 z5
  obtain ⟨z0, z1, z2, z3, z4, z5⟩ := cells_6 HK3.out
  go_wp2_with (go_at_call 8; (with_reducible refine (HCA.out _ (HTA.out.keep HB3.out) (HEN.out.keep HB3.out)).mono ?_))
  rintro e2 w4 ⟨rfl, hb4⟩
  have HB4 := Lib.hid (below_two' HB3.out hb4)
  have HK4 := Lib.hid (KitC.block_on HK3.out hb4)
  clear hb4 z0 z1 z2 z3 z4 z5
  obtain ⟨z0, z1, z2, z3, z4, z5⟩ := cells_6 HK4.out
  go_wp2_with (go_at_call 8; (with_reducible refine (HCB.out _ (HTB.out.keep HB4.out) (HEN.out.keep HB4.out)).mono ?_))
  rintro e2 w5 ⟨rfl, hb5⟩
  have HB5 := Lib.hid (below_two' HB4.out hb5)
  have HK5 := Lib.hid (KitC.block_on HK4.out hb5)
  clear hb5 z0 z1 z2 z3 z4 z5
  obtain ⟨z0, z1, z2, z3, z4, z5⟩ := cells_6 HK5.out
  go_wp2_with (go_at_call 14; (with_reducible refine (HDA.out _ (HTA.out.keep HB5.out)).mono ?_))
  rintro e2 w6 ⟨rfl, hb6⟩
  have HB6 := Lib.hid (below_two' HB5.out hb6)
  have HK6 := Lib.hid (KitC.block_on HK5.out hb6)
  clear hb6 z0 z1 z2 z3 z4 z5
  obtain ⟨z0, z1, z2, z3, z4, z5⟩ := cells_6 HK6.out
  go_wp2_with (go_at_call 6; (with_reducible refine (HAW.out _).mono ?_))
  rintro e2 wz ⟨rfl, hbz⟩
  have HBZ := Lib.hid (below_two' HB6.out hbz)
  clear hbz z0 z1 z2 z3 z4 z5
  go_wp2_with fail
  go_ret
  exact ⟨rfl, HBZ.out⟩
set_option maxHeartbeats 4000000 in
theorem laws_no7 (A1 : Option Addr) (n1 c1 : Nat) (a : List Tm) (A2 : Option Addr) (n2 c2 : Nat) (b : List Tm) (p : EP) (e : Ev) (w : World) (hn1 : n1 = a.length) (hn2 : n2 = b.length) (ha : Tms w (.slice A1 n1 c1) a) (hb : Tms w (.slice A2 n2 c2) b) (he : EnvIn w p e) (h1 : lightE e a = true) (h2 : lightE e b = true) (h3 : chkE e a = 0) (h4 : chkE e b = 0) (h5 : n1 + n2 ≤ 36) (h6 : depth a ≤ 9) (h7 : 9 < depth b) :
    Calls Try.prog 4 #[.slice A1 n1 c1, .slice A2 n2 c2, envV p e] w (RetB w true) := by
  obtain ⟨hl1, _, _, hsa0⟩ := light_parts h1
  have hsa := small_light hsa0
  obtain ⟨hl2, _, _, hsb0⟩ := light_parts h2
  have hsb := small_light hsb0
  have HLA := Lib.hid (fun w h h' => elight_any p e A1 n1 c1 a hn1 w h h')
  rw [h1] at HLA
  have HLB := Lib.hid (fun w h h' => elight_any p e A2 n2 c2 b hn2 w h h')
  rw [h2] at HLB
  have HCA := Lib.hid (fun w h h' => rechk_any p e A1 n1 c1 a hn1 (by omega) hsa w h h')
  rw [h3] at HCA
  have HCB := Lib.hid (fun w h h' => rechk_any p e A2 n2 c2 b hn2 (by omega) hsb w h h')
  rw [h4] at HCB
  have b1 : n1 ≤ 60 := by omega
  have b2 : n2 ≤ 60 := by omega
  have g5 : decide (36 < (n1 : Int) + (n2 : Int)) = false := by simp; omega
  have HDA := Lib.hid (fun w h => rdep_zero A1 n1 c1 a hn1 (by omega) w h (chk_ok (chkE_ok h3).2.1).1)
  obtain ⟨da, hda⟩ : ∃ d, d = depth a := ⟨_, rfl⟩
  rw [← hda] at HDA h6
  have g6 : decide (9 < da) = false := by simp; omega
  have HDB := Lib.hid (fun w h => rdep_zero A2 n2 c2 b hn2 (by omega) w h (chk_ok (chkE_ok h4).2.1).1)
  obtain ⟨db, hdb⟩ : ∃ d, d = depth b := ⟨_, rfl⟩
  rw [← hdb] at HDB h7
  have g7 : decide (9 < db) = true := by simp; omega
  have HTA := Lib.hid ha
  have HTB := Lib.hid hb
  have HEN := Lib.hid he
  have HAW := Lib.hid (fun w => eawake_any w)
  obtain ⟨vA, vn, vc, iA, im, ic⟩ := p
  obtain ⟨vars, v0, v1, v2, v3, ins⟩ := e
  change Calls _ _ #[.slice A1 n1 c1, .slice A2 n2 c2, .agg #[.slice vA vn vc, .int .i64 v0, .int .i64 v1, .int .i64 v2, .int .i64 v3, .slice iA im ic]] _ _
  obtain ⟨w1, hw1⟩ : ∃ w1, w.alloc (.cells #[.slice vA vn vc, .int .i64 v0, .int .i64 v1, .int .i64 v2, .int .i64 v3, .slice iA im ic] 27) = w1 := ⟨_, rfl⟩
  have hbk := heap_alloc_new w (.cells #[.slice vA vn vc, .int .i64 v0, .int .i64 v1, .int .i64 v2, .int .i64 v3, .slice iA im ic] 27)
  have hbl := KitC.below_one w (.cells #[.slice vA vn vc, .int .i64 v0, .int .i64 v1, .int .i64 v2, .int .i64 v3, .slice iA im ic] 27)
  have HW1 := Lib.hid hw1
  rw [hw1] at hbk hbl
  have HB1 := Lib.hid hbl
  have HK1 := Lib.hid hbk
  obtain ⟨z0, z1, z2, z3, z4, z5⟩ := cells_6 hbk
  clear ha hb he hn1 hn2 hw1 hbk hbl h1 h2 hl1 hl2 hsa0 hsb0 hsa hsb h3 h4 h5 h6 h7 hda hdb
  go_enter Try.func4, Try.ntmps4
  go_wp2_with (go_at_call 5; (with_reducible refine (HLA.out _ (HTA.out.keep (KitC.below_one _ _)) (HEN.out.keep (KitC.below_one _ _))).mono ?_))
  rintro e2 w2 ⟨rfl, hb2⟩
  rw [HW1.out] at hb2
  have HB2 := Lib.hid (below_two' HB1.out hb2)
  have HK2 := Lib.hid (KitC.block_on HK1.out hb2)
  clear hb2 z0 z1 z2 z3 z4 z5
  obtain ⟨z0, z1, z2, z3, z4, z5⟩ := cells_6 HK2.out
  go_wp2_with (go_at_call 5; (with_reducible refine (HLB.out _ (HTB.out.keep HB2.out) (HEN.out.keep HB2.out)).mono ?_))
  rintro e2 w3 ⟨rfl, hb3⟩
  have HB3 := Lib.hid (below_two' HB2.out hb3)
  have HK3 := Lib.hid (KitC.block_on HK2.out hb3)
  clear hb3 z0 z1 z2 z3 z4 z5
  obtain ⟨z0, z1, z2, z3, z4, z5⟩ := cells_6 HK3.out
  go_wp2_with (go_at_call 8; (with_reducible refine (HCA.out _ (HTA.out.keep HB3.out) (HEN.out.keep HB3.out)).mono ?_))
  rintro e2 w4 ⟨rfl, hb4⟩
  have HB4 := Lib.hid (below_two' HB3.out hb4)
  have HK4 := Lib.hid (KitC.block_on HK3.out hb4)
  clear hb4 z0 z1 z2 z3 z4 z5
  obtain ⟨z0, z1, z2, z3, z4, z5⟩ := cells_6 HK4.out
  go_wp2_with (go_at_call 8; (with_reducible refine (HCB.out _ (HTB.out.keep HB4.out) (HEN.out.keep HB4.out)).mono ?_))
  rintro e2 w5 ⟨rfl, hb5⟩
  have HB5 := Lib.hid (below_two' HB4.out hb5)
  have HK5 := Lib.hid (KitC.block_on HK4.out hb5)
  clear hb5 z0 z1 z2 z3 z4 z5
  obtain ⟨z0, z1, z2, z3, z4, z5⟩ := cells_6 HK5.out
  go_wp2_with (go_at_call 14; (with_reducible refine (HDA.out _ (HTA.out.keep HB5.out)).mono ?_))
  rintro e2 w6 ⟨rfl, hb6⟩
  have HB6 := Lib.hid (below_two' HB5.out hb6)
  have HK6 := Lib.hid (KitC.block_on HK5.out hb6)
  clear hb6 z0 z1 z2 z3 z4 z5
  obtain ⟨z0, z1, z2, z3, z4, z5⟩ := cells_6 HK6.out
  go_wp2_with (go_at_call 14; (with_reducible refine (HDB.out _ (HTB.out.keep HB6.out)).mono ?_))
  rintro e2 w7 ⟨rfl, hb7⟩
  have HB7 := Lib.hid (below_two' HB6.out hb7)
  have HK7 := Lib.hid (KitC.block_on HK6.out hb7)
  clear hb7 z0 z1 z2 z3 z4 z5
  obtain ⟨z0, z1, z2, z3, z4, z5⟩ := cells_6 HK7.out
  go_wp2_with (go_at_call 6; (with_reducible refine (HAW.out _).mono ?_))
  rintro e2 wz ⟨rfl, hbz⟩
  have HBZ := Lib.hid (below_two' HB7.out hbz)
  clear hbz z0 z1 z2 z3 z4 z5
  go_wp2_with fail
  go_ret
  exact ⟨rfl, HBZ.out⟩
set_option maxHeartbeats 4000000 in
theorem laws_no8 (A1 : Option Addr) (n1 c1 : Nat) (a : List Tm) (A2 : Option Addr) (n2 c2 : Nat) (b : List Tm) (p : EP) (e : Ev) (w : World) (hn1 : n1 = a.length) (hn2 : n2 = b.length) (ha : Tms w (.slice A1 n1 c1) a) (hb : Tms w (.slice A2 n2 c2) b) (he : EnvIn w p e) (h1 : lightE e a = true) (h2 : lightE e b = true) (h3 : chkE e a = 0) (h4 : chkE e b = 0) (h5 : n1 + n2 ≤ 36) (h6 : depth a ≤ 9) (h7 : depth b ≤ 9) (h8 : typ a ≠ typ b) :
    Calls Try.prog 4 #[.slice A1 n1 c1, .slice A2 n2 c2, envV p e] w (RetB w true) := by
  obtain ⟨hl1, _, _, hsa0⟩ := light_parts h1
  have hsa := small_light hsa0
  obtain ⟨hl2, _, _, hsb0⟩ := light_parts h2
  have hsb := small_light hsb0
  have HLA := Lib.hid (fun w h h' => elight_any p e A1 n1 c1 a hn1 w h h')
  rw [h1] at HLA
  have HLB := Lib.hid (fun w h h' => elight_any p e A2 n2 c2 b hn2 w h h')
  rw [h2] at HLB
  have HCA := Lib.hid (fun w h h' => rechk_any p e A1 n1 c1 a hn1 (by omega) hsa w h h')
  rw [h3] at HCA
  have HCB := Lib.hid (fun w h h' => rechk_any p e A2 n2 c2 b hn2 (by omega) hsb w h h')
  rw [h4] at HCB
  have b1 : n1 ≤ 60 := by omega
  have b2 : n2 ≤ 60 := by omega
  have g5 : decide (36 < (n1 : Int) + (n2 : Int)) = false := by simp; omega
  have HDA := Lib.hid (fun w h => rdep_zero A1 n1 c1 a hn1 (by omega) w h (chk_ok (chkE_ok h3).2.1).1)
  obtain ⟨da, hda⟩ : ∃ d, d = depth a := ⟨_, rfl⟩
  rw [← hda] at HDA h6
  have g6 : decide (9 < da) = false := by simp; omega
  have HDB := Lib.hid (fun w h => rdep_zero A2 n2 c2 b hn2 (by omega) w h (chk_ok (chkE_ok h4).2.1).1)
  obtain ⟨db, hdb⟩ : ∃ d, d = depth b := ⟨_, rfl⟩
  rw [← hdb] at HDB h7
  have g7 : decide (9 < db) = false := by simp; omega
  have HYA := Lib.hid (fun w h => rtyp_zero A1 n1 c1 a hn1 (by omega) w h (chk_ok (chkE_ok h3).2.1).1)
  have HYB := Lib.hid (fun w h => rtyp_zero A2 n2 c2 b hn2 (by omega) w h (chk_ok (chkE_ok h4).2.1).1)
  obtain ⟨ta, hta⟩ : ∃ d, d = typ a := ⟨_, rfl⟩
  obtain ⟨tb, htb⟩ : ∃ d, d = typ b := ⟨_, rfl⟩
  rw [← hta] at HYA h8
  rw [← htb] at HYB h8
  have g8 : (ta != tb) = true := by simp [h8]
  clear hta htb
  have HTA := Lib.hid ha
  have HTB := Lib.hid hb
  have HEN := Lib.hid he
  have HAW := Lib.hid (fun w => eawake_any w)
  obtain ⟨vA, vn, vc, iA, im, ic⟩ := p
  obtain ⟨vars, v0, v1, v2, v3, ins⟩ := e
  change Calls _ _ #[.slice A1 n1 c1, .slice A2 n2 c2, .agg #[.slice vA vn vc, .int .i64 v0, .int .i64 v1, .int .i64 v2, .int .i64 v3, .slice iA im ic]] _ _
  obtain ⟨w1, hw1⟩ : ∃ w1, w.alloc (.cells #[.slice vA vn vc, .int .i64 v0, .int .i64 v1, .int .i64 v2, .int .i64 v3, .slice iA im ic] 27) = w1 := ⟨_, rfl⟩
  have hbk := heap_alloc_new w (.cells #[.slice vA vn vc, .int .i64 v0, .int .i64 v1, .int .i64 v2, .int .i64 v3, .slice iA im ic] 27)
  have hbl := KitC.below_one w (.cells #[.slice vA vn vc, .int .i64 v0, .int .i64 v1, .int .i64 v2, .int .i64 v3, .slice iA im ic] 27)
  have HW1 := Lib.hid hw1
  rw [hw1] at hbk hbl
  have HB1 := Lib.hid hbl
  have HK1 := Lib.hid hbk
  obtain ⟨z0, z1, z2, z3, z4, z5⟩ := cells_6 hbk
  clear ha hb he hn1 hn2 hw1 hbk hbl h1 h2 hl1 hl2 hsa0 hsb0 hsa hsb h3 h4 h5 h6 h7 h8 hda hdb
  go_enter Try.func4, Try.ntmps4
  go_wp2_with (go_at_call 5; (with_reducible refine (HLA.out _ (HTA.out.keep (KitC.below_one _ _)) (HEN.out.keep (KitC.below_one _ _))).mono ?_))
  rintro e2 w2 ⟨rfl, hb2⟩
  rw [HW1.out] at hb2
  have HB2 := Lib.hid (below_two' HB1.out hb2)
  have HK2 := Lib.hid (KitC.block_on HK1.out hb2)
  clear hb2 z0 z1 z2 z3 z4 z5
  obtain ⟨z0, z1, z2, z3, z4, z5⟩ := cells_6 HK2.out
  go_wp2_with (go_at_call 5; (with_reducible refine (HLB.out _ (HTB.out.keep HB2.out) (HEN.out.keep HB2.out)).mono ?_))
  rintro e2 w3 ⟨rfl, hb3⟩
  have HB3 := Lib.hid (below_two' HB2.out hb3)
  have HK3 := Lib.hid (KitC.block_on HK2.out hb3)
  clear hb3 z0 z1 z2 z3 z4 z5
  obtain ⟨z0, z1, z2, z3, z4, z5⟩ := cells_6 HK3.out
  go_wp2_with (go_at_call 8; (with_reducible refine (HCA.out _ (HTA.out.keep HB3.out) (HEN.out.keep HB3.out)).mono ?_))
  rintro e2 w4 ⟨rfl, hb4⟩
  have HB4 := Lib.hid (below_two' HB3.out hb4)
  have HK4 := Lib.hid (KitC.block_on HK3.out hb4)
  clear hb4 z0 z1 z2 z3 z4 z5
  obtain ⟨z0, z1, z2, z3, z4, z5⟩ := cells_6 HK4.out
  go_wp2_with (go_at_call 8; (with_reducible refine (HCB.out _ (HTB.out.keep HB4.out) (HEN.out.keep HB4.out)).mono ?_))
  rintro e2 w5 ⟨rfl, hb5⟩
  have HB5 := Lib.hid (below_two' HB4.out hb5)
  have HK5 := Lib.hid (KitC.block_on HK4.out hb5)
  clear hb5 z0 z1 z2 z3 z4 z5
  obtain ⟨z0, z1, z2, z3, z4, z5⟩ := cells_6 HK5.out
  go_wp2_with (go_at_call 14; (with_reducible refine (HDA.out _ (HTA.out.keep HB5.out)).mono ?_))
  rintro e2 w6 ⟨rfl, hb6⟩
  have HB6 := Lib.hid (below_two' HB5.out hb6)
  have HK6 := Lib.hid (KitC.block_on HK5.out hb6)
  clear hb6 z0 z1 z2 z3 z4 z5
  obtain ⟨z0, z1, z2, z3, z4, z5⟩ := cells_6 HK6.out
  go_wp2_with (go_at_call 14; (with_reducible refine (HDB.out _ (HTB.out.keep HB6.out)).mono ?_))
  rintro e2 w7 ⟨rfl, hb7⟩
  have HB7 := Lib.hid (below_two' HB6.out hb7)
  have HK7 := Lib.hid (KitC.block_on HK6.out hb7)
  clear hb7 z0 z1 z2 z3 z4 z5
  obtain ⟨z0, z1, z2, z3, z4, z5⟩ := cells_6 HK7.out
  go_wp2_with (go_at_call 13; (with_reducible refine (HYA.out _ (HTA.out.keep HB7.out)).mono ?_))
  rintro e2 w8 ⟨rfl, hb8⟩
  have HB8 := Lib.hid (below_two' HB7.out hb8)
  have HK8 := Lib.hid (KitC.block_on HK7.out hb8)
  clear hb8 z0 z1 z2 z3 z4 z5
  obtain ⟨z0, z1, z2, z3, z4, z5⟩ := cells_6 HK8.out
  go_wp2_with (go_at_call 13; (with_reducible refine (HYB.out _ (HTB.out.keep HB8.out)).mono ?_))
  rintro e2 w9 ⟨rfl, hb9⟩
  have HB9 := Lib.hid (below_two' HB8.out hb9)
  have HK9 := Lib.hid (KitC.block_on HK8.out hb9)
  clear hb9 z0 z1 z2 z3 z4 z5
  obtain ⟨z0, z1, z2, z3, z4, z5⟩ := cells_6 HK9.out
  go_wp2_with (go_at_call 6; (with_reducible refine (HAW.out _).mono ?_))
  rintro e2 wz ⟨rfl, hbz⟩
  have HBZ := Lib.hid (below_two' HB9.out hbz)
  clear hbz z0 z1 z2 z3 z4 z5
  go_wp2_with fail
  go_ret
  exact ⟨rfl, HBZ.out⟩
end Go.Proofs.Ytbkgkdfameojfaa
