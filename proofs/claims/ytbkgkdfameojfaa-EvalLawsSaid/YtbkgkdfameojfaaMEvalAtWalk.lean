/- EvalAtWalk, joined. -/
import Derived.Test.YtbkgkdfameojfaaMEvalRefAll
import Derived.Test.YtbkgkdfameojfaaMEvalLight
import Derived.Test.YtbkgkdfameojfaaMEvalAwake
namespace Go.Proofs.Ytbkgkdfameojfaa
open Go.RowKit Go.Sort TermSpec EvalSpec
set_option maxRecDepth 100000

theorem small_light {l : List Tm} (h : ∀ t ∈ l, t.s.size ≤ 100) : Small l := fun t ht => by have := h t ht; omega
set_option maxHeartbeats 1000000 in
theorem evalAt_heavy (p : EP) (e : Ev) (A : Option Addr) (n c : Nat) (l : List Tm) (hn : n = l.length) (w : World) (h : Tms w (.slice A n c) l) (he : EnvIn w p e) (hl : lightE e l = false) :
    Calls Try.prog 3 #[.slice A n c, envV p e] w (RetB w true) := by
  have HLI := Lib.hid (fun w h h' => elight_any p e A n c l hn w h h')
  rw [hl] at HLI
  have HT := Lib.hid h
  have HEN := Lib.hid he
  have HAW := Lib.hid (fun w => eawake_any w)
  obtain ⟨vA, vn, vc, iA, im, ic⟩ := p
  obtain ⟨vars, v0, v1, v2, v3, ins⟩ := e
  change Calls _ _ #[.slice A n c, .agg #[.slice vA vn vc, .int .i64 v0, .int .i64 v1, .int .i64 v2, .int .i64 v3, .slice iA im ic]] _ _
  clear h he hl hn
  go_enter Try.func3, Try.ntmps3
  go_wp2_with (go_at_call 5; (with_reducible refine (HLI.out _ (HT.out.keep (KitC.below_one _ _)) (HEN.out.keep (KitC.below_one _ _))).mono ?_))
  rintro e2 w2 ⟨rfl, hb2⟩
  have HB2 := Lib.hid (below_two' (KitC.below_one _ _) hb2)
  clear hb2
  go_wp2_with (go_at_call 6; (with_reducible refine (HAW.out _).mono ?_))
  rintro e2 w3 ⟨rfl, hb3⟩
  have HB3 := Lib.hid (below_two' HB2.out hb3)
  clear hb3
  go_wp2_with fail
  go_ret
  exact ⟨rfl, HB3.out⟩
set_option maxHeartbeats 4000000 in
theorem evalAt_bad (p : EP) (e : Ev) (A : Option Addr) (n c : Nat) (l : List Tm) (hn : n = l.length) (w : World) (h : Tms w (.slice A n c) l) (he : EnvIn w p e) (hl : lightE e l = true) (hc : chkE e l ≠ 0) :
    Calls Try.prog 3 #[.slice A n c, envV p e] w (RetB w true) := by
  have HLI := Lib.hid (fun w h h' => elight_any p e A n c l hn w h h')
  rw [hl] at HLI
  obtain ⟨hl60, _, _, hsh⟩ := light_parts hl
  have hs := small_light hsh
  have hat : atE e l = 0 := by unfold atE; rw [if_neg hc]
  have HA := Lib.hid (fun w h h' => at_any p e A n c l hn (by omega) hs w h h')
  rw [hat] at HA
  have HRC := Lib.hid (fun w h h' => rechk_any p e A n c l hn (by omega) hs w h h')
  have HEC := Lib.hid (fun w h h' => echeck_any p e A n c l hn (by omega) hs w h h')
  have HHO := Lib.hid (fun w h h' => holds_any p e A n c l hn (by omega) hs w h h')
  have HRH := Lib.hid (fun w h h' => rholds_any p e A n c l hn (by omega) hs w h h')
  have HT := Lib.hid h
  have HEN := Lib.hid he
  have HAW := Lib.hid (fun w => eawake_any w)
  obtain ⟨vA, vn, vc, iA, im, ic⟩ := p
  obtain ⟨q, hq⟩ : ∃ q, q = chkE e l := ⟨_, rfl⟩
  rw [← hq] at HA HRC HEC hc
  obtain ⟨r, hr⟩ : ∃ r, r = holdsE e l := ⟨_, rfl⟩
  rw [← hr] at HHO HRH
  obtain ⟨vars, v0, v1, v2, v3, ins⟩ := e
  change Calls _ _ #[.slice A n c, .agg #[.slice vA vn vc, .int .i64 v0, .int .i64 v1, .int .i64 v2, .int .i64 v3, .slice iA im ic]] _ _
  have gq : (q != 0) = true := by simp [hc]
  have gqq : (q != q) = false := by simp
  have grr : (r != r) = false := by simp
  clear h he hl hn hc hat hs hsh hq hr hl60
  go_enter Try.func3, Try.ntmps3
  go_wp2_with (go_at_call 5; (with_reducible refine (HLI.out _ (HT.out.keep (KitC.below_one _ _)) (HEN.out.keep (KitC.below_one _ _))).mono ?_))
  rintro e2 w2 ⟨rfl, hb2⟩
  obtain ⟨B2, hbb, _⟩ := KitC.one_block hb2
  have HB2 := Lib.hid hbb
  have HK2 := Lib.hid B2
  obtain ⟨z0, z1, z2, z3, z4, z5⟩ := cells_6 B2
  clear hb2 hbb B2
  go_wp2_with (go_at_call 7; (with_reducible refine (HA.out _ (HT.out.keep HB2.out) (HEN.out.keep HB2.out)).mono ?_))
  rintro e2 w3 ⟨rfl, hb3⟩
  have HB3 := Lib.hid (below_two' HB2.out hb3)
  have HK3 := Lib.hid (KitC.block_on HK2.out hb3)
  clear hb3 z0 z1 z2 z3 z4 z5
  obtain ⟨z0, z1, z2, z3, z4, z5⟩ := cells_6 HK3.out
  go_wp2_with (go_at_call 8; (with_reducible refine (HRC.out _ (HT.out.keep HB3.out) (HEN.out.keep HB3.out)).mono ?_))
  rintro e2 w4 ⟨rfl, hb4⟩
  have HB4 := Lib.hid (below_two' HB3.out hb4)
  have HK4 := Lib.hid (KitC.block_on HK3.out hb4)
  clear hb4 z0 z1 z2 z3 z4 z5
  obtain ⟨z0, z1, z2, z3, z4, z5⟩ := cells_6 HK4.out
  have y0 := cell_regrown z0
  have y1 := cell_regrown z1
  have y2 := cell_regrown z2
  have y3 := cell_regrown z3
  have y4 := cell_regrown z4
  have y5 := cell_regrown z5
  have HW : Hid (∀ d os, Tms (grow (redrawn w4 d) os) (.slice A n c) l ∧ EnvIn (grow (redrawn w4 d) os) ⟨vA, vn, vc, iA, im, ic⟩ ⟨vars, v0, v1, v2, v3, ins⟩) := Lib.hid (fun d os => ⟨HT.out.keep (below_two' HB4.out (below_regrown w4 d os)), HEN.out.keep (below_two' HB4.out (below_regrown w4 d os))⟩)
  have HE1 : Hid (∀ d os, Calls Try.prog 9 #[.slice A n c, .agg #[.slice vA vn vc, .int .i64 v0, .int .i64 v1, .int .i64 v2, .int .i64 v3, .slice iA im ic]] (grow (redrawn w4 d) os) fun e w'' => e = .returned (.int .i64 q) ∧ ∃ p : Regrown, w'' = grow (redrawn w4 p.d) p.os) := Lib.hid (fun d os => Calls.regrown_of (HEC.out _ (HW.out d os).1 (HW.out d os).2))
  have HE2 : Hid (∀ d os, Calls Try.prog 10 #[.slice A n c, .agg #[.slice vA vn vc, .int .i64 v0, .int .i64 v1, .int .i64 v2, .int .i64 v3, .slice iA im ic]] (grow (redrawn w4 d) os) fun e w'' => e = .returned (.bool r) ∧ ∃ p : Regrown, w'' = grow (redrawn w4 p.d) p.os) := Lib.hid (fun d os => Calls.regrown_of (HHO.out _ (HW.out d os).1 (HW.out d os).2))
  have HE3 : Hid (∀ d os, Calls Try.prog 11 #[.slice A n c, .agg #[.slice vA vn vc, .int .i64 v0, .int .i64 v1, .int .i64 v2, .int .i64 v3, .slice iA im ic]] (grow (redrawn w4 d) os) fun e w'' => e = .returned (.bool r) ∧ ∃ p : Regrown, w'' = grow (redrawn w4 p.d) p.os) := Lib.hid (fun d os => Calls.regrown_of (HRH.out _ (HW.out d os).1 (HW.out d os).2))
  clear z0 z1 z2 z3 z4 z5
  go_wp2_with fail
  refine wp_region_quiet_below (by kernel_rfl) (by kernel_rfl) ?_
  repeat (go_big_quiet_step (first | (go_at_call 9; exact HE1.out _ _) | (go_at_call 10; exact HE2.out _ _) | (go_at_call 11; exact HE3.out _ _)))
  refine wpQuiet_nil ?_
  intro _ hw'
  obtain ⟨⟨dq, osq⟩, hw''⟩ := hw'
  subst hw''
  have HB5 := Lib.hid (below_two' HB4.out (below_regrown w4 dq osq))
  clear y0 y1 y2 y3 y4 y5
  simp only
  go_wp2_with (go_at_call 6; (with_reducible refine (HAW.out _).mono ?_))
  rintro e2 w6 ⟨rfl, hb6⟩
  have HB6 := Lib.hid (below_two' HB5.out hb6)
  clear hb6
  go_wp2_with fail
  go_ret
  exact ⟨rfl, HB6.out⟩
set_option maxHeartbeats 4000000 in
theorem evalAt_good (p : EP) (e : Ev) (A : Option Addr) (n c : Nat) (l : List Tm) (hn : n = l.length) (w : World) (h : Tms w (.slice A n c) l) (he : EnvIn w p e) (hl : lightE e l = true) (hc : chkE e l = 0) :
    Calls Try.prog 3 #[.slice A n c, envV p e] w (RetB w true) := by
  have HLI := Lib.hid (fun w h h' => elight_any p e A n c l hn w h h')
  rw [hl] at HLI
  obtain ⟨hl60, _, _, hsh⟩ := light_parts hl
  have hs := small_light hsh
  have hat : atE e l = comeE e l := by unfold atE; rw [if_pos hc]
  obtain ⟨_, hck, _, _⟩ := chkE_ok hc
  have HRA := Lib.hid (fun w h h' => rat_zero p e A n c l hn (by omega) w h h' hc)
  have HTY := Lib.hid (fun w h => rtyp_zero A n c l hn (by omega) w h (chk_ok hck).1)
  have HBL := Lib.hid (fun h => comeE_bool (e := e) hck h)
  obtain ⟨hlo, hhi⟩ := comeE_bd (e := e) (chk_ok hck).2.1
  have HA := Lib.hid (fun w h h' => at_any p e A n c l hn (by omega) hs w h h')
  rw [hat] at HA
  have HRC := Lib.hid (fun w h h' => rechk_any p e A n c l hn (by omega) hs w h h')
  have HEC := Lib.hid (fun w h h' => echeck_any p e A n c l hn (by omega) hs w h h')
  have HHO := Lib.hid (fun w h h' => holds_any p e A n c l hn (by omega) hs w h h')
  have HRH := Lib.hid (fun w h h' => rholds_any p e A n c l hn (by omega) hs w h h')
  have HT := Lib.hid h
  have HEN := Lib.hid he
  have HAW := Lib.hid (fun w => eawake_any w)
  obtain ⟨vA, vn, vc, iA, im, ic⟩ := p
  rw [hc] at HA HRC HEC
  obtain ⟨x, hx⟩ : ∃ x, x = comeE e l := ⟨_, rfl⟩
  rw [← hx] at HA HRA HBL hlo hhi
  obtain ⟨y, hy⟩ : ∃ y, y = typ l := ⟨_, rfl⟩
  rw [← hy] at HTY HBL
  obtain ⟨r, hr⟩ : ∃ r, r = holdsE e l := ⟨_, rfl⟩
  rw [← hr] at HHO HRH
  obtain ⟨vars, v0, v1, v2, v3, ins⟩ := e
  change Calls _ _ #[.slice A n c, .agg #[.slice vA vn vc, .int .i64 v0, .int .i64 v1, .int .i64 v2, .int .i64 v3, .slice iA im ic]] _ _
  have gxx : (x != x) = false := by simp
  have gl1 : decide (x < -1000000) = false := by simp; omega
  have gl2 : decide (1000000 < x) = false := by simp; omega
  have grr : (r != r) = false := by simp
  clear h he hl hn hc hat hs hsh hx hy hr hl60 hck hlo hhi
  go_enter Try.func3, Try.ntmps3
  go_wp2_with (go_at_call 5; (with_reducible refine (HLI.out _ (HT.out.keep (KitC.below_one _ _)) (HEN.out.keep (KitC.below_one _ _))).mono ?_))
  rintro e2 w2 ⟨rfl, hb2⟩
  obtain ⟨B2, hbb, _⟩ := KitC.one_block hb2
  have HB2 := Lib.hid hbb
  have HK2 := Lib.hid B2
  obtain ⟨z0, z1, z2, z3, z4, z5⟩ := cells_6 B2
  clear hb2 hbb B2
  go_wp2_with (go_at_call 7; (with_reducible refine (HA.out _ (HT.out.keep HB2.out) (HEN.out.keep HB2.out)).mono ?_))
  rintro e2 w3 ⟨rfl, hb3⟩
  have HB3 := Lib.hid (below_two' HB2.out hb3)
  have HK3 := Lib.hid (KitC.block_on HK2.out hb3)
  clear hb3 z0 z1 z2 z3 z4 z5
  obtain ⟨z0, z1, z2, z3, z4, z5⟩ := cells_6 HK3.out
  go_wp2_with (go_at_call 8; (with_reducible refine (HRC.out _ (HT.out.keep HB3.out) (HEN.out.keep HB3.out)).mono ?_))
  rintro e2 w4 ⟨rfl, hb4⟩
  have HB4 := Lib.hid (below_two' HB3.out hb4)
  have HK4 := Lib.hid (KitC.block_on HK3.out hb4)
  clear hb4 z0 z1 z2 z3 z4 z5
  obtain ⟨z0, z1, z2, z3, z4, z5⟩ := cells_6 HK4.out
  have y0 := cell_regrown z0
  have y1 := cell_regrown z1
  have y2 := cell_regrown z2
  have y3 := cell_regrown z3
  have y4 := cell_regrown z4
  have y5 := cell_regrown z5
  have HW : Hid (∀ d os, Tms (grow (redrawn w4 d) os) (.slice A n c) l ∧ EnvIn (grow (redrawn w4 d) os) ⟨vA, vn, vc, iA, im, ic⟩ ⟨vars, v0, v1, v2, v3, ins⟩) := Lib.hid (fun d os => ⟨HT.out.keep (below_two' HB4.out (below_regrown w4 d os)), HEN.out.keep (below_two' HB4.out (below_regrown w4 d os))⟩)
  have HE1 : Hid (∀ d os, Calls Try.prog 9 #[.slice A n c, .agg #[.slice vA vn vc, .int .i64 v0, .int .i64 v1, .int .i64 v2, .int .i64 v3, .slice iA im ic]] (grow (redrawn w4 d) os) fun e w'' => e = .returned (.int .i64 0) ∧ ∃ p : Regrown, w'' = grow (redrawn w4 p.d) p.os) := Lib.hid (fun d os => Calls.regrown_of (HEC.out _ (HW.out d os).1 (HW.out d os).2))
  have HE2 : Hid (∀ d os, Calls Try.prog 10 #[.slice A n c, .agg #[.slice vA vn vc, .int .i64 v0, .int .i64 v1, .int .i64 v2, .int .i64 v3, .slice iA im ic]] (grow (redrawn w4 d) os) fun e w'' => e = .returned (.bool r) ∧ ∃ p : Regrown, w'' = grow (redrawn w4 p.d) p.os) := Lib.hid (fun d os => Calls.regrown_of (HHO.out _ (HW.out d os).1 (HW.out d os).2))
  have HE3 : Hid (∀ d os, Calls Try.prog 11 #[.slice A n c, .agg #[.slice vA vn vc, .int .i64 v0, .int .i64 v1, .int .i64 v2, .int .i64 v3, .slice iA im ic]] (grow (redrawn w4 d) os) fun e w'' => e = .returned (.bool r) ∧ ∃ p : Regrown, w'' = grow (redrawn w4 p.d) p.os) := Lib.hid (fun d os => Calls.regrown_of (HRH.out _ (HW.out d os).1 (HW.out d os).2))
  clear z0 z1 z2 z3 z4 z5
  go_wp2_with fail
  refine wp_region_quiet_below (by kernel_rfl) (by kernel_rfl) ?_
  repeat (go_big_quiet_step (first | (go_at_call 9; exact HE1.out _ _) | (go_at_call 10; exact HE2.out _ _) | (go_at_call 11; exact HE3.out _ _)))
  refine wpQuiet_nil ?_
  intro _ hw'
  obtain ⟨⟨dq, osq⟩, hw''⟩ := hw'
  subst hw''
  have HB5 := Lib.hid (below_two' HB4.out (below_regrown w4 dq osq))
  clear y0 y1 y2 y3 y4 y5
  simp only
  obtain ⟨w6, hw6⟩ : ∃ w6, grow (redrawn w4 dq) osq = w6 := ⟨_, rfl⟩
  have HK6 := Lib.hid (KitC.block_on HK4.out (below_regrown w4 dq osq))
  rw [hw6] at HB5 HK6 ⊢
  clear hw6
  obtain ⟨z0, z1, z2, z3, z4, z5⟩ := cells_6 HK6.out
  go_wp2_with (go_at_call 12; (with_reducible refine (HRA.out _ (HT.out.keep HB5.out) (HEN.out.keep HB5.out)).mono ?_))
  rintro e2 w7 ⟨rfl, hb7⟩
  have HB7 := Lib.hid (below_two' HB5.out hb7)
  clear hb7 z0 z1 z2 z3 z4 z5
  go_wp2_with (go_at_call 13; (with_reducible refine (HTY.out _ (HT.out.keep HB7.out)).mono ?_))
  rintro e2 w8 ⟨rfl, hb8⟩
  have HB8 := Lib.hid (below_two' HB7.out hb8)
  clear hb8
  by_cases hy2 : y = 2
  · have gy : (y != 2) = false := by simp [hy2]
    rcases HBL.out hy2 with hx0 | hx1
    · have gx : (x == 0) = true := by simp [hx0]
      clear hx0 hy2
      go_wp2_with (go_at_call 6; (with_reducible refine (HAW.out _).mono ?_))
      rintro e2 w9 ⟨rfl, hb9⟩
      have HB9 := Lib.hid (below_two' HB8.out hb9)
      clear hb9
      go_wp2_with fail
      go_ret
      exact ⟨rfl, HB9.out⟩
    · have gx : (x == 0) = false := by simp [hx1]
      have gx1 : (x == 1) = true := by simp [hx1]
      clear hx1 hy2
      go_wp2_with (go_at_call 6; (with_reducible refine (HAW.out _).mono ?_))
      rintro e2 w9 ⟨rfl, hb9⟩
      have HB9 := Lib.hid (below_two' HB8.out hb9)
      clear hb9
      go_wp2_with fail
      go_ret
      exact ⟨rfl, HB9.out⟩
  · have gy : (y != 2) = true := by simp [hy2]
    clear hy2
    go_wp2_with (go_at_call 6; (with_reducible refine (HAW.out _).mono ?_))
    rintro e2 w9 ⟨rfl, hb9⟩
    have HB9 := Lib.hid (below_two' HB8.out hb9)
    clear hb9
    go_wp2_with fail
    go_ret
    exact ⟨rfl, HB9.out⟩
theorem walk_EvalAt (A : Option Addr) (n c : Nat) (l : List Tm) (p : EP) (e : Ev) (w : World) (h : Tms w (.slice A n c) l) (hn : n = l.length) (_ : Small l) (_ : n ≤ 9223372036854775807) (he : EnvIn w p e) :
    Calls Try.prog 3 #[.slice A n c, envV p e] w fun e w' => e = .returned (.bool true) ∧ Below w.heap.size w w' := by
  cases hl : lightE e l with
  | false => exact evalAt_heavy p e A n c l hn w h he hl
  | true =>
    by_cases hc : chkE e l = 0
    · exact evalAt_good p e A n c l hn w h he hl hc
    · exact evalAt_bad p e A n c l hn w h he hl hc
end Go.Proofs.Ytbkgkdfameojfaa
