/- EvalRefAt2, joined. -/
import Derived.Test.YtcfcpbkeedfbpaaGreatDoorMActRuns11
namespace Go.Proofs.YtcfcpbkeedfbpaaGreatDoor
open Go.RowKit Go.Sort TermSpec EvalSpec NamesSpec Go.Lib ValSpec
set_option maxRecDepth 100000

set_option maxHeartbeats 4000000 in
theorem rat_op4 (p : EP) (e : Ev) (A : Option Addr) (n c : Nat) (l : List Tm) (k0 : Nat) (w : World) (hC : Comes p e A n c l) (h : Tms w (.slice A n c) l) (he : EnvIn w p e) (tn : Int) (s : ByteArray) (ht : l[k0]? = some ⟨4, tn, s⟩) (hend : 0 ≤ endA l k0) (ih : RatIH p e A n c l k0) :
    Calls Tryz.prog 84 #[.slice A n c, .int .i64 k0, envV p e] w (RetI w (comeE e (l.drop k0))) := by
  obtain ⟨kk, m0, hkk, hc0, _, _, _⟩ := endA_nn hend
  obtain rfl : kk = k0 := by omega
  obtain ⟨t', m, ht', _, _, hm⟩ := first_of hc0
  rw [ht] at ht'
  cases ht'
  change cnt 2 _ = some m at hm
  obtain ⟨x0, hx0, hex0, hbx0, hs0⟩ := below_placeE (e := e) hm (show 0 < 2 by omega)
  obtain ⟨x1, hx1, hex1, hbx1, hs1⟩ := below_placeE (e := e) hm (show 1 < 2 by omega)
  have hv := comeE_2 (e := e) ht rfl hs0 hs1
  rw [hv]
  have HBL := Lib.hid (fun w h => rbelow_any A n c l kk w h hC.hn (by have := hC.hn62; omega) _ ht hend)
  obtain ⟨X0, hX0⟩ : ∃ X, X = comeE e (l.drop (kk + 1 + x0)) := ⟨_, rfl⟩
  obtain ⟨X1, hX1⟩ : ∃ X, X = comeE e (l.drop (kk + 1 + x1)) := ⟨_, rfl⟩
  obtain ⟨r, hr⟩ : ∃ r, r = ev2 4 (comeE e (l.drop (kk + 1 + x0))) (comeE e (l.drop (kk + 1 + x1))) := ⟨_, rfl⟩
  simp only
  rw [← hr]
  have HR := Lib.hid hr
  have hbd0 := hC.bd (kk + 1 + x0)
  obtain ⟨hlo0, hhi0⟩ := hbd0
  rw [← hX0] at HR hlo0 hhi0
  have hbd1 := hC.bd (kk + 1 + x1)
  obtain ⟨hlo1, hhi1⟩ := hbd1
  rw [← hX1] at HR hlo1 hhi1
  have hk := get_lt ht
  rw [← hC.hn] at hk
  have hkI : (kk : Int) < n := by omega
  have HT := Lib.hid h
  have HEN := Lib.hid he
  have HIH := Lib.hid ih
  obtain ⟨vA, vn, vc, iA, im, ic⟩ := p
  obtain ⟨b, off, rfl, hb, c0, c1, c2⟩ := h.at_ ht
  simp only at c0 c1 c2
  obtain ⟨vars, v0, v1, v2, v3, ins⟩ := e
  have HC0 : Hid (∀ w, Tms w (.slice (some ⟨b, off, none⟩) n c) l → EnvIn w ⟨vA, vn, vc, iA, im, ic⟩ ⟨vars, v0, v1, v2, v3, ins⟩ → Calls Tryz.prog 84 #[.slice (some ⟨b, off, none⟩) n c, .int .i64 ((kk + 1 + x0 : Nat) : Int), .agg #[.slice vA vn vc, .int .i64 v0, .int .i64 v1, .int .i64 v2, .int .i64 v3, .slice iA im ic]] w (RetI w X0)) := Lib.hid (fun w h h' => by rw [hX0]; exact HIH.out _ w (by omega) h h' hex0)
  obtain ⟨a0, ha0⟩ : ∃ a : Nat, a = kk + 1 + x0 := ⟨_, rfl⟩
  rw [← ha0] at HC0 hx0
  have HC1 : Hid (∀ w, Tms w (.slice (some ⟨b, off, none⟩) n c) l → EnvIn w ⟨vA, vn, vc, iA, im, ic⟩ ⟨vars, v0, v1, v2, v3, ins⟩ → Calls Tryz.prog 84 #[.slice (some ⟨b, off, none⟩) n c, .int .i64 ((kk + 1 + x1 : Nat) : Int), .agg #[.slice vA vn vc, .int .i64 v0, .int .i64 v1, .int .i64 v2, .int .i64 v3, .slice iA im ic]] w (RetI w X1)) := Lib.hid (fun w h h' => by rw [hX1]; exact HIH.out _ w (by omega) h h' hex1)
  obtain ⟨a1, ha1⟩ : ∃ a : Nat, a = kk + 1 + x1 := ⟨_, rfl⟩
  rw [← ha1] at HC1 hx1
  change Calls _ _ #[.slice (some ⟨b, off, none⟩) n c, .int .i64 kk, .agg #[.slice vA vn vc, .int .i64 v0, .int .i64 v1, .int .i64 v2, .int .i64 v3, .slice iA im ic]] _ _
  have d0 := ((KitC.below_one w (.cells #[.slice vA vn vc, .int .i64 v0, .int .i64 v1, .int .i64 v2, .int .i64 v3, .slice iA im ic] 54)).cell (p := ⟨b, off + kk * 3, none⟩) hb).trans c0
  have d1 := ((KitC.below_one w (.cells #[.slice vA vn vc, .int .i64 v0, .int .i64 v1, .int .i64 v2, .int .i64 v3, .slice iA im ic] 54)).cell (p := ⟨b, off + kk * 3 + 1, none⟩) hb).trans c1
  have d2 := ((KitC.below_one w (.cells #[.slice vA vn vc, .int .i64 v0, .int .i64 v1, .int .i64 v2, .int .i64 v3, .slice iA im ic] 54)).cell (p := ⟨b, off + kk * 3 + 2, none⟩) hb).trans c2
  have HBE := Lib.hid (And.intro hx0 hx1)
  clear hr h he ht hend hC c0 c1 c2 ih hm hc0 hkk hv hs0 hx0 hex0 hbx0 hX0 ha0 hs1 hx1 hex1 hbx1 hX1 ha1
  go_enter Tryz.func84, Tryz.ntmps84
  go_wp2_with (go_at_call 56; (with_reducible refine (HBL.out _ (HT.out.keep (KitC.below_pair _ _ _))).mono ?_))
  rintro e2 w1 ⟨vv, rfl, hr2, hb1⟩
  obtain ⟨A2, n2, c2', rfl, hn2, hc2, hA2⟩ := hr2.ints
  rw [belows_length] at hn2
  obtain rfl : 2 = n2 := hn2
  obtain ⟨b2, off2, rfl, hb2, hcell⟩ := hA2 (by omega)
  obtain ⟨B1, B2, hbw, hz⟩ := KitC.pair_blocks hb1
  have HBW := Lib.hid hbw
  have u0 := hcell 0 _ HBE.out.1
  have u1 := hcell 1 _ HBE.out.2
  rw [Nat.add_zero] at u0
  have uu0 := cell_regrown u0
  have U1 := Lib.hid u1
  have HU1 := Lib.hid hb2
  have HB1 := Lib.hid B1
  have HB2 := Lib.hid B2
  obtain ⟨t0, t1, t2⟩ := cells_3 B2
  obtain ⟨z0, z1, z2, z3, z4, z5⟩ := cells_6 B1
  have y0 := cell_regrown z0
  have y1 := cell_regrown z1
  have y2 := cell_regrown z2
  have y3 := cell_regrown z3
  have y4 := cell_regrown z4
  have y5 := cell_regrown z5
  have y6 := cell_regrown t0
  have HA0 : Hid (∀ d os, Calls Tryz.prog 84 #[.slice (some ⟨b, off, none⟩) n c, .int .i64 a0, .agg #[.slice vA vn vc, .int .i64 v0, .int .i64 v1, .int .i64 v2, .int .i64 v3, .slice iA im ic]] (grow (redrawn w1 d) os) fun e w'' => e = .returned (.int .i64 X0) ∧ ∃ p : Regrown, w'' = grow (redrawn w1 p.d) p.os) := Lib.hid (fun d os => Calls.regrown_of (HC0.out _ (HT.out.keep (below_two' HBW.out (below_regrown w1 d os))) (HEN.out.keep (below_two' HBW.out (below_regrown w1 d os)))))
  clear u0 u1 hr2 hb1 hA2 hc2 B1 B2 hbw d0 d1 d2 hcell t0 t1 t2 z0 z1 z2 z3 z4 z5
  go_wp2_with fail
  refine wp_region_quiet_below (by kernel_rfl) (by kernel_rfl) ?_
  repeat (go_big_quiet_step (exact HA0.out _ _))
  refine wpQuiet_nil ?_
  intro _ hw'
  obtain ⟨⟨dq, osq⟩, hw''⟩ := hw'
  subst hw''
  have HG := Lib.hid (below_two' HBW.out (below_regrown w1 dq osq))
  simp only
  have hbg := below_regrown w1 dq osq
  obtain ⟨w5, hw5⟩ : ∃ w5, grow (redrawn w1 dq) osq = w5 := ⟨_, rfl⟩
  rw [hw5] at hbg HG ⊢
  have HK := Lib.hid hbg
  obtain ⟨t0, t1, t2⟩ := cells_3 (KitC.block_on HB2.out hbg)
  obtain ⟨z0, z1, z2, z3, z4, z5⟩ := cells_6 (KitC.block_on HB1.out hbg)
  have uu1 := cell_regrown ((hbg.cell (p := ⟨b2, off2 + 1, none⟩) HU1.out).trans U1.out)
  clear y0 y1 y2 y3 y4 y5 y6 uu0 hw5
  have y0 := cell_regrown z0
  have y1 := cell_regrown z1
  have y2 := cell_regrown z2
  have y3 := cell_regrown z3
  have y4 := cell_regrown z4
  have y5 := cell_regrown z5
  have y6 := cell_regrown t0
  have HA1 : Hid (∀ d os, Calls Tryz.prog 84 #[.slice (some ⟨b, off, none⟩) n c, .int .i64 a1, .agg #[.slice vA vn vc, .int .i64 v0, .int .i64 v1, .int .i64 v2, .int .i64 v3, .slice iA im ic]] (grow (redrawn w5 d) os) fun e w'' => e = .returned (.int .i64 X1) ∧ ∃ p : Regrown, w'' = grow (redrawn w5 p.d) p.os) := Lib.hid (fun d os => Calls.regrown_of (HC1.out _ (HT.out.keep (below_two' HG.out (below_regrown w5 d os))) (HEN.out.keep (below_two' HG.out (below_regrown w5 d os)))))
  clear hbg t0 t1 t2 z0 z1 z2 z3 z4 z5
  go_wp2_with fail
  refine wp_region_quiet_below (by kernel_rfl) (by kernel_rfl) ?_
  repeat (go_big_quiet_step (exact HA1.out _ _))
  refine wpQuiet_nil ?_
  intro _ hw'
  obtain ⟨⟨dr, osr⟩, hw''⟩ := hw'
  subst hw''
  have HG2 := Lib.hid (below_two' HG.out (below_regrown w5 dr osr))
  simp only
  have HNR := Lib.hid (fun x => rnear_any x)
  go_wp2_with (go_at_call 118; (with_reducible refine (HNR.out _ _).mono ?_); rintro e w' ⟨rfl, rfl⟩)
  go_ret
  exact ⟨ret_int (by rw [HR.out]; simp [ev2]), HG2.out⟩
set_option maxHeartbeats 4000000 in
theorem rat_op5 (p : EP) (e : Ev) (A : Option Addr) (n c : Nat) (l : List Tm) (k0 : Nat) (w : World) (hC : Comes p e A n c l) (h : Tms w (.slice A n c) l) (he : EnvIn w p e) (tn : Int) (s : ByteArray) (ht : l[k0]? = some ⟨5, tn, s⟩) (hend : 0 ≤ endA l k0) (ih : RatIH p e A n c l k0) :
    Calls Tryz.prog 84 #[.slice A n c, .int .i64 k0, envV p e] w (RetI w (comeE e (l.drop k0))) := by
  obtain ⟨kk, m0, hkk, hc0, _, _, _⟩ := endA_nn hend
  obtain rfl : kk = k0 := by omega
  obtain ⟨t', m, ht', _, _, hm⟩ := first_of hc0
  rw [ht] at ht'
  cases ht'
  change cnt 2 _ = some m at hm
  obtain ⟨x0, hx0, hex0, hbx0, hs0⟩ := below_placeE (e := e) hm (show 0 < 2 by omega)
  obtain ⟨x1, hx1, hex1, hbx1, hs1⟩ := below_placeE (e := e) hm (show 1 < 2 by omega)
  have hv := comeE_2 (e := e) ht rfl hs0 hs1
  rw [hv]
  have HBL := Lib.hid (fun w h => rbelow_any A n c l kk w h hC.hn (by have := hC.hn62; omega) _ ht hend)
  obtain ⟨X0, hX0⟩ : ∃ X, X = comeE e (l.drop (kk + 1 + x0)) := ⟨_, rfl⟩
  obtain ⟨X1, hX1⟩ : ∃ X, X = comeE e (l.drop (kk + 1 + x1)) := ⟨_, rfl⟩
  obtain ⟨r, hr⟩ : ∃ r, r = ev2 5 (comeE e (l.drop (kk + 1 + x0))) (comeE e (l.drop (kk + 1 + x1))) := ⟨_, rfl⟩
  simp only
  rw [← hr]
  have HR := Lib.hid hr
  have hbd0 := hC.bd (kk + 1 + x0)
  obtain ⟨hlo0, hhi0⟩ := hbd0
  rw [← hX0] at HR hlo0 hhi0
  have hbd1 := hC.bd (kk + 1 + x1)
  obtain ⟨hlo1, hhi1⟩ := hbd1
  rw [← hX1] at HR hlo1 hhi1
  have hk := get_lt ht
  rw [← hC.hn] at hk
  have hkI : (kk : Int) < n := by omega
  have HT := Lib.hid h
  have HEN := Lib.hid he
  have HIH := Lib.hid ih
  obtain ⟨vA, vn, vc, iA, im, ic⟩ := p
  obtain ⟨b, off, rfl, hb, c0, c1, c2⟩ := h.at_ ht
  simp only at c0 c1 c2
  obtain ⟨vars, v0, v1, v2, v3, ins⟩ := e
  have HC0 : Hid (∀ w, Tms w (.slice (some ⟨b, off, none⟩) n c) l → EnvIn w ⟨vA, vn, vc, iA, im, ic⟩ ⟨vars, v0, v1, v2, v3, ins⟩ → Calls Tryz.prog 84 #[.slice (some ⟨b, off, none⟩) n c, .int .i64 ((kk + 1 + x0 : Nat) : Int), .agg #[.slice vA vn vc, .int .i64 v0, .int .i64 v1, .int .i64 v2, .int .i64 v3, .slice iA im ic]] w (RetI w X0)) := Lib.hid (fun w h h' => by rw [hX0]; exact HIH.out _ w (by omega) h h' hex0)
  obtain ⟨a0, ha0⟩ : ∃ a : Nat, a = kk + 1 + x0 := ⟨_, rfl⟩
  rw [← ha0] at HC0 hx0
  have HC1 : Hid (∀ w, Tms w (.slice (some ⟨b, off, none⟩) n c) l → EnvIn w ⟨vA, vn, vc, iA, im, ic⟩ ⟨vars, v0, v1, v2, v3, ins⟩ → Calls Tryz.prog 84 #[.slice (some ⟨b, off, none⟩) n c, .int .i64 ((kk + 1 + x1 : Nat) : Int), .agg #[.slice vA vn vc, .int .i64 v0, .int .i64 v1, .int .i64 v2, .int .i64 v3, .slice iA im ic]] w (RetI w X1)) := Lib.hid (fun w h h' => by rw [hX1]; exact HIH.out _ w (by omega) h h' hex1)
  obtain ⟨a1, ha1⟩ : ∃ a : Nat, a = kk + 1 + x1 := ⟨_, rfl⟩
  rw [← ha1] at HC1 hx1
  change Calls _ _ #[.slice (some ⟨b, off, none⟩) n c, .int .i64 kk, .agg #[.slice vA vn vc, .int .i64 v0, .int .i64 v1, .int .i64 v2, .int .i64 v3, .slice iA im ic]] _ _
  have d0 := ((KitC.below_one w (.cells #[.slice vA vn vc, .int .i64 v0, .int .i64 v1, .int .i64 v2, .int .i64 v3, .slice iA im ic] 54)).cell (p := ⟨b, off + kk * 3, none⟩) hb).trans c0
  have d1 := ((KitC.below_one w (.cells #[.slice vA vn vc, .int .i64 v0, .int .i64 v1, .int .i64 v2, .int .i64 v3, .slice iA im ic] 54)).cell (p := ⟨b, off + kk * 3 + 1, none⟩) hb).trans c1
  have d2 := ((KitC.below_one w (.cells #[.slice vA vn vc, .int .i64 v0, .int .i64 v1, .int .i64 v2, .int .i64 v3, .slice iA im ic] 54)).cell (p := ⟨b, off + kk * 3 + 2, none⟩) hb).trans c2
  have HBE := Lib.hid (And.intro hx0 hx1)
  clear hr h he ht hend hC c0 c1 c2 ih hm hc0 hkk hv hs0 hx0 hex0 hbx0 hX0 ha0 hs1 hx1 hex1 hbx1 hX1 ha1
  go_enter Tryz.func84, Tryz.ntmps84
  go_wp2_with (go_at_call 56; (with_reducible refine (HBL.out _ (HT.out.keep (KitC.below_pair _ _ _))).mono ?_))
  rintro e2 w1 ⟨vv, rfl, hr2, hb1⟩
  obtain ⟨A2, n2, c2', rfl, hn2, hc2, hA2⟩ := hr2.ints
  rw [belows_length] at hn2
  obtain rfl : 2 = n2 := hn2
  obtain ⟨b2, off2, rfl, hb2, hcell⟩ := hA2 (by omega)
  obtain ⟨B1, B2, hbw, hz⟩ := KitC.pair_blocks hb1
  have HBW := Lib.hid hbw
  have u0 := hcell 0 _ HBE.out.1
  have u1 := hcell 1 _ HBE.out.2
  rw [Nat.add_zero] at u0
  have uu0 := cell_regrown u0
  have U1 := Lib.hid u1
  have HU1 := Lib.hid hb2
  have HB1 := Lib.hid B1
  have HB2 := Lib.hid B2
  obtain ⟨t0, t1, t2⟩ := cells_3 B2
  obtain ⟨z0, z1, z2, z3, z4, z5⟩ := cells_6 B1
  have y0 := cell_regrown z0
  have y1 := cell_regrown z1
  have y2 := cell_regrown z2
  have y3 := cell_regrown z3
  have y4 := cell_regrown z4
  have y5 := cell_regrown z5
  have y6 := cell_regrown t0
  have HA0 : Hid (∀ d os, Calls Tryz.prog 84 #[.slice (some ⟨b, off, none⟩) n c, .int .i64 a0, .agg #[.slice vA vn vc, .int .i64 v0, .int .i64 v1, .int .i64 v2, .int .i64 v3, .slice iA im ic]] (grow (redrawn w1 d) os) fun e w'' => e = .returned (.int .i64 X0) ∧ ∃ p : Regrown, w'' = grow (redrawn w1 p.d) p.os) := Lib.hid (fun d os => Calls.regrown_of (HC0.out _ (HT.out.keep (below_two' HBW.out (below_regrown w1 d os))) (HEN.out.keep (below_two' HBW.out (below_regrown w1 d os)))))
  clear u0 u1 hr2 hb1 hA2 hc2 B1 B2 hbw d0 d1 d2 hcell t0 t1 t2 z0 z1 z2 z3 z4 z5
  go_wp2_with fail
  refine wp_region_quiet_below (by kernel_rfl) (by kernel_rfl) ?_
  repeat (go_big_quiet_step (exact HA0.out _ _))
  refine wpQuiet_nil ?_
  intro _ hw'
  obtain ⟨⟨dq, osq⟩, hw''⟩ := hw'
  subst hw''
  have HG := Lib.hid (below_two' HBW.out (below_regrown w1 dq osq))
  simp only
  have hbg := below_regrown w1 dq osq
  obtain ⟨w5, hw5⟩ : ∃ w5, grow (redrawn w1 dq) osq = w5 := ⟨_, rfl⟩
  rw [hw5] at hbg HG ⊢
  have HK := Lib.hid hbg
  obtain ⟨t0, t1, t2⟩ := cells_3 (KitC.block_on HB2.out hbg)
  obtain ⟨z0, z1, z2, z3, z4, z5⟩ := cells_6 (KitC.block_on HB1.out hbg)
  have uu1 := cell_regrown ((hbg.cell (p := ⟨b2, off2 + 1, none⟩) HU1.out).trans U1.out)
  clear y0 y1 y2 y3 y4 y5 y6 uu0 hw5
  have y0 := cell_regrown z0
  have y1 := cell_regrown z1
  have y2 := cell_regrown z2
  have y3 := cell_regrown z3
  have y4 := cell_regrown z4
  have y5 := cell_regrown z5
  have y6 := cell_regrown t0
  have HA1 : Hid (∀ d os, Calls Tryz.prog 84 #[.slice (some ⟨b, off, none⟩) n c, .int .i64 a1, .agg #[.slice vA vn vc, .int .i64 v0, .int .i64 v1, .int .i64 v2, .int .i64 v3, .slice iA im ic]] (grow (redrawn w5 d) os) fun e w'' => e = .returned (.int .i64 X1) ∧ ∃ p : Regrown, w'' = grow (redrawn w5 p.d) p.os) := Lib.hid (fun d os => Calls.regrown_of (HC1.out _ (HT.out.keep (below_two' HG.out (below_regrown w5 d os))) (HEN.out.keep (below_two' HG.out (below_regrown w5 d os)))))
  clear hbg t0 t1 t2 z0 z1 z2 z3 z4 z5
  go_wp2_with fail
  refine wp_region_quiet_below (by kernel_rfl) (by kernel_rfl) ?_
  repeat (go_big_quiet_step (exact HA1.out _ _))
  refine wpQuiet_nil ?_
  intro _ hw'
  obtain ⟨⟨dr, osr⟩, hw''⟩ := hw'
  subst hw''
  have HG2 := Lib.hid (below_two' HG.out (below_regrown w5 dr osr))
  simp only
  have HNR := Lib.hid (fun x => rnear_any x)
  go_wp2_with (go_at_call 118; (with_reducible refine (HNR.out _ _).mono ?_); rintro e w' ⟨rfl, rfl⟩)
  go_ret
  exact ⟨ret_int (by rw [HR.out]; simp [ev2]), HG2.out⟩
set_option maxHeartbeats 4000000 in
theorem rat_op6 (p : EP) (e : Ev) (A : Option Addr) (n c : Nat) (l : List Tm) (k0 : Nat) (w : World) (hC : Comes p e A n c l) (h : Tms w (.slice A n c) l) (he : EnvIn w p e) (tn : Int) (s : ByteArray) (ht : l[k0]? = some ⟨6, tn, s⟩) (hend : 0 ≤ endA l k0) (ih : RatIH p e A n c l k0) :
    Calls Tryz.prog 84 #[.slice A n c, .int .i64 k0, envV p e] w (RetI w (comeE e (l.drop k0))) := by
  obtain ⟨kk, m0, hkk, hc0, _, _, _⟩ := endA_nn hend
  obtain rfl : kk = k0 := by omega
  obtain ⟨t', m, ht', _, _, hm⟩ := first_of hc0
  rw [ht] at ht'
  cases ht'
  change cnt 2 _ = some m at hm
  obtain ⟨x0, hx0, hex0, hbx0, hs0⟩ := below_placeE (e := e) hm (show 0 < 2 by omega)
  obtain ⟨x1, hx1, hex1, hbx1, hs1⟩ := below_placeE (e := e) hm (show 1 < 2 by omega)
  have hv := comeE_2 (e := e) ht rfl hs0 hs1
  rw [hv]
  have HBL := Lib.hid (fun w h => rbelow_any A n c l kk w h hC.hn (by have := hC.hn62; omega) _ ht hend)
  obtain ⟨X0, hX0⟩ : ∃ X, X = comeE e (l.drop (kk + 1 + x0)) := ⟨_, rfl⟩
  obtain ⟨X1, hX1⟩ : ∃ X, X = comeE e (l.drop (kk + 1 + x1)) := ⟨_, rfl⟩
  obtain ⟨r, hr⟩ : ∃ r, r = ev2 6 (comeE e (l.drop (kk + 1 + x0))) (comeE e (l.drop (kk + 1 + x1))) := ⟨_, rfl⟩
  simp only
  rw [← hr]
  have HR := Lib.hid hr
  have hbd0 := hC.bd (kk + 1 + x0)
  obtain ⟨hlo0, hhi0⟩ := hbd0
  rw [← hX0] at HR hlo0 hhi0
  have hbd1 := hC.bd (kk + 1 + x1)
  obtain ⟨hlo1, hhi1⟩ := hbd1
  rw [← hX1] at HR hlo1 hhi1
  have hk := get_lt ht
  rw [← hC.hn] at hk
  have hkI : (kk : Int) < n := by omega
  have HT := Lib.hid h
  have HEN := Lib.hid he
  have HIH := Lib.hid ih
  obtain ⟨vA, vn, vc, iA, im, ic⟩ := p
  obtain ⟨b, off, rfl, hb, c0, c1, c2⟩ := h.at_ ht
  simp only at c0 c1 c2
  obtain ⟨vars, v0, v1, v2, v3, ins⟩ := e
  have HC0 : Hid (∀ w, Tms w (.slice (some ⟨b, off, none⟩) n c) l → EnvIn w ⟨vA, vn, vc, iA, im, ic⟩ ⟨vars, v0, v1, v2, v3, ins⟩ → Calls Tryz.prog 84 #[.slice (some ⟨b, off, none⟩) n c, .int .i64 ((kk + 1 + x0 : Nat) : Int), .agg #[.slice vA vn vc, .int .i64 v0, .int .i64 v1, .int .i64 v2, .int .i64 v3, .slice iA im ic]] w (RetI w X0)) := Lib.hid (fun w h h' => by rw [hX0]; exact HIH.out _ w (by omega) h h' hex0)
  obtain ⟨a0, ha0⟩ : ∃ a : Nat, a = kk + 1 + x0 := ⟨_, rfl⟩
  rw [← ha0] at HC0 hx0
  have HC1 : Hid (∀ w, Tms w (.slice (some ⟨b, off, none⟩) n c) l → EnvIn w ⟨vA, vn, vc, iA, im, ic⟩ ⟨vars, v0, v1, v2, v3, ins⟩ → Calls Tryz.prog 84 #[.slice (some ⟨b, off, none⟩) n c, .int .i64 ((kk + 1 + x1 : Nat) : Int), .agg #[.slice vA vn vc, .int .i64 v0, .int .i64 v1, .int .i64 v2, .int .i64 v3, .slice iA im ic]] w (RetI w X1)) := Lib.hid (fun w h h' => by rw [hX1]; exact HIH.out _ w (by omega) h h' hex1)
  obtain ⟨a1, ha1⟩ : ∃ a : Nat, a = kk + 1 + x1 := ⟨_, rfl⟩
  rw [← ha1] at HC1 hx1
  change Calls _ _ #[.slice (some ⟨b, off, none⟩) n c, .int .i64 kk, .agg #[.slice vA vn vc, .int .i64 v0, .int .i64 v1, .int .i64 v2, .int .i64 v3, .slice iA im ic]] _ _
  have d0 := ((KitC.below_one w (.cells #[.slice vA vn vc, .int .i64 v0, .int .i64 v1, .int .i64 v2, .int .i64 v3, .slice iA im ic] 54)).cell (p := ⟨b, off + kk * 3, none⟩) hb).trans c0
  have d1 := ((KitC.below_one w (.cells #[.slice vA vn vc, .int .i64 v0, .int .i64 v1, .int .i64 v2, .int .i64 v3, .slice iA im ic] 54)).cell (p := ⟨b, off + kk * 3 + 1, none⟩) hb).trans c1
  have d2 := ((KitC.below_one w (.cells #[.slice vA vn vc, .int .i64 v0, .int .i64 v1, .int .i64 v2, .int .i64 v3, .slice iA im ic] 54)).cell (p := ⟨b, off + kk * 3 + 2, none⟩) hb).trans c2
  have HBE := Lib.hid (And.intro hx0 hx1)
  clear hr h he ht hend hC c0 c1 c2 ih hm hc0 hkk hv hs0 hx0 hex0 hbx0 hX0 ha0 hs1 hx1 hex1 hbx1 hX1 ha1
  go_enter Tryz.func84, Tryz.ntmps84
  go_wp2_with (go_at_call 56; (with_reducible refine (HBL.out _ (HT.out.keep (KitC.below_pair _ _ _))).mono ?_))
  rintro e2 w1 ⟨vv, rfl, hr2, hb1⟩
  obtain ⟨A2, n2, c2', rfl, hn2, hc2, hA2⟩ := hr2.ints
  rw [belows_length] at hn2
  obtain rfl : 2 = n2 := hn2
  obtain ⟨b2, off2, rfl, hb2, hcell⟩ := hA2 (by omega)
  obtain ⟨B1, B2, hbw, hz⟩ := KitC.pair_blocks hb1
  have HBW := Lib.hid hbw
  have u0 := hcell 0 _ HBE.out.1
  have u1 := hcell 1 _ HBE.out.2
  rw [Nat.add_zero] at u0
  have uu0 := cell_regrown u0
  have U1 := Lib.hid u1
  have HU1 := Lib.hid hb2
  have HB1 := Lib.hid B1
  have HB2 := Lib.hid B2
  obtain ⟨t0, t1, t2⟩ := cells_3 B2
  obtain ⟨z0, z1, z2, z3, z4, z5⟩ := cells_6 B1
  have y0 := cell_regrown z0
  have y1 := cell_regrown z1
  have y2 := cell_regrown z2
  have y3 := cell_regrown z3
  have y4 := cell_regrown z4
  have y5 := cell_regrown z5
  have y6 := cell_regrown t0
  have HA0 : Hid (∀ d os, Calls Tryz.prog 84 #[.slice (some ⟨b, off, none⟩) n c, .int .i64 a0, .agg #[.slice vA vn vc, .int .i64 v0, .int .i64 v1, .int .i64 v2, .int .i64 v3, .slice iA im ic]] (grow (redrawn w1 d) os) fun e w'' => e = .returned (.int .i64 X0) ∧ ∃ p : Regrown, w'' = grow (redrawn w1 p.d) p.os) := Lib.hid (fun d os => Calls.regrown_of (HC0.out _ (HT.out.keep (below_two' HBW.out (below_regrown w1 d os))) (HEN.out.keep (below_two' HBW.out (below_regrown w1 d os)))))
  clear u0 u1 hr2 hb1 hA2 hc2 B1 B2 hbw d0 d1 d2 hcell t0 t1 t2 z0 z1 z2 z3 z4 z5
  go_wp2_with fail
  refine wp_region_quiet_below (by kernel_rfl) (by kernel_rfl) ?_
  repeat (go_big_quiet_step (exact HA0.out _ _))
  refine wpQuiet_nil ?_
  intro _ hw'
  obtain ⟨⟨dq, osq⟩, hw''⟩ := hw'
  subst hw''
  have HG := Lib.hid (below_two' HBW.out (below_regrown w1 dq osq))
  simp only
  have hbg := below_regrown w1 dq osq
  obtain ⟨w5, hw5⟩ : ∃ w5, grow (redrawn w1 dq) osq = w5 := ⟨_, rfl⟩
  rw [hw5] at hbg HG ⊢
  have HK := Lib.hid hbg
  obtain ⟨t0, t1, t2⟩ := cells_3 (KitC.block_on HB2.out hbg)
  obtain ⟨z0, z1, z2, z3, z4, z5⟩ := cells_6 (KitC.block_on HB1.out hbg)
  have uu1 := cell_regrown ((hbg.cell (p := ⟨b2, off2 + 1, none⟩) HU1.out).trans U1.out)
  clear y0 y1 y2 y3 y4 y5 y6 uu0 hw5
  have y0 := cell_regrown z0
  have y1 := cell_regrown z1
  have y2 := cell_regrown z2
  have y3 := cell_regrown z3
  have y4 := cell_regrown z4
  have y5 := cell_regrown z5
  have y6 := cell_regrown t0
  have HA1 : Hid (∀ d os, Calls Tryz.prog 84 #[.slice (some ⟨b, off, none⟩) n c, .int .i64 a1, .agg #[.slice vA vn vc, .int .i64 v0, .int .i64 v1, .int .i64 v2, .int .i64 v3, .slice iA im ic]] (grow (redrawn w5 d) os) fun e w'' => e = .returned (.int .i64 X1) ∧ ∃ p : Regrown, w'' = grow (redrawn w5 p.d) p.os) := Lib.hid (fun d os => Calls.regrown_of (HC1.out _ (HT.out.keep (below_two' HG.out (below_regrown w5 d os))) (HEN.out.keep (below_two' HG.out (below_regrown w5 d os)))))
  clear hbg t0 t1 t2 z0 z1 z2 z3 z4 z5
  go_wp2_with fail
  refine wp_region_quiet_below (by kernel_rfl) (by kernel_rfl) ?_
  repeat (go_big_quiet_step (exact HA1.out _ _))
  refine wpQuiet_nil ?_
  intro _ hw'
  obtain ⟨⟨dr, osr⟩, hw''⟩ := hw'
  subst hw''
  have HG2 := Lib.hid (below_two' HG.out (below_regrown w5 dr osr))
  simp only
  have HNR := Lib.hid (fun x => rnear_any x)
  obtain ⟨hp1, hp2⟩ := prod_bd X0 X1 hlo0 hhi0 hlo1 hhi1
  go_wp2_with (go_at_call 118; (with_reducible refine (HNR.out _ _).mono ?_); rintro e w' ⟨rfl, rfl⟩)
  go_ret
  exact ⟨ret_int (by rw [HR.out]; simp [ev2]), HG2.out⟩
set_option maxHeartbeats 4000000 in
theorem rat_op7 (p : EP) (e : Ev) (A : Option Addr) (n c : Nat) (l : List Tm) (k0 : Nat) (w : World) (hC : Comes p e A n c l) (h : Tms w (.slice A n c) l) (he : EnvIn w p e) (tn : Int) (s : ByteArray) (ht : l[k0]? = some ⟨7, tn, s⟩) (hend : 0 ≤ endA l k0) (ih : RatIH p e A n c l k0) :
    Calls Tryz.prog 84 #[.slice A n c, .int .i64 k0, envV p e] w (RetI w (comeE e (l.drop k0))) := by
  obtain ⟨kk, m0, hkk, hc0, _, _, _⟩ := endA_nn hend
  obtain rfl : kk = k0 := by omega
  obtain ⟨t', m, ht', _, _, hm⟩ := first_of hc0
  rw [ht] at ht'
  cases ht'
  change cnt 2 _ = some m at hm
  obtain ⟨x0, hx0, hex0, hbx0, hs0⟩ := below_placeE (e := e) hm (show 0 < 2 by omega)
  obtain ⟨x1, hx1, hex1, hbx1, hs1⟩ := below_placeE (e := e) hm (show 1 < 2 by omega)
  have hv := comeE_2 (e := e) ht rfl hs0 hs1
  rw [hv]
  have HBL := Lib.hid (fun w h => rbelow_any A n c l kk w h hC.hn (by have := hC.hn62; omega) _ ht hend)
  obtain ⟨X0, hX0⟩ : ∃ X, X = comeE e (l.drop (kk + 1 + x0)) := ⟨_, rfl⟩
  obtain ⟨X1, hX1⟩ : ∃ X, X = comeE e (l.drop (kk + 1 + x1)) := ⟨_, rfl⟩
  obtain ⟨r, hr⟩ : ∃ r, r = ev2 7 (comeE e (l.drop (kk + 1 + x0))) (comeE e (l.drop (kk + 1 + x1))) := ⟨_, rfl⟩
  simp only
  rw [← hr]
  have HR := Lib.hid hr
  have hbd0 := hC.bd (kk + 1 + x0)
  obtain ⟨hlo0, hhi0⟩ := hbd0
  rw [← hX0] at HR hlo0 hhi0
  have hbd1 := hC.bd (kk + 1 + x1)
  obtain ⟨hlo1, hhi1⟩ := hbd1
  rw [← hX1] at HR hlo1 hhi1
  have hk := get_lt ht
  rw [← hC.hn] at hk
  have hkI : (kk : Int) < n := by omega
  have HT := Lib.hid h
  have HEN := Lib.hid he
  have HIH := Lib.hid ih
  obtain ⟨vA, vn, vc, iA, im, ic⟩ := p
  obtain ⟨b, off, rfl, hb, c0, c1, c2⟩ := h.at_ ht
  simp only at c0 c1 c2
  obtain ⟨vars, v0, v1, v2, v3, ins⟩ := e
  have HC0 : Hid (∀ w, Tms w (.slice (some ⟨b, off, none⟩) n c) l → EnvIn w ⟨vA, vn, vc, iA, im, ic⟩ ⟨vars, v0, v1, v2, v3, ins⟩ → Calls Tryz.prog 84 #[.slice (some ⟨b, off, none⟩) n c, .int .i64 ((kk + 1 + x0 : Nat) : Int), .agg #[.slice vA vn vc, .int .i64 v0, .int .i64 v1, .int .i64 v2, .int .i64 v3, .slice iA im ic]] w (RetI w X0)) := Lib.hid (fun w h h' => by rw [hX0]; exact HIH.out _ w (by omega) h h' hex0)
  obtain ⟨a0, ha0⟩ : ∃ a : Nat, a = kk + 1 + x0 := ⟨_, rfl⟩
  rw [← ha0] at HC0 hx0
  have HC1 : Hid (∀ w, Tms w (.slice (some ⟨b, off, none⟩) n c) l → EnvIn w ⟨vA, vn, vc, iA, im, ic⟩ ⟨vars, v0, v1, v2, v3, ins⟩ → Calls Tryz.prog 84 #[.slice (some ⟨b, off, none⟩) n c, .int .i64 ((kk + 1 + x1 : Nat) : Int), .agg #[.slice vA vn vc, .int .i64 v0, .int .i64 v1, .int .i64 v2, .int .i64 v3, .slice iA im ic]] w (RetI w X1)) := Lib.hid (fun w h h' => by rw [hX1]; exact HIH.out _ w (by omega) h h' hex1)
  obtain ⟨a1, ha1⟩ : ∃ a : Nat, a = kk + 1 + x1 := ⟨_, rfl⟩
  rw [← ha1] at HC1 hx1
  change Calls _ _ #[.slice (some ⟨b, off, none⟩) n c, .int .i64 kk, .agg #[.slice vA vn vc, .int .i64 v0, .int .i64 v1, .int .i64 v2, .int .i64 v3, .slice iA im ic]] _ _
  have d0 := ((KitC.below_one w (.cells #[.slice vA vn vc, .int .i64 v0, .int .i64 v1, .int .i64 v2, .int .i64 v3, .slice iA im ic] 54)).cell (p := ⟨b, off + kk * 3, none⟩) hb).trans c0
  have d1 := ((KitC.below_one w (.cells #[.slice vA vn vc, .int .i64 v0, .int .i64 v1, .int .i64 v2, .int .i64 v3, .slice iA im ic] 54)).cell (p := ⟨b, off + kk * 3 + 1, none⟩) hb).trans c1
  have d2 := ((KitC.below_one w (.cells #[.slice vA vn vc, .int .i64 v0, .int .i64 v1, .int .i64 v2, .int .i64 v3, .slice iA im ic] 54)).cell (p := ⟨b, off + kk * 3 + 2, none⟩) hb).trans c2
  have HBE := Lib.hid (And.intro hx0 hx1)
  clear hr h he ht hend hC c0 c1 c2 ih hm hc0 hkk hv hs0 hx0 hex0 hbx0 hX0 ha0 hs1 hx1 hex1 hbx1 hX1 ha1
  go_enter Tryz.func84, Tryz.ntmps84
  go_wp2_with (go_at_call 56; (with_reducible refine (HBL.out _ (HT.out.keep (KitC.below_pair _ _ _))).mono ?_))
  rintro e2 w1 ⟨vv, rfl, hr2, hb1⟩
  obtain ⟨A2, n2, c2', rfl, hn2, hc2, hA2⟩ := hr2.ints
  rw [belows_length] at hn2
  obtain rfl : 2 = n2 := hn2
  obtain ⟨b2, off2, rfl, hb2, hcell⟩ := hA2 (by omega)
  obtain ⟨B1, B2, hbw, hz⟩ := KitC.pair_blocks hb1
  have HBW := Lib.hid hbw
  have u0 := hcell 0 _ HBE.out.1
  have u1 := hcell 1 _ HBE.out.2
  rw [Nat.add_zero] at u0
  have uu0 := cell_regrown u0
  have U1 := Lib.hid u1
  have HU1 := Lib.hid hb2
  have HB1 := Lib.hid B1
  have HB2 := Lib.hid B2
  obtain ⟨t0, t1, t2⟩ := cells_3 B2
  obtain ⟨z0, z1, z2, z3, z4, z5⟩ := cells_6 B1
  have y0 := cell_regrown z0
  have y1 := cell_regrown z1
  have y2 := cell_regrown z2
  have y3 := cell_regrown z3
  have y4 := cell_regrown z4
  have y5 := cell_regrown z5
  have y6 := cell_regrown t0
  have HA0 : Hid (∀ d os, Calls Tryz.prog 84 #[.slice (some ⟨b, off, none⟩) n c, .int .i64 a0, .agg #[.slice vA vn vc, .int .i64 v0, .int .i64 v1, .int .i64 v2, .int .i64 v3, .slice iA im ic]] (grow (redrawn w1 d) os) fun e w'' => e = .returned (.int .i64 X0) ∧ ∃ p : Regrown, w'' = grow (redrawn w1 p.d) p.os) := Lib.hid (fun d os => Calls.regrown_of (HC0.out _ (HT.out.keep (below_two' HBW.out (below_regrown w1 d os))) (HEN.out.keep (below_two' HBW.out (below_regrown w1 d os)))))
  clear u0 u1 hr2 hb1 hA2 hc2 B1 B2 hbw d0 d1 d2 hcell t0 t1 t2 z0 z1 z2 z3 z4 z5
  go_wp2_with fail
  refine wp_region_quiet_below (by kernel_rfl) (by kernel_rfl) ?_
  repeat (go_big_quiet_step (exact HA0.out _ _))
  refine wpQuiet_nil ?_
  intro _ hw'
  obtain ⟨⟨dq, osq⟩, hw''⟩ := hw'
  subst hw''
  have HG := Lib.hid (below_two' HBW.out (below_regrown w1 dq osq))
  simp only
  have hbg := below_regrown w1 dq osq
  obtain ⟨w5, hw5⟩ : ∃ w5, grow (redrawn w1 dq) osq = w5 := ⟨_, rfl⟩
  rw [hw5] at hbg HG ⊢
  have HK := Lib.hid hbg
  obtain ⟨t0, t1, t2⟩ := cells_3 (KitC.block_on HB2.out hbg)
  obtain ⟨z0, z1, z2, z3, z4, z5⟩ := cells_6 (KitC.block_on HB1.out hbg)
  have uu1 := cell_regrown ((hbg.cell (p := ⟨b2, off2 + 1, none⟩) HU1.out).trans U1.out)
  clear y0 y1 y2 y3 y4 y5 y6 uu0 hw5
  have y0 := cell_regrown z0
  have y1 := cell_regrown z1
  have y2 := cell_regrown z2
  have y3 := cell_regrown z3
  have y4 := cell_regrown z4
  have y5 := cell_regrown z5
  have y6 := cell_regrown t0
  have HA1 : Hid (∀ d os, Calls Tryz.prog 84 #[.slice (some ⟨b, off, none⟩) n c, .int .i64 a1, .agg #[.slice vA vn vc, .int .i64 v0, .int .i64 v1, .int .i64 v2, .int .i64 v3, .slice iA im ic]] (grow (redrawn w5 d) os) fun e w'' => e = .returned (.int .i64 X1) ∧ ∃ p : Regrown, w'' = grow (redrawn w5 p.d) p.os) := Lib.hid (fun d os => Calls.regrown_of (HC1.out _ (HT.out.keep (below_two' HG.out (below_regrown w5 d os))) (HEN.out.keep (below_two' HG.out (below_regrown w5 d os)))))
  clear hbg t0 t1 t2 z0 z1 z2 z3 z4 z5
  go_wp2_with fail
  refine wp_region_quiet_below (by kernel_rfl) (by kernel_rfl) ?_
  repeat (go_big_quiet_step (exact HA1.out _ _))
  refine wpQuiet_nil ?_
  intro _ hw'
  obtain ⟨⟨dr, osr⟩, hw''⟩ := hw'
  subst hw''
  have HG2 := Lib.hid (below_two' HG.out (below_regrown w5 dr osr))
  simp only
  by_cases hc : X0 < X1
  all_goals
    go_wp2_with fail
    go_ret
    exact ⟨ret_int (by rw [HR.out]; simp [ev2]; omega), HG2.out⟩
set_option maxHeartbeats 4000000 in
theorem rat_op8 (p : EP) (e : Ev) (A : Option Addr) (n c : Nat) (l : List Tm) (k0 : Nat) (w : World) (hC : Comes p e A n c l) (h : Tms w (.slice A n c) l) (he : EnvIn w p e) (tn : Int) (s : ByteArray) (ht : l[k0]? = some ⟨8, tn, s⟩) (hend : 0 ≤ endA l k0) (ih : RatIH p e A n c l k0) :
    Calls Tryz.prog 84 #[.slice A n c, .int .i64 k0, envV p e] w (RetI w (comeE e (l.drop k0))) := by
  obtain ⟨kk, m0, hkk, hc0, _, _, _⟩ := endA_nn hend
  obtain rfl : kk = k0 := by omega
  obtain ⟨t', m, ht', _, _, hm⟩ := first_of hc0
  rw [ht] at ht'
  cases ht'
  change cnt 2 _ = some m at hm
  obtain ⟨x0, hx0, hex0, hbx0, hs0⟩ := below_placeE (e := e) hm (show 0 < 2 by omega)
  obtain ⟨x1, hx1, hex1, hbx1, hs1⟩ := below_placeE (e := e) hm (show 1 < 2 by omega)
  have hv := comeE_2 (e := e) ht rfl hs0 hs1
  rw [hv]
  have HBL := Lib.hid (fun w h => rbelow_any A n c l kk w h hC.hn (by have := hC.hn62; omega) _ ht hend)
  obtain ⟨X0, hX0⟩ : ∃ X, X = comeE e (l.drop (kk + 1 + x0)) := ⟨_, rfl⟩
  obtain ⟨X1, hX1⟩ : ∃ X, X = comeE e (l.drop (kk + 1 + x1)) := ⟨_, rfl⟩
  obtain ⟨r, hr⟩ : ∃ r, r = ev2 8 (comeE e (l.drop (kk + 1 + x0))) (comeE e (l.drop (kk + 1 + x1))) := ⟨_, rfl⟩
  simp only
  rw [← hr]
  have HR := Lib.hid hr
  have hbd0 := hC.bd (kk + 1 + x0)
  obtain ⟨hlo0, hhi0⟩ := hbd0
  rw [← hX0] at HR hlo0 hhi0
  have hbd1 := hC.bd (kk + 1 + x1)
  obtain ⟨hlo1, hhi1⟩ := hbd1
  rw [← hX1] at HR hlo1 hhi1
  have hk := get_lt ht
  rw [← hC.hn] at hk
  have hkI : (kk : Int) < n := by omega
  have HT := Lib.hid h
  have HEN := Lib.hid he
  have HIH := Lib.hid ih
  obtain ⟨vA, vn, vc, iA, im, ic⟩ := p
  obtain ⟨b, off, rfl, hb, c0, c1, c2⟩ := h.at_ ht
  simp only at c0 c1 c2
  obtain ⟨vars, v0, v1, v2, v3, ins⟩ := e
  have HC0 : Hid (∀ w, Tms w (.slice (some ⟨b, off, none⟩) n c) l → EnvIn w ⟨vA, vn, vc, iA, im, ic⟩ ⟨vars, v0, v1, v2, v3, ins⟩ → Calls Tryz.prog 84 #[.slice (some ⟨b, off, none⟩) n c, .int .i64 ((kk + 1 + x0 : Nat) : Int), .agg #[.slice vA vn vc, .int .i64 v0, .int .i64 v1, .int .i64 v2, .int .i64 v3, .slice iA im ic]] w (RetI w X0)) := Lib.hid (fun w h h' => by rw [hX0]; exact HIH.out _ w (by omega) h h' hex0)
  obtain ⟨a0, ha0⟩ : ∃ a : Nat, a = kk + 1 + x0 := ⟨_, rfl⟩
  rw [← ha0] at HC0 hx0
  have HC1 : Hid (∀ w, Tms w (.slice (some ⟨b, off, none⟩) n c) l → EnvIn w ⟨vA, vn, vc, iA, im, ic⟩ ⟨vars, v0, v1, v2, v3, ins⟩ → Calls Tryz.prog 84 #[.slice (some ⟨b, off, none⟩) n c, .int .i64 ((kk + 1 + x1 : Nat) : Int), .agg #[.slice vA vn vc, .int .i64 v0, .int .i64 v1, .int .i64 v2, .int .i64 v3, .slice iA im ic]] w (RetI w X1)) := Lib.hid (fun w h h' => by rw [hX1]; exact HIH.out _ w (by omega) h h' hex1)
  obtain ⟨a1, ha1⟩ : ∃ a : Nat, a = kk + 1 + x1 := ⟨_, rfl⟩
  rw [← ha1] at HC1 hx1
  change Calls _ _ #[.slice (some ⟨b, off, none⟩) n c, .int .i64 kk, .agg #[.slice vA vn vc, .int .i64 v0, .int .i64 v1, .int .i64 v2, .int .i64 v3, .slice iA im ic]] _ _
  have d0 := ((KitC.below_one w (.cells #[.slice vA vn vc, .int .i64 v0, .int .i64 v1, .int .i64 v2, .int .i64 v3, .slice iA im ic] 54)).cell (p := ⟨b, off + kk * 3, none⟩) hb).trans c0
  have d1 := ((KitC.below_one w (.cells #[.slice vA vn vc, .int .i64 v0, .int .i64 v1, .int .i64 v2, .int .i64 v3, .slice iA im ic] 54)).cell (p := ⟨b, off + kk * 3 + 1, none⟩) hb).trans c1
  have d2 := ((KitC.below_one w (.cells #[.slice vA vn vc, .int .i64 v0, .int .i64 v1, .int .i64 v2, .int .i64 v3, .slice iA im ic] 54)).cell (p := ⟨b, off + kk * 3 + 2, none⟩) hb).trans c2
  have HBE := Lib.hid (And.intro hx0 hx1)
  clear hr h he ht hend hC c0 c1 c2 ih hm hc0 hkk hv hs0 hx0 hex0 hbx0 hX0 ha0 hs1 hx1 hex1 hbx1 hX1 ha1
  go_enter Tryz.func84, Tryz.ntmps84
  go_wp2_with (go_at_call 56; (with_reducible refine (HBL.out _ (HT.out.keep (KitC.below_pair _ _ _))).mono ?_))
  rintro e2 w1 ⟨vv, rfl, hr2, hb1⟩
  obtain ⟨A2, n2, c2', rfl, hn2, hc2, hA2⟩ := hr2.ints
  rw [belows_length] at hn2
  obtain rfl : 2 = n2 := hn2
  obtain ⟨b2, off2, rfl, hb2, hcell⟩ := hA2 (by omega)
  obtain ⟨B1, B2, hbw, hz⟩ := KitC.pair_blocks hb1
  have HBW := Lib.hid hbw
  have u0 := hcell 0 _ HBE.out.1
  have u1 := hcell 1 _ HBE.out.2
  rw [Nat.add_zero] at u0
  have uu0 := cell_regrown u0
  have U1 := Lib.hid u1
  have HU1 := Lib.hid hb2
  have HB1 := Lib.hid B1
  have HB2 := Lib.hid B2
  obtain ⟨t0, t1, t2⟩ := cells_3 B2
  obtain ⟨z0, z1, z2, z3, z4, z5⟩ := cells_6 B1
  have y0 := cell_regrown z0
  have y1 := cell_regrown z1
  have y2 := cell_regrown z2
  have y3 := cell_regrown z3
  have y4 := cell_regrown z4
  have y5 := cell_regrown z5
  have y6 := cell_regrown t0
  have HA0 : Hid (∀ d os, Calls Tryz.prog 84 #[.slice (some ⟨b, off, none⟩) n c, .int .i64 a0, .agg #[.slice vA vn vc, .int .i64 v0, .int .i64 v1, .int .i64 v2, .int .i64 v3, .slice iA im ic]] (grow (redrawn w1 d) os) fun e w'' => e = .returned (.int .i64 X0) ∧ ∃ p : Regrown, w'' = grow (redrawn w1 p.d) p.os) := Lib.hid (fun d os => Calls.regrown_of (HC0.out _ (HT.out.keep (below_two' HBW.out (below_regrown w1 d os))) (HEN.out.keep (below_two' HBW.out (below_regrown w1 d os)))))
  clear u0 u1 hr2 hb1 hA2 hc2 B1 B2 hbw d0 d1 d2 hcell t0 t1 t2 z0 z1 z2 z3 z4 z5
  go_wp2_with fail
  refine wp_region_quiet_below (by kernel_rfl) (by kernel_rfl) ?_
  repeat (go_big_quiet_step (exact HA0.out _ _))
  refine wpQuiet_nil ?_
  intro _ hw'
  obtain ⟨⟨dq, osq⟩, hw''⟩ := hw'
  subst hw''
  have HG := Lib.hid (below_two' HBW.out (below_regrown w1 dq osq))
  simp only
  have hbg := below_regrown w1 dq osq
  obtain ⟨w5, hw5⟩ : ∃ w5, grow (redrawn w1 dq) osq = w5 := ⟨_, rfl⟩
  rw [hw5] at hbg HG ⊢
  have HK := Lib.hid hbg
  obtain ⟨t0, t1, t2⟩ := cells_3 (KitC.block_on HB2.out hbg)
  obtain ⟨z0, z1, z2, z3, z4, z5⟩ := cells_6 (KitC.block_on HB1.out hbg)
  have uu1 := cell_regrown ((hbg.cell (p := ⟨b2, off2 + 1, none⟩) HU1.out).trans U1.out)
  clear y0 y1 y2 y3 y4 y5 y6 uu0 hw5
  have y0 := cell_regrown z0
  have y1 := cell_regrown z1
  have y2 := cell_regrown z2
  have y3 := cell_regrown z3
  have y4 := cell_regrown z4
  have y5 := cell_regrown z5
  have y6 := cell_regrown t0
  have HA1 : Hid (∀ d os, Calls Tryz.prog 84 #[.slice (some ⟨b, off, none⟩) n c, .int .i64 a1, .agg #[.slice vA vn vc, .int .i64 v0, .int .i64 v1, .int .i64 v2, .int .i64 v3, .slice iA im ic]] (grow (redrawn w5 d) os) fun e w'' => e = .returned (.int .i64 X1) ∧ ∃ p : Regrown, w'' = grow (redrawn w5 p.d) p.os) := Lib.hid (fun d os => Calls.regrown_of (HC1.out _ (HT.out.keep (below_two' HG.out (below_regrown w5 d os))) (HEN.out.keep (below_two' HG.out (below_regrown w5 d os)))))
  clear hbg t0 t1 t2 z0 z1 z2 z3 z4 z5
  go_wp2_with fail
  refine wp_region_quiet_below (by kernel_rfl) (by kernel_rfl) ?_
  repeat (go_big_quiet_step (exact HA1.out _ _))
  refine wpQuiet_nil ?_
  intro _ hw'
  obtain ⟨⟨dr, osr⟩, hw''⟩ := hw'
  subst hw''
  have HG2 := Lib.hid (below_two' HG.out (below_regrown w5 dr osr))
  simp only
  by_cases hc : X1 < X0
  all_goals
    go_wp2_with fail
    go_ret
    exact ⟨ret_int (by rw [HR.out]; simp [ev2]; omega), HG2.out⟩
end Go.Proofs.YtcfcpbkeedfbpaaGreatDoor
