/- EvalRefAll, ActOneExpr, ActOneAny, ActRefCheck, joined. -/
import Derived.Test.YtcfcpbkeedfbpaaGreatDoorMActRuns12
import Derived.Test.YtcfcpbkeedfbpaaGreatDoorMActRuns13
import Derived.Test.YtcfcpbkeedfbpaaGreatDoorMActRuns06
import Derived.Test.YtcfcpbkeedfbpaaGreatDoorMActRuns05
import Derived.BigQuiet
import Derived.Lib.QuietBelow
import Derived.Test.YtcfcpbkeedfbpaaGreatDoorMActRuns03
namespace Go.Proofs.YtcfcpbkeedfbpaaGreatDoor
open Go.RowKit Go.Sort TermSpec EvalSpec NamesSpec
set_option maxRecDepth 100000

theorem rat_at (p : EP) (e : Ev) (A : Option Addr) (n c : Nat) (l : List Tm) (k0 : Nat) (w : World) (hC : Comes p e A n c l) (h : Tms w (.slice A n c) l) (he : EnvIn w p e) (hend : 0 ≤ endA l k0) (ih : RatIH p e A n c l k0) :
    Calls Tryz.prog 84 #[.slice A n c, .int .i64 k0, envV p e] w (RetI w (comeE e (l.drop k0))) := by
  obtain ⟨kk, m0, hkk, hc0, _, _, _⟩ := endA_nn hend
  obtain rfl : kk = k0 := by omega
  obtain ⟨t, m, ht, h0, _, _⟩ := first_of hc0
  obtain ⟨h1, h20⟩ := ar_in.1 h0
  obtain ⟨o, tn, s⟩ := t
  simp only at h1 h20
  rcases (show o = 1 ∨ o = 2 ∨ o = 3 ∨ o = 4 ∨ o = 5 ∨ o = 6 ∨ o = 7 ∨ o = 8 ∨ o = 9 ∨ o = 10 ∨ o = 11 ∨ o = 12 ∨ o = 13 ∨ o = 14 ∨ o = 15 ∨ o = 16 ∨ o = 17 ∨ o = 18 ∨ o = 19 ∨ o = 20 by omega) with rfl | rfl | rfl | rfl | rfl | rfl | rfl | rfl | rfl | rfl | rfl | rfl | rfl | rfl | rfl | rfl | rfl | rfl | rfl | rfl
  · exact rat_op1 p e A n c l kk w hC h he tn s ht hend
  · exact rat_op2 p e A n c l kk w hC h he tn s ht hend
  · exact rat_op3 p e A n c l kk w hC h he tn s ht hend ih
  · exact rat_op4 p e A n c l kk w hC h he tn s ht hend ih
  · exact rat_op5 p e A n c l kk w hC h he tn s ht hend ih
  · exact rat_op6 p e A n c l kk w hC h he tn s ht hend ih
  · exact rat_op7 p e A n c l kk w hC h he tn s ht hend ih
  · exact rat_op8 p e A n c l kk w hC h he tn s ht hend ih
  · exact rat_op9 p e A n c l kk w hC h he tn s ht hend
  · exact rat_op10 p e A n c l kk w hC h he tn s ht hend
  · exact rat_op11 p e A n c l kk w hC h he tn s ht hend
  · exact rat_op12 p e A n c l kk w hC h he tn s ht hend ih
  · exact rat_op13 p e A n c l kk w hC h he tn s ht hend ih
  · exact rat_op14 p e A n c l kk w hC h he tn s ht hend ih
  · exact rat_op15 p e A n c l kk w hC h he tn s ht hend ih
  · exact rat_op16 p e A n c l kk w hC h he tn s ht hend ih
  · exact rat_op17 p e A n c l kk w hC h he tn s ht hend ih
  · exact rat_op18 p e A n c l kk w hC h he tn s ht hend ih
  · exact rat_op19 p e A n c l kk w hC h he tn s ht hend ih
  · exact rat_op20 p e A n c l kk w hC h he tn s ht hend ih
theorem rat_all (p : EP) (e : Ev) (A : Option Addr) (n c : Nat) (l : List Tm) (hC : Comes p e A n c l) : ∀ (K : Nat) (a : Nat) (w : World), n ≤ a + K → Tms w (.slice A n c) l → EnvIn w p e → 0 ≤ endA l a → Calls Tryz.prog 84 #[.slice A n c, .int .i64 a, envV p e] w (RetI w (comeE e (l.drop a)))
  | 0, a, w, hK, _, _, he => by
    obtain ⟨k, m, hk, _, h1, h2, h3⟩ := endA_nn he
    have := hC.hn
    omega
  | K + 1, a, w, hK, h, hE, he => rat_at p e A n c l a w hC h hE he fun a' w' ha h' hE' he' => rat_all p e A n c l hC K a' w' (by omega) h' hE' he'
theorem rat_zero (p : EP) (e : Ev) (A : Option Addr) (n c : Nat) (l : List Tm) (hn : n = l.length) (hn62 : n ≤ 4398046511104) (w : World) (h : Tms w (.slice A n c) l) (he : EnvIn w p e) (hc : chkE e l = 0) :
    Calls Tryz.prog 84 #[.slice A n c, .int .i64 0, envV p e] w (RetI w (comeE e l)) := by
  obtain ⟨h4, hk, _, hkn⟩ := chkE_ok hc
  obtain ⟨hw, hm, _⟩ := chk_ok hk
  have h0 := (wholeB_iff.1 hw).2
  have := rat_all p e A n c l ⟨hn, hn62, hm, hkn, h4⟩ n 0 w (by omega) h he (by rw [show ((0 : Nat) : Int) = 0 from rfl, endA_nat0, fin_some h0]; omega)
  rwa [List.drop_zero] at this

end Go.Proofs.YtcfcpbkeedfbpaaGreatDoor

namespace Go.Proofs.YtcfcpbkeedfbpaaGreatDoor
open Go.RowKit Go.Sort TermSpec EvalSpec ActSpec NamesSpec Go.Lib
set_option maxRecDepth 100000

theorem steps_length (e : Ev) (i : Nat) (v : Vr) {a : Ac} (ha : a.any = false) : ∀ l : List V4, (l.flatMap (stepsA e a i v)).length = l.length
  | [] => rfl
  | y :: r => by
    rw [List.flatMap_cons, List.length_append, steps_length e i v ha r]
    unfold stepsA
    rw [if_neg (by simp [ha])]
    simp
    omega
set_option maxHeartbeats 32000000 in
theorem rone_exprs (p : EP) (e : Ev) (a : Ac) (i : Nat) (v : Vr) (A : Option Addr) (n c : Nat) (N : Value) (w : World) (he : EnvIn w p e) (hv : varOf e a = some (i, v)) (hs : SmallA a) (ht : Tms w (.slice A n c) a.x) (ha : a.any = false) (hbad : badA e a = 0) (l : List V4) (hN : V4s w N l) (hl : l.length ≤ 64) :
    Calls Tryz.prog 45 #[.agg #[.string a.s, .bool a.any, .slice A n c], envV p e, N] w (RetVE w (stepA e a l)) := by
  obtain ⟨NA, Nn, Nc, rfl, hNn, hNc⟩ := hN.shape
  have HNN := Lib.hid hN
  have HNL := Lib.hid hNn
  obtain ⟨A', n', c', heq, hn, hnc⟩ := ht.shape
  cases heq
  have HT := Lib.hid ht
  have HCK := Lib.hid (fun w h h' => rechk_any p e A n c a.x hn (by have := hs.2.2; omega) hs.2.1 w h h')
  have HTY := Lib.hid (fun hw w h => rtyp_zero A n c a.x hn (by have := hs.2.2; omega) w h hw)
  have HW := Lib.hid (fun h => (chk_ok (chkE_ok (e := e) (l := a.x) h).2.1).1)
  have H4 : Hid (i < 4) := Lib.hid (by
    have h1 := get_lt (varOf_lt hv)
    have h2 : chkE e a.x = 0 := by
      rcases Decidable.em (chkE e a.x = 0) with h | h
      · exact h
      · exact absurd ((badA_chk hv ha h).symm.trans hbad) h
    have := (chkE_ok h2).1
    omega)
  have HB1 := Lib.hid (fun h => badA_chk hv ha h)
  have HB0 := Lib.hid (fun h => badA_typ hv ha h)
  have HATC := Lib.hid (fun (hc : chkE e a.x = 0) (y : V4) w h h' => rat_zero p (envAt e y) A n c a.x hn (by have := hs.2.2; omega) w h h' hc)
  have HST := Lib.hid (stepA_ok (l := l) hv hbad)
  obtain ⟨R, hR⟩ : ∃ R, R = stepA e a l := ⟨_, rfl⟩
  rw [← hR] at HST ⊢
  obtain ⟨r, hr⟩ : ∃ r, r = badA e a := ⟨_, rfl⟩
  rw [← hr] at HB1 HB0 hbad
  obtain ⟨q, hq⟩ : ∃ q, q = chkE e a.x := ⟨_, rfl⟩
  rw [← hq] at HCK HB1 HB0
  obtain ⟨t, ht2⟩ : ∃ t, t = typ a.x := ⟨_, rfl⟩
  rw [← ht2] at HTY HB0
  clear hr
  have HP := Lib.hid (fun w h => rvariable_any p e a.s w h)
  obtain ⟨hp, hvi⟩ := varOf_some hv
  rw [hp] at HP
  have HE := Lib.hid he
  have HVI := Lib.hid hvi
  have hin := get_lt hvi
  obtain ⟨s, any, x⟩ := a
  simp only at HP ha HT HCK HTY HW HATC hn hq ht2 ⊢
  clear hR
  subst ha
  obtain ⟨E, hE⟩ : ∃ E, E = e := ⟨_, rfl⟩
  rw [← hE] at HE HVI hin HST
  obtain ⟨vA, vn, vc, iA, im, ic⟩ := p
  have HVN : Hid (vn = E.vars.length) := Lib.hid (HE.out.vars.1)
  have hcap := HE.out.vars.cap
  simp only at hcap
  obtain ⟨vars, v0, v1, v2, v3, ins⟩ := e
  have HP' : Hid (∀ w, EnvIn w ⟨vA, vn, vc, iA, im, ic⟩ E → Calls Tryz.prog 80 #[.agg #[.slice vA vn vc, .int .i64 v0, .int .i64 v1, .int .i64 v2, .int .i64 v3, .slice iA im ic], .string s] w (RetI w i)) := Lib.hid (fun w h => by rw [hE] at h; exact HP.out w h)
  have HATE : Hid (chkE ⟨vars, v0, v1, v2, v3, ins⟩ x = 0 → ∀ y w, Tms w (.slice A n c) x → EnvIn w ⟨vA, vn, vc, iA, im, ic⟩ (envAt E y) → Calls Tryz.prog 84 #[.slice A n c, .int .i64 0, .agg #[.slice vA vn vc, .int .i64 y.a, .int .i64 y.b, .int .i64 y.c, .int .i64 y.d, .slice iA im ic]] w (RetI w (comeE (envAt E y) x))) := Lib.hid (fun hc y w h h' => by rw [hE] at h' ⊢; exact HATC.out hc y w h h')
  clear HATC
  have HCK' : Hid (∀ w, Tms w (.slice A n c) x → EnvIn w ⟨vA, vn, vc, iA, im, ic⟩ E → Calls Tryz.prog 81 #[.slice A n c, .agg #[.slice vA vn vc, .int .i64 v0, .int .i64 v1, .int .i64 v2, .int .i64 v3, .slice iA im ic]] w (RetI w q)) := Lib.hid (fun w h h' => by rw [hE] at h'; exact HCK.out w h h')
  clear hE HP HCK hv he hvi hp hs ht hn hnc ht2
  change Calls _ _ #[_, .agg #[.slice vA vn vc, .int .i64 v0, .int .i64 v1, .int .i64 v2, .int .i64 v3, .slice iA im ic], .slice NA Nn Nc] _ _
  go_enter Tryz.func45, Tryz.ntmps45
  go_wp2_with (go_at_call 80; (with_reducible refine (HP'.out _ (HE.out.keep (KitC.below_pair _ _ _))).mono ?_))
  rintro e2 w2 ⟨rfl, hb2⟩
  obtain ⟨B1, B2, hbb, hsz⟩ := KitC.pair_blocks hb2
  have HB2 := Lib.hid hbb
  obtain ⟨c0, c1, c2⟩ := cells_3 B1
  obtain ⟨z0, z1, z2, z3, z4, z5⟩ := cells_6 B2
  obtain ⟨b, off, rfl, hb, d0, d1, d2, d3⟩ := (HE.out.vars.keep hbb).at_ HVI.out
  have hiI : ¬ (i : Int) < 0 := by omega
  have hin' : (i : Int) < vn := by have := HVN.out; omega
  obtain ⟨vs, lo, hi, ini⟩ := v
  simp only at d0 d1 d2 d3
  obtain ⟨VO, hVO⟩ : ∃ VO, VO = Obj.cells #[.string vs, .int .i64 lo, .int .i64 hi, .int .i64 ini] 62 := ⟨_, rfl⟩
  have hbv := KitC.below_one w2 VO
  have B3 := heap_alloc_new w2 VO
  obtain ⟨y0, y1, y2⟩ := cells_3 (KitC.block_on B1 hbv)
  obtain ⟨x0, x1, x2, x3, x4, x5⟩ := cells_6 (KitC.block_on B2 hbv)
  rw [hVO] at y0 y1 y2 x0 x1 x2 x3 x4 x5 B3 hbv
  obtain ⟨u0, u1, u2, u3⟩ := cells_4 B3
  have HEV := Lib.hid (HE.out.keep (below_two' HB2.out hbv))
  have HTV := Lib.hid (HT.out.keep (below_two' HB2.out hbv))
  have HBV := Lib.hid (below_two' HB2.out hbv)
  obtain ⟨w3, hw3⟩ : ∃ w3, w2.alloc (Obj.cells #[.string vs, .int .i64 lo, .int .i64 hi, .int .i64 ini] 62) = w3 := ⟨_, rfl⟩
  have HW3 := Lib.hid hw3
  have HCALL := Lib.hid (HCK'.out _ HTV.out HEV.out)
  clear hb2 hbb hVO HVI HCK' hw3
  have hq0 : q = 0 := by
    rcases Decidable.em (q = 0) with h | h
    · exact h
    · exact absurd ((HB1.out h).symm.trans hbad) h
  have hty := HTY.out (HW.out (hq.symm.trans hq0))
  have HTYP := Lib.hid hty
  have hb0 := HB0.out hq0
  have ht1 : t = 1 := by
    rcases Decidable.em (t = 1) with h | h
    · exact h
    · rw [if_neg h] at hb0; omega
  have HAT : Hid (∀ y w, Tms w (.slice A n c) x → EnvIn w ⟨some ⟨b, off, none⟩, vn, vc, iA, im, ic⟩ (envAt E y) → Calls Tryz.prog 84 #[.slice A n c, .int .i64 0, .agg #[.slice (some ⟨b, off, none⟩) vn vc, .int .i64 y.a, .int .i64 y.b, .int .i64 y.c, .int .i64 y.d, .slice iA im ic]] w (RetI w (comeE (envAt E y) x))) := Lib.hid (fun y w h h' => HATE.out (hq.symm.trans hq0) y w h h')
  clear HATE
  have BB1 := Lib.hid (KitC.block_on B1 hbv)
  have BB2 := Lib.hid (KitC.block_on B2 hbv)
  have BB3 := Lib.hid B3
  clear hty hb0 HTY HW HB1 HB0 hq hbad B1 B2 B3
  subst hq0
  subst ht1
  go_wp2_with (go_at_call 81; (with_reducible refine HCALL.out.mono ?_))
  rintro e2 w4 ⟨rfl, hb4⟩
  have HB4 := Lib.hid (below_two' HBV.out hb4)
  obtain ⟨k0, k1, k2⟩ := cells_3 (KitC.block_on BB1.out hb4)
  have HT4 := Lib.hid (HTV.out.keep hb4)
  have HBW4 := Lib.hid hb4
  clear hb4
  go_wp2_with (go_at_call 82; (with_reducible refine (HTYP.out _ HT4.out).mono ?_))
  rintro e2 w5 ⟨rfl, hb5⟩
  have HB5 := Lib.hid (below_two' HB4.out hb5)
  have HBW5 := Lib.hid (below_two' HBW4.out hb5)
  clear hb5
  go_wp2_with fail
  have HI4 : Hid (i = 0 ∨ i = 1 ∨ i = 2 ∨ i = 3) := Lib.hid (by have := H4.out; omega)
  have HSTART : Hid (OneRel w s false A n c ⟨some ⟨b, off, none⟩, vn, vc, iA, im, ic⟩ E ⟨s, false, x⟩ i ⟨vs, lo, hi, ini⟩ w2.heap.size l (.slice (some ⟨w5.heap.size, 0, none⟩) 0 0) (.int .i64 0) (w5.alloc (.cells #[] 51))) := Lib.hid (by
    have hb := below_two' HBW5.out (KitC.below_one w5 (.cells #[] 51))
    have h3 := KitC.block_on BB3.out hb
    exact ⟨⟨below_two' HB5.out (KitC.below_one _ _), KitC.block_on BB1.out hb, ⟨⟨v0, v1, v2, v3⟩, KitC.block_on BB2.out hb⟩, h3, by omega, (Array.getElem?_eq_some_iff.1 h3).1⟩, 0, Nat.zero_le _, rfl, (rowV_lit rfl).v4s, fun b off n c he h0 => by injection he with _ e2 _; omega⟩)
  go_loopw [11, 12, 13, 14, 15, 16] (fun out k _ _ _ _ wr => OneRel w s false A n c ⟨some ⟨b, off, none⟩, vn, vc, iA, im, ic⟩ E ⟨s, false, x⟩ i ⟨vs, lo, hi, ini⟩ w2.heap.size l out k wr) (fun _ k _ _ _ _ _ => l.length - (Go.RowKit.intOf k).toNat)
  case atStart => exact HSTART.out
  case round =>
    obtain ⟨hm, k, hk, rfl, hout, hbey⟩ := hrel
    have HM := Lib.hid hm
    obtain ⟨oA, on, oc, rfl, hon, honc⟩ := hout.shape
    have hob : on ≤ 1048576 := by
      have h1 := allV_length ((l.take k).flatMap (stepsA E ⟨s, false, x⟩ i ⟨vs, lo, hi, ini⟩)) []
      have h2 := steps_length E i ⟨vs, lo, hi, ini⟩ (a := ⟨s, false, x⟩) rfl (l.take k)
      have h3 := List.length_take_le k l
      rw [h2] at h1
      simp only [List.length_nil] at h1
      omega
    have HON := Lib.hid (And.intro hon hob)
    clear hon hob
    have HOUT := Lib.hid hout
    have HBEY := Lib.hid hbey
    by_cases hlt : k < Nn
    · obtain ⟨y', hy⟩ : ∃ y', l[k]? = some y' := get_some (by have := HNL.out; omega)
      obtain ⟨bn, offn, rfl, hbn, e0, e1, e2, e3⟩ := (HNN.out.keep HM.out.below).at_ hy
      have hkI : (k : Int) < Nn := by omega
      have HY := Lib.hid hy
      have HM2 := Lib.hid (hm.set y')
      have hm2 := hm.set y'
      obtain ⟨hbl, hact, ⟨y, henv⟩, hvar, hbd, hth⟩ := hm
      obtain ⟨f0, f1, f2, f3, f4, f5⟩ := free_6 henv
      obtain ⟨m0, m1, m2, m3, m4, m5⟩ := cells_6 henv
      obtain ⟨a0, a1, a2⟩ := cells_3 hm2.act
      obtain ⟨n0, n1, n2, n3, n4, n5⟩ := cells_6 (st4_block (x := y') henv)
      have henvs := st4_block (x := y') henv
      obtain ⟨S, hS⟩ : ∃ S, st4 wr (w.heap.size + 1) y' = S := ⟨_, rfl⟩
      have HSS := Lib.hid hS
      have HA : Hid (Calls Tryz.prog 84 #[.slice A n c, .int .i64 0, .agg #[.slice (some ⟨b, off, none⟩) vn vc, .int .i64 y'.a, .int .i64 y'.b, .int .i64 y'.c, .int .i64 y'.d, .slice iA im ic]] (st4 wr (w.heap.size + 1) y') (RetI (st4 wr (w.heap.size + 1) y') (comeE (envAt E y') x))) := Lib.hid (HAT.out y' _ (HT.out.keep HM2.out.below) (envIn_at (HE.out.keep HM2.out.below) y'))
      have hout2 := (HOUT.out.but HBEY.out HM.out.beyond (st4_but wr (w.heap.size + 1) y'))
      rw [hS] at hout2
      have HOUT2 := Lib.hid hout2
      clear hout2
      unfold st4 at a0 a1 a2 n0 n1 n2 n3 n4 n5
      rw [hS] at HM2 HA henvs
      have HENVS := Lib.hid henvs
      unfold st4 at HSS
      clear hm2 henvs hbl hact henv hvar hbd hth hout hbey hy hS
      go_wp2_with (rw [HSS.out]; go_at_call 84; (with_reducible refine HA.out.mono ?_))
      rintro e2 w6 ⟨rfl, hb6⟩
      have HM6 := Lib.hid (HM2.out.on hb6)
      obtain ⟨hbl, hact, ⟨yy, henv⟩, hvar, hbd, hth⟩ := HM2.out.on hb6
      have henv6 := KitC.block_on (HENVS.out) hb6
      obtain ⟨a0, a1, a2⟩ := cells_3 hact
      obtain ⟨n0, n1, n2, n3, n4, n5⟩ := cells_6 henv6
      obtain ⟨v0', v1', v2', v3'⟩ := cells_4 hvar
      have ra0 := cell_regrown a0
      have ra1 := cell_regrown a1
      have ra2 := cell_regrown a2
      have rn0 := cell_regrown n0
      have rn1 := cell_regrown n1
      have rn2 := cell_regrown n2
      have rn3 := cell_regrown n3
      have rn4 := cell_regrown n4
      have rn5 := cell_regrown n5
      have rv0 := cell_regrown v0'
      have rv1 := cell_regrown v1'
      have rv2 := cell_regrown v2'
      have rv3 := cell_regrown v3'
      have HA2 : Hid (∀ d os, Calls Tryz.prog 84 #[.slice A n c, .int .i64 0, .agg #[.slice (some ⟨b, off, none⟩) vn vc, .int .i64 y'.a, .int .i64 y'.b, .int .i64 y'.c, .int .i64 y'.d, .slice iA im ic]] (grow (redrawn w6 d) os) fun e w'' => e = .returned (.int .i64 (comeE (envAt E y') x)) ∧ ∃ p : Regrown, w'' = grow (redrawn w6 p.d) p.os) :=
        Lib.hid (fun d os => Calls.regrown_of (HAT.out y' _ (HT.out.keep (below_two' HM6.out.below (below_regrown w6 d os))) (envIn_at (HE.out.keep (below_two' HM6.out.below (below_regrown w6 d os))) y')))
      have HSTEP := Lib.hid (steps_next (e := E) (a := ⟨s, false, x⟩) (i := i) (v := ⟨vs, lo, hi, ini⟩) HY.out rfl)
      simp only at HSTEP
      obtain ⟨q, hq⟩ : ∃ q, q = comeE (envAt E y') x := ⟨_, rfl⟩
      rw [← hq] at HA2 HSTEP ⊢
      have HOUT6 := Lib.hid (HOUT2.out.keep hb6)
      clear hbl hact henv henv6 hvar hbd hth hb6 hq HA HOUT2
      by_cases hqlo : q < lo
      · by_cases hqhi : hi < q
        · have CLP : Hid ((if q < lo then lo else if hi < q then hi else q) = lo) := Lib.hid (by rw [if_pos hqlo])
          have gl : decide (q < lo) = true := by simp; omega
          have gh : decide (hi < q) = true := by simp; omega
          go_wp2_with fail
          refine wp_region_quiet_below (by kernel_rfl) (by kernel_rfl) ?_
          repeat (go_big_quiet_step (exact HA2.out _ _))
          refine wpQuiet_nil ?_
          intro _ hw'
          obtain ⟨⟨dq, osq⟩, hw''⟩ := hw'
          subst hw''
          simp only
          have hb7 := below_regrown w6 dq osq
          obtain ⟨W7, hW7⟩ : ∃ W7, grow (redrawn w6 dq) osq = W7 := ⟨_, rfl⟩
          rw [hW7] at hb7 ⊢
          have HM7 := Lib.hid (HM6.out.on hb7)
          obtain ⟨bn', offn', heq, hbn', g0, g1, g2, g3⟩ := (HNN.out.keep HM7.out.below).at_ HY.out
          cases heq
          obtain ⟨r0, r1, r2, r3⟩ := cells_4 HM7.out.var
          clear e0 e1 e2 e3 ra0 ra1 ra2 rn0 rn1 rn2 rn3 rn4 rn5 rv0 rv1 rv2 rv3 a0 a1 a2 n0 n1 n2 n3 n4 n5 v0' v1' v2' v3' f0 f1 f2 f3 f4 f5 m0 m1 m2 m3 m4 m5
          have HWITH : Hid (∀ u W, Below W7.heap.size W7 W → Calls Tryz.prog 83 #[.slice oA on oc, v4A u] W (RetV W (.slice oA on oc) (withV (allV [] ((l.take k).flatMap (stepsA E ⟨s, false, x⟩ i ⟨vs, lo, hi, ini⟩))) u))) := Lib.hid (fun u W hb => rwith_any oA on oc _ u W ((HOUT6.out.keep hb7).keep hb) HON.out.1 HON.out.2)
          clear hb7 hW7
          rcases HI4.out with rfl | rfl | rfl | rfl
          · go_wp2_with (go_at_call 83; (with_reducible refine (HWITH.out ⟨lo, y'.b, y'.c, y'.d⟩ _ (KitC.below_one _ _)).mono ?_))
            rintro e2 w8 ⟨v8, rfl, hv8, hb8, hbey8⟩
            have HM8 := Lib.hid (HM7.out.on (below_two' (KitC.below_one _ _) hb8))
            have HV8 := Lib.hid hv8
            have HE8 := Lib.hid (hbey8 w2.heap.size (by rw [World.size_alloc]; have := HM7.out.there; omega) HBEY.out)
            clear hv8 hb8 hbey8
            go_wp2_with fail
            go_roundw
            case rel => ((repeat apply Exists.intro); exact ⟨⟨HM8.out, k + 1, by have := HNL.out; omega, by go_num, by rw [HSTEP.out, CLP.out]; exact HV8.out, HE8.out⟩, rfl⟩)
            case measure => have := HNL.out; simp [Go.RowKit.intOf]; omega
          · go_wp2_with (go_at_call 83; (with_reducible refine (HWITH.out ⟨y'.a, lo, y'.c, y'.d⟩ _ (KitC.below_one _ _)).mono ?_))
            rintro e2 w8 ⟨v8, rfl, hv8, hb8, hbey8⟩
            have HM8 := Lib.hid (HM7.out.on (below_two' (KitC.below_one _ _) hb8))
            have HV8 := Lib.hid hv8
            have HE8 := Lib.hid (hbey8 w2.heap.size (by rw [World.size_alloc]; have := HM7.out.there; omega) HBEY.out)
            clear hv8 hb8 hbey8
            go_wp2_with fail
            go_roundw
            case rel => ((repeat apply Exists.intro); exact ⟨⟨HM8.out, k + 1, by have := HNL.out; omega, by go_num, by rw [HSTEP.out, CLP.out]; exact HV8.out, HE8.out⟩, rfl⟩)
            case measure => have := HNL.out; simp [Go.RowKit.intOf]; omega
          · go_wp2_with (go_at_call 83; (with_reducible refine (HWITH.out ⟨y'.a, y'.b, lo, y'.d⟩ _ (KitC.below_one _ _)).mono ?_))
            rintro e2 w8 ⟨v8, rfl, hv8, hb8, hbey8⟩
            have HM8 := Lib.hid (HM7.out.on (below_two' (KitC.below_one _ _) hb8))
            have HV8 := Lib.hid hv8
            have HE8 := Lib.hid (hbey8 w2.heap.size (by rw [World.size_alloc]; have := HM7.out.there; omega) HBEY.out)
            clear hv8 hb8 hbey8
            go_wp2_with fail
            go_roundw
            case rel => ((repeat apply Exists.intro); exact ⟨⟨HM8.out, k + 1, by have := HNL.out; omega, by go_num, by rw [HSTEP.out, CLP.out]; exact HV8.out, HE8.out⟩, rfl⟩)
            case measure => have := HNL.out; simp [Go.RowKit.intOf]; omega
          · go_wp2_with (go_at_call 83; (with_reducible refine (HWITH.out ⟨y'.a, y'.b, y'.c, lo⟩ _ (KitC.below_one _ _)).mono ?_))
            rintro e2 w8 ⟨v8, rfl, hv8, hb8, hbey8⟩
            have HM8 := Lib.hid (HM7.out.on (below_two' (KitC.below_one _ _) hb8))
            have HV8 := Lib.hid hv8
            have HE8 := Lib.hid (hbey8 w2.heap.size (by rw [World.size_alloc]; have := HM7.out.there; omega) HBEY.out)
            clear hv8 hb8 hbey8
            go_wp2_with fail
            go_roundw
            case rel => ((repeat apply Exists.intro); exact ⟨⟨HM8.out, k + 1, by have := HNL.out; omega, by go_num, by rw [HSTEP.out, CLP.out]; exact HV8.out, HE8.out⟩, rfl⟩)
            case measure => have := HNL.out; simp [Go.RowKit.intOf]; omega
        · have CLP : Hid ((if q < lo then lo else if hi < q then hi else q) = lo) := Lib.hid (by rw [if_pos hqlo])
          have gl : decide (q < lo) = true := by simp; omega
          have gh : decide (hi < q) = false := by simp; omega
          go_wp2_with fail
          refine wp_region_quiet_below (by kernel_rfl) (by kernel_rfl) ?_
          repeat (go_big_quiet_step (exact HA2.out _ _))
          refine wpQuiet_nil ?_
          intro _ hw'
          obtain ⟨⟨dq, osq⟩, hw''⟩ := hw'
          subst hw''
          simp only
          have hb7 := below_regrown w6 dq osq
          obtain ⟨W7, hW7⟩ : ∃ W7, grow (redrawn w6 dq) osq = W7 := ⟨_, rfl⟩
          rw [hW7] at hb7 ⊢
          have HM7 := Lib.hid (HM6.out.on hb7)
          obtain ⟨bn', offn', heq, hbn', g0, g1, g2, g3⟩ := (HNN.out.keep HM7.out.below).at_ HY.out
          cases heq
          obtain ⟨r0, r1, r2, r3⟩ := cells_4 HM7.out.var
          clear e0 e1 e2 e3 ra0 ra1 ra2 rn0 rn1 rn2 rn3 rn4 rn5 rv0 rv1 rv2 rv3 a0 a1 a2 n0 n1 n2 n3 n4 n5 v0' v1' v2' v3' f0 f1 f2 f3 f4 f5 m0 m1 m2 m3 m4 m5
          have HWITH : Hid (∀ u W, Below W7.heap.size W7 W → Calls Tryz.prog 83 #[.slice oA on oc, v4A u] W (RetV W (.slice oA on oc) (withV (allV [] ((l.take k).flatMap (stepsA E ⟨s, false, x⟩ i ⟨vs, lo, hi, ini⟩))) u))) := Lib.hid (fun u W hb => rwith_any oA on oc _ u W ((HOUT6.out.keep hb7).keep hb) HON.out.1 HON.out.2)
          clear hb7 hW7
          rcases HI4.out with rfl | rfl | rfl | rfl
          · go_wp2_with (go_at_call 83; (with_reducible refine (HWITH.out ⟨lo, y'.b, y'.c, y'.d⟩ _ (KitC.below_one _ _)).mono ?_))
            rintro e2 w8 ⟨v8, rfl, hv8, hb8, hbey8⟩
            have HM8 := Lib.hid (HM7.out.on (below_two' (KitC.below_one _ _) hb8))
            have HV8 := Lib.hid hv8
            have HE8 := Lib.hid (hbey8 w2.heap.size (by rw [World.size_alloc]; have := HM7.out.there; omega) HBEY.out)
            clear hv8 hb8 hbey8
            go_wp2_with fail
            go_roundw
            case rel => ((repeat apply Exists.intro); exact ⟨⟨HM8.out, k + 1, by have := HNL.out; omega, by go_num, by rw [HSTEP.out, CLP.out]; exact HV8.out, HE8.out⟩, rfl⟩)
            case measure => have := HNL.out; simp [Go.RowKit.intOf]; omega
          · go_wp2_with (go_at_call 83; (with_reducible refine (HWITH.out ⟨y'.a, lo, y'.c, y'.d⟩ _ (KitC.below_one _ _)).mono ?_))
            rintro e2 w8 ⟨v8, rfl, hv8, hb8, hbey8⟩
            have HM8 := Lib.hid (HM7.out.on (below_two' (KitC.below_one _ _) hb8))
            have HV8 := Lib.hid hv8
            have HE8 := Lib.hid (hbey8 w2.heap.size (by rw [World.size_alloc]; have := HM7.out.there; omega) HBEY.out)
            clear hv8 hb8 hbey8
            go_wp2_with fail
            go_roundw
            case rel => ((repeat apply Exists.intro); exact ⟨⟨HM8.out, k + 1, by have := HNL.out; omega, by go_num, by rw [HSTEP.out, CLP.out]; exact HV8.out, HE8.out⟩, rfl⟩)
            case measure => have := HNL.out; simp [Go.RowKit.intOf]; omega
          · go_wp2_with (go_at_call 83; (with_reducible refine (HWITH.out ⟨y'.a, y'.b, lo, y'.d⟩ _ (KitC.below_one _ _)).mono ?_))
            rintro e2 w8 ⟨v8, rfl, hv8, hb8, hbey8⟩
            have HM8 := Lib.hid (HM7.out.on (below_two' (KitC.below_one _ _) hb8))
            have HV8 := Lib.hid hv8
            have HE8 := Lib.hid (hbey8 w2.heap.size (by rw [World.size_alloc]; have := HM7.out.there; omega) HBEY.out)
            clear hv8 hb8 hbey8
            go_wp2_with fail
            go_roundw
            case rel => ((repeat apply Exists.intro); exact ⟨⟨HM8.out, k + 1, by have := HNL.out; omega, by go_num, by rw [HSTEP.out, CLP.out]; exact HV8.out, HE8.out⟩, rfl⟩)
            case measure => have := HNL.out; simp [Go.RowKit.intOf]; omega
          · go_wp2_with (go_at_call 83; (with_reducible refine (HWITH.out ⟨y'.a, y'.b, y'.c, lo⟩ _ (KitC.below_one _ _)).mono ?_))
            rintro e2 w8 ⟨v8, rfl, hv8, hb8, hbey8⟩
            have HM8 := Lib.hid (HM7.out.on (below_two' (KitC.below_one _ _) hb8))
            have HV8 := Lib.hid hv8
            have HE8 := Lib.hid (hbey8 w2.heap.size (by rw [World.size_alloc]; have := HM7.out.there; omega) HBEY.out)
            clear hv8 hb8 hbey8
            go_wp2_with fail
            go_roundw
            case rel => ((repeat apply Exists.intro); exact ⟨⟨HM8.out, k + 1, by have := HNL.out; omega, by go_num, by rw [HSTEP.out, CLP.out]; exact HV8.out, HE8.out⟩, rfl⟩)
            case measure => have := HNL.out; simp [Go.RowKit.intOf]; omega
      · by_cases hqhi : hi < q
        · have CLP : Hid ((if q < lo then lo else if hi < q then hi else q) = hi) := Lib.hid (by rw [if_neg hqlo, if_pos hqhi])
          have gl : decide (q < lo) = false := by simp; omega
          have gh : decide (hi < q) = true := by simp; omega
          go_wp2_with fail
          refine wp_region_quiet_below (by kernel_rfl) (by kernel_rfl) ?_
          repeat (go_big_quiet_step (exact HA2.out _ _))
          refine wpQuiet_nil ?_
          intro _ hw'
          obtain ⟨⟨dq, osq⟩, hw''⟩ := hw'
          subst hw''
          simp only
          have hb7 := below_regrown w6 dq osq
          obtain ⟨W7, hW7⟩ : ∃ W7, grow (redrawn w6 dq) osq = W7 := ⟨_, rfl⟩
          rw [hW7] at hb7 ⊢
          have HM7 := Lib.hid (HM6.out.on hb7)
          obtain ⟨bn', offn', heq, hbn', g0, g1, g2, g3⟩ := (HNN.out.keep HM7.out.below).at_ HY.out
          cases heq
          obtain ⟨r0, r1, r2, r3⟩ := cells_4 HM7.out.var
          clear e0 e1 e2 e3 ra0 ra1 ra2 rn0 rn1 rn2 rn3 rn4 rn5 rv0 rv1 rv2 rv3 a0 a1 a2 n0 n1 n2 n3 n4 n5 v0' v1' v2' v3' f0 f1 f2 f3 f4 f5 m0 m1 m2 m3 m4 m5
          have HWITH : Hid (∀ u W, Below W7.heap.size W7 W → Calls Tryz.prog 83 #[.slice oA on oc, v4A u] W (RetV W (.slice oA on oc) (withV (allV [] ((l.take k).flatMap (stepsA E ⟨s, false, x⟩ i ⟨vs, lo, hi, ini⟩))) u))) := Lib.hid (fun u W hb => rwith_any oA on oc _ u W ((HOUT6.out.keep hb7).keep hb) HON.out.1 HON.out.2)
          clear hb7 hW7
          rcases HI4.out with rfl | rfl | rfl | rfl
          · go_wp2_with (go_at_call 83; (with_reducible refine (HWITH.out ⟨hi, y'.b, y'.c, y'.d⟩ _ (KitC.below_one _ _)).mono ?_))
            rintro e2 w8 ⟨v8, rfl, hv8, hb8, hbey8⟩
            have HM8 := Lib.hid (HM7.out.on (below_two' (KitC.below_one _ _) hb8))
            have HV8 := Lib.hid hv8
            have HE8 := Lib.hid (hbey8 w2.heap.size (by rw [World.size_alloc]; have := HM7.out.there; omega) HBEY.out)
            clear hv8 hb8 hbey8
            go_wp2_with fail
            go_roundw
            case rel => ((repeat apply Exists.intro); exact ⟨⟨HM8.out, k + 1, by have := HNL.out; omega, by go_num, by rw [HSTEP.out, CLP.out]; exact HV8.out, HE8.out⟩, rfl⟩)
            case measure => have := HNL.out; simp [Go.RowKit.intOf]; omega
          · go_wp2_with (go_at_call 83; (with_reducible refine (HWITH.out ⟨y'.a, hi, y'.c, y'.d⟩ _ (KitC.below_one _ _)).mono ?_))
            rintro e2 w8 ⟨v8, rfl, hv8, hb8, hbey8⟩
            have HM8 := Lib.hid (HM7.out.on (below_two' (KitC.below_one _ _) hb8))
            have HV8 := Lib.hid hv8
            have HE8 := Lib.hid (hbey8 w2.heap.size (by rw [World.size_alloc]; have := HM7.out.there; omega) HBEY.out)
            clear hv8 hb8 hbey8
            go_wp2_with fail
            go_roundw
            case rel => ((repeat apply Exists.intro); exact ⟨⟨HM8.out, k + 1, by have := HNL.out; omega, by go_num, by rw [HSTEP.out, CLP.out]; exact HV8.out, HE8.out⟩, rfl⟩)
            case measure => have := HNL.out; simp [Go.RowKit.intOf]; omega
          · go_wp2_with (go_at_call 83; (with_reducible refine (HWITH.out ⟨y'.a, y'.b, hi, y'.d⟩ _ (KitC.below_one _ _)).mono ?_))
            rintro e2 w8 ⟨v8, rfl, hv8, hb8, hbey8⟩
            have HM8 := Lib.hid (HM7.out.on (below_two' (KitC.below_one _ _) hb8))
            have HV8 := Lib.hid hv8
            have HE8 := Lib.hid (hbey8 w2.heap.size (by rw [World.size_alloc]; have := HM7.out.there; omega) HBEY.out)
            clear hv8 hb8 hbey8
            go_wp2_with fail
            go_roundw
            case rel => ((repeat apply Exists.intro); exact ⟨⟨HM8.out, k + 1, by have := HNL.out; omega, by go_num, by rw [HSTEP.out, CLP.out]; exact HV8.out, HE8.out⟩, rfl⟩)
            case measure => have := HNL.out; simp [Go.RowKit.intOf]; omega
          · go_wp2_with (go_at_call 83; (with_reducible refine (HWITH.out ⟨y'.a, y'.b, y'.c, hi⟩ _ (KitC.below_one _ _)).mono ?_))
            rintro e2 w8 ⟨v8, rfl, hv8, hb8, hbey8⟩
            have HM8 := Lib.hid (HM7.out.on (below_two' (KitC.below_one _ _) hb8))
            have HV8 := Lib.hid hv8
            have HE8 := Lib.hid (hbey8 w2.heap.size (by rw [World.size_alloc]; have := HM7.out.there; omega) HBEY.out)
            clear hv8 hb8 hbey8
            go_wp2_with fail
            go_roundw
            case rel => ((repeat apply Exists.intro); exact ⟨⟨HM8.out, k + 1, by have := HNL.out; omega, by go_num, by rw [HSTEP.out, CLP.out]; exact HV8.out, HE8.out⟩, rfl⟩)
            case measure => have := HNL.out; simp [Go.RowKit.intOf]; omega
        · have CLP : Hid ((if q < lo then lo else if hi < q then hi else q) = q) := Lib.hid (by rw [if_neg hqlo, if_neg hqhi])
          have gl : decide (q < lo) = false := by simp; omega
          have gh : decide (hi < q) = false := by simp; omega
          go_wp2_with fail
          refine wp_region_quiet_below (by kernel_rfl) (by kernel_rfl) ?_
          repeat (go_big_quiet_step (exact HA2.out _ _))
          refine wpQuiet_nil ?_
          intro _ hw'
          obtain ⟨⟨dq, osq⟩, hw''⟩ := hw'
          subst hw''
          simp only
          have hb7 := below_regrown w6 dq osq
          obtain ⟨W7, hW7⟩ : ∃ W7, grow (redrawn w6 dq) osq = W7 := ⟨_, rfl⟩
          rw [hW7] at hb7 ⊢
          have HM7 := Lib.hid (HM6.out.on hb7)
          obtain ⟨bn', offn', heq, hbn', g0, g1, g2, g3⟩ := (HNN.out.keep HM7.out.below).at_ HY.out
          cases heq
          obtain ⟨r0, r1, r2, r3⟩ := cells_4 HM7.out.var
          clear e0 e1 e2 e3 ra0 ra1 ra2 rn0 rn1 rn2 rn3 rn4 rn5 rv0 rv1 rv2 rv3 a0 a1 a2 n0 n1 n2 n3 n4 n5 v0' v1' v2' v3' f0 f1 f2 f3 f4 f5 m0 m1 m2 m3 m4 m5
          have HWITH : Hid (∀ u W, Below W7.heap.size W7 W → Calls Tryz.prog 83 #[.slice oA on oc, v4A u] W (RetV W (.slice oA on oc) (withV (allV [] ((l.take k).flatMap (stepsA E ⟨s, false, x⟩ i ⟨vs, lo, hi, ini⟩))) u))) := Lib.hid (fun u W hb => rwith_any oA on oc _ u W ((HOUT6.out.keep hb7).keep hb) HON.out.1 HON.out.2)
          clear hb7 hW7
          rcases HI4.out with rfl | rfl | rfl | rfl
          · go_wp2_with (go_at_call 83; (with_reducible refine (HWITH.out ⟨q, y'.b, y'.c, y'.d⟩ _ (KitC.below_one _ _)).mono ?_))
            rintro e2 w8 ⟨v8, rfl, hv8, hb8, hbey8⟩
            have HM8 := Lib.hid (HM7.out.on (below_two' (KitC.below_one _ _) hb8))
            have HV8 := Lib.hid hv8
            have HE8 := Lib.hid (hbey8 w2.heap.size (by rw [World.size_alloc]; have := HM7.out.there; omega) HBEY.out)
            clear hv8 hb8 hbey8
            go_wp2_with fail
            go_roundw
            case rel => ((repeat apply Exists.intro); exact ⟨⟨HM8.out, k + 1, by have := HNL.out; omega, by go_num, by rw [HSTEP.out, CLP.out]; exact HV8.out, HE8.out⟩, rfl⟩)
            case measure => have := HNL.out; simp [Go.RowKit.intOf]; omega
          · go_wp2_with (go_at_call 83; (with_reducible refine (HWITH.out ⟨y'.a, q, y'.c, y'.d⟩ _ (KitC.below_one _ _)).mono ?_))
            rintro e2 w8 ⟨v8, rfl, hv8, hb8, hbey8⟩
            have HM8 := Lib.hid (HM7.out.on (below_two' (KitC.below_one _ _) hb8))
            have HV8 := Lib.hid hv8
            have HE8 := Lib.hid (hbey8 w2.heap.size (by rw [World.size_alloc]; have := HM7.out.there; omega) HBEY.out)
            clear hv8 hb8 hbey8
            go_wp2_with fail
            go_roundw
            case rel => ((repeat apply Exists.intro); exact ⟨⟨HM8.out, k + 1, by have := HNL.out; omega, by go_num, by rw [HSTEP.out, CLP.out]; exact HV8.out, HE8.out⟩, rfl⟩)
            case measure => have := HNL.out; simp [Go.RowKit.intOf]; omega
          · go_wp2_with (go_at_call 83; (with_reducible refine (HWITH.out ⟨y'.a, y'.b, q, y'.d⟩ _ (KitC.below_one _ _)).mono ?_))
            rintro e2 w8 ⟨v8, rfl, hv8, hb8, hbey8⟩
            have HM8 := Lib.hid (HM7.out.on (below_two' (KitC.below_one _ _) hb8))
            have HV8 := Lib.hid hv8
            have HE8 := Lib.hid (hbey8 w2.heap.size (by rw [World.size_alloc]; have := HM7.out.there; omega) HBEY.out)
            clear hv8 hb8 hbey8
            go_wp2_with fail
            go_roundw
            case rel => ((repeat apply Exists.intro); exact ⟨⟨HM8.out, k + 1, by have := HNL.out; omega, by go_num, by rw [HSTEP.out, CLP.out]; exact HV8.out, HE8.out⟩, rfl⟩)
            case measure => have := HNL.out; simp [Go.RowKit.intOf]; omega
          · go_wp2_with (go_at_call 83; (with_reducible refine (HWITH.out ⟨y'.a, y'.b, y'.c, q⟩ _ (KitC.below_one _ _)).mono ?_))
            rintro e2 w8 ⟨v8, rfl, hv8, hb8, hbey8⟩
            have HM8 := Lib.hid (HM7.out.on (below_two' (KitC.below_one _ _) hb8))
            have HV8 := Lib.hid hv8
            have HE8 := Lib.hid (hbey8 w2.heap.size (by rw [World.size_alloc]; have := HM7.out.there; omega) HBEY.out)
            clear hv8 hb8 hbey8
            go_wp2_with fail
            go_roundw
            case rel => ((repeat apply Exists.intro); exact ⟨⟨HM8.out, k + 1, by have := HNL.out; omega, by go_num, by rw [HSTEP.out, CLP.out]; exact HV8.out, HE8.out⟩, rfl⟩)
            case measure => have := HNL.out; simp [Go.RowKit.intOf]; omega
    · have hkI : ¬ (k : Int) < Nn := by omega
      have hall : l.take k = l := List.take_of_length_le (by have := HNL.out; omega)
      have HOUTA := HOUT.out
      rw [hall] at HOUTA HON
      have HOA := Lib.hid HOUTA
      have HLEN := Lib.hid HON.out.1
      have HBL := Lib.hid HM.out.below
      clear hall HOUTA hout hbey hm
      by_cases h64 : 64 < on
      · have HR2 : Hid (R = (12, [])) := Lib.hid (by rw [HST.out, if_pos (by rw [← HLEN.out]; exact h64)])
        have g64 : (64 : Int) < on := by omega
        go_wp2_with fail
        refine bodyPost_ret (v := .tuple #[.slice none 0 0, .int .i64 12]) (by simp [results, Tryz.results45, go_sem]) rfl ⟨_, by rw [HR2.out], by rw [HR2.out]; exact v4s_nil _, HBL.out⟩
      · have HR2 : Hid (R = (0, allV [] (l.flatMap (stepsA E ⟨s, false, x⟩ i ⟨vs, lo, hi, ini⟩)))) := Lib.hid (by rw [HST.out, if_neg (by rw [← HLEN.out]; exact h64)])
        have g64 : ¬ (64 : Int) < on := by omega
        go_wp2_with fail
        refine bodyPost_ret (v := .tuple #[.slice oA on oc, .int .i64 0]) (by simp [results, Tryz.results45, go_sem]) rfl ⟨_, by rw [HR2.out], by rw [HR2.out]; exact HOA.out, HBL.out⟩
end Go.Proofs.YtcfcpbkeedfbpaaGreatDoor

namespace Go.Proofs.YtcfcpbkeedfbpaaGreatDoor
open Go.RowKit Go.Sort TermSpec EvalSpec ActSpec NamesSpec Go.Lib
set_option maxRecDepth 100000

theorem allV_app (l xs ys : List V4) : allV l (xs ++ ys) = allV (allV l xs) ys := by unfold allV; rw [List.foldl_append]
theorem steps_any {e : Ev} {a : Ac} {i : Nat} {v : Vr} {y : V4} (ha : a.any = true) : stepsA e a i v y = (List.range ((v.hi - v.lo + 1).toNat)).map fun (k : Nat) => y.set i (v.lo + k) := by unfold stepsA; rw [if_pos ha]
def AnyRel (w0 : World) (s : ByteArray) (any : Bool) (A : Option Addr) (n c : Nat) (p : EP) (v : Vr) (vb : Nat) (B0 : List V4) (y : V4) (i M : Nat) (out k : Value) (wr : World) : Prop :=
  OneMem w0 s any A n c p v vb wr ∧ ∃ m : Nat, m ≤ M ∧ k = .int .i64 m ∧ V4s wr out (allV B0 ((List.range m).map fun (q : Nat) => y.set i (v.lo + q))) ∧ Beyond vb out
theorem any_next (B0 : List V4) (y : V4) (i : Nat) (lo : Int) (m : Nat) : allV B0 ((List.range (m + 1)).map fun (q : Nat) => y.set i (lo + q)) = withV (allV B0 ((List.range m).map fun (q : Nat) => y.set i (lo + q))) (y.set i (lo + m)) := by
  rw [List.range_succ, List.map_append]
  exact allV_snoc _ _ _
set_option maxRecDepth 100000 in
set_option maxHeartbeats 16000000 in
theorem rone_anys (p : EP) (e : Ev) (a : Ac) (i : Nat) (v : Vr) (A : Option Addr) (n c : Nat) (N : Value) (w : World) (he : EnvIn w p e) (hv : varOf e a = some (i, v)) (hf : VFit v) (hsp : spanB v = true) (ha : a.any = true) (hi4 : i < 4) (l : List V4) (hN : V4s w N l) (hl : l.length ≤ 64) :
    Calls Tryz.prog 45 #[.agg #[.string a.s, .bool a.any, .slice A n c], envV p e, N] w (RetVE w (stepA e a l)) := by
  obtain ⟨NA, Nn, Nc, rfl, hNn, hNc⟩ := hN.shape
  have HNN := Lib.hid hN
  have HNL := Lib.hid hNn
  have HST := Lib.hid (stepA_ok (l := l) hv (by rw [badA_any hv ha, if_pos hsp]))
  obtain ⟨R, hR⟩ : ∃ R, R = stepA e a l := ⟨_, rfl⟩
  rw [← hR] at HST ⊢
  have HI4 : Hid (i = 0 ∨ i = 1 ∨ i = 2 ∨ i = 3) := Lib.hid (by omega)
  have HP := Lib.hid (fun w h => rvariable_any p e a.s w h)
  obtain ⟨hp, hvi⟩ := varOf_some hv
  rw [hp] at HP
  have HE := Lib.hid he
  have HVI := Lib.hid hvi
  have hin := get_lt hvi
  obtain ⟨s, any, x⟩ := a
  simp only at HP ha ⊢
  subst ha
  obtain ⟨E, hE⟩ : ∃ E, E = e := ⟨_, rfl⟩
  rw [← hE] at HE HVI hin HST
  obtain ⟨vA, vn, vc, iA, im, ic⟩ := p
  have HVN : Hid (vn = E.vars.length) := Lib.hid (HE.out.vars.1)
  have hcap := HE.out.vars.cap
  simp only at hcap
  obtain ⟨vars, v0, v1, v2, v3, ins⟩ := e
  have HP' : Hid (∀ w, EnvIn w ⟨vA, vn, vc, iA, im, ic⟩ E → Calls Tryz.prog 80 #[.agg #[.slice vA vn vc, .int .i64 v0, .int .i64 v1, .int .i64 v2, .int .i64 v3, .slice iA im ic], .string s] w (RetI w i)) := Lib.hid (fun w h => by rw [hE] at h; exact HP.out w h)
  clear hE HP hv he hvi hp hR hN hNn
  change Calls _ _ #[_, .agg #[.slice vA vn vc, .int .i64 v0, .int .i64 v1, .int .i64 v2, .int .i64 v3, .slice iA im ic], .slice NA Nn Nc] _ _
  go_enter Tryz.func45, Tryz.ntmps45
  go_wp2_with (go_at_call 80; (with_reducible refine (HP'.out _ (HE.out.keep (KitC.below_pair _ _ _))).mono ?_))
  rintro e2 w2 ⟨rfl, hb2⟩
  obtain ⟨B1, B2, hbb, hsz⟩ := KitC.pair_blocks hb2
  have HB2 := Lib.hid hbb
  obtain ⟨c0, c1, c2⟩ := cells_3 B1
  obtain ⟨z0, z1, z2, z3, z4, z5⟩ := cells_6 B2
  obtain ⟨b, off, rfl, hb, d0, d1, d2, d3⟩ := (HE.out.vars.keep hbb).at_ HVI.out
  have hiI : ¬ (i : Int) < 0 := by omega
  have hin' : (i : Int) < vn := by have := HVN.out; omega
  obtain ⟨vs, lo, hi, ini⟩ := v
  simp only at d0 d1 d2 d3
  obtain ⟨VO, hVO⟩ : ∃ VO, VO = Obj.cells #[.string vs, .int .i64 lo, .int .i64 hi, .int .i64 ini] 62 := ⟨_, rfl⟩
  have hbv := KitC.below_one w2 VO
  have B3 := heap_alloc_new w2 VO
  obtain ⟨y0, y1, y2⟩ := cells_3 (KitC.block_on B1 hbv)
  obtain ⟨x0, x1, x2, x3, x4, x5⟩ := cells_6 (KitC.block_on B2 hbv)
  rw [hVO] at y0 y1 y2 x0 x1 x2 x3 x4 x5 B3 hbv
  obtain ⟨u0, u1, u2, u3⟩ := cells_4 B3
  have HSP : Hid (spanB ⟨vs, lo, hi, ini⟩ = true) := Lib.hid hsp
  clear hb2 hbb hsp hVO HVI
  have hlo : lo ≤ hi := by
    have := HSP.out
    unfold spanB at this
    simp at this
    omega
  have hdf : hi - lo ≤ 63 := by
    have := HSP.out
    unfold spanB at this
    simp at this
    omega
  have hwr : IntKind.u64.wrap (IntKind.u64.wrap hi - IntKind.u64.wrap lo) = hi - lo := u64_span hf.1 hf.2.2.2 hlo
  have g0 : decide (hi < lo) = false := by simp; omega
  have g : decide (63 < IntKind.u64.wrap (IntKind.u64.wrap hi - IntKind.u64.wrap lo)) = false := by rw [hwr]; simp; omega
  have g2 : ¬ 63 < IntKind.u64.wrap (IntKind.u64.wrap hi - IntKind.u64.wrap lo) := by rw [hwr]; omega
  obtain ⟨f1, f2, f3, f4⟩ := hf
  simp only at f1 f2 f3 f4
  obtain ⟨M, hM⟩ : ∃ M, M = (hi - lo + 1).toNat := ⟨_, rfl⟩
  have HMM : Hid ((M : Int) = hi - lo + 1 ∧ M ≤ 64) := Lib.hid (by omega)
  have HMT : Hid (M = (hi - lo + 1).toNat) := Lib.hid hM
  have HEK := Lib.hid (HE.out.keep (below_two' HB2.out hbv))
  have BB1 := Lib.hid (KitC.block_on B1 hbv)
  have BB2 := Lib.hid (KitC.block_on B2 hbv)
  have BB3 := Lib.hid B3
  have HBV := Lib.hid (below_two' HB2.out hbv)
  obtain ⟨w3, hw3⟩ : ∃ w3, w2.alloc (Obj.cells #[.string vs, .int .i64 lo, .int .i64 hi, .int .i64 ini] 62) = w3 := ⟨_, rfl⟩
  rw [hw3] at BB1 BB2 BB3 HBV HEK
  have HW3 := Lib.hid hw3
  clear hwr hM B1 B2 B3 hbv hw3
  go_wp2_with fail
  have HSTART : Hid (OneRel w s true A n c ⟨some ⟨b, off, none⟩, vn, vc, iA, im, ic⟩ E ⟨s, true, x⟩ i ⟨vs, lo, hi, ini⟩ w2.heap.size l (.slice (some ⟨w3.heap.size, 0, none⟩) 0 0) (.int .i64 0) (w3.alloc (.cells #[] 51))) := Lib.hid (by
    have hb := KitC.below_one w3 (.cells #[] 51)
    have h3 := KitC.block_on BB3.out hb
    exact ⟨⟨below_two' HBV.out hb, KitC.block_on BB1.out hb, ⟨⟨v0, v1, v2, v3⟩, KitC.block_on BB2.out hb⟩, h3, by omega, (Array.getElem?_eq_some_iff.1 h3).1⟩, 0, Nat.zero_le _, rfl, (rowV_lit rfl).v4s, fun b off n c he h0 => by injection he with _ e2 _; omega⟩)
  rw [HW3.out]
  have hsz3 : w3.heap.size = w2.heap.size + 1 := by rw [← HW3.out]; simp
  rw [hsz3] at HSTART
  clear hsz3 y0 y1 y2 x0 x1 x2 x3 x4 x5 u0 u1 u2 u3 g0 g g2
  go_loopw [11, 12, 13, 14, 15, 16] (fun out k _ _ _ _ wr => OneRel w s true A n c ⟨some ⟨b, off, none⟩, vn, vc, iA, im, ic⟩ E ⟨s, true, x⟩ i ⟨vs, lo, hi, ini⟩ w2.heap.size l out k wr) (fun _ k _ _ _ _ _ => l.length - (Go.RowKit.intOf k).toNat)
  case atStart => exact HSTART.out
  case round =>
    obtain ⟨hm, k, hk, rfl, hout, hbey⟩ := hrel
    have HM := Lib.hid hm
    have HOUT := Lib.hid hout
    have HBEY := Lib.hid hbey
    by_cases hlt : k < Nn
    · obtain ⟨y, hy⟩ : ∃ y, l[k]? = some y := get_some (by have := HNL.out; omega)
      obtain ⟨bn, offn, rfl, hbn, e0, e1, e2, e3⟩ := (HNN.out.keep HM.out.below).at_ hy
      have hkI : (k : Int) < Nn := by omega
      have HY := Lib.hid hy
      have HM2 := Lib.hid (hm.set y)
      have hm2 := hm.set y
      obtain ⟨hbl, hact, ⟨yy, henv⟩, hvar, hbd, hth⟩ := hm
      obtain ⟨f0, f1', f2', f3', f4', f5⟩ := free_6 henv
      obtain ⟨m0, m1, m2, m3, m4, m5⟩ := cells_6 henv
      obtain ⟨a0, a1, a2⟩ := cells_3 hm2.act
      obtain ⟨S, hS⟩ : ∃ S, st4 wr (w.heap.size + 1) y = S := ⟨_, rfl⟩
      have HSS := Lib.hid hS
      have hout2 := (HOUT.out.but HBEY.out HM.out.beyond (st4_but wr (w.heap.size + 1) y))
      rw [hS] at hout2 HM2
      obtain ⟨B0, hB0⟩ : ∃ B0, B0 = allV [] ((l.take k).flatMap (stepsA E ⟨s, true, x⟩ i ⟨vs, lo, hi, ini⟩)) := ⟨_, rfl⟩
      rw [← hB0] at hout2
      have HB0 := Lib.hid hB0
      have HBL0 : Hid (B0.length ≤ 4096) := Lib.hid (by
        rw [hB0]
        have h1 := allV_length ((l.take k).flatMap (stepsA E ⟨s, true, x⟩ i ⟨vs, lo, hi, ini⟩)) []
        have h2 := flat_le (f := stepsA E ⟨s, true, x⟩ i ⟨vs, lo, hi, ini⟩) (m := 64) (fun y => by rw [steps_any rfl, List.length_map, List.length_range, ← HMT.out]; exact HMM.out.2) (l.take k)
        have h3 := List.length_take_le k l
        simp only [List.length_nil] at h1
        omega)
      have HA0 : Hid (AnyRel w s true A n c ⟨some ⟨b, off, none⟩, vn, vc, iA, im, ic⟩ ⟨vs, lo, hi, ini⟩ w2.heap.size B0 y i M u11 (.int .i64 0) S) := Lib.hid ⟨HM2.out, 0, Nat.zero_le _, rfl, hout2, HBEY.out⟩
      unfold st4 at a0 a1 a2 HSS
      clear hm2 hout2 hbl hact henv hvar hbd hth hout hbey hy hS hB0
      go_wp2_with fail
      rw [HSS.out]
      clear a0 a1 a2 f0 f1' f2' f3' f4' f5 m0 m1 m2 m3 m4 m5 e0 e1 e2 e3 HSS
      go_loopw [11, 13, 14] (fun out k _ wr => AnyRel w s true A n c ⟨some ⟨b, off, none⟩, vn, vc, iA, im, ic⟩ ⟨vs, lo, hi, ini⟩ w2.heap.size B0 y i M out k wr) (fun _ k _ _ => M - (Go.RowKit.intOf k).toNat)
      case atStart => exact HA0.out
      case round =>
        obtain ⟨hm, j, hj, rfl, hout, hbey⟩ := hrel
        have HMI := Lib.hid hm
        obtain ⟨oA, on, oc, rfl, hon, honc⟩ := hout.shape
        obtain ⟨r0, r1, r2, r3⟩ := cells_4 hm.var
        have hsub1 : -9223372036854775808 ≤ hi - lo := by omega
        have hsub2 : hi - lo ≤ 9223372036854775807 := by omega
        by_cases hjl : j < M
        · have hjI : (j : Int) ≤ hi - lo := by have := HMM.out.1; omega
          have hj64 : (j : Int) ≤ 64 := by omega
          have hsum1 : -9223372036854775808 ≤ lo + j := by omega
          have hsum2 : lo + j ≤ 9223372036854775807 := by omega
          obtain ⟨bn', offn', heq, hbn', g0, g1, g2, g3⟩ := (HNN.out.keep HMI.out.below).at_ HY.out
          cases heq
          have HWITH : Hid (∀ u W, Below wr.heap.size wr W → Calls Tryz.prog 83 #[.slice oA on oc, v4A u] W (RetV W (.slice oA on oc) (withV (allV B0 ((List.range j).map fun (q : Nat) => y.set i (lo + q))) u))) := Lib.hid (fun u W hb => rwith_any oA on oc _ u W (hout.keep hb) hon (by
            have h1 := allV_length ((List.range j).map fun (q : Nat) => y.set i (lo + q)) B0
            have h2 := HBL0.out
            have h3 := HMM.out.2
            rw [List.length_map, List.length_range] at h1
            simp only at hon
            omega))
          have HNX := Lib.hid (any_next B0 y i lo j)
          have HBI := Lib.hid hbey
          have hth := hm.there
          have hne : ¬ w2.heap.size = wr.heap.size := by omega
          clear hm hout hbey hon
          rcases HI4.out with rfl | rfl | rfl | rfl
          · go_wp2_with (go_at_call 83; (with_reducible refine (HWITH.out ⟨lo + j, y.b, y.c, y.d⟩ _ (KitC.below_one _ _)).mono ?_))
            rintro e2 w8 ⟨v8, rfl, hv8, hb8, hbey8⟩
            have HM8 := Lib.hid (HMI.out.on (below_two' (KitC.below_one _ _) hb8))
            have HV8 := Lib.hid hv8
            have HE8 := Lib.hid (hbey8 w2.heap.size (by rw [World.size_alloc]; have := HMI.out.there; omega) HBI.out)
            clear hv8 hb8 hbey8
            go_wp2_with fail
            go_roundw
            case rel => first | exact ⟨HM8.out, j + 1, by omega, by go_num, by rw [HNX.out]; exact HV8.out, HE8.out⟩ | ((repeat apply Exists.intro); exact ⟨⟨HM8.out, j + 1, by omega, by go_num, by rw [HNX.out]; exact HV8.out, HE8.out⟩, rfl⟩) | (refine ⟨_, _, _, ?_, rfl, rfl, rfl⟩; exact ⟨HM8.out, j + 1, by omega, by go_num, by rw [HNX.out]; exact HV8.out, HE8.out⟩)
            case measure => simp [Go.RowKit.intOf]; omega
          · go_wp2_with (go_at_call 83; (with_reducible refine (HWITH.out ⟨y.a, lo + j, y.c, y.d⟩ _ (KitC.below_one _ _)).mono ?_))
            rintro e2 w8 ⟨v8, rfl, hv8, hb8, hbey8⟩
            have HM8 := Lib.hid (HMI.out.on (below_two' (KitC.below_one _ _) hb8))
            have HV8 := Lib.hid hv8
            have HE8 := Lib.hid (hbey8 w2.heap.size (by rw [World.size_alloc]; have := HMI.out.there; omega) HBI.out)
            clear hv8 hb8 hbey8
            go_wp2_with fail
            go_roundw
            case rel => first | exact ⟨HM8.out, j + 1, by omega, by go_num, by rw [HNX.out]; exact HV8.out, HE8.out⟩ | ((repeat apply Exists.intro); exact ⟨⟨HM8.out, j + 1, by omega, by go_num, by rw [HNX.out]; exact HV8.out, HE8.out⟩, rfl⟩) | (refine ⟨_, _, _, ?_, rfl, rfl, rfl⟩; exact ⟨HM8.out, j + 1, by omega, by go_num, by rw [HNX.out]; exact HV8.out, HE8.out⟩)
            case measure => simp [Go.RowKit.intOf]; omega
          · go_wp2_with (go_at_call 83; (with_reducible refine (HWITH.out ⟨y.a, y.b, lo + j, y.d⟩ _ (KitC.below_one _ _)).mono ?_))
            rintro e2 w8 ⟨v8, rfl, hv8, hb8, hbey8⟩
            have HM8 := Lib.hid (HMI.out.on (below_two' (KitC.below_one _ _) hb8))
            have HV8 := Lib.hid hv8
            have HE8 := Lib.hid (hbey8 w2.heap.size (by rw [World.size_alloc]; have := HMI.out.there; omega) HBI.out)
            clear hv8 hb8 hbey8
            go_wp2_with fail
            go_roundw
            case rel => first | exact ⟨HM8.out, j + 1, by omega, by go_num, by rw [HNX.out]; exact HV8.out, HE8.out⟩ | ((repeat apply Exists.intro); exact ⟨⟨HM8.out, j + 1, by omega, by go_num, by rw [HNX.out]; exact HV8.out, HE8.out⟩, rfl⟩) | (refine ⟨_, _, _, ?_, rfl, rfl, rfl⟩; exact ⟨HM8.out, j + 1, by omega, by go_num, by rw [HNX.out]; exact HV8.out, HE8.out⟩)
            case measure => simp [Go.RowKit.intOf]; omega
          · go_wp2_with (go_at_call 83; (with_reducible refine (HWITH.out ⟨y.a, y.b, y.c, lo + j⟩ _ (KitC.below_one _ _)).mono ?_))
            rintro e2 w8 ⟨v8, rfl, hv8, hb8, hbey8⟩
            have HM8 := Lib.hid (HMI.out.on (below_two' (KitC.below_one _ _) hb8))
            have HV8 := Lib.hid hv8
            have HE8 := Lib.hid (hbey8 w2.heap.size (by rw [World.size_alloc]; have := HMI.out.there; omega) HBI.out)
            clear hv8 hb8 hbey8
            go_wp2_with fail
            go_roundw
            case rel => first | exact ⟨HM8.out, j + 1, by omega, by go_num, by rw [HNX.out]; exact HV8.out, HE8.out⟩ | ((repeat apply Exists.intro); exact ⟨⟨HM8.out, j + 1, by omega, by go_num, by rw [HNX.out]; exact HV8.out, HE8.out⟩, rfl⟩) | (refine ⟨_, _, _, ?_, rfl, rfl, rfl⟩; exact ⟨HM8.out, j + 1, by omega, by go_num, by rw [HNX.out]; exact HV8.out, HE8.out⟩)
            case measure => simp [Go.RowKit.intOf]; omega
        · have hjI : ¬ (j : Int) ≤ hi - lo := by have := HMM.out.1; omega
          have hjM : j = M := by omega
          have hend : allV B0 ((List.range j).map fun (q : Nat) => y.set i (lo + q)) = allV [] ((l.take (k + 1)).flatMap (stepsA E ⟨s, true, x⟩ i ⟨vs, lo, hi, ini⟩)) := by
            rw [take_next HY.out, List.flatMap_append, List.flatMap_cons, List.flatMap_nil, List.append_nil, allV_app, ← HB0.out, steps_any rfl, ← HMT.out, hjM]
          have HEND := Lib.hid (hend ▸ hout)
          have HBI := Lib.hid hbey
          clear hm hout hbey hon hend hjM
          go_wp2_with fail
          go_roundw
          case rel => first | exact ⟨HMI.out, k + 1, by have := HNL.out; omega, by go_num, HEND.out, HBI.out⟩ | ((repeat apply Exists.intro); exact ⟨⟨HMI.out, k + 1, by have := HNL.out; omega, by go_num, HEND.out, HBI.out⟩, rfl⟩)
          case measure => have := HNL.out; simp [Go.RowKit.intOf]; omega
    · have hkI : ¬ (k : Int) < Nn := by omega
      have hall : l.take k = l := List.take_of_length_le (by have := HNL.out; omega)
      obtain ⟨oA, on, oc, rfl, hon, honc⟩ := hout.shape
      have HOUTA := HOUT.out
      rw [hall] at HOUTA hon
      have HOA := Lib.hid HOUTA
      have HLEN := Lib.hid hon
      have HBL := Lib.hid HM.out.below
      clear hall HOUTA hout hbey hm hon
      by_cases h64 : 64 < on
      · have HR2 : Hid (R = (12, [])) := Lib.hid (by rw [HST.out, if_pos (by rw [← HLEN.out]; exact h64)])
        have g64 : (64 : Int) < on := by omega
        go_wp2_with fail
        refine bodyPost_ret (v := .tuple #[.slice none 0 0, .int .i64 12]) (by simp [results, Tryz.results45, go_sem]) rfl ⟨_, by rw [HR2.out], by rw [HR2.out]; exact v4s_nil _, HBL.out⟩
      · have HR2 : Hid (R = (0, allV [] (l.flatMap (stepsA E ⟨s, true, x⟩ i ⟨vs, lo, hi, ini⟩)))) := Lib.hid (by rw [HST.out, if_neg (by rw [← HLEN.out]; exact h64)])
        have g64 : ¬ (64 : Int) < on := by omega
        go_wp2_with fail
        refine bodyPost_ret (v := .tuple #[.slice oA on oc, .int .i64 0]) (by simp [results, Tryz.results45, go_sem]) rfl ⟨_, by rw [HR2.out], by rw [HR2.out]; exact HOA.out, HBL.out⟩
end Go.Proofs.YtcfcpbkeedfbpaaGreatDoor

namespace Go.Proofs.YtcfcpbkeedfbpaaGreatDoor
open Go.RowKit TermSpec EvalSpec ActSpec NamesSpec
set_option maxRecDepth 100000

def RChkRel (W : World) (l : List Ac) (n : Nat) (i : Value) (wr : World) : Prop := ∃ k : Nat, k ≤ n ∧ i = .int .i64 k ∧ firstA (l.take k) = 0 ∧ Below W.heap.size W wr
set_option maxHeartbeats 1000000 in
theorem rcheck_acts (A : Option Addr) (n c : Nat) (l : List Ac) (hs : ∀ a ∈ l, SmallA a) (hl : l.length ≤ 9223372036854775807) (w : World) (h : Acs w (.slice A n c) l) :
    Calls Tryz.prog 9 #[.slice A n c] w (RetI w (chkA l)) := by
  have hn := h.len.1
  have hcap := h.len.2
  have HN := Lib.hid hn
  have HT := Lib.hid h
  have HS := Lib.hid hs
  obtain ⟨r, hr⟩ : ∃ r, r = chkA l := ⟨_, rfl⟩
  rw [← hr]
  by_cases h8 : 8 < n
  · have HR : Hid (r = 8) := Lib.hid (by rw [hr]; unfold chkA; rw [if_pos (by omega)])
    have g : decide (8 < n) = true := by simp; omega
    have h8' : 8 < (n : Int) := by omega
    clear hn h hs hr hl
    go_enter Tryz.func9, Tryz.ntmps9
    go_wp2_with fail
    go_ret
    exact ⟨ret_int HR.out.symm, Below.refl _ _⟩
  · have HR : Hid (r = firstA l) := Lib.hid (by rw [hr]; unfold chkA; rw [if_neg (by omega)])
    have h8' : ¬ 8 < (n : Int) := by omega
    clear hn h hs hr hl
    go_enter Tryz.func9, Tryz.ntmps9
    go_wp2_with fail
    go_loopw [3] (fun i wr => RChkRel w l n i wr) (fun i _ => n - (intOf i).toNat)
    case atStart => exact ⟨0, Nat.zero_le _, rfl, rfl, Below.refl _ _⟩
    case round =>
      obtain ⟨k, hk, rfl, hall, hbw⟩ := hrel
      have HA := Lib.hid hall
      have HB := Lib.hid hbw
      clear hall hbw
      by_cases hlt : k < n
      · obtain ⟨a, ha⟩ : ∃ a, l[k]? = some a := get_some (by rw [← HN.out]; exact hlt)
        obtain ⟨b, off, xA, xn, xc, rfl, hb, htm, c0, c1, c2⟩ := (HT.out.keep HB.out).at_ ha
        have HC := Lib.hid (rone_act a xA xn xc (HS.out a (List.mem_of_getElem? ha)) wr htm)
        have HNX := Lib.hid (fun h1 => firstA_next ha HA.out h1)
        have HST := Lib.hid (fun h1 => firstA_stop ha HA.out h1)
        obtain ⟨q, hq⟩ : ∃ q, q = oneA a := ⟨_, rfl⟩
        rw [← hq] at HC HNX HST
        have hkI : (k : Int) < n := by omega
        clear ha hq htm
        obtain ⟨s, any, x⟩ := a
        simp only at c0 c1 c2 HC
        by_cases hq0 : q = 0
        · have HNX' := Lib.hid (HNX.out hq0)
          have g : (q != 0) = false := by simp [hq0]
          clear HNX HST hq0
          go_wp2_with (go_at_call 29; (with_reducible refine HC.out.mono ?_))
          rintro e2 w2 ⟨rfl, hb2⟩
          have HB2 := Lib.hid (below_two' HB.out hb2)
          clear hb2
          go_wp2_with fail
          go_roundw
          case rel => exact ⟨k + 1, by omega, by go_num, HNX'.out, HB2.out⟩
          case measure => simp [intOf]; omega
        · have HST' := Lib.hid (HST.out hq0)
          have g : (q != 0) = true := by simp [hq0]
          clear HNX HST hq0
          go_wp2_with (go_at_call 29; (with_reducible refine HC.out.mono ?_))
          rintro e2 w2 ⟨rfl, hb2⟩
          have HB2 := Lib.hid (below_two' HB.out hb2)
          clear hb2
          go_wp2_with fail
          go_ret
          exact ⟨ret_int (by rw [HR.out, HST'.out]), HB2.out⟩
      · have HE : Hid (firstA l = 0) := Lib.hid (by
          have h1 := HN.out
          have h2 := HA.out
          rwa [List.take_of_length_le (by omega)] at h2)
        go_wp2_with fail
        go_ret
        exact ⟨ret_int (by rw [HR.out, HE.out]), HB.out⟩
end Go.Proofs.YtcfcpbkeedfbpaaGreatDoor
