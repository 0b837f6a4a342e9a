/- EvalLawsInt, joined. -/
import Derived.Test.YtbkgkdfameojfaaMEvalLawsNo
import Derived.Deep.RegionHeld3
namespace Go.Proofs.Ytbkgkdfameojfaa
open Go.RowKit Go.Sort TermSpec EvalSpec
set_option maxRecDepth 100000

theorem below_drew {B : Nat} {a w : World} (h : Below B a w) : Below B a w.drew := ⟨h.os, h.tape, h.output, h.size, h.block⟩
theorem drew_below {a w : World} (h : Below a.heap.size a w) : Below a.drew.heap.size a.drew w := ⟨h.os, h.tape, h.output, h.size, h.block⟩
theorem Rd.drew {w : World} {v : Value} {xs : List Value} (h : Rd w v xs) : Rd w.drew v xs := h
theorem keep_env {b : Nat} {w9 W : World} {x0 x1 x2 x3 x4 x5 : Value} (hb : b < w9.heap.size) (h0 : w9.cell? ⟨b, 0, none⟩ = some x0) (h1 : w9.cell? ⟨b, 1, none⟩ = some x1) (h2 : w9.cell? ⟨b, 2, none⟩ = some x2) (h3 : w9.cell? ⟨b, 3, none⟩ = some x3) (h4 : w9.cell? ⟨b, 4, none⟩ = some x4) (h5 : w9.cell? ⟨b, 5, none⟩ = some x5) (hB : Below w9.heap.size w9 W) :
    W.cell? ⟨b, 0, none⟩ = some x0 ∧ W.cell? ⟨b, 1, none⟩ = some x1 ∧ W.cell? ⟨b, 2, none⟩ = some x2 ∧ W.cell? ⟨b, 3, none⟩ = some x3 ∧ W.cell? ⟨b, 4, none⟩ = some x4 ∧ W.cell? ⟨b, 5, none⟩ = some x5 :=
  ⟨(hB.cell (p := ⟨b, 0, none⟩) hb).trans h0, (hB.cell (p := ⟨b, 1, none⟩) hb).trans h1, (hB.cell (p := ⟨b, 2, none⟩) hb).trans h2, (hB.cell (p := ⟨b, 3, none⟩) hb).trans h3, (hB.cell (p := ⟨b, 4, none⟩) hb).trans h4, (hB.cell (p := ⟨b, 5, none⟩) hb).trans h5⟩

set_option maxRecDepth 100000 in
set_option maxHeartbeats 8000000 in
theorem laws_int (A1 : Option Addr) (n1 c1 : Nat) (a : List Tm) (A2 : Option Addr) (n2 c2 : Nat) (b : List Tm) (p : EP) (e : Ev) (w : World) (hn1 : n1 = a.length) (hn2 : n2 = b.length) (ha : Tms w (.slice A1 n1 c1) a) (hb : Tms w (.slice A2 n2 c2) b) (he : EnvIn w p e) (h1 : lightE e a = true) (h2 : lightE e b = true) (h3 : chkE e a = 0) (h4 : chkE e b = 0) (h5 : n1 + n2 ≤ 36) (h6 : depth a ≤ 9) (h7 : depth b ≤ 9) (h8 : typ a = 1) (h9 : typ b = 1) :
    Calls Try.prog 4 #[.slice A1 n1 c1, .slice A2 n2 c2, envV p e] w (RetB w true) := by
  obtain ⟨hl1, _, _, hsa0⟩ := light_parts h1
  have hsa := small_light hsa0
  obtain ⟨hl2, _, _, hsb0⟩ := light_parts h2
  have hsb := small_light hsb0
  have HLA := Lib.hid (fun w h h' => elight_any p e A1 n1 c1 a hn1 w h h')
  rw [h1] at HLA
  have HLB := Lib.hid (fun w h h' => elight_any p e A2 n2 c2 b hn2 w h h')
  rw [h2] at HLB
  have HCA := Lib.hid (fun w h h' => rechk_any p e A1 n1 c1 a hn1 (by omega) hsa w h h')
  rw [h3] at HCA
  have HCB := Lib.hid (fun w h h' => rechk_any p e A2 n2 c2 b hn2 (by omega) hsb w h h')
  rw [h4] at HCB
  have b1 : n1 ≤ 60 := by omega
  have b2 : n2 ≤ 60 := by omega
  have g5 : decide (36 < (n1 : Int) + (n2 : Int)) = false := by simp; omega
  have HDA := Lib.hid (fun w h => rdep_zero A1 n1 c1 a hn1 (by omega) w h (chk_ok (chkE_ok h3).2.1).1)
  obtain ⟨da, hda⟩ : ∃ d, d = depth a := ⟨_, rfl⟩
  rw [← hda] at HDA h6
  have g6 : decide (9 < da) = false := by simp; omega
  have HDB := Lib.hid (fun w h => rdep_zero A2 n2 c2 b hn2 (by omega) w h (chk_ok (chkE_ok h4).2.1).1)
  obtain ⟨db, hdb⟩ : ∃ d, d = depth b := ⟨_, rfl⟩
  rw [← hdb] at HDB h7
  have g7 : decide (9 < db) = false := by simp; omega
  have HYA := Lib.hid (fun w h => rtyp_zero A1 n1 c1 a hn1 (by omega) w h (chk_ok (chkE_ok h3).2.1).1)
  have HYB := Lib.hid (fun w h => rtyp_zero A2 n2 c2 b hn2 (by omega) w h (chk_ok (chkE_ok h4).2.1).1)
  rw [h8] at HYA
  rw [h9] at HYB
  obtain ⟨hr1, hr2⟩ := law_less (e := e) h3 h4 h8 h9 (by omega) (by rw [← hda]; exact h6) (by rw [← hdb]; exact h7)
  obtain ⟨r1, hr1'⟩ : ∃ r, r = holdsE e (opE 15 :: (a ++ b)) := ⟨_, rfl⟩
  obtain ⟨r2, hr2'⟩ : ∃ r, r = holdsE e (opE 18 :: (a ++ b)) := ⟨_, rfl⟩
  have gr : (r1 != r2) = true := by
    rw [hr1', hr2', hr1, hr2]
    by_cases hx : comeE e a < comeE e b
    · simp [hx, show ¬ comeE e b ≤ comeE e a by omega]
    · simp [hx, show comeE e b ≤ comeE e a by omega]
  have HO15 : Hid (∀ W k, Rd W (.slice (some ⟨k, 0, none⟩) 1 1) (intV [15]) → Below w.heap.size w W → Calls Try.prog 15 #[envV p e, .slice (some ⟨k, 0, none⟩) 1 1, .slice A1 n1 c1, .slice A2 n2 c2] W (RetB W r1)) := Lib.hid (fun W k h hB => by
    rw [hr1']
    exact lholds_any p e _ [15] A1 n1 c1 a A2 n2 c2 b W h (ha.keep hB) (hb.keep hB) (he.keep hB) (by decide) (by omega) (by omega) hsa hsb)
  have HO18 : Hid (∀ W k, Rd W (.slice (some ⟨k, 0, none⟩) 1 1) (intV [18]) → Below w.heap.size w W → Calls Try.prog 15 #[envV p e, .slice (some ⟨k, 0, none⟩) 1 1, .slice A1 n1 c1, .slice A2 n2 c2] W (RetB W r2)) := Lib.hid (fun W k h hB => by
    rw [hr2']
    exact lholds_any p e _ [18] A1 n1 c1 a A2 n2 c2 b W h (ha.keep hB) (hb.keep hB) (he.keep hB) (by decide) (by omega) (by omega) hsa hsb)
  clear hr1 hr2 hr1' hr2' hsa hsb
  obtain rfl : r2 = !r1 := by cases r1 <;> cases r2 <;> first | rfl | cases gr
  clear gr
  have HTA := Lib.hid ha
  have HTB := Lib.hid hb
  have HEN := Lib.hid he
  have HAW := Lib.hid (fun w => eawake_any w)
  obtain ⟨vA, vn, vc, iA, im, ic⟩ := p
  obtain ⟨vars, v0, v1, v2, v3, ins⟩ := e
  change Calls _ _ #[.slice A1 n1 c1, .slice A2 n2 c2, .agg #[.slice vA vn vc, .int .i64 v0, .int .i64 v1, .int .i64 v2, .int .i64 v3, .slice iA im ic]] _ _
  obtain ⟨w1, hw1⟩ : ∃ w1, w.alloc (.cells #[.slice vA vn vc, .int .i64 v0, .int .i64 v1, .int .i64 v2, .int .i64 v3, .slice iA im ic] 27) = w1 := ⟨_, rfl⟩
  have hbk := heap_alloc_new w (.cells #[.slice vA vn vc, .int .i64 v0, .int .i64 v1, .int .i64 v2, .int .i64 v3, .slice iA im ic] 27)
  have hbl := KitC.below_one w (.cells #[.slice vA vn vc, .int .i64 v0, .int .i64 v1, .int .i64 v2, .int .i64 v3, .slice iA im ic] 27)
  have HW1 := Lib.hid hw1
  rw [hw1] at hbk hbl
  have HB1 := Lib.hid hbl
  have HK1 := Lib.hid hbk
  obtain ⟨z0, z1, z2, z3, z4, z5⟩ := cells_6 hbk
  clear ha hb he hn1 hn2 hw1 hbk hbl h1 h2 h3 h4 h5 h6 h7 h8 h9 hl1 hl2 hsa0 hsb0 hda hdb
  go_enter Try.func4, Try.ntmps4
  go_wp2_with (go_at_call 5; (with_reducible refine (HLA.out _ (HTA.out.keep (KitC.below_one _ _)) (HEN.out.keep (KitC.below_one _ _))).mono ?_))
  rintro e2 w2 ⟨rfl, hb2⟩
  rw [HW1.out] at hb2
  have HB2 := Lib.hid (below_two' HB1.out hb2)
  have HK2 := Lib.hid (KitC.block_on HK1.out hb2)
  clear hb2 z0 z1 z2 z3 z4 z5
  obtain ⟨z0, z1, z2, z3, z4, z5⟩ := cells_6 HK2.out
  go_wp2_with (go_at_call 5; (with_reducible refine (HLB.out _ (HTB.out.keep HB2.out) (HEN.out.keep HB2.out)).mono ?_))
  rintro e2 w3 ⟨rfl, hb3⟩
  have HB3 := Lib.hid (below_two' HB2.out hb3)
  have HK3 := Lib.hid (KitC.block_on HK2.out hb3)
  clear hb3 z0 z1 z2 z3 z4 z5
  obtain ⟨z0, z1, z2, z3, z4, z5⟩ := cells_6 HK3.out
  go_wp2_with (go_at_call 8; (with_reducible refine (HCA.out _ (HTA.out.keep HB3.out) (HEN.out.keep HB3.out)).mono ?_))
  rintro e2 w4 ⟨rfl, hb4⟩
  have HB4 := Lib.hid (below_two' HB3.out hb4)
  have HK4 := Lib.hid (KitC.block_on HK3.out hb4)
  clear hb4 z0 z1 z2 z3 z4 z5
  obtain ⟨z0, z1, z2, z3, z4, z5⟩ := cells_6 HK4.out
  go_wp2_with (go_at_call 8; (with_reducible refine (HCB.out _ (HTB.out.keep HB4.out) (HEN.out.keep HB4.out)).mono ?_))
  rintro e2 w5 ⟨rfl, hb5⟩
  have HB5 := Lib.hid (below_two' HB4.out hb5)
  have HK5 := Lib.hid (KitC.block_on HK4.out hb5)
  clear hb5 z0 z1 z2 z3 z4 z5
  obtain ⟨z0, z1, z2, z3, z4, z5⟩ := cells_6 HK5.out
  go_wp2_with (go_at_call 14; (with_reducible refine (HDA.out _ (HTA.out.keep HB5.out)).mono ?_))
  rintro e2 w6 ⟨rfl, hb6⟩
  have HB6 := Lib.hid (below_two' HB5.out hb6)
  have HK6 := Lib.hid (KitC.block_on HK5.out hb6)
  clear hb6 z0 z1 z2 z3 z4 z5
  obtain ⟨z0, z1, z2, z3, z4, z5⟩ := cells_6 HK6.out
  go_wp2_with (go_at_call 14; (with_reducible refine (HDB.out _ (HTB.out.keep HB6.out)).mono ?_))
  rintro e2 w7 ⟨rfl, hb7⟩
  have HB7 := Lib.hid (below_two' HB6.out hb7)
  have HK7 := Lib.hid (KitC.block_on HK6.out hb7)
  clear hb7 z0 z1 z2 z3 z4 z5
  obtain ⟨z0, z1, z2, z3, z4, z5⟩ := cells_6 HK7.out
  go_wp2_with (go_at_call 13; (with_reducible refine (HYA.out _ (HTA.out.keep HB7.out)).mono ?_))
  rintro e2 w8 ⟨rfl, hb8⟩
  have HB8 := Lib.hid (below_two' HB7.out hb8)
  have HK8 := Lib.hid (KitC.block_on HK7.out hb8)
  clear hb8 z0 z1 z2 z3 z4 z5
  obtain ⟨z0, z1, z2, z3, z4, z5⟩ := cells_6 HK8.out
  go_wp2_with (go_at_call 13; (with_reducible refine (HYB.out _ (HTB.out.keep HB8.out)).mono ?_))
  rintro e2 w9 ⟨rfl, hb9⟩
  have HB9 := Lib.hid (below_two' HB8.out hb9)
  have HK9 := Lib.hid (KitC.block_on HK8.out hb9)
  clear hb9 z0 z1 z2 z3 z4 z5
  obtain ⟨z0, z1, z2, z3, z4, z5⟩ := cells_6 HK9.out
  have HZ0 := Lib.hid z0
  have HZ1 := Lib.hid z1
  have HZ2 := Lib.hid z2
  have HZ3 := Lib.hid z3
  have HZ4 := Lib.hid z4
  have HZ5 := Lib.hid z5
  have hz9 : w.heap.size < w9.heap.size := (Array.getElem?_eq_some_iff.1 HK9.out).1
  go_wp2_with fail
  cases r1
  all_goals
   go_region_held3 (fun w' => w'.cell? ⟨w.heap.size, 0, none⟩ = some (.slice vA vn vc) ∧ w'.cell? ⟨w.heap.size, 1, none⟩ = some (.int .i64 v0) ∧ w'.cell? ⟨w.heap.size, 2, none⟩ = some (.int .i64 v1) ∧ w'.cell? ⟨w.heap.size, 3, none⟩ = some (.int .i64 v2) ∧ w'.cell? ⟨w.heap.size, 4, none⟩ = some (.int .i64 v3) ∧ w'.cell? ⟨w.heap.size, 5, none⟩ = some (.slice iA im ic)) ((refine keep_env hz9 HZ0.out HZ1.out HZ2.out HZ3.out HZ4.out HZ5.out ?_; (repeat' (first | (with_reducible exact Below.refl _ _) | (with_reducible assumption) | (with_reducible refine below_drew ?_) | (with_reducible refine below_two' ?_ (KitC.below_one _ _)) | (with_reducible refine below_two' ?_ (by with_reducible assumption))))))
    (first
      | (go_at_call 15; (with_reducible refine (HO15.out _ _ ?_ (below_two' HB9.out ?_)).mono ?_); (repeat' (first | ((with_reducible refine lit_here ?_ ?_ ?_) <;> first | rfl | (simp; done)) | (with_reducible refine Rd.drew ?_) | (with_reducible refine Rd.keep ?_ (KitC.below_one _ _)) | (with_reducible refine Rd.keep ?_ (by with_reducible assumption)))); (repeat' (first | (with_reducible exact Below.refl _ _) | (with_reducible assumption) | (with_reducible refine below_drew ?_) | (with_reducible refine below_two' ?_ (KitC.below_one _ _)) | (with_reducible refine below_two' ?_ (by with_reducible assumption)))); rintro e w' ⟨rfl, hb'⟩)
      | (go_at_call 15; (with_reducible refine (HO18.out _ _ ?_ (below_two' HB9.out ?_)).mono ?_); (repeat' (first | ((with_reducible refine lit_here ?_ ?_ ?_) <;> first | rfl | (simp; done)) | (with_reducible refine Rd.drew ?_) | (with_reducible refine Rd.keep ?_ (KitC.below_one _ _)) | (with_reducible refine Rd.keep ?_ (by with_reducible assumption)))); (repeat' (first | (with_reducible exact Below.refl _ _) | (with_reducible assumption) | (with_reducible refine below_drew ?_) | (with_reducible refine below_two' ?_ (KitC.below_one _ _)) | (with_reducible refine below_two' ?_ (by with_reducible assumption)))); rintro e w' ⟨rfl, hb'⟩)
      | (go_at_call 6; (with_reducible refine (HAW.out _).mono ?_); rintro e w' ⟨rfl, hb'⟩))
  all_goals
    go_wp2_with fail
    go_ret
    refine ⟨rfl, below_two' HB9.out ?_⟩
    (repeat' (first | (with_reducible exact Below.refl _ _) | (with_reducible assumption) | (with_reducible refine below_drew ?_) | (with_reducible refine below_two' ?_ (KitC.below_one _ _)) | (with_reducible refine below_two' ?_ (by with_reducible assumption))))
end Go.Proofs.Ytbkgkdfameojfaa
