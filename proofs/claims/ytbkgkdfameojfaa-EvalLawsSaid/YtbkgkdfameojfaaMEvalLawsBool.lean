/- EvalLawsBool, joined. -/
import Derived.Test.YtbkgkdfameojfaaMEvalLawsInt
namespace Go.Proofs.Ytbkgkdfameojfaa
open Go.RowKit Go.Sort TermSpec EvalSpec
set_option maxRecDepth 100000

theorem rowT_lit {W : World} {k : Nat} (hk : k = W.heap.size) : RowT W (W.alloc (.cells #[] 39)) (.slice (some ⟨k, 0, none⟩) 0 0) [] := by
  subst hk
  exact ⟨World.ownsRow_lit W #[] 0 (Nat.le_refl _) (Nat.zero_le _) rfl, KitC.below_one _ _⟩
theorem small_cons {l : List Tm} {o : Int} (h : Small l) : Small (opE o :: l) := by
  intro t ht
  rcases List.mem_cons.1 ht with rfl | ht
  · exact Nat.zero_le _
  · exact h t ht
set_option maxRecDepth 100000 in
set_option maxHeartbeats 8000000 in
theorem laws_bool (A1 : Option Addr) (n1 c1 : Nat) (a : List Tm) (A2 : Option Addr) (n2 c2 : Nat) (b : List Tm) (p : EP) (e : Ev) (w : World) (hn1 : n1 = a.length) (hn2 : n2 = b.length) (ha : Tms w (.slice A1 n1 c1) a) (hb : Tms w (.slice A2 n2 c2) b) (he : EnvIn w p e) (h1 : lightE e a = true) (h2 : lightE e b = true) (h3 : chkE e a = 0) (h4 : chkE e b = 0) (h5 : n1 + n2 ≤ 36) (h6 : depth a ≤ 9) (h7 : depth b ≤ 9) (h8 : typ a = 2) (h9 : typ b = 2) :
    Calls Try.prog 4 #[.slice A1 n1 c1, .slice A2 n2 c2, envV p e] w (RetB w true) := by
  obtain ⟨hl1, _, _, hsa0⟩ := light_parts h1
  have hsa := small_light hsa0
  obtain ⟨hl2, _, _, hsb0⟩ := light_parts h2
  have hsb := small_light hsb0
  have HLA := Lib.hid (fun w h h' => elight_any p e A1 n1 c1 a hn1 w h h')
  rw [h1] at HLA
  have HLB := Lib.hid (fun w h h' => elight_any p e A2 n2 c2 b hn2 w h h')
  rw [h2] at HLB
  have HCA := Lib.hid (fun w h h' => rechk_any p e A1 n1 c1 a hn1 (by omega) hsa w h h')
  rw [h3] at HCA
  have HCB := Lib.hid (fun w h h' => rechk_any p e A2 n2 c2 b hn2 (by omega) hsb w h h')
  rw [h4] at HCB
  have b1 : n1 ≤ 60 := by omega
  have b2 : n2 ≤ 60 := by omega
  have g5 : decide (36 < (n1 : Int) + (n2 : Int)) = false := by simp; omega
  have HDA := Lib.hid (fun w h => rdep_zero A1 n1 c1 a hn1 (by omega) w h (chk_ok (chkE_ok h3).2.1).1)
  obtain ⟨da, hda⟩ : ∃ d, d = depth a := ⟨_, rfl⟩
  rw [← hda] at HDA h6
  have g6 : decide (9 < da) = false := by simp; omega
  have HDB := Lib.hid (fun w h => rdep_zero A2 n2 c2 b hn2 (by omega) w h (chk_ok (chkE_ok h4).2.1).1)
  obtain ⟨db, hdb⟩ : ∃ d, d = depth b := ⟨_, rfl⟩
  rw [← hdb] at HDB h7
  have g7 : decide (9 < db) = false := by simp; omega
  have HYA := Lib.hid (fun w h => rtyp_zero A1 n1 c1 a hn1 (by omega) w h (chk_ok (chkE_ok h3).2.1).1)
  have HYB := Lib.hid (fun w h => rtyp_zero A2 n2 c2 b hn2 (by omega) w h (chk_ok (chkE_ok h4).2.1).1)
  rw [h8] at HYA
  rw [h9] at HYB
  obtain ⟨hr1, hr3⟩ := law_not (e := e) h3 h4 h8 h9 (by omega) (by rw [← hda]; exact h6) (by rw [← hdb]; exact h7)
  obtain ⟨r1, hr1'⟩ : ∃ r, r = holdsE e (opE 12 :: opE 19 :: (a ++ b)) := ⟨_, rfl⟩
  obtain ⟨r3, hr3'⟩ : ∃ r, r = holdsE e a := ⟨_, rfl⟩
  rw [← hr1'] at hr1
  rw [← hr3'] at hr3
  have HHO := Lib.hid (fun w h h' => holds_any p e A1 n1 c1 a hn1 (by omega) hsa w h h')
  rw [← hr3'] at HHO
  have HO1 : Hid (∀ W k, Rd W (.slice (some ⟨k, 0, none⟩) 2 2) (intV [12, 19]) → Below w.heap.size w W → Calls Try.prog 15 #[envV p e, .slice (some ⟨k, 0, none⟩) 2 2, .slice A1 n1 c1, .slice A2 n2 c2] W (RetB W r1)) := Lib.hid (fun W k h hB => by
    rw [hr1']
    exact lholds_any p e _ [12, 19] A1 n1 c1 a A2 n2 c2 b W h (ha.keep hB) (hb.keep hB) (he.keep hB) (by decide) (by omega) (by omega) hsa hsb)
  have HO2 : Hid (∀ W k A5 m5 c5 A7 m7 c7, Rd W (.slice (some ⟨k, 0, none⟩) 1 1) (intV [20]) → Below w.heap.size w W → Tms W (.slice A5 m5 c5) (opE 12 :: a) → Tms W (.slice A7 m7 c7) (opE 12 :: b) → Calls Try.prog 15 #[envV p e, .slice (some ⟨k, 0, none⟩) 1 1, .slice A5 m5 c5, .slice A7 m7 c7] W (RetB W r1)) := Lib.hid (fun W k A5 m5 c5 A7 m7 c7 h hB h5 h7 => by
    rw [hr1]
    exact lholds_any p e _ [20] A5 m5 c5 (opE 12 :: a) A7 m7 c7 (opE 12 :: b) W h h5 h7 (he.keep hB) (by decide) (by simp; omega) (by simp; omega) (small_cons hsa) (small_cons hsb))
  have HO3 : Hid (∀ W k, Rd W (.slice (some ⟨k, 0, none⟩) 2 2) (intV [12, 12]) → Below w.heap.size w W → Calls Try.prog 15 #[envV p e, .slice (some ⟨k, 0, none⟩) 2 2, .slice A1 n1 c1, .slice none 0 0] W (RetB W r3)) := Lib.hid (fun W k h hB => by
    have := lholds_any p e _ [12, 12] A1 n1 c1 a none 0 0 [] W h (ha.keep hB) ⟨0, rfl, Rdk.nil 3 W⟩ (he.keep hB) (by decide) (by omega) (by simp) hsa (fun t ht => by simp at ht)
    rw [show [12, 12].map opE ++ a ++ [] = opE 12 :: opE 12 :: a by simp, hr3] at this
    exact this)
  obtain ⟨i0, hi, hz0, hz1, hz2⟩ := info_parts inf_term
  have HI := Lib.hid (And.intro hi (And.intro hz0 (And.intro hz1 hz2)))
  have hbt := tb_one'
  have HLA1 : Hid (n1 = a.length) := Lib.hid hn1
  have HLB1 : Hid (n2 = b.length) := Lib.hid hn2
  clear hr1 hr1' hr3 hr3' hsa hsb hi hz0 hz1 hz2
  have HTA := Lib.hid ha
  have HTB := Lib.hid hb
  have HEN := Lib.hid he
  have HAW := Lib.hid (fun w => eawake_any w)
  obtain ⟨vA, vn, vc, iA, im, ic⟩ := p
  obtain ⟨vars, v0, v1, v2, v3, ins⟩ := e
  change Calls _ _ #[.slice A1 n1 c1, .slice A2 n2 c2, .agg #[.slice vA vn vc, .int .i64 v0, .int .i64 v1, .int .i64 v2, .int .i64 v3, .slice iA im ic]] _ _
  obtain ⟨w1, hw1⟩ : ∃ w1, w.alloc (.cells #[.slice vA vn vc, .int .i64 v0, .int .i64 v1, .int .i64 v2, .int .i64 v3, .slice iA im ic] 27) = w1 := ⟨_, rfl⟩
  have hbk := heap_alloc_new w (.cells #[.slice vA vn vc, .int .i64 v0, .int .i64 v1, .int .i64 v2, .int .i64 v3, .slice iA im ic] 27)
  have hbl := KitC.below_one w (.cells #[.slice vA vn vc, .int .i64 v0, .int .i64 v1, .int .i64 v2, .int .i64 v3, .slice iA im ic] 27)
  have HW1 := Lib.hid hw1
  rw [hw1] at hbk hbl
  have HB1 := Lib.hid hbl
  have HK1 := Lib.hid hbk
  obtain ⟨z0, z1, z2, z3, z4, z5⟩ := cells_6 hbk
  clear ha hb he hn1 hn2 hw1 hbk hbl h1 h2 h3 h4 h5 h6 h7 h8 h9 hl1 hl2 hsa0 hsb0 hda hdb
  go_enter Try.func4, Try.ntmps4
  go_wp2_with (go_at_call 5; (with_reducible refine (HLA.out _ (HTA.out.keep (KitC.below_one _ _)) (HEN.out.keep (KitC.below_one _ _))).mono ?_))
  rintro e2 w2 ⟨rfl, hb2⟩
  rw [HW1.out] at hb2
  have HB2 := Lib.hid (below_two' HB1.out hb2)
  have HK2 := Lib.hid (KitC.block_on HK1.out hb2)
  clear hb2 z0 z1 z2 z3 z4 z5
  obtain ⟨z0, z1, z2, z3, z4, z5⟩ := cells_6 HK2.out
  go_wp2_with (go_at_call 5; (with_reducible refine (HLB.out _ (HTB.out.keep HB2.out) (HEN.out.keep HB2.out)).mono ?_))
  rintro e2 w3 ⟨rfl, hb3⟩
  have HB3 := Lib.hid (below_two' HB2.out hb3)
  have HK3 := Lib.hid (KitC.block_on HK2.out hb3)
  clear hb3 z0 z1 z2 z3 z4 z5
  obtain ⟨z0, z1, z2, z3, z4, z5⟩ := cells_6 HK3.out
  go_wp2_with (go_at_call 8; (with_reducible refine (HCA.out _ (HTA.out.keep HB3.out) (HEN.out.keep HB3.out)).mono ?_))
  rintro e2 w4 ⟨rfl, hb4⟩
  have HB4 := Lib.hid (below_two' HB3.out hb4)
  have HK4 := Lib.hid (KitC.block_on HK3.out hb4)
  clear hb4 z0 z1 z2 z3 z4 z5
  obtain ⟨z0, z1, z2, z3, z4, z5⟩ := cells_6 HK4.out
  go_wp2_with (go_at_call 8; (with_reducible refine (HCB.out _ (HTB.out.keep HB4.out) (HEN.out.keep HB4.out)).mono ?_))
  rintro e2 w5 ⟨rfl, hb5⟩
  have HB5 := Lib.hid (below_two' HB4.out hb5)
  have HK5 := Lib.hid (KitC.block_on HK4.out hb5)
  clear hb5 z0 z1 z2 z3 z4 z5
  obtain ⟨z0, z1, z2, z3, z4, z5⟩ := cells_6 HK5.out
  go_wp2_with (go_at_call 14; (with_reducible refine (HDA.out _ (HTA.out.keep HB5.out)).mono ?_))
  rintro e2 w6 ⟨rfl, hb6⟩
  have HB6 := Lib.hid (below_two' HB5.out hb6)
  have HK6 := Lib.hid (KitC.block_on HK5.out hb6)
  clear hb6 z0 z1 z2 z3 z4 z5
  obtain ⟨z0, z1, z2, z3, z4, z5⟩ := cells_6 HK6.out
  go_wp2_with (go_at_call 14; (with_reducible refine (HDB.out _ (HTB.out.keep HB6.out)).mono ?_))
  rintro e2 w7 ⟨rfl, hb7⟩
  have HB7 := Lib.hid (below_two' HB6.out hb7)
  have HK7 := Lib.hid (KitC.block_on HK6.out hb7)
  clear hb7 z0 z1 z2 z3 z4 z5
  obtain ⟨z0, z1, z2, z3, z4, z5⟩ := cells_6 HK7.out
  go_wp2_with (go_at_call 13; (with_reducible refine (HYA.out _ (HTA.out.keep HB7.out)).mono ?_))
  rintro e2 w8 ⟨rfl, hb8⟩
  have HB8 := Lib.hid (below_two' HB7.out hb8)
  have HK8 := Lib.hid (KitC.block_on HK7.out hb8)
  clear hb8 z0 z1 z2 z3 z4 z5
  obtain ⟨z0, z1, z2, z3, z4, z5⟩ := cells_6 HK8.out
  go_wp2_with (go_at_call 13; (with_reducible refine (HYB.out _ (HTB.out.keep HB8.out)).mono ?_))
  rintro e2 w9 ⟨rfl, hb9⟩
  have HB9 := Lib.hid (below_two' HB8.out hb9)
  have HK9 := Lib.hid (KitC.block_on HK8.out hb9)
  clear hb9 z0 z1 z2 z3 z4 z5
  obtain ⟨z0, z1, z2, z3, z4, z5⟩ := cells_6 HK9.out
  have HZ := Lib.hid (KitC.block_on HK9.out (KitC.below_one w9 (.cells #[.int .i64 12, .int .i64 0, .string ⟨#[]⟩] 39)))
  have HN00 : Hid (Tms (w9.alloc (.cells #[.int .i64 12, .int .i64 0, .string ⟨#[]⟩] 39)) (.slice (some ⟨w9.heap.size, 0, none⟩) 1 1) [opE 12]) := Lib.hid (tms_lit rfl rfl rfl)
  have HR0 : Hid (RowT (w9.alloc (.cells #[.int .i64 12, .int .i64 0, .string ⟨#[]⟩] 39)) ((w9.alloc (.cells #[.int .i64 12, .int .i64 0, .string ⟨#[]⟩] 39)).alloc (.cells #[] 39)) (.slice (some ⟨w9.heap.size + 1, 0, none⟩) 0 0) []) := Lib.hid (rowT_lit (by simp))
  have HN0 := Lib.hid ((HN00.out.keep (KitC.below_one (w9.alloc (.cells #[.int .i64 12, .int .i64 0, .string ⟨#[]⟩] 39)) (.cells #[] 39)))).rdk
  have HL1 : Hid (([] : List Tm).length + 1 ≤ maxLen) := Lib.hid (by unfold maxLen; simp)
  have HL2 : Hid ((([] : List Tm).length + 1) * 32 ≤ 140737488355328) := Lib.hid (by simp)
  have HL3 : Hid (([] ++ [opE 12]).length + a.length ≤ maxLen) := Lib.hid (by have := HLA1.out; unfold maxLen; simp; omega)
  have HL4 : Hid ((([] ++ [opE 12]).length + a.length) * 32 ≤ 140737488355328) := Lib.hid (by have := HLA1.out; simp; omega)
  have HL5 : Hid (([] ++ [opE 12]).length + b.length ≤ maxLen) := Lib.hid (by have := HLB1.out; unfold maxLen; simp; omega)
  have HL6 : Hid ((([] ++ [opE 12]).length + b.length) * 32 ≤ 140737488355328) := Lib.hid (by have := HLB1.out; simp; omega)
  clear z0 z1 z2 z3 z4 z5
  go_wp2_with (first
    | (at_builtin; refine wpList_append_rdk _ rfl (.tmp 77) (.tmp 78) _ rfl (w9.alloc (.cells #[.int .i64 12, .int .i64 0, .string ⟨#[]⟩] 39)).heap.size 39 i0 (.agg #[.int .i64 0, .int .i64 0, .string ByteArray.empty]) 3 32 Try.underlying22 HI.out.1 HI.out.2.1 HI.out.2.2.1 HI.out.2.2.2 rfl (by decide) _ _ _ rfl HR0.out.1 _ 1 (tmsV [opE 12]) rfl HN0.out (tmsV_one _) HL1.out HL2.out ?_ ?_; (simp); intro p1 y1 hrow1 hg1 _; have HR1 := Lib.hid (RowT.add (ys := [opE 12]) HR0.out hrow1 hg1); have HTA1 := Lib.hid (HTA.out.keep (below_two' (below_two' HB9.out (KitC.below_one _ _)) HR1.out.2)).rdk; have HSZ1 := Lib.hid HR1.out.2.size; clear hrow1 hg1)
    | (at_builtin; refine wpList_append_rdk _ rfl (.tmp 79) (.tmp 80) _ rfl (w9.alloc (.cells #[.int .i64 12, .int .i64 0, .string ⟨#[]⟩] 39)).heap.size 39 i0 (.agg #[.int .i64 0, .int .i64 0, .string ByteArray.empty]) 3 32 Try.underlying22 HI.out.1 HI.out.2.1 HI.out.2.2.1 HI.out.2.2.2 rfl (by decide) _ _ _ rfl HR1.out.1 _ a.length (tmsV a) rfl HTA1.out (tmsV_one _) HL3.out HL4.out ?_ ?_; (exact HSZ1.out); intro p2 y2 hrow2 hg2 _; have HR2 := Lib.hid (RowT.add (ys := a) HR1.out hrow2 hg2); obtain ⟨A5, m5, c5, hm5, rfl⟩ := shape_len (own_shape HR2.out.1) rfl; have HS0 := Lib.hid (rowT_lit (W := y2) rfl); have HN2 := Lib.hid ((HN00.out.keep (below_two' HR2.out.2 (KitC.below_one y2 (.cells #[] 39))))).rdk; clear hm5 hrow2 hg2)
    | (at_builtin; refine wpList_append_rdk _ rfl (.tmp 82) (.tmp 83) _ rfl y2.heap.size 39 i0 (.agg #[.int .i64 0, .int .i64 0, .string ByteArray.empty]) 3 32 Try.underlying22 HI.out.1 HI.out.2.1 HI.out.2.2.1 HI.out.2.2.2 rfl (by decide) _ _ _ rfl HS0.out.1 _ 1 (tmsV [opE 12]) rfl HN2.out (tmsV_one _) HL1.out HL2.out ?_ ?_; (simp); intro p3 y3 hrow3 hg3 _; have HS1 := Lib.hid (RowT.add (ys := [opE 12]) HS0.out hrow3 hg3); have HTB1 := Lib.hid (HTB.out.keep (below_two' (below_two' (below_two' HB9.out (KitC.below_one _ _)) HR2.out.2) HS1.out.2)).rdk; have HSZ3 := Lib.hid HS1.out.2.size; clear hrow3 hg3)
    | (at_builtin; refine wpList_append_rdk _ rfl (.tmp 84) (.tmp 85) _ rfl y2.heap.size 39 i0 (.agg #[.int .i64 0, .int .i64 0, .string ByteArray.empty]) 3 32 Try.underlying22 HI.out.1 HI.out.2.1 HI.out.2.2.1 HI.out.2.2.2 rfl (by decide) _ _ _ rfl HS1.out.1 _ b.length (tmsV b) rfl HTB1.out (tmsV_one _) HL5.out HL6.out ?_ ?_; (exact HSZ3.out); intro p4 y4 hrow4 hg4 _; have HS2 := Lib.hid (RowT.add (ys := b) HS1.out hrow4 hg4); obtain ⟨A7, m7, c7, hm7, rfl⟩ := shape_len (own_shape HS2.out.1) rfl; clear hm7 hrow4 hg4))
  have hBY := below_two' (below_two' (below_two' HB9.out (KitC.below_one w9 (.cells #[.int .i64 12, .int .i64 0, .string ⟨#[]⟩] 39))) HR2.out.2) HS2.out.2
  have HBY := Lib.hid hBY
  have hey := KitC.block_on (KitC.block_on HZ.out HR2.out.2) HS2.out.2
  have hzy : w.heap.size < y4.heap.size := (Array.getElem?_eq_some_iff.1 hey).1
  have HA5 : Hid (Tms y4 (.slice A5 m5 c5) (opE 12 :: a)) := Lib.hid (HR2.out.tms.keep HS2.out.2)
  have HA7 : Hid (Tms y4 (.slice A7 m7 c7) (opE 12 :: b)) := Lib.hid HS2.out.tms
  obtain ⟨q0, q1, q2, q3, q4, q5⟩ := cells_6 hey
  have HZ0 := Lib.hid q0
  have HZ1 := Lib.hid q1
  have HZ2 := Lib.hid q2
  have HZ3 := Lib.hid q3
  have HZ4 := Lib.hid q4
  have HZ5 := Lib.hid q5
  have HC1 : Hid (∀ W k, Rd W (.slice (some ⟨k, 0, none⟩) 2 2) (intV [12, 19]) → Below y4.heap.size y4 W → Calls Try.prog 15 #[.agg #[.slice vA vn vc, .int .i64 v0, .int .i64 v1, .int .i64 v2, .int .i64 v3, .slice iA im ic], .slice (some ⟨k, 0, none⟩) 2 2, .slice A1 n1 c1, .slice A2 n2 c2] W (RetB W r1)) := Lib.hid (fun W k h hB => HO1.out W k h (below_two' HBY.out hB))
  have HC2 : Hid (∀ W k, Rd W (.slice (some ⟨k, 0, none⟩) 1 1) (intV [20]) → Below y4.heap.size y4 W → Calls Try.prog 15 #[.agg #[.slice vA vn vc, .int .i64 v0, .int .i64 v1, .int .i64 v2, .int .i64 v3, .slice iA im ic], .slice (some ⟨k, 0, none⟩) 1 1, .slice A5 m5 c5, .slice A7 m7 c7] W (RetB W r1)) := Lib.hid (fun W k h hB => HO2.out W k _ _ _ _ _ _ h (below_two' HBY.out hB) (HA5.out.keep hB) (HA7.out.keep hB))
  have HC3 : Hid (∀ W k, Rd W (.slice (some ⟨k, 0, none⟩) 2 2) (intV [12, 12]) → Below y4.heap.size y4 W → Calls Try.prog 15 #[.agg #[.slice vA vn vc, .int .i64 v0, .int .i64 v1, .int .i64 v2, .int .i64 v3, .slice iA im ic], .slice (some ⟨k, 0, none⟩) 2 2, .slice A1 n1 c1, .slice none 0 0] W (RetB W r3)) := Lib.hid (fun W k h hB => HO3.out W k h (below_two' HBY.out hB))
  have HC4 : Hid (∀ W, Below y4.heap.size y4 W → Calls Try.prog 10 #[.slice A1 n1 c1, .agg #[.slice vA vn vc, .int .i64 v0, .int .i64 v1, .int .i64 v2, .int .i64 v3, .slice iA im ic]] W (RetB W r3)) := Lib.hid (fun W hB => HHO.out W (HTA.out.keep (below_two' HBY.out hB)) (HEN.out.keep (below_two' HBY.out hB)))
  clear HO1 HO2 HO3 HHO hBY hey HLA HLB HCA HCB HDA HDB HYA HYB HR0 HR1 HR2 HS0 HS1 HS2 HN0 HN00 HN2 HL1 HL2 HL3 HL4 HL5 HL6 HTA1 HTB1 HSZ1 HSZ3 HB1 HB2 HB3 HB4 HB5 HB6 HB7 HB8 HK1 HK2 HK3 HK4 HK5 HK6 HK7 HK8 HK9 HA5 HA7 HI hbt g5 g6 g7
  all_goals
   go_region_held3 (fun w' => w'.cell? ⟨w.heap.size, 0, none⟩ = some (.slice vA vn vc) ∧ w'.cell? ⟨w.heap.size, 1, none⟩ = some (.int .i64 v0) ∧ w'.cell? ⟨w.heap.size, 2, none⟩ = some (.int .i64 v1) ∧ w'.cell? ⟨w.heap.size, 3, none⟩ = some (.int .i64 v2) ∧ w'.cell? ⟨w.heap.size, 4, none⟩ = some (.int .i64 v3) ∧ w'.cell? ⟨w.heap.size, 5, none⟩ = some (.slice iA im ic)) ((refine keep_env hzy HZ0.out HZ1.out HZ2.out HZ3.out HZ4.out HZ5.out ?_; (repeat' (first | (with_reducible exact Below.refl _ _) | (with_reducible assumption) | (with_reducible refine below_drew ?_) | (with_reducible refine below_two' ?_ (KitC.below_one _ _)) | (with_reducible refine below_two' ?_ (by with_reducible assumption))))))
    (first
      | (go_at_call 15; (with_reducible refine (HC1.out _ _ ?_ ?_).mono ?_); (repeat' (first | ((with_reducible refine lit_here ?_ ?_ ?_) <;> first | rfl | (simp; done)) | (with_reducible refine Rd.drew ?_) | (with_reducible refine Rd.keep ?_ (KitC.below_one _ _)) | (with_reducible refine Rd.keep ?_ (by with_reducible assumption)))); (repeat' (first | (with_reducible exact Below.refl _ _) | (with_reducible assumption) | (with_reducible refine below_drew ?_) | (with_reducible refine below_two' ?_ (KitC.below_one _ _)) | (with_reducible refine below_two' ?_ (by with_reducible assumption)))); rintro e w' ⟨rfl, hb'⟩)
      | (go_at_call 15; (with_reducible refine (HC2.out _ _ ?_ ?_).mono ?_); (repeat' (first | ((with_reducible refine lit_here ?_ ?_ ?_) <;> first | rfl | (simp; done)) | (with_reducible refine Rd.drew ?_) | (with_reducible refine Rd.keep ?_ (KitC.below_one _ _)) | (with_reducible refine Rd.keep ?_ (by with_reducible assumption)))); (repeat' (first | (with_reducible exact Below.refl _ _) | (with_reducible assumption) | (with_reducible refine below_drew ?_) | (with_reducible refine below_two' ?_ (KitC.below_one _ _)) | (with_reducible refine below_two' ?_ (by with_reducible assumption)))); rintro e w' ⟨rfl, hb'⟩)
      | (go_at_call 15; (with_reducible refine (HC3.out _ _ ?_ ?_).mono ?_); (repeat' (first | ((with_reducible refine lit_here ?_ ?_ ?_) <;> first | rfl | (simp; done)) | (with_reducible refine Rd.drew ?_) | (with_reducible refine Rd.keep ?_ (KitC.below_one _ _)) | (with_reducible refine Rd.keep ?_ (by with_reducible assumption)))); (repeat' (first | (with_reducible exact Below.refl _ _) | (with_reducible assumption) | (with_reducible refine below_drew ?_) | (with_reducible refine below_two' ?_ (KitC.below_one _ _)) | (with_reducible refine below_two' ?_ (by with_reducible assumption)))); rintro e w' ⟨rfl, hb'⟩)
      | (go_at_call 10; (with_reducible refine (HC4.out _ ?_).mono ?_); (repeat' (first | (with_reducible exact Below.refl _ _) | (with_reducible assumption) | (with_reducible refine below_drew ?_) | (with_reducible refine below_two' ?_ (KitC.below_one _ _)) | (with_reducible refine below_two' ?_ (by with_reducible assumption)))); rintro e w' ⟨rfl, hb'⟩)
      | (go_at_call 6; (with_reducible refine (HAW.out _).mono ?_); rintro e w' ⟨rfl, hb'⟩))
  all_goals
    go_wp2_with fail
    go_ret
    refine ⟨rfl, below_two' HBY.out ?_⟩
    (repeat' (first | (with_reducible exact Below.refl _ _) | (with_reducible assumption) | (with_reducible refine below_drew ?_) | (with_reducible refine below_two' ?_ (KitC.below_one _ _)) | (with_reducible refine below_two' ?_ (by with_reducible assumption))))
end Go.Proofs.Ytbkgkdfameojfaa
