/- EvalRefCheck, joined. -/
import Derived.Test.YtbkgkdfameojfaaMEvalCheck
import Derived.BigQuiet
namespace Go.Proofs.Ytbkgkdfameojfaa
open Go.RowKit Go.Sort TermSpec EvalSpec NamesSpec
set_option maxRecDepth 100000

theorem rcheck_wide (p : EP) (e : Ev) (A : Option Addr) (n c : Nat) (l : List Tm) (w : World) (he : EnvIn w p e) (h4 : 4 < e.vars.length) :
    Calls Try.prog 8 #[.slice A n c, envV p e] w (RetI w (chkE e l)) := by
  have HE := Lib.hid (chkE_wide (l := l) h4)
  have hv := he.vars.1
  obtain ⟨vA, vn, vc, iA, im, ic⟩ := p
  obtain ⟨r, hr⟩ : ∃ r, r = chkE e l := ⟨_, rfl⟩
  rw [← hr] at HE ⊢
  have hvn : 4 < (vn : Int) := by have : vn = e.vars.length := hv; omega
  obtain ⟨vars, v0, v1, v2, v3, ins⟩ := e
  change Calls _ _ #[.slice A n c, .agg #[.slice vA vn vc, .int .i64 v0, .int .i64 v1, .int .i64 v2, .int .i64 v3, .slice iA im ic]] _ _
  clear hr he h4 hv
  go_enter Try.func8, Try.ntmps8
  go_wp2_with fail
  go_ret
  exact ⟨ret_int HE.out.symm, KitC.below_one _ _⟩
theorem rcheck_bad (p : EP) (e : Ev) (A : Option Addr) (n c : Nat) (l : List Tm) (hn : n = l.length) (hn62 : n ≤ 4398046511104) (hs : Small l) (w : World) (h : Tms w (.slice A n c) l) (he : EnvIn w p e) (h4 : ¬ 4 < e.vars.length) (hc : chk l ≠ 0) :
    Calls Try.prog 8 #[.slice A n c, envV p e] w (RetI w (chkE e l)) := by
  have HE := Lib.hid (chkE_bad h4 hc)
  have hv := he.vars.1
  have HC := Lib.hid (fun w h => rcheck_any A n c l hn (by omega) hs w h)
  have HT := Lib.hid h
  obtain ⟨vA, vn, vc, iA, im, ic⟩ := p
  obtain ⟨r, hr⟩ : ∃ r, r = chkE e l := ⟨_, rfl⟩
  rw [← hr] at HE ⊢
  obtain ⟨q, hq⟩ : ∃ q, q = chk l := ⟨_, rfl⟩
  rw [← hq] at HE HC hc
  have hvn : ¬ 4 < (vn : Int) := by have : vn = e.vars.length := hv; omega
  have g : (q != 0) = true := by simp [hc]
  obtain ⟨vars, v0, v1, v2, v3, ins⟩ := e
  change Calls _ _ #[.slice A n c, .agg #[.slice vA vn vc, .int .i64 v0, .int .i64 v1, .int .i64 v2, .int .i64 v3, .slice iA im ic]] _ _
  clear hr he h4 hv hq hc h hn hs
  go_enter Try.func8, Try.ntmps8
  go_wp2_with (go_at_call 19; (with_reducible refine (HC.out _ (HT.out.keep (KitC.below_one _ _))).mono ?_))
  rintro e2 w2 ⟨rfl, hb2⟩
  have HB2 := Lib.hid (below_two' (KitC.below_one _ _) hb2)
  clear hb2
  go_wp2_with fail
  go_ret
  exact ⟨ret_int HE.out.symm, HB2.out⟩
def RCkRel (W : World) (e : Ev) (l : List Tm) (n : Nat) (i : Value) (wr : World) : Prop := ∃ k : Nat, k ≤ n ∧ i = .int .i64 k ∧ knownB e (l.take k) = true ∧ Below W.heap.size W wr
theorem known_next {e : Ev} {l : List Tm} {k : Nat} {t : Tm} (h : l[k]? = some t) : knownB e (l.take (k + 1)) = (knownB e (l.take k) && (!(decide (t.op = 2)) || hasS (vnames e) t.s)) := by
  unfold knownB
  rw [take_next h, List.all_append]
  simp
theorem known_stop {e : Ev} {l : List Tm} {k : Nat} {t : Tm} (h : l[k]? = some t) (h2 : t.op = 2) (hh : hasS (vnames e) t.s = false) : knownB e l = false := by
  unfold knownB
  rw [List.all_eq_false]
  exact ⟨t, List.mem_of_getElem? h, by simp [h2, hh]⟩
set_option maxHeartbeats 2000000 in
theorem rcheck_last (p : EP) (e : Ev) (A : Option Addr) (n c : Nat) (l : List Tm) (hn : n = l.length) (hn62 : n ≤ 4398046511104) (hs : Small l) (w : World) (h : Tms w (.slice A n c) l) (he : EnvIn w p e) (h4 : ¬ 4 < e.vars.length) (hc : chk l = 0) :
    Calls Try.prog 8 #[.slice A n c, envV p e] w (RetI w (chkE e l)) := by
  have HE0 := Lib.hid (fun h => chkE_typ (e := e) h4 hc h)
  have HE1 := Lib.hid (fun h => chkE_last (e := e) h4 hc h)
  have hv := he.vars.1
  have HC := Lib.hid (fun w h => rcheck_any A n c l hn (by omega) hs w h)
  rw [hc] at HC
  have HTY := Lib.hid (fun w h => rtyp_zero A n c l hn (by omega) w h (chk_ok hc).1)
  have HN := Lib.hid hn
  have HT := Lib.hid h
  have HV := Lib.hid (fun s w h => rvariable_any p e s w h)
  have HEN := Lib.hid he
  have HPG := Lib.hid (fun s => place_ge (vnames e) s)
  obtain ⟨vA, vn, vc, iA, im, ic⟩ := p
  obtain ⟨r, hr⟩ : ∃ r, r = chkE e l := ⟨_, rfl⟩
  rw [← hr] at HE0 HE1 ⊢
  obtain ⟨q, hq⟩ : ∃ q, q = typ l := ⟨_, rfl⟩
  rw [← hq] at HE0 HE1 HTY
  have hvn : ¬ 4 < (vn : Int) := by have : vn = e.vars.length := hv; omega
  obtain ⟨f, hf⟩ : ∃ f : ByteArray → Int, f = fun s => Lib.idxOfS (vnames e) s := ⟨_, rfl⟩
  have HF : Hid (∀ s, Lib.idxOfS (vnames e) s = f s) := Lib.hid (fun s => by rw [hf])
  have HV' : Hid (∀ s w, EnvIn w ⟨vA, vn, vc, iA, im, ic⟩ e → Calls Try.prog 20 #[envV ⟨vA, vn, vc, iA, im, ic⟩ e, .string s] w (RetI w (f s))) := Lib.hid (fun s w h => by rw [← HF.out]; exact HV.out s w h)
  clear hr he h4 hv hq hc h hn hs hf
  obtain ⟨E, hE⟩ : ∃ E, E = e := ⟨_, rfl⟩
  rw [← hE] at HPG HF HEN HV' HE1
  obtain ⟨vars, v0, v1, v2, v3, ins⟩ := e
  have HV2 : Hid (∀ s w, EnvIn w ⟨vA, vn, vc, iA, im, ic⟩ E → Calls Try.prog 20 #[.agg #[.slice vA vn vc, .int .i64 v0, .int .i64 v1, .int .i64 v2, .int .i64 v3, .slice iA im ic], .string s] w (RetI w (f s))) := Lib.hid (fun s w h => by have := HV'.out s w h; rw [hE] at this; exact this)
  change Calls _ _ #[.slice A n c, .agg #[.slice vA vn vc, .int .i64 v0, .int .i64 v1, .int .i64 v2, .int .i64 v3, .slice iA im ic]] _ _
  clear hE HV HV'
  by_cases hq0 : q = 0
  · have g : (q == 0) = true := by simp [hq0]
    have HEE := Lib.hid (HE0.out hq0)
    clear hq0 HE0 HE1
    go_enter Try.func8, Try.ntmps8
    go_wp2_with (go_at_call 19; (with_reducible refine (HC.out _ (HT.out.keep (KitC.below_one _ _))).mono ?_))
    rintro e2 w2 ⟨rfl, hb2⟩
    have HB2 := Lib.hid (below_two' (KitC.below_one _ _) hb2)
    clear hb2
    go_wp2_with (go_at_call 13; (with_reducible refine (HTY.out _ (HT.out.keep HB2.out)).mono ?_))
    rintro e2 w3 ⟨rfl, hb3⟩
    have HB3 := Lib.hid (below_two' HB2.out hb3)
    clear hb3
    go_wp2_with fail
    go_ret
    exact ⟨ret_int HEE.out.symm, HB3.out⟩
  · have g : (q == 0) = false := by simp [hq0]
    have HEE := Lib.hid (HE1.out hq0)
    clear hq0 HE0 HE1
    go_enter Try.func8, Try.ntmps8
    go_wp2_with (go_at_call 19; (with_reducible refine (HC.out _ (HT.out.keep (KitC.below_one _ _))).mono ?_))
    rintro e2 w2 ⟨rfl, hb2⟩
    obtain ⟨B2, hbb, _⟩ := KitC.one_block hb2
    have HB2 := Lib.hid hbb
    have HBK2 := Lib.hid B2
    clear hb2 hbb B2
    go_wp2_with (go_at_call 13; (with_reducible refine (HTY.out _ (HT.out.keep HB2.out)).mono ?_))
    rintro e2 w3 ⟨rfl, hb3⟩
    have HB3 := Lib.hid (below_two' HB2.out hb3)
    have HBK3 := Lib.hid (KitC.block_on HBK2.out hb3)
    clear hb3
    go_wp2_with fail
    go_loopw [6] (fun i wr => RCkRel w3 E l n i wr) (fun i _ => n - (intOf i).toNat)
    case atStart => exact ⟨0, Nat.zero_le _, rfl, rfl, Below.refl _ _⟩
    case round =>
      obtain ⟨k, hk, rfl, hall, hbw⟩ := hrel
      have HBW := Lib.hid hbw
      have HALL := Lib.hid hall
      clear hbw hall
      by_cases hlt : k < n
      · obtain ⟨t, ht⟩ : ∃ t, l[k]? = some t := get_some (by have := HN.out; omega)
        obtain ⟨b, off, rfl, hb, c0, c1, c2⟩ := (HT.out.keep (below_two' HB3.out HBW.out)).at_ ht
        obtain ⟨z0, z1, z2, z3, z4, z5⟩ := cells_6 (KitC.block_on HBK3.out HBW.out)
        have k0 := cell_regrown z0
        have k1 := cell_regrown z1
        have k2 := cell_regrown z2
        have k3 := cell_regrown z3
        have k4 := cell_regrown z4
        have k5 := cell_regrown z5
        have j0 := cell_regrown c0
        have j2 := cell_regrown c2
        have HKN := Lib.hid (known_next (e := E) ht)
        have HST := Lib.hid (fun h2 hh => known_stop (e := E) ht h2 hh)
        obtain ⟨o, tn, s⟩ := t
        simp only at c0 c1 c2 j0 j2 HKN HST
        have HVV : Hid (∀ d os, Calls Try.prog 20 #[.agg #[.slice vA vn vc, .int .i64 v0, .int .i64 v1, .int .i64 v2, .int .i64 v3, .slice iA im ic], .string s] (grow (redrawn wr d) os) fun e w'' => e = .returned (.int .i64 (f s)) ∧ ∃ p : Regrown, w'' = grow (redrawn wr p.d) p.os) := Lib.hid (fun d os => Calls.regrown_of (HV2.out s _ (HEN.out.keep (below_two' (below_two' HB3.out HBW.out) (below_regrown wr d os)))))
        have hdec := tru_neg (HPG.out s)
        rw [HF.out] at hdec
        have hnk : (k : Int) < n := by omega
        clear c0 c1 c2 z0 z1 z2 z3 z4 z5 ht
        rcases ho : (o == 2) with _ | _
        · have HO : Hid (decide (o = 2) = false) := Lib.hid (by simpa using ho)
          clear hdec
          go_wp2_with fail
          refine wp_region_quiet_below (by kernel_rfl) (by kernel_rfl) ?_
          repeat (go_big_quiet_step (exact HVV.out _ _))
          refine wpQuiet_nil ?_
          intro _ hw'
          obtain ⟨⟨dq, osq⟩, hw''⟩ := hw'
          subst hw''
          have HBG := Lib.hid (below_two' HBW.out (below_regrown wr dq osq))
          simp only
          go_wp2_with fail
          go_roundw
          case rel => exact ⟨k + 1, by omega, by simp, by rw [HKN.out, HALL.out, HO.out]; rfl, HBG.out⟩
          case measure => simp [intOf]; omega
        · have HO : Hid (decide (o = 2) = true) := Lib.hid (by simpa using ho)
          rcases hh : hasS (vnames E) s with _ | _
          · rw [hh] at hdec
            have hdec' : decide (f s < 0) = true := hdec
            have HH := Lib.hid hh
            clear hdec hh
            go_wp2_with fail
            refine wp_region_quiet_below (by kernel_rfl) (by kernel_rfl) ?_
            repeat (go_big_quiet_step (exact HVV.out _ _))
            refine wpQuiet_nil ?_
            intro _ hw'
            obtain ⟨⟨dq, osq⟩, hw''⟩ := hw'
            subst hw''
            have HBG := Lib.hid (below_two' (below_two' HB3.out HBW.out) (below_regrown wr dq osq))
            simp only
            go_wp2_with fail
            go_ret
            exact ⟨ret_int (by rw [HEE.out, HST.out (by simpa using HO.out) HH.out]; rfl), HBG.out⟩
          · rw [hh] at hdec
            have hdec' : decide (f s < 0) = false := hdec
            have HH := Lib.hid hh
            clear hdec hh
            go_wp2_with fail
            refine wp_region_quiet_below (by kernel_rfl) (by kernel_rfl) ?_
            repeat (go_big_quiet_step (exact HVV.out _ _))
            refine wpQuiet_nil ?_
            intro _ hw'
            obtain ⟨⟨dq, osq⟩, hw''⟩ := hw'
            subst hw''
            have HBG := Lib.hid (below_two' HBW.out (below_regrown wr dq osq))
            simp only
            go_wp2_with fail
            go_roundw
            case rel => exact ⟨k + 1, by omega, by simp, by rw [HKN.out, HALL.out, HH.out]; simp, HBG.out⟩
            case measure => simp [intOf]; omega
      · have HAL : Hid (knownB E l = true) := Lib.hid (by
          have := HALL.out
          rwa [List.take_of_length_le (by have := HN.out; omega)] at this)
        go_wp2_with fail
        go_ret
        exact ⟨ret_int (by rw [HEE.out, if_pos HAL.out]), below_two' HB3.out HBW.out⟩
theorem rechk_any (p : EP) (e : Ev) (A : Option Addr) (n c : Nat) (l : List Tm) (hn : n = l.length) (hn62 : n ≤ 4398046511104) (hs : Small l) (w : World) (h : Tms w (.slice A n c) l) (he : EnvIn w p e) :
    Calls Try.prog 8 #[.slice A n c, envV p e] w (RetI w (chkE e l)) := by
  by_cases h4 : 4 < e.vars.length
  · exact rcheck_wide p e A n c l w he h4
  · by_cases hc : chk l = 0
    · exact rcheck_last p e A n c l hn hn62 hs w h he h4 hc
    · exact rcheck_bad p e A n c l hn hn62 hs w h he h4 hc
end Go.Proofs.Ytbkgkdfameojfaa
