/- EvalCheck, joined. -/
import Derived.Test.YtbkgkdfameojfaaMEvalReckon
import Derived.Test.YtbkgkdfameojfaaMTermA
import Derived.Test.YtbkgkdfameojfaaMTermNames
import Derived.Lib.QuietBelow
namespace Go.Proofs.Ytbkgkdfameojfaa
open Go.RowKit TermSpec EvalSpec NamesSpec
set_option maxRecDepth 100000

theorem known_names (e : Ev) (l : List Tm) : knownB e l = (namesOf l 2).all (fun s => hasS (vnames e) s) := by
  unfold knownB namesOf
  rw [List.all_map]
  induction l with
  | nil => rfl
  | cons t r ih =>
    rw [List.all_cons, ih, List.filter_cons]
    by_cases h : t.op = 2
    · simp [h]
    · simp [h]
/-- The cells of an Env by value. -/
abbrev envO (p : EP) (e : Ev) : Obj := .cells #[.slice p.vA p.vn p.vc, .int .i64 e.v0, .int .i64 e.v1, .int .i64 e.v2, .int .i64 e.v3, .slice p.iA p.im p.ic] 27
theorem tru_neg {r : Int} {b : Bool} (h : decide (0 ≤ r) = b) : decide (r < 0) = !b := by
  subst h
  rw [← decide_not]
  exact decide_eq_decide.2 (by omega)

theorem echeck_wide (p : EP) (e : Ev) (A : Option Addr) (n c : Nat) (l : List Tm) (w : World) (he : EnvIn w p e) (h4 : 4 < e.vars.length) :
    Calls Try.prog 9 #[.slice A n c, envV p e] w (RetI w (chkE e l)) := by
  have HE := Lib.hid (chkE_wide (l := l) h4)
  have hv := he.vars.1
  obtain ⟨vA, vn, vc, iA, im, ic⟩ := p
  obtain ⟨r, hr⟩ : ∃ r, r = chkE e l := ⟨_, rfl⟩
  rw [← hr] at HE ⊢
  have hvn : 4 < (vn : Int) := by have : vn = e.vars.length := hv; omega
  obtain ⟨vars, v0, v1, v2, v3, ins⟩ := e
  change Calls _ _ #[.slice A n c, .agg #[.slice vA vn vc, .int .i64 v0, .int .i64 v1, .int .i64 v2, .int .i64 v3, .slice iA im ic]] _ _
  clear hr he h4 hv
  go_enter Try.func9, Try.ntmps9
  go_wp2_with fail
  go_ret
  exact ⟨ret_int HE.out.symm, KitC.below_one _ _⟩
theorem echeck_bad (p : EP) (e : Ev) (A : Option Addr) (n c : Nat) (l : List Tm) (hn : n = l.length) (hn62 : n ≤ 4398046511104) (hs : Small l) (w : World) (h : Tms w (.slice A n c) l) (he : EnvIn w p e) (h4 : ¬ 4 < e.vars.length) (hc : chk l ≠ 0) :
    Calls Try.prog 9 #[.slice A n c, envV p e] w (RetI w (chkE e l)) := by
  have HE := Lib.hid (chkE_bad h4 hc)
  have hv := he.vars.1
  have HC := Lib.hid (fun w h => check_any A n c l hn (by omega) hs w h)
  have HT := Lib.hid h
  obtain ⟨vA, vn, vc, iA, im, ic⟩ := p
  obtain ⟨r, hr⟩ : ∃ r, r = chkE e l := ⟨_, rfl⟩
  rw [← hr] at HE ⊢
  obtain ⟨q, hq⟩ : ∃ q, q = chk l := ⟨_, rfl⟩
  rw [← hq] at HE HC hc
  have hvn : ¬ 4 < (vn : Int) := by have : vn = e.vars.length := hv; omega
  have g : (q != 0) = true := by simp [hc]
  obtain ⟨vars, v0, v1, v2, v3, ins⟩ := e
  change Calls _ _ #[.slice A n c, .agg #[.slice vA vn vc, .int .i64 v0, .int .i64 v1, .int .i64 v2, .int .i64 v3, .slice iA im ic]] _ _
  clear hr he h4 hv hq hc h hn hs
  go_enter Try.func9, Try.ntmps9
  go_wp2_with (go_at_call 21; (with_reducible refine (HC.out _ (HT.out.keep (KitC.below_one _ _))).mono ?_))
  rintro e2 w2 ⟨rfl, hb2⟩
  have HB2 := Lib.hid (below_two' (KitC.below_one _ _) hb2)
  clear hb2
  go_wp2_with fail
  go_ret
  exact ⟨ret_int HE.out.symm, HB2.out⟩
def CkRel (W : World) (e : Ev) (nm : List ByteArray) (i : Value) (wr : World) : Prop := ∃ k : Nat, k ≤ nm.length ∧ i = .int .i64 k ∧ (nm.take k).all (fun s => hasS (vnames e) s) = true ∧ Below W.heap.size W wr
set_option maxHeartbeats 2000000 in
theorem echeck_last (p : EP) (e : Ev) (A : Option Addr) (n c : Nat) (l : List Tm) (hn : n = l.length) (hn62 : n ≤ 4398046511104) (hs : Small l) (w : World) (h : Tms w (.slice A n c) l) (he : EnvIn w p e) (h4 : ¬ 4 < e.vars.length) (hc : chk l = 0) :
    Calls Try.prog 9 #[.slice A n c, envV p e] w (RetI w (chkE e l)) := by
  have HE0 := Lib.hid (fun h => chkE_typ (e := e) h4 hc h)
  have HE1 := Lib.hid (fun h => chkE_last (e := e) h4 hc h)
  rw [known_names] at HE1
  have hv := he.vars.1
  have HC := Lib.hid (fun w h => check_any A n c l hn (by omega) hs w h)
  rw [hc] at HC
  have HTY := Lib.hid (fun w h => typ_any A n c l hn (by omega) w h)
  have HNM := Lib.hid (fun w h => names_any A n c l 2 hn hn62 w h)
  have HNL := Lib.hid (namesOf_length l 2)
  have HN := Lib.hid hn
  have HT := Lib.hid h
  have HV := Lib.hid (fun s w h => variable_any p e s w h)
  have HEN := Lib.hid he
  have HPG := Lib.hid (fun s => place_ge (vnames e) s)
  obtain ⟨vA, vn, vc, iA, im, ic⟩ := p
  obtain ⟨r, hr⟩ : ∃ r, r = chkE e l := ⟨_, rfl⟩
  rw [← hr] at HE0 HE1 ⊢
  obtain ⟨q, hq⟩ : ∃ q, q = typ l := ⟨_, rfl⟩
  rw [← hq] at HE0 HE1 HTY
  obtain ⟨nm, hnm⟩ : ∃ nm, nm = namesOf l 2 := ⟨_, rfl⟩
  rw [← hnm] at HE1 HNM HNL
  have hvn : ¬ 4 < (vn : Int) := by have : vn = e.vars.length := hv; omega
  have HVN := Lib.hid (rfl : vnames e = vnames e)
  obtain ⟨f, hf⟩ : ∃ f : ByteArray → Int, f = fun s => Lib.idxOfS (vnames e) s := ⟨_, rfl⟩
  have HF : Hid (∀ s, Lib.idxOfS (vnames e) s = f s) := Lib.hid (fun s => by rw [hf])
  have HV' : Hid (∀ s w, EnvIn w ⟨vA, vn, vc, iA, im, ic⟩ e → Calls Try.prog 24 #[envV ⟨vA, vn, vc, iA, im, ic⟩ e, .string s] w (RetI w (f s))) := Lib.hid (fun s w h => by rw [← HF.out]; exact HV.out s w h)
  clear hr he h4 hv hq hc h hn hs hnm hf
  obtain ⟨E, hE⟩ : ∃ E, E = e := ⟨_, rfl⟩
  rw [← hE] at HPG HF HEN HV' HE1
  obtain ⟨vars, v0, v1, v2, v3, ins⟩ := e
  have HV2 : Hid (∀ s w, EnvIn w ⟨vA, vn, vc, iA, im, ic⟩ E → Calls Try.prog 24 #[.agg #[.slice vA vn vc, .int .i64 v0, .int .i64 v1, .int .i64 v2, .int .i64 v3, .slice iA im ic], .string s] w (RetI w (f s))) := Lib.hid (fun s w h => by have := HV'.out s w h; rw [hE] at this; exact this)
  change Calls _ _ #[.slice A n c, .agg #[.slice vA vn vc, .int .i64 v0, .int .i64 v1, .int .i64 v2, .int .i64 v3, .slice iA im ic]] _ _
  clear hE HV HV' HVN
  by_cases hq0 : q = 0
  · have g : (q == 0) = true := by simp [hq0]
    have HEE := Lib.hid (HE0.out hq0)
    clear hq0 HE0 HE1
    go_enter Try.func9, Try.ntmps9
    go_wp2_with (go_at_call 21; (with_reducible refine (HC.out _ (HT.out.keep (KitC.below_one _ _))).mono ?_))
    rintro e2 w2 ⟨rfl, hb2⟩
    have HB2 := Lib.hid (below_two' (KitC.below_one _ _) hb2)
    clear hb2
    go_wp2_with (go_at_call 22; (with_reducible refine (HTY.out _ (HT.out.keep HB2.out)).mono ?_))
    rintro e2 w3 ⟨rfl, hb3⟩
    have HB3 := Lib.hid (below_two' HB2.out hb3)
    clear hb3
    go_wp2_with fail
    go_ret
    exact ⟨ret_int HEE.out.symm, HB3.out⟩
  · have g : (q == 0) = false := by simp [hq0]
    have HEE := Lib.hid (HE1.out hq0)
    clear hq0 HE0 HE1
    go_enter Try.func9, Try.ntmps9
    go_wp2_with (go_at_call 21; (with_reducible refine (HC.out _ (HT.out.keep (KitC.below_one _ _))).mono ?_))
    rintro e2 w2 ⟨rfl, hb2⟩
    obtain ⟨B2, hbb, _⟩ := KitC.one_block hb2
    have HB2 := Lib.hid hbb
    have HBK2 := Lib.hid B2
    clear hb2 hbb B2
    go_wp2_with (go_at_call 22; (with_reducible refine (HTY.out _ (HT.out.keep HB2.out)).mono ?_))
    rintro e2 w3 ⟨rfl, hb3⟩
    have HB3 := Lib.hid (below_two' HB2.out hb3)
    have HBK3 := Lib.hid (KitC.block_on HBK2.out hb3)
    clear hb3
    go_wp2_with (go_at_call 23; (with_reducible refine (HNM.out _ (HT.out.keep HB3.out)).mono ?_))
    rintro e2 w4 ⟨v4, rfl, hr4, hb4⟩
    have HB4 := Lib.hid (below_two' HB3.out hb4)
    have HBK4 := Lib.hid (KitC.block_on HBK3.out hb4)
    obtain ⟨A4, n4, c4, rfl, hn4, hc4, hA4⟩ := hr4.strs
    have HA4 := Lib.hid hA4
    have HN4 := Lib.hid hn4
    have hn4b : n4 ≤ 4398046511104 := by have := HNL.out; have := HN.out; omega
    clear hb4 hr4 hn4 hA4 hc4
    go_wp2_with fail
    go_loopw [23] (fun i wr => CkRel w4 E nm i wr) (fun i _ => n4 - (intOf i).toNat)
    case atStart => exact ⟨0, Nat.zero_le _, rfl, by simp, Below.refl _ _⟩
    case round =>
      obtain ⟨k, hk, rfl, hall, hbw⟩ := hrel
      have HBW := Lib.hid hbw
      have HALL := Lib.hid hall
      have hk' : k ≤ n4 := by have := HN4.out; omega
      clear hbw hall hk
      by_cases hlt : k < n4
      · obtain ⟨b2, off2, rfl, hb2, hcell⟩ := HA4.out (by omega)
        obtain ⟨x, hx⟩ : ∃ x, nm[k]? = some x := get_some (by have := HN4.out; omega)
        have hck := (HBW.out.cell (p := ⟨b2, off2 + k, none⟩) (by exact hb2)).trans (hcell k _ hx)
        obtain ⟨c0, c1, c2, c3, c4', c5⟩ := cells_6 (KitC.block_on HBK4.out HBW.out)
        have HX := Lib.hid (take_next hx)
        have HXM := Lib.hid (List.mem_of_getElem? hx)
        have HVV := Lib.hid (HV2.out x wr (HEN.out.keep (below_two' HB4.out HBW.out)))
        have hdec := tru_neg (HPG.out x)
        rw [HF.out] at hdec
        clear hcell hx
        rcases hh : hasS (vnames E) x with _ | _
        · rw [hh] at hdec
          have hdec' : decide (f x < 0) = true := hdec
          have HH := Lib.hid hh
          clear hdec hh
          go_wp2_with (go_at_call 24; (with_reducible refine HVV.out.mono ?_))
          rintro e2 w5 ⟨rfl, hb5⟩
          have HB5 := Lib.hid (below_two' (below_two' HB4.out HBW.out) hb5)
          clear hb5 hck c0 c1 c2 c3 c4' c5
          go_wp2_with fail
          go_ret
          refine ⟨ret_int ?_, HB5.out⟩
          rw [HEE.out, if_neg]
          rw [Bool.not_eq_true, List.all_eq_false]
          exact ⟨x, HXM.out, by rw [HH.out]; simp⟩
        · rw [hh] at hdec
          have hdec' : decide (f x < 0) = false := hdec
          have HH := Lib.hid hh
          clear hdec hh
          go_wp2_with (go_at_call 24; (with_reducible refine HVV.out.mono ?_))
          rintro e2 w5 ⟨rfl, hb5⟩
          have HB5 := Lib.hid (below_two' HBW.out hb5)
          clear hb5 hck c0 c1 c2 c3 c4' c5
          go_wp2_with fail
          go_roundw
          case rel => exact ⟨k + 1, by have := HN4.out; omega, by simp, by rw [HX.out, List.all_append, HALL.out]; simp [HH.out], HB5.out⟩
          case measure => simp [intOf]; omega
      · have HAL : Hid (nm.all (fun s => hasS (vnames E) s) = true) := Lib.hid (by
          have := HALL.out
          rwa [List.take_of_length_le (by have := HN4.out; omega)] at this)
        go_wp2_with fail
        go_ret
        exact ⟨ret_int (by rw [HEE.out, if_pos HAL.out]), below_two' HB4.out HBW.out⟩
theorem echeck_any (p : EP) (e : Ev) (A : Option Addr) (n c : Nat) (l : List Tm) (hn : n = l.length) (hn62 : n ≤ 4398046511104) (hs : Small l) (w : World) (h : Tms w (.slice A n c) l) (he : EnvIn w p e) :
    Calls Try.prog 9 #[.slice A n c, envV p e] w (RetI w (chkE e l)) := by
  by_cases h4 : 4 < e.vars.length
  · exact echeck_wide p e A n c l w he h4
  · by_cases hc : chk l = 0
    · exact echeck_last p e A n c l hn hn62 hs w h he h4 hc
    · exact echeck_bad p e A n c l hn hn62 hs w h he h4 hc
end Go.Proofs.Ytbkgkdfameojfaa
