/- EvalCheck, ActFits, RangeSeq, QuietRound, EvalBack, EvalAtMem, joined. -/
import Derived.Test.YtcfcpbkeedfbpaaGreatDoorMActPuts03
import Derived.Lib.QuietBelow
import Derived.RangeFuncBox
import Derived.RangeFuncNested
import Derived.RangeFuncBound
import Derived.RangeFuncCalls
import Derived.RangeFuncLeaves
import Derived.Shelf.RegionOpen
import Derived.Test.YtcfcpbkeedfbpaaGreatDoorMActPuts01
import Derived.Sort.QuietIn
import Derived.TacticsIn
import Derived.Lib.QuietBelowIn
import Derived.Shelf.Abstract
import Derived.WalkKit
import Derived.OwnWalkIn
import Derived.TacticsInMore
import Derived.LoopNIn
import Derived.LoopIn
import Derived.Test.YtcfcpbkeedfbpaaGreatDoorMActPuts02
namespace Go.Proofs.YtcfcpbkeedfbpaaGreatDoor
open Go.RowKit TermSpec EvalSpec NamesSpec
set_option maxRecDepth 100000

theorem known_names (e : Ev) (l : List Tm) : knownB e l = (namesOf l 2).all (fun s => hasS (vnames e) s) := by
  unfold knownB namesOf
  rw [List.all_map]
  induction l with
  | nil => rfl
  | cons t r ih =>
    rw [List.all_cons, ih, List.filter_cons]
    by_cases h : t.op = 2
    · simp [h]
    · simp [h]
/-- The cells of an Env by value. -/
abbrev envO (p : EP) (e : Ev) : Obj := .cells #[.slice p.vA p.vn p.vc, .int .i64 e.v0, .int .i64 e.v1, .int .i64 e.v2, .int .i64 e.v3, .slice p.iA p.im p.ic] 54
theorem tru_neg {r : Int} {b : Bool} (h : decide (0 ≤ r) = b) : decide (r < 0) = !b := by
  subst h
  rw [← decide_not]
  exact decide_eq_decide.2 (by omega)

theorem echeck_wide (p : EP) (e : Ev) (A : Option Addr) (n c : Nat) (l : List Tm) (w : World) (he : EnvIn w p e) (h4 : 4 < e.vars.length) :
    Calls Tryz.prog 75 #[.slice A n c, envV p e] w (RetI w (chkE e l)) := by
  have HE := Lib.hid (chkE_wide (l := l) h4)
  have hv := he.vars.1
  obtain ⟨vA, vn, vc, iA, im, ic⟩ := p
  obtain ⟨r, hr⟩ : ∃ r, r = chkE e l := ⟨_, rfl⟩
  rw [← hr] at HE ⊢
  have hvn : 4 < (vn : Int) := by have : vn = e.vars.length := hv; omega
  obtain ⟨vars, v0, v1, v2, v3, ins⟩ := e
  change Calls _ _ #[.slice A n c, .agg #[.slice vA vn vc, .int .i64 v0, .int .i64 v1, .int .i64 v2, .int .i64 v3, .slice iA im ic]] _ _
  clear hr he h4 hv
  go_enter Tryz.func75, Tryz.ntmps75
  go_wp2_with fail
  go_ret
  exact ⟨ret_int HE.out.symm, KitC.below_one _ _⟩
theorem echeck_bad (p : EP) (e : Ev) (A : Option Addr) (n c : Nat) (l : List Tm) (hn : n = l.length) (hn62 : n ≤ 4398046511104) (hs : Small l) (w : World) (h : Tms w (.slice A n c) l) (he : EnvIn w p e) (h4 : ¬ 4 < e.vars.length) (hc : chk l ≠ 0) :
    Calls Tryz.prog 75 #[.slice A n c, envV p e] w (RetI w (chkE e l)) := by
  have HE := Lib.hid (chkE_bad h4 hc)
  have hv := he.vars.1
  have HC := Lib.hid (fun w h => check_any A n c l hn (by omega) hs w h)
  have HT := Lib.hid h
  obtain ⟨vA, vn, vc, iA, im, ic⟩ := p
  obtain ⟨r, hr⟩ : ∃ r, r = chkE e l := ⟨_, rfl⟩
  rw [← hr] at HE ⊢
  obtain ⟨q, hq⟩ : ∃ q, q = chk l := ⟨_, rfl⟩
  rw [← hq] at HE HC hc
  have hvn : ¬ 4 < (vn : Int) := by have : vn = e.vars.length := hv; omega
  have g : (q != 0) = true := by simp [hc]
  obtain ⟨vars, v0, v1, v2, v3, ins⟩ := e
  change Calls _ _ #[.slice A n c, .agg #[.slice vA vn vc, .int .i64 v0, .int .i64 v1, .int .i64 v2, .int .i64 v3, .slice iA im ic]] _ _
  clear hr he h4 hv hq hc h hn hs
  go_enter Tryz.func75, Tryz.ntmps75
  go_wp2_with (go_at_call 54; (with_reducible refine (HC.out _ (HT.out.keep (KitC.below_one _ _))).mono ?_))
  rintro e2 w2 ⟨rfl, hb2⟩
  have HB2 := Lib.hid (below_two' (KitC.below_one _ _) hb2)
  clear hb2
  go_wp2_with fail
  go_ret
  exact ⟨ret_int HE.out.symm, HB2.out⟩
def CkRel (W : World) (e : Ev) (nm : List ByteArray) (i : Value) (wr : World) : Prop := ∃ k : Nat, k ≤ nm.length ∧ i = .int .i64 k ∧ (nm.take k).all (fun s => hasS (vnames e) s) = true ∧ Below W.heap.size W wr
set_option maxHeartbeats 2000000 in
theorem echeck_last (p : EP) (e : Ev) (A : Option Addr) (n c : Nat) (l : List Tm) (hn : n = l.length) (hn62 : n ≤ 4398046511104) (hs : Small l) (w : World) (h : Tms w (.slice A n c) l) (he : EnvIn w p e) (h4 : ¬ 4 < e.vars.length) (hc : chk l = 0) :
    Calls Tryz.prog 75 #[.slice A n c, envV p e] w (RetI w (chkE e l)) := by
  have HE0 := Lib.hid (fun h => chkE_typ (e := e) h4 hc h)
  have HE1 := Lib.hid (fun h => chkE_last (e := e) h4 hc h)
  rw [known_names] at HE1
  have hv := he.vars.1
  have HC := Lib.hid (fun w h => check_any A n c l hn (by omega) hs w h)
  rw [hc] at HC
  have HTY := Lib.hid (fun w h => typ_any A n c l hn (by omega) w h)
  have HNM := Lib.hid (fun w h => names_any A n c l 2 hn hn62 w h)
  have HNL := Lib.hid (namesOf_length l 2)
  have HN := Lib.hid hn
  have HT := Lib.hid h
  have HV := Lib.hid (fun s w h => variable_any p e s w h)
  have HEN := Lib.hid he
  have HPG := Lib.hid (fun s => place_ge (vnames e) s)
  obtain ⟨vA, vn, vc, iA, im, ic⟩ := p
  obtain ⟨r, hr⟩ : ∃ r, r = chkE e l := ⟨_, rfl⟩
  rw [← hr] at HE0 HE1 ⊢
  obtain ⟨q, hq⟩ : ∃ q, q = typ l := ⟨_, rfl⟩
  rw [← hq] at HE0 HE1 HTY
  obtain ⟨nm, hnm⟩ : ∃ nm, nm = namesOf l 2 := ⟨_, rfl⟩
  rw [← hnm] at HE1 HNM HNL
  have hvn : ¬ 4 < (vn : Int) := by have : vn = e.vars.length := hv; omega
  have HVN := Lib.hid (rfl : vnames e = vnames e)
  obtain ⟨f, hf⟩ : ∃ f : ByteArray → Int, f = fun s => Lib.idxOfS (vnames e) s := ⟨_, rfl⟩
  have HF : Hid (∀ s, Lib.idxOfS (vnames e) s = f s) := Lib.hid (fun s => by rw [hf])
  have HV' : Hid (∀ s w, EnvIn w ⟨vA, vn, vc, iA, im, ic⟩ e → Calls Tryz.prog 110 #[envV ⟨vA, vn, vc, iA, im, ic⟩ e, .string s] w (RetI w (f s))) := Lib.hid (fun s w h => by rw [← HF.out]; exact HV.out s w h)
  clear hr he h4 hv hq hc h hn hs hnm hf
  obtain ⟨E, hE⟩ : ∃ E, E = e := ⟨_, rfl⟩
  rw [← hE] at HPG HF HEN HV' HE1
  obtain ⟨vars, v0, v1, v2, v3, ins⟩ := e
  have HV2 : Hid (∀ s w, EnvIn w ⟨vA, vn, vc, iA, im, ic⟩ E → Calls Tryz.prog 110 #[.agg #[.slice vA vn vc, .int .i64 v0, .int .i64 v1, .int .i64 v2, .int .i64 v3, .slice iA im ic], .string s] w (RetI w (f s))) := Lib.hid (fun s w h => by have := HV'.out s w h; rw [hE] at this; exact this)
  change Calls _ _ #[.slice A n c, .agg #[.slice vA vn vc, .int .i64 v0, .int .i64 v1, .int .i64 v2, .int .i64 v3, .slice iA im ic]] _ _
  clear hE HV HV' HVN
  by_cases hq0 : q = 0
  · have g : (q == 0) = true := by simp [hq0]
    have HEE := Lib.hid (HE0.out hq0)
    clear hq0 HE0 HE1
    go_enter Tryz.func75, Tryz.ntmps75
    go_wp2_with (go_at_call 54; (with_reducible refine (HC.out _ (HT.out.keep (KitC.below_one _ _))).mono ?_))
    rintro e2 w2 ⟨rfl, hb2⟩
    have HB2 := Lib.hid (below_two' (KitC.below_one _ _) hb2)
    clear hb2
    go_wp2_with (go_at_call 76; (with_reducible refine (HTY.out _ (HT.out.keep HB2.out)).mono ?_))
    rintro e2 w3 ⟨rfl, hb3⟩
    have HB3 := Lib.hid (below_two' HB2.out hb3)
    clear hb3
    go_wp2_with fail
    go_ret
    exact ⟨ret_int HEE.out.symm, HB3.out⟩
  · have g : (q == 0) = false := by simp [hq0]
    have HEE := Lib.hid (HE1.out hq0)
    clear hq0 HE0 HE1
    go_enter Tryz.func75, Tryz.ntmps75
    go_wp2_with (go_at_call 54; (with_reducible refine (HC.out _ (HT.out.keep (KitC.below_one _ _))).mono ?_))
    rintro e2 w2 ⟨rfl, hb2⟩
    obtain ⟨B2, hbb, _⟩ := KitC.one_block hb2
    have HB2 := Lib.hid hbb
    have HBK2 := Lib.hid B2
    clear hb2 hbb B2
    go_wp2_with (go_at_call 76; (with_reducible refine (HTY.out _ (HT.out.keep HB2.out)).mono ?_))
    rintro e2 w3 ⟨rfl, hb3⟩
    have HB3 := Lib.hid (below_two' HB2.out hb3)
    have HBK3 := Lib.hid (KitC.block_on HBK2.out hb3)
    clear hb3
    go_wp2_with (go_at_call 109; (with_reducible refine (HNM.out _ (HT.out.keep HB3.out)).mono ?_))
    rintro e2 w4 ⟨v4, rfl, hr4, hb4⟩
    have HB4 := Lib.hid (below_two' HB3.out hb4)
    have HBK4 := Lib.hid (KitC.block_on HBK3.out hb4)
    obtain ⟨A4, n4, c4, rfl, hn4, hc4, hA4⟩ := hr4.strs
    have HA4 := Lib.hid hA4
    have HN4 := Lib.hid hn4
    have hn4b : n4 ≤ 4398046511104 := by have := HNL.out; have := HN.out; omega
    clear hb4 hr4 hn4 hA4 hc4
    go_wp2_with fail
    go_loopw [23] (fun i wr => CkRel w4 E nm i wr) (fun i _ => n4 - (intOf i).toNat)
    case atStart => exact ⟨0, Nat.zero_le _, rfl, by simp, Below.refl _ _⟩
    case round =>
      obtain ⟨k, hk, rfl, hall, hbw⟩ := hrel
      have HBW := Lib.hid hbw
      have HALL := Lib.hid hall
      have hk' : k ≤ n4 := by have := HN4.out; omega
      clear hbw hall hk
      by_cases hlt : k < n4
      · obtain ⟨b2, off2, rfl, hb2, hcell⟩ := HA4.out (by omega)
        obtain ⟨x, hx⟩ : ∃ x, nm[k]? = some x := get_some (by have := HN4.out; omega)
        have hck := (HBW.out.cell (p := ⟨b2, off2 + k, none⟩) (by exact hb2)).trans (hcell k _ hx)
        obtain ⟨c0, c1, c2, c3, c4', c5⟩ := cells_6 (KitC.block_on HBK4.out HBW.out)
        have HX := Lib.hid (take_next hx)
        have HXM := Lib.hid (List.mem_of_getElem? hx)
        have HVV := Lib.hid (HV2.out x wr (HEN.out.keep (below_two' HB4.out HBW.out)))
        have hdec := tru_neg (HPG.out x)
        rw [HF.out] at hdec
        clear hcell hx
        rcases hh : hasS (vnames E) x with _ | _
        · rw [hh] at hdec
          have hdec' : decide (f x < 0) = true := hdec
          have HH := Lib.hid hh
          clear hdec hh
          go_wp2_with (go_at_call 110; (with_reducible refine HVV.out.mono ?_))
          rintro e2 w5 ⟨rfl, hb5⟩
          have HB5 := Lib.hid (below_two' (below_two' HB4.out HBW.out) hb5)
          clear hb5 hck c0 c1 c2 c3 c4' c5
          go_wp2_with fail
          go_ret
          refine ⟨ret_int ?_, HB5.out⟩
          rw [HEE.out, if_neg]
          rw [Bool.not_eq_true, List.all_eq_false]
          exact ⟨x, HXM.out, by rw [HH.out]; simp⟩
        · rw [hh] at hdec
          have hdec' : decide (f x < 0) = false := hdec
          have HH := Lib.hid hh
          clear hdec hh
          go_wp2_with (go_at_call 110; (with_reducible refine HVV.out.mono ?_))
          rintro e2 w5 ⟨rfl, hb5⟩
          have HB5 := Lib.hid (below_two' HBW.out hb5)
          clear hb5 hck c0 c1 c2 c3 c4' c5
          go_wp2_with fail
          go_roundw
          case rel => exact ⟨k + 1, by have := HN4.out; omega, by simp, by rw [HX.out, List.all_append, HALL.out]; simp [HH.out], HB5.out⟩
          case measure => simp [intOf]; omega
      · have HAL : Hid (nm.all (fun s => hasS (vnames E) s) = true) := Lib.hid (by
          have := HALL.out
          rwa [List.take_of_length_le (by have := HN4.out; omega)] at this)
        go_wp2_with fail
        go_ret
        exact ⟨ret_int (by rw [HEE.out, if_pos HAL.out]), below_two' HB4.out HBW.out⟩
theorem echeck_any (p : EP) (e : Ev) (A : Option Addr) (n c : Nat) (l : List Tm) (hn : n = l.length) (hn62 : n ≤ 4398046511104) (hs : Small l) (w : World) (h : Tms w (.slice A n c) l) (he : EnvIn w p e) :
    Calls Tryz.prog 75 #[.slice A n c, envV p e] w (RetI w (chkE e l)) := by
  by_cases h4 : 4 < e.vars.length
  · exact echeck_wide p e A n c l w he h4
  · by_cases hc : chk l = 0
    · exact echeck_last p e A n c l hn hn62 hs w h he h4 hc
    · exact echeck_bad p e A n c l hn hn62 hs w h he h4 hc
end Go.Proofs.YtcfcpbkeedfbpaaGreatDoor

namespace Go.Proofs.YtcfcpbkeedfbpaaGreatDoor
open Go.RowKit TermSpec EvalSpec ActSpec NamesSpec Go.Lib
set_option maxRecDepth 100000

set_option maxHeartbeats 400000 in
theorem aisVar_any (B : Nat) (x s : ByteArray) (lo hi ini : Int) (w : World) (hB : B < w.heap.size) (hc : w.cell? ⟨B, 0, none⟩ = some (.string s)) :
    Calls Tryz.prog 73 #[.agg #[.string x, .int .i64 lo, .int .i64 hi, .int .i64 ini], .pointer (some ⟨B, 0, none⟩)] w (RetB w (x.toList == s.toList)) := by
  have hc' : ∀ o, (w.alloc o).cell? ⟨B, 0, none⟩ = some (.string s) := fun o => (((Below.refl _ w).alloc (Nat.le_refl _) o).cell (p := ⟨B, 0, none⟩) hB).trans hc
  go_enter Tryz.func73, Tryz.ntmps73
  go_wp2
  go_ret
  exact ⟨rfl, (Below.refl _ _).alloc (Nat.le_refl _) _⟩

def AVarRel (W : World) (e : Ev) (s : ByteArray) (n : Nat) (i : Value) (wr : World) : Prop := ∃ k : Nat, k ≤ n ∧ i = .int .i64 k ∧ s ∉ (vnames e).take k ∧ Below W.heap.size W wr
set_option maxHeartbeats 1000000 in
theorem aindexFunc_any (B : Nat) (A : Option Addr) (n c : Nat) (e : Ev) (s : ByteArray) (w : World) (h : VarsIn w A n c e.vars) (hn63 : n ≤ 9223372036854775807) (hB : B < w.heap.size) (hc : w.cell? ⟨B, 0, none⟩ = some (.string s)) :
    Calls Tryz.prog 72 #[.slice A n c, .func (.func 73) #[] #[.pointer (some ⟨B, 0, none⟩)]] w (RetI w (idxOfS (vnames e) s)) := by
  have HV := Lib.hid h
  have HN := Lib.hid h.1
  have HC := Lib.hid hc
  have hcap := h.cap
  clear h hc
  go_enter Tryz.func72, Tryz.ntmps72
  go_wp2
  go_loopw [8] (fun i wr => AVarRel w e s n i wr) (fun i _ => n - (RowKit.intOf i).toNat)
  case atStart => exact ⟨0, Nat.zero_le _, rfl, by simp, Below.refl _ _⟩
  case round =>
    obtain ⟨k, hk, rfl, hno, hbw⟩ := hrel
    have HBW := Lib.hid hbw
    have HO := Lib.hid hno
    clear hno
    by_cases hlt : k < n
    · obtain ⟨v, hv⟩ : ∃ v, e.vars[k]? = some v := get_some (by have := HN.out; omega)
      obtain ⟨b, off, rfl, hb, c0, c1, c2, c3⟩ := (HV.out.keep hbw).at_ hv
      have HX := Lib.hid (vnames_get hv)
      have HCALL := Lib.hid (aisVar_any B v.s s v.lo v.hi v.ini wr (Nat.lt_of_lt_of_le hB hbw.size) ((hbw.cell (p := ⟨B, 0, none⟩) hB).trans HC.out))
      clear hv hbw
      obtain ⟨x, lo, hi, ini⟩ := v
      simp only at c0 c1 c2 c3 HX HCALL
      rcases hxs : (x.toList == s.toList) with _ | _
      · rw [hxs] at HCALL
        go_wp2_with (go_at_call 73; (with_reducible refine HCALL.out.mono ?_))
        rintro e2 w3 ⟨rfl, hb3⟩
        have HB3 := Lib.hid (below_two' HBW.out hb3)
        clear hb3
        go_wp2_with fail
        go_roundw
        case rel =>
          refine ⟨k + 1, by omega, by go_num, ?_, HB3.out⟩
          rw [take_next HX.out, List.mem_append, List.mem_singleton]
          rintro (h1 | h1)
          · exact HO.out h1
          · exact bytes_ne hxs h1.symm
        case measure => simp [RowKit.intOf]; omega
      · rw [hxs] at HCALL
        go_wp2_with (go_at_call 73; (with_reducible refine HCALL.out.mono ?_))
        rintro e2 w3 ⟨rfl, hb3⟩
        have HB3 := Lib.hid (below_two' HBW.out hb3)
        clear hb3
        go_wp2_with fail
        go_ret
        exact ⟨ret_int (by rw [← bytes_eq hxs] at HO ⊢; exact (place_hit HX.out HO.out).symm), HB3.out⟩
    · have HE : Hid (idxOfS (vnames e) s = -1) := Lib.hid (by
        have h1 := HN.out
        have h2 := HO.out
        have h3 : (vnames e).length ≤ k := by rw [vnames_length]; omega
        rw [List.take_of_length_le h3] at h2
        exact place_miss h2)
      clear hbw
      go_wp2_with fail
      go_ret
      exact ⟨ret_int HE.out.symm, HBW.out⟩

set_option maxHeartbeats 400000 in
theorem avariable_any (p : EP) (e : Ev) (s : ByteArray) (w : World) (h : EnvIn w p e) : Calls Tryz.prog 42 #[envV p e, .string s] w (RetI w (idxOfS (vnames e) s)) := by
  have hv := h.vars
  have hbd : p.vn ≤ 9223372036854775807 := by have := h.vbd; have := hv.1; omega
  obtain ⟨vA, vn, vc, iA, im, ic⟩ := p
  obtain ⟨r, hr⟩ : ∃ r, r = idxOfS (vnames e) s := ⟨_, rfl⟩
  have HIF := Lib.hid (fun B w h => aindexFunc_any B vA vn vc e s w h hbd)
  rw [← hr] at HIF ⊢
  have HV := Lib.hid hv
  obtain ⟨vars, v0, v1, v2, v3, ins⟩ := e
  change Calls _ _ #[.agg #[.slice vA vn vc, .int .i64 v0, .int .i64 v1, .int .i64 v2, .int .i64 v3, .slice iA im ic], .string s] _ _
  clear h hv hbd hr
  go_enter Tryz.func42, Tryz.ntmps42
  go_wp2_with (go_at_call 72; (with_reducible refine (HIF.out _ _ (HV.out.keep (((Below.refl _ _).alloc (Nat.le_refl _) _).alloc (by simp) _)) ?_ ?_).mono ?_))
  rintro e2 w3 ⟨rfl, hb3⟩
  go_wp2_with fail
  go_ret
  exact ⟨rfl, below_two' (KitC.below_pair _ _ _) hb3⟩


set_option maxHeartbeats 1000000 in
theorem span_any (v : Vr) (hf : VFit v) (w : World) : Calls Tryz.prog 74 #[.agg #[.string v.s, .int .i64 v.lo, .int .i64 v.hi, .int .i64 v.ini]] w (RetI w (if spanB v then 0 else 1)) := by
  obtain ⟨r, hr⟩ : ∃ r : Int, r = if spanB v then 0 else 1 := ⟨_, rfl⟩
  rw [← hr]
  have HR := Lib.hid hr
  obtain ⟨vs, lo, hi, ini⟩ := v
  obtain ⟨f1, f2, f3, f4⟩ := hf
  simp only at f1 f2 f3 f4 ⊢
  clear hr
  by_cases hlo : hi < lo
  · have HE : Hid (r = 1) := Lib.hid (by rw [HR.out, if_neg (by unfold spanB; simp; omega)])
    clear f1 f2 f3 f4
    go_enter Tryz.func74, Tryz.ntmps74
    go_wp2_with fail
    go_ret
    exact ⟨ret_int HE.out.symm, KitC.below_one _ _⟩
  · have hwr := u64_span f1 f4 (by omega : lo ≤ hi)
    by_cases hw : 64 ≤ hi - lo
    · have HE : Hid (r = 1) := Lib.hid (by rw [HR.out, if_neg (by unfold spanB; simp; omega)])
      have g : decide (64 ≤ IntKind.u64.wrap (IntKind.u64.wrap hi - IntKind.u64.wrap lo)) = true := by rw [hwr]; simp; omega
      clear f1 f2 f3 f4 hwr hw
      go_enter Tryz.func74, Tryz.ntmps74
      go_wp2_with fail
      go_ret
      exact ⟨ret_int HE.out.symm, KitC.below_one _ _⟩
    · have HE : Hid (r = 0) := Lib.hid (by rw [HR.out, if_pos (by unfold spanB; simp; omega)])
      have g : decide (64 ≤ IntKind.u64.wrap (IntKind.u64.wrap hi - IntKind.u64.wrap lo)) = false := by rw [hwr]; simp; omega
      clear f1 f2 f3 f4 hwr hw
      go_enter Tryz.func74, Tryz.ntmps74
      go_wp2_with fail
      go_ret
      exact ⟨ret_int HE.out.symm, KitC.below_one _ _⟩
set_option maxHeartbeats 1000000 in
theorem fits_none (p : EP) (e : Ev) (a : Ac) (A : Option Addr) (n c : Nat) (w : World) : Calls Tryz.prog 43 #[.agg #[.string a.s, .bool a.any, .slice A n c], .int .i64 (-1), envV p e] w (RetI w 7) := by
  obtain ⟨s, any, x⟩ := a
  obtain ⟨vA, vn, vc, iA, im, ic⟩ := p
  obtain ⟨vars, v0, v1, v2, v3, ins⟩ := e
  change Calls _ _ #[_, _, .agg #[.slice vA vn vc, .int .i64 v0, .int .i64 v1, .int .i64 v2, .int .i64 v3, .slice iA im ic]] _ _
  simp only
  go_enter Tryz.func43, Tryz.ntmps43
  go_wp2_with fail
  go_ret
  exact ⟨rfl, KitC.below_pair _ _ _⟩
set_option maxHeartbeats 2000000 in
theorem fits_some (p : EP) (e : Ev) (a : Ac) (i : Nat) (v : Vr) (A : Option Addr) (n c : Nat) (w : World) (he : EnvIn w p e) (hv : varOf e a = some (i, v)) (hf : VFit v) (hs : SmallA a) (ht : Tms w (.slice A n c) a.x) :
    Calls Tryz.prog 43 #[.agg #[.string a.s, .bool a.any, .slice A n c], .int .i64 i, envV p e] w (RetI w (badA e a)) := by
  obtain ⟨A', n', c', heq, hn, hnc⟩ := ht.shape
  cases heq
  have HT := Lib.hid ht
  have HCK := Lib.hid (fun w h h' => echeck_any p e A n c a.x hn (by have := hs.2.2; omega) hs.2.1 w h h')
  have HTY := Lib.hid (fun w h => typ_any A n c a.x hn (by have := hs.2.2; omega) w h)
  have HB1 := Lib.hid (fun ha h => badA_chk hv ha h)
  have HB0 := Lib.hid (fun ha h => badA_typ hv ha h)
  have HBA := Lib.hid (fun ha => badA_any hv ha)
  have HSP := Lib.hid (fun w => span_any v hf w)
  obtain ⟨r, hr⟩ : ∃ r, r = badA e a := ⟨_, rfl⟩
  rw [← hr] at HB1 HB0 HBA ⊢
  obtain ⟨q, hq⟩ : ∃ q, q = chkE e a.x := ⟨_, rfl⟩
  rw [← hq] at HCK HB1 HB0
  obtain ⟨t, ht2⟩ : ∃ t, t = typ a.x := ⟨_, rfl⟩
  rw [← ht2] at HTY HB0
  obtain ⟨z, hz⟩ : ∃ z : Int, z = if spanB v then 0 else 1 := ⟨_, rfl⟩
  rw [← hz] at HSP HBA
  have hvi := varOf_lt hv
  have HE := Lib.hid he
  have HVI := Lib.hid hvi
  have hin := get_lt hvi
  obtain ⟨s, any, x⟩ := a
  simp only at HT HCK HTY HB1 HB0 HBA hn ⊢
  obtain ⟨E, hE⟩ : ∃ E, E = e := ⟨_, rfl⟩
  rw [← hE] at HE HVI hin
  obtain ⟨vA, vn, vc, iA, im, ic⟩ := p
  have HVN : Hid (vn = E.vars.length) := Lib.hid (HE.out.vars.1)
  have hcap := HE.out.vars.cap
  simp only at hcap
  obtain ⟨vars, v0, v1, v2, v3, ins⟩ := e
  have HCK' : Hid (∀ w, Tms w (.slice A n c) x → EnvIn w ⟨vA, vn, vc, iA, im, ic⟩ E → Calls Tryz.prog 75 #[.slice A n c, .agg #[.slice vA vn vc, .int .i64 v0, .int .i64 v1, .int .i64 v2, .int .i64 v3, .slice iA im ic]] w (RetI w q)) := Lib.hid (fun w h h' => by rw [hE] at h'; exact HCK.out w h h')
  clear hE HCK hv he hvi hs ht hn hnc ht2 hr hq hz hf
  change Calls _ _ #[_, _, .agg #[.slice vA vn vc, .int .i64 v0, .int .i64 v1, .int .i64 v2, .int .i64 v3, .slice iA im ic]] _ _
  have hiI : ¬ (i : Int) < 0 := by omega
  have hin' : (i : Int) < vn := by have := HVN.out; omega
  have hbp := KitC.below_pair w (.cells #[.string s, .bool any, .slice A n c] 66) (.cells #[.slice vA vn vc, .int .i64 v0, .int .i64 v1, .int .i64 v2, .int .i64 v3, .slice iA im ic] 54)
  have HBP := Lib.hid hbp
  rcases hany : any with _ | _
  · have H1 := Lib.hid (HB1.out hany)
    have H0 := Lib.hid (HB0.out hany)
    subst hany
    clear HBA HSP HB1 HB0
    by_cases hq0 : q = 0
    · have HR0 := Lib.hid (H0.out hq0)
      have g : (q != 0) = false := by simp [hq0]
      clear H1 H0
      by_cases ht1 : t = 1
      · have HR : Hid (r = 0) := Lib.hid (by rw [HR0.out, if_pos ht1])
        have g2 : (t != 1) = false := by simp [ht1]
        clear HR0 ht1 hq0
        go_enter Tryz.func43, Tryz.ntmps43
        go_wp2_with (go_at_call 75; (with_reducible refine (HCK'.out _ (HT.out.keep HBP.out) (HE.out.keep HBP.out)).mono ?_))
        rintro e2 w2 ⟨rfl, hb2⟩
        obtain ⟨B1, B2, hbb, _⟩ := KitC.pair_blocks hb2
        have HB2 := Lib.hid hbb
        obtain ⟨c0, c1, c2⟩ := cells_3 B1
        clear hb2 hbb B2 B1 hbp
        go_wp2_with (go_at_call 76; (with_reducible refine (HTY.out _ (HT.out.keep HB2.out)).mono ?_))
        rintro e2 w3 ⟨rfl, hb3⟩
        have HB3 := Lib.hid (below_two' HB2.out hb3)
        clear hb3
        go_wp2_with fail
        go_ret
        exact ⟨ret_int HR.out.symm, HB3.out⟩
      · have HR : Hid (r = 4) := Lib.hid (by rw [HR0.out, if_neg ht1])
        have g2 : (t != 1) = true := by simp [ht1]
        clear HR0 ht1 hq0
        go_enter Tryz.func43, Tryz.ntmps43
        go_wp2_with (go_at_call 75; (with_reducible refine (HCK'.out _ (HT.out.keep HBP.out) (HE.out.keep HBP.out)).mono ?_))
        rintro e2 w2 ⟨rfl, hb2⟩
        obtain ⟨B1, B2, hbb, _⟩ := KitC.pair_blocks hb2
        have HB2 := Lib.hid hbb
        obtain ⟨c0, c1, c2⟩ := cells_3 B1
        clear hb2 hbb B2 B1 hbp
        go_wp2_with (go_at_call 76; (with_reducible refine (HTY.out _ (HT.out.keep HB2.out)).mono ?_))
        rintro e2 w3 ⟨rfl, hb3⟩
        have HB3 := Lib.hid (below_two' HB2.out hb3)
        clear hb3
        go_wp2_with fail
        go_ret
        exact ⟨ret_int HR.out.symm, HB3.out⟩
    · have HR := Lib.hid (H1.out hq0)
      have g : (q != 0) = true := by simp [hq0]
      clear H1 H0 hq0
      go_enter Tryz.func43, Tryz.ntmps43
      go_wp2_with (go_at_call 75; (with_reducible refine (HCK'.out _ (HT.out.keep HBP.out) (HE.out.keep HBP.out)).mono ?_))
      rintro e2 w2 ⟨rfl, hb2⟩
      have HB2 := Lib.hid (below_two' HBP.out hb2)
      clear hb2 hbp
      go_wp2_with fail
      go_ret
      exact ⟨ret_int HR.out.symm, HB2.out⟩
  · have HR := Lib.hid (HBA.out hany)
    subst hany
    clear HBA HB1 HB0 HCK'
    obtain ⟨b, off, rfl, hb, d0, d1, d2, d3⟩ := (HE.out.vars.keep hbp).at_ HVI.out
    obtain ⟨vs, lo, hi, ini⟩ := v
    simp only at d0 d1 d2 d3 HSP
    go_enter Tryz.func43, Tryz.ntmps43
    go_wp2_with (go_at_call 74; (with_reducible refine (HSP.out _).mono ?_))
    rintro e2 w2 ⟨rfl, hb2⟩
    have HB2 := Lib.hid (below_two' HBP.out hb2)
    clear hb2 hbp
    go_wp2_with fail
    go_ret
    exact ⟨ret_int HR.out.symm, HB2.out⟩
end Go.Proofs.YtcfcpbkeedfbpaaGreatDoor

namespace Go.Proofs.YtcfcpbkeedfbpaaGreatDoor
open Go.RowKit

/-- The k-th of N calls of yield hands over xs k; Kp is what the iterator asks to be kept. -/
def Hands (F : Fence) (n : Nat) (P : Program) (g : Nat) (lb : Array Value) (xs : Nat → Array Value) (Kp : World → World → Prop) (N : Nat) (w : World) : Prop :=
  ∀ (lp : Nat) (J : Nat → World → Prop) (W : World), Below w.heap.size w W →
    (∀ k W1, J k W1 → k < N → YieldAt F (n - 1) P lp (xs k) W1 fun e W' => e = .returned (.bool true) ∧ J (k + 1) W' ∧ Kp W1 W') →
    J 0 W → CallsIn F n P g (#[.func (.yield lp) #[] #[]] ++ lb) W fun e W' => (∃ v, e = .returned v) ∧ J N W'

theorem range_seq {F : Fence} {n : Nat} {P : Program} {g : Operand} {ps : Array Tmp} {assign body : Code} {Q : Exit → Act → World → Prop} {a : Act} {w : World}
    (hro : F.round = none) (h1 : 1 ≤ n) {gf : Nat} {lb : Array Value} (hg : a.eval g = .func (.func gf) #[] lb) (hFg : F.fn gf) (eg : ∀ args w, (callFunc gf args).run P w = .ok (.enter gf args) w)
    {xs : Nat → Array Value} {Kp : World → World → Prop} {N : Nat} (hseq : Hands F (n - 1) P gf lb xs Kp N w)
    (hKt : ∀ {A B C : World}, Kp A B → Kp B C → Kp A C) (hKb : ∀ (W : World) (l : Nat) (o o' : Obj), w.heap.size ≤ l → W.heap[l]? = some o → o.isCells = false → Kp W (W.putObj l o')) (hps : ∀ k, (xs k).size = ps.size)
    (I : Nat → World → Prop) (hI : OwnFrom w.heap.size I) (h0 : I 0 w) (Ax : Nat → Act → World → Prop) (hAx : ∀ a', OwnFrom w.heap.size (fun k W => Ax k a' W))
    (hassign : ∀ (l k : Nat) (W : World) (K : Act → World → Prop), k < N → I k W → (∀ a' W', KeepsFrom w.heap.size W W' → Kp W W' → I k W' → Ax k a' W' → K a' W') →
      assign.wpIn (F.inRound l) (n - 1 - 1) P (Exit.then K (fun _ _ _ => False)) { tmps := (ps.zip (xs k)).foldl (fun t (p, v) => t.setIfInBounds p v) a.tmps, defers := [] } W)
    (hbody : ∀ (l k : Nat) (a' : Act) (W : World), k < N → I k W → Ax k a' W → body.wpIn (F.inRound l) (n - 1 - 1) P (fun e _ W' => e = .normal ∧ KeepsFrom w.heap.size W W' ∧ Kp W W' ∧ I (k + 1) W') a' W)
    (hdone : ∀ (D : Nat) (W : World), w.heap.size ≤ D → I N W → W.heap[D]? = some (.deferred (some [])) → Q .normal { a with defers := { target := .collected D, args := #[] } :: a.defers } W) :
    (Code.rangeFunc g ps assign body).wpIn F n P Q a w := by
  refine wpIn_rangeFunc fun fn hfn => ?_
  rw [hro]
  let rec_ : LoopState → Loop := fun st => { state := st, pending := none, fn, tmps := a.tmps, params := ps, assign, body, defers := w.heap.size }
  let w1 := w.alloc (.deferred (some []))
  let w2 := w1.alloc (.loop (rec_ .ready))
  have s1 : w1.heap.size = w.heap.size + 1 := by simp [w1]
  have hrec : w2.heap[w.heap.size + 1]? = some (.loop (rec_ .ready)) := by have := World.alloc_heap_new w1 (.loop (rec_ .ready)); rwa [s1] at this
  have hdef : w2.heap[w.heap.size]? = some (.deferred (some [])) := (Below.heap_alloc w1 _ _ (by rw [s1]; omega)).trans (World.alloc_heap_new w _)
  have hbel : Below w.heap.size w w2 := KitC.below_pair w _ _
  -- the two blocks of the loop's own
  let Bk : Nat → LoopState → World → Prop := fun _ st W => W.heap[w.heap.size + 1]? = some (.loop (rec_ st)) ∧ W.heap[w.heap.size]? = some (.deferred (some []))
  have turned : ∀ (st st' : LoopState) (W : World), Bk 0 st W → Bk 0 st' (W.putObj (w.heap.size + 1) (.loop (rec_ st'))) := fun st st' W ⟨hl, hd⟩ =>
    ⟨World.putObj_heap_same (Array.getElem?_eq_some_iff.1 hl).1, (World.putObj_heap_other (by omega)).trans hd⟩
  have kept : ∀ (st st' : LoopState) (W : World), Bk 0 st W → Kp W (W.putObj (w.heap.size + 1) (.loop (rec_ st'))) := fun st st' W ⟨hl, _⟩ =>
    hKb W (w.heap.size + 1) _ _ (by omega) hl rfl
  have over : ∀ (k : Nat) (st st' : LoopState) (W : World), Bk 0 st W → I k W → I k (W.putObj (w.heap.size + 1) (.loop (rec_ st'))) := fun k st st' W ⟨hl, _⟩ hi =>
    hI.putObj _ hi (by omega) hl rfl
  refine ⟨w.heap.size + 1, [{ target := .collected w.heap.size, args := #[] }], w2, { target := .fn (.func gf) lb, args := #[.func (.yield (w.heap.size + 1)) #[] #[]] }, w2, gf,
    #[.func (.yield (w.heap.size + 1)) #[] #[]] ++ lb, w2, run_enterLoop_outer _ _ _ _ _, by simp only [resolve, hg]; simp [go_sem], ?_, by simp [invoke, go_sem, eg], fun _ => h1, ?_⟩
  · intro f' hf'
    simp [Target.leads] at hf'
    subst hf'
    exact hFg
  refine (hseq (w.heap.size + 1) (fun k W => I k W ∧ Bk 0 .ready W) w2 hbel ?_ ⟨hI.alloc _ (hI.alloc _ h0), hrec, hdef⟩).mono ?_
  · -- a round
    rintro k W ⟨hi, hb⟩ hk
    refine ⟨fn, _, assign, body, run_yield (P := P) (args := xs k) hb.1 (hps k), roundIn_of_wpIn hfn (hassign _ k W _ hk hi ?_)⟩
    intro a' Wa hkf hbl hia hax
    have hba : Bk 0 .ready Wa := ⟨hkf.same _ _ (by omega) hb.1 rfl, hkf.same _ _ (by omega) hb.2 rfl⟩
    refine ⟨_, run_beginRound hba.1 rfl, ?_⟩
    have hb2 := turned .ready .busy Wa hba
    refine wpIn_mono (hbody _ k a' _ hk (over k _ .busy Wa hba hia) ((hAx a').putObj (s := k) _ hax (by omega) hba.1 rfl)) ?_
    rintro e a3 W3 ⟨rfl, hkf3, hbl3, hi3⟩
    have hb3 : Bk 0 .busy W3 := ⟨hkf3.same _ _ (by omega) hb2.1 rfl, hkf3.same _ _ (by omega) hb2.2 rfl⟩
    exact ⟨_, _, run_endRound (P := P) none hb3.1, rfl, ⟨over (k + 1) _ .ready W3 hb3 hi3, turned .busy .ready W3 hb3⟩, hKt (hKt (hKt hbl (kept _ .busy Wa hba)) hbl3) (kept _ .ready W3 hb3)⟩
  · -- behind the iterator
    rintro e W ⟨⟨v, rfl⟩, hi, hb⟩
    refine ⟨none, _, run_endLoop (P := P) hb.1 (by intro h; cases h), hdone _ _ (Nat.le_refl _) (hI.putObj _ hi (by omega) hb.1 rfl) ?_⟩
    exact (World.putObj_heap_other (by omega)).trans hb.2
end Go.Proofs.YtcfcpbkeedfbpaaGreatDoor

namespace Go.Proofs.YtcfcpbkeedfbpaaGreatDoor
open Go.RowKit Go.Sort

section
variable {F : Fence} {n : Nat} {P : Program} {ops : Array Oper} {Q : Exit → Act → World → Prop} {l0 : Nat}
theorem upon_round {o : Oper} {a : Act} {K : Act → World → Prop} {r : Result Next} (h : o.uponIn F n P a K Q r) : o.uponIn (F.inRound l0) n P a K Q r := by
  cases r with
  | ok x w' => cases x <;> first | exact h | (simp only [Oper.uponIn] at h ⊢; exact h)
  | halt x w' => cases x <;> first | exact h | (simp only [Oper.uponIn] at h ⊢; exact h)
theorem op_round {o : Oper} (hnd : ∀ c, o.op ≠ .defer c) (hro : F.round = none) {a : Act} {w : World} {K : Act → World → Prop} (h : o.wpIn F n P a w K Q) : o.wpIn (F.inRound l0) n P a w K Q := by
  unfold Oper.wpIn at h ⊢
  rw [hro, Oper.semAt_none] at h
  rw [Fence.inRound_round, Oper.semAt_some _ _ _ hnd]
  exact ⟨h.1, upon_round h.2⟩
theorem any_round (hnd : ∀ o ∈ ops.toList, ∀ c, o.op ≠ .defer c) (hro : F.round = none) {md : Region.Mode} : ∀ (fuel : Nat) (listed : Array Bool) (a : Act) (w : World), wpAnyIn F n P md ops Q fuel listed a w → wpAnyIn (F.inRound l0) n P md ops Q fuel listed a w
  | 0, _, _, _, h => h
  | fuel + 1, listed, a, w, h => ⟨h.1, fun i hi => by
    have h2 := h.2 i hi
    unfold wpOpIn at h2 ⊢
    split
    · rename_i ho
      simp only [ho] at h2
      exact any_round hnd hro fuel _ _ _ h2
    · rename_i o ho
      simp only [ho] at h2
      have hno := hnd o (by
        have := (Array.getElem?_eq_some_iff.1 ho)
        obtain ⟨hlt, rfl⟩ := this
        simp)
      split
      · rename_i hw
        simp only [hw, if_true] at h2
        exact Oper.wpIn_mono (fun a w => any_round hnd hro fuel _ a w) (op_round hno hro h2)
      · rename_i hw
        simp only [hw] at h2
        exact ⟨h2.1, any_round hnd hro fuel _ _ _ h2.2⟩⟩
/-- No operation defers a call. -/
def noDefer (l : List Oper) : Bool := l.all fun o => match o.op with | .defer _ => false | _ => true
theorem noDefer_spec {l : List Oper} (h : noDefer l = true) : ∀ o ∈ l, ∀ c, o.op ≠ .defer c := by
  intro o ho c hc
  have := List.all_eq_true.1 h o ho
  rw [hc] at this
  cases this
theorem quiet_round {C : World → Prop} {id : Nat} {a : Act} {w : World} {l : List Oper} (hro : F.round = none) (hnd : noDefer l = true) (hm : P.follows .mixedOrders = true) (hB : Region.lexB .any l.toArray = true) (hC : C { w with drawn := w.drawn + 1 })
    (h : wpQuietIn F n P l.toArray C (fun a' => ∀ w', C w' → Q .normal a' w') l a) : (Code.region id l.toArray true).wpIn (F.inRound l0) n P Q a w := by
  have hB' := hB
  simp only [Region.lexB, Bool.and_eq_true] at hB'
  refine wpIn_region_any hm (any_round (by simpa using noDefer_spec hnd) hro _ _ _ _ (wpAnyIn_of_quiet (C := C) (Q := fun a' => ∀ w', C w' → Q .normal a' w') hro (fun _ w' hw' h => h w' hw') _ _ _ _ hC ?_))
  have := wpAnyQIn_lex (F := F) (n := n) (C := C) (md := .any) hB'.1 l 0 (Array.replicate l.toArray.size false) a (by simp) (by simpa using hB'.2) h
  simpa using this
/-- Callees that make memory and leave what was there. -/
theorem quiet_below_round {id : Nat} {a : Act} {w : World} {l : List Oper} (hro : F.round = none) (hnd : noDefer l = true) (hm : P.follows .mixedOrders = true) (hB : Region.lexB .any l.toArray = true)
    (h : wpQuietIn F n P l.toArray (fun w' => ∃ p : Regrown, w' = grow (redrawn w p.d) p.os) (fun a' => ∀ w', (∃ p : Regrown, w' = grow (redrawn w p.d) p.os) → Q .normal a' w') l a) : (Code.region id l.toArray true).wpIn (F.inRound l0) n P Q a w :=
  quiet_round hro hnd hm hB ⟨⟨w.drawn + 1, #[]⟩, by rw [grow_empty]; rfl⟩ h
end
end Go.Proofs.YtcfcpbkeedfbpaaGreatDoor

namespace Go.Proofs.YtcfcpbkeedfbpaaGreatDoor
open Go.RowKit Go.Shelf TermSpec
set_option maxRecDepth 100000

attribute [local go_sem] Oper.semAt_some

abbrev BT : Type := Nat × Tm
def tm0 : Tm := ⟨0, 0, ⟨#[]⟩⟩
def encB (x : BT) : Array Value := #[.int .i64 (x.1 : Int), .agg #[.int .i64 x.2.op, .int .i64 x.2.n, .string x.2.s]]
/-- The j-th that comes. -/
def backAt (l : List Tm) (j : Nat) : BT := (l.length - 1 - j, (l[l.length - 1 - j]?).getD tm0)

/-- What it asks to be kept: what lay below n₀, and the box of the slice. -/
def KpB (n₀ Bs : Nat) (W W' : World) : Prop := Below n₀ W W' ∧ ∀ v, Boxed W Bs 64 v → Boxed W' Bs 64 v
theorem KpB.trans {n₀ Bs : Nat} {A B C : World} (h : KpB n₀ Bs A B) (k : KpB n₀ Bs B C) : KpB n₀ Bs A C := ⟨h.1.trans k.1, fun v hv => k.2 v (h.2 v hv)⟩
theorem KpB.turn {n₀ Bs : Nat} {w : World} (hn : n₀ ≤ w.heap.size) (hB : Bs < w.heap.size) (W : World) (l : Nat) (o o' : Obj) (hl : w.heap.size ≤ l) (h : W.heap[l]? = some o) (_ : o.isCells = false) : KpB n₀ Bs W (W.putObj l o') :=
  ⟨(Below.refl n₀ W).grown (grownBy_putObj' W l o') (by have := (Array.getElem?_eq_some_iff.1 h).1; omega) (fun k e => by cases e; omega), fun v hv => hv.kept (grownBy_putObj' W l o') (fun e => by injection e with e; omega)⟩

set_option maxRecDepth 100000 in
set_option maxHeartbeats 2000000 in
theorem back1_in (F : Fence) (n : Nat) (h7 : F.fn 161) (hro : F.round = none) (hn : 1 ≤ n) (lp Bs n₀ : Nat) (A : Option Addr) (len cap : Nat) (l : List Tm) (hlen : len = l.length) (h63 : len ≤ 9223372036854775807) (J : Nat → World → Prop)
    (hY : ∀ k W, J k W → k < len → YieldAt F (n - 1) Tryz.prog lp (encB (backAt l k)) W fun e W' => e = .returned (.bool true) ∧ J (k + 1) W' ∧ KpB n₀ Bs W W')
    (W : World) (hBx : Boxed W Bs 64 (.slice A len cap)) (w0 : World) (hT : Tms w0 (.slice A len cap) l) (hw0 : Below w0.heap.size w0 W) (hn0 : w0.heap.size ≤ n₀) (h0 : J 0 W) :
    CallsIn F n Tryz.prog 161 #[.func (.yield lp) #[] #[], .pointer (some ⟨Bs, 0, none⟩)] W fun e W' => (∃ v, e = .returned v) ∧ J len W' := by
  have HT := Lib.hid hT
  have HL := Lib.hid hlen
  have HW0 := Lib.hid hw0
  have hcap := hT.cap
  have hBs := hBx.cell
  clear hT hlen hw0
  refine callsIn_of_wp Tryz.func161 rfl h7 ?_ hro
  simp only [Tryz.ntmps161, List.size_toArray, List.length_cons, List.length_nil, Nat.reduceAdd, Nat.reduceSub, Array.replicate_succ, Array.replicate_zero, List.push_toArray, List.append_toArray, List.nil_append, List.cons_append]
  gi_wp2
  gi_loopw [3] (fun i wr => ∃ k : Nat, k ≤ len ∧ i = .int .i64 ((len : Int) - 1 - k) ∧ J k wr ∧ KpB n₀ Bs W wr)
    (fun i _ => (intOf i + 1).toNat)
  case atStart => exact ⟨0, Nat.zero_le _, by simp, h0, Below.refl _ _, fun _ h => h⟩
  case round =>
    obtain ⟨k, hk, rfl, hJs, hnx⟩ := hrel
    by_cases hlt : k < len
    · obtain ⟨t, ht⟩ : ∃ t, l[len - 1 - k]? = some t := get_some (by have := HL.out; omega)
      have HTR : Tms wr (.slice A len cap) l := HT.out.keep (HW0.out.trans (hnx.1.mono hn0))
      obtain ⟨b, off, rfl, hb, c0, c1, c2⟩ := HTR.at_ ht
      have hy0 := hY k wr hJs hlt
      have hBS : wr.cell? ⟨Bs, 0, none⟩ = some (.slice (some ⟨b, off, none⟩) len cap) := (hnx.2 _ hBx).cell
      have hat : encB (backAt l k) = #[.int .i64 ((len : Int) - 1 - k), .agg #[.int .i64 t.op, .int .i64 t.n, .string t.s]] := by
        have hl := HL.out
        unfold encB backAt
        rw [← hl, ht]
        simp
        omega
      rw [hat] at hy0
      obtain ⟨fn, tmps, assign, body, hy, hR⟩ := hy0
      obtain ⟨q, hq⟩ : ∃ q, q = len - 1 - k := ⟨_, rfl⟩
      have hqi : (len : Int) - 1 - k = (q : Int) := by omega
      rw [← hq] at c0 c1 c2
      rw [hqi] at hy ⊢
      have hql : q < len := by omega
      have HQ := Lib.hid hq
      clear hqi hq ht hat hJs
      gi_wp2
      refine hR.mono ?_
      rintro e W3 ⟨rfl, hJ3, hk3⟩
      gi_wp2
      go_roundw
      case rel => exact ⟨k + 1, by omega, by have := HQ.out; simp; omega, hJ3, hnx.trans hk3⟩
      case measure => simp [intOf] <;> omega
    · obtain rfl : k = len := by omega
      gi_wp2
      go_end0
      exact ⟨⟨_, rfl⟩, hJs⟩

set_option maxHeartbeats 1000000 in
theorem back_in (F : Fence) (n : Nat) (h5 : F.fn 139) (hro : F.round = none) (A : Option Addr) (len cap : Nat) (w : World) :
    CallsIn F n Tryz.prog 139 #[.slice A len cap] w fun e w' => e = .returned (.func (.func 161) #[] #[.pointer (some ⟨w.heap.size, 0, none⟩)]) ∧ w' = w.alloc (.cells #[.slice A len cap] 64) := by
  refine callsIn_of_wp Tryz.func139 rfl h5 ?_ hro
  simp only [Tryz.ntmps139, List.size_toArray, List.length_cons, List.length_nil, Nat.reduceAdd, Nat.reduceSub, Array.replicate_succ, Array.replicate_zero, List.push_toArray, List.append_toArray, List.nil_append, List.cons_append]
  gi_wp2
  go_ret
  exact ⟨rfl, rfl⟩
/-- What it hands over: all terms, from the last one on. -/
theorem back_hands (F : Fence) (n : Nat) (h7 : F.fn 161) (hro : F.round = none) (hn : 1 ≤ n) (Bs n₀ : Nat) (A : Option Addr) (len cap : Nat) (l : List Tm) (hlen : len = l.length) (h63 : len ≤ 9223372036854775807) (w : World)
    (hc : Boxed w Bs 64 (.slice A len cap)) (w0 : World) (hT : Tms w0 (.slice A len cap) l) (hw0 : Below w0.heap.size w0 w) (hn0 : w0.heap.size ≤ n₀) :
    Hands F n Tryz.prog 161 #[.pointer (some ⟨Bs, 0, none⟩)] (fun k => encB (backAt l k)) (KpB n₀ Bs) len w := fun lp J W hW hY h0 =>
  back1_in F n h7 hro hn lp Bs n₀ A len cap l hlen h63 J hY W ((hW.block Bs hc.lt).trans hc) w0 hT (hw0.trans (hW.mono hw0.size)) hn0 h0
end Go.Proofs.YtcfcpbkeedfbpaaGreatDoor

namespace Go.Proofs.YtcfcpbkeedfbpaaGreatDoor
open Go.RowKit TermSpec EvalSpec
set_option maxRecDepth 100000

theorem elem_ints : Tryz.prog.elem 110 = 3 := by kernel_rfl
/-- A list of the call's own, from a place on. -/
theorem slice_rest {W0 : World} {base : Nat} {A : Option Addr} {m cap j : Nat} {xs : List Value} (h : W0.ownsRow base 3 1 (.slice A m cap) m xs) (hj : j ≤ m) :
    ∃ v, (∀ W, (Instr.slice 110 (.slice A m cap) (some (.int .i64 (j : Int))) none none).run Tryz.prog W = .ok v W) ∧ ∃ A' c', v = .slice A' (m - j) c' ∧ Rd W0 v (xs.drop j) := by
  have hl : xs.length = m := by have := h.1; omega
  rcases h.2 with ⟨heq, h0⟩ | ⟨g, cap', cur, heq, hbase, hb, hnc, hcm, hcs, ht⟩
  · cases heq
    obtain rfl : j = 0 := by omega
    refine ⟨.slice none 0 0, fun W => ?_, none, 0, rfl, ?_⟩
    · rw [run_slice_l (P := Tryz.prog) W 110 _ 0 0 (by rw [elem_ints]; exact Tryz.underlying110) .i64 ((0 : Nat) : Int) (by omega) (by omega), elem_ints, Tryz.sizeOf3]
      simp [sliced, Result.andThen]
    · rw [List.drop_zero, List.eq_nil_of_length_eq_zero hl]
      exact Rd.nil W0
  · cases heq
    have hrd : Rd W0 (.slice (some ⟨g, 0, none⟩) m cap) xs := Rd.own h
    refine ⟨.slice (if cap = j then some ⟨g, 0, none⟩ else some ⟨g, j, none⟩) (m - j) (cap - j), fun W => ?_, _, _, rfl, ?_⟩
    · rw [run_slice_l (P := Tryz.prog) W 110 _ m cap (by rw [elem_ints]; exact Tryz.underlying110) .i64 (j : Int) (by omega) (by omega), elem_ints, Tryz.sizeOf3]
      simp [sliced, Result.andThen, addr_add]
    · refine ⟨_, m - j, cap - j, rfl, by rw [List.length_drop, hl], by omega, fun h0 => ⟨g, j, if_neg (by omega), (Array.getElem?_eq_some_iff.1 hb).1, fun q u hq => ?_⟩⟩
      obtain ⟨A', n', c', heq, _, _, hA⟩ := hrd
      cases heq
      obtain ⟨b, off, heq, _, hcell⟩ := hA (by omega)
      cases heq
      rw [List.getElem?_drop] at hq
      have := hcell _ _ hq
      simpa using this
/-- Up to a place: it is still the call's own. -/
theorem slice_upto {W0 : World} {base : Nat} {A : Option Addr} {m cap j : Nat} {xs : List Value} (h : W0.ownsRow base 3 1 (.slice A m cap) m xs) (hj : j ≤ m) :
    (∀ W, (Instr.slice 110 (.slice A m cap) none (some (.int .i64 (j : Int))) none).run Tryz.prog W = .ok (.slice A j cap) W) ∧ W0.ownsRow base 3 1 (.slice A j cap) j (xs.take j) := by
  have hl : xs.length = m := by have := h.1; omega
  rcases h.2 with ⟨heq, h0⟩ | ⟨g, cap', cur, heq, hbase, hb, hnc, hcm, hcs, ht⟩
  · cases heq
    obtain rfl : j = 0 := by omega
    refine ⟨fun W => ?_, ?_⟩
    · rw [run_slice_h (P := Tryz.prog) W 110 _ 0 0 (by rw [elem_ints]; exact Tryz.underlying110) .i64 ((0 : Nat) : Int) (by omega) (by omega), elem_ints, Tryz.sizeOf3]
      simp [sliced, Result.andThen]
    · simpa using World.ownsRow_nil W0 base _ 1
  · cases heq
    refine ⟨fun W => ?_, ?_⟩
    · rw [run_slice_h (P := Tryz.prog) W 110 _ m cap (by rw [elem_ints]; exact Tryz.underlying110) .i64 (j : Int) (by omega) (by omega), elem_ints, Tryz.sizeOf3]
      simp [sliced, Result.andThen, addr_add]
    · refine ⟨by rw [List.length_take]; omega, .inr ⟨g, cap, cur, rfl, hbase, hb, by omega, hcm, hcs, ?_⟩⟩
      rw [← ht, List.take_take]
      congr 1
      omega
/-- What lies in memory when so much has come. -/
def AtI (w : World) (C Bs : Nat) (eo : Obj) (sv : Value) (st : List Int) (W : World) : Prop :=
  ((∃ v, Boxed W C 110 v ∧ W.ownsRow w.heap.size 3 1 v st.length (intV st.reverse) ∧ True) ∧ (W.heap[w.heap.size]? = some eo ∧ Boxed W Bs 64 sv)) ∧ Below w.heap.size w W
theorem heap_own {β : Type} (B E : Nat) (o : Obj) (ho : o.isCells = true) : OwnFrom B (fun (_ : β) W => W.heap[E]? = some o) := fun s X Y row h hg hr =>
  (hg.block E (Array.getElem?_eq_some_iff.1 h).1 (fun e => by
    obtain ⟨_, o', ho', hc⟩ := hr E e.symm
    rw [h] at ho'
    cases ho'
    rw [ho] at hc
    cases hc)).trans h
theorem AtI.own (w : World) (C Bs : Nat) (cs : Array Value) (T : TypeId) (sv : Value) (st : Nat → List Int) (B : Nat) (hB : w.heap.size ≤ B) : OwnFrom B (fun k W => AtI w C Bs (.cells cs T) sv (st k) W) :=
  OwnFrom.and (OwnFrom.and (Own.from (holdsRow_own _ _ _ _ _ (fun k => (st k).length) (fun k => intV (st k).reverse) (fun _ _ => True)) _) (OwnFrom.and (heap_own B _ _ rfl) (Own.from (boxed_own Bs _ (fun _ => sv)) _))) (ownFrom_below (Nat.le_refl _) hB)
theorem AtI.keep {w W W' : World} {C Bs : Nat} {eo : Obj} {sv : Value} {st : List Int} (h : AtI w C Bs eo sv st W) (hb : Below W.heap.size W W') : AtI w C Bs eo sv st W' := by
  obtain ⟨⟨⟨v, h1, h2, h3⟩, h4, h5⟩, h6⟩ := h
  exact ⟨⟨⟨v, KitC.block_on h1 hb, own_keep h2 hb, h3⟩, KitC.block_on h4 hb, KitC.block_on h5 hb⟩, below_two' h6 hb⟩
theorem keepsFrom_below {B : Nat} {W W' : World} (h : Below W.heap.size W W') : KeepsFrom B W W' := ⟨h.size, fun k _ _ hk _ => (h.block k (Array.getElem?_eq_some_iff.1 hk).1).trans hk⟩
theorem kpB_below {n₀ Bs : Nat} {W W' : World} (h : Below W.heap.size W W') (hn : n₀ ≤ W.heap.size) : KpB n₀ Bs W W' := ⟨h.mono hn, fun _ hv => KitC.block_on hv h⟩
/-- Behind `come = append(come[:rest], n)`. -/
theorem AtI.appended {w W w1 : World} {C Bs j m : Nat} {cap : Nat} {A : Option Addr} {eo tmp : Obj} {sv v' : Value} {st st' : List Int} {ys : List Value} (h : AtI w C Bs eo sv st W) (hBs : C ≠ Bs) (hE : C ≠ w.heap.size) (hC : w.heap.size ≤ C)
    (heo : ∀ cs T, eo = .cells cs T → T ≠ 3)
    (hrow : W.ownsRow w.heap.size 3 1 (.slice A j cap) m ys) (hown' : w1.ownsRow w.heap.size 3 1 v' st'.length (intV st'.reverse)) (hgrow : (W.alloc tmp).grownBy w1 (Value.slice A j cap).ownBlock) :
    (∃ u, Boxed w1 C 110 u) ∧ AtI w C Bs eo sv st' (w1.setCell ⟨C, 0, none⟩ v') ∧ (∀ B, KeepsFrom B W (w1.setCell ⟨C, 0, none⟩ v')) ∧ KpB w.heap.size Bs W (w1.setCell ⟨C, 0, none⟩ v') := by
  obtain ⟨⟨⟨u, h1, h2, h3⟩, h4, h5⟩, h6⟩ := h
  have hu1 : Boxed w1 C 110 u := (h1.alloc tmp).kept hgrow (h1.not_row (by decide) hrow)
  have hs1 : Boxed w1 Bs 64 sv := (h5.alloc tmp).kept hgrow (h5.not_row (by decide) hrow)
  have he1 : w1.heap[w.heap.size]? = some eo := by
    have hlt := (Array.getElem?_eq_some_iff.1 h4).1
    refine (hgrow.block _ (by simp; omega) (fun e => ?_)).trans ((Below.heap_alloc W _ _ hlt).trans h4)
    rcases hrow.2 with ⟨heq, _⟩ | ⟨g, cap', cur, heq, _, hgb, _⟩
    · rw [heq] at e; simp [Value.ownBlock] at e
    · rw [heq] at e
      obtain rfl : w.heap.size = g := by simpa [Value.ownBlock] using e
      rw [h4] at hgb
      cases hgb
      exact heo _ _ rfl rfl
  have hlow : Below w.heap.size W (w1.setCell ⟨C, 0, none⟩ v') := by
    refine (((Below.refl w.heap.size W).alloc h6.size tmp).grown hgrow (by have := h6.size; simp; omega) fun i ei => ?_).setCell (p := ⟨C, 0, none⟩) hC v'
    exact (own_block_bd hrow i ei).1
  refine ⟨⟨u, hu1⟩, ⟨⟨⟨v', hu1.set v', hown'.kept (grownBy_setCell' w1 C v') (.inr (hu1.not_row (by decide) hown').symm), trivial⟩, (Below.heap_setCell _ _ _ _ hE.symm).trans he1, hs1.other hBs.symm _⟩, h6.trans hlow⟩, fun B => ?_, hlow, fun q hq => ?_⟩
  · refine KeepsOthers.from ((KeepsOthers.alloc W tmp).trans (KeepsOthers.trans (KeepsOthers.of_grownBy hgrow fun i o ei hi => ?_) (KeepsOthers.setCell _ _ _))) B
    rcases (hrow.alloc tmp).2 with ⟨heq, _⟩ | ⟨g, cap', cur, heq, _, hgb, _⟩
    · rw [heq] at ei; simp [Value.ownBlock] at ei
    · rw [heq] at ei
      obtain rfl : g = i := by simpa [Value.ownBlock] using ei
      rw [hgb] at hi; cases hi; rfl
  · exact (((hq.alloc tmp).kept hgrow (hq.not_row (by decide) hrow)).other hBs.symm _)
end Go.Proofs.YtcfcpbkeedfbpaaGreatDoor
