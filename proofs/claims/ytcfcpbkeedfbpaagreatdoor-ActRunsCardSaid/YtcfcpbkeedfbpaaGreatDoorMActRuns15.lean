/- ActRefRun, EvalLight, ActLight, ActRunsWalk, ActRunsLaw, ScanSpec, ScanRef, ScanRefOne, ScanRefToks, ScanProgSpec, ScanFirst, joined. -/
import Derived.Test.YtcfcpbkeedfbpaaGreatDoorMActRuns14
import Derived.Test.YtcfcpbkeedfbpaaGreatDoorMActRuns08
import Derived.Test.YtcfcpbkeedfbpaaGreatDoorMActRuns07
import Derived.Deep.RegionHeld3
import Derived.Test.YtcfcpbkeedfbpaaGreatDoorMActRuns04
import Derived.Test.YtcfcpbkeedfbpaaGreatDoorMActRuns03
import Derived.Test.YtcfcpbkeedfbpaaGreatDoorMActRuns11
import Derived.Test.YtcfcpbkeedfbpaaGreatDoorMActRuns00
import Derived.Test.YtcfcpbkeedfbpaaGreatDoorRows
import Derived.BigQuiet
import Derived.Deep.QuietTactic
import Derived.IntWalk
import Derived.Lib.Bytealg
import Derived.Lib.Strings
import Derived.Test.YtcfcpbkeedfbpaaGreatDoorShelf
namespace Go.Proofs.YtcfcpbkeedfbpaaGreatDoor
open Go.RowKit Go.Sort TermSpec EvalSpec ActSpec NamesSpec
set_option maxRecDepth 100000

theorem aone_any (p : EP) (e : Ev) (a : Ac) (A : Option Addr) (n c : Nat) (N : Value) (w : World) (he : EnvIn w p e) (h4 : e.vars.length ≤ 4) (hf : ∀ v ∈ e.vars, VFit v) (hs : SmallA a) (ht : Tms w (.slice A n c) a.x) (l : List V4) (hN : V4s w N l) (hl : l.length ≤ 64) :
    Calls Tryz.prog 45 #[.agg #[.string a.s, .bool a.any, .slice A n c], envV p e, N] w (RetVE w (stepA e a l)) := by
  rcases hv : varOf e a with _ | ⟨i, v⟩
  · have hb := badA_none hv
    rw [stepA_bad (by omega), hb]
    exact rone_none p e a A n c N w he hv
  · have hvi := varOf_lt hv
    have hi4 : i < 4 := by have := get_lt hvi; omega
    have hfv := hf v (List.mem_of_getElem? hvi)
    rcases Decidable.em (badA e a = 0) with hb | hb
    · rcases ha : a.any with _ | _
      · have := rone_exprs p e a i v A n c N w he hv hs ht ha hb l hN hl
        rwa [ha] at this
      · have := rone_anys p e a i v A n c N w he hv hfv (bad_span hb hv ha) ha hi4 l hN hl
        rwa [ha] at this
    · rw [stepA_bad hb]
      rcases ha : a.any with _ | _
      · have := rone_expr p e a i v A n c N w he hv hs ht ha hb
        rwa [ha] at this
      · have h1 := badA_any hv ha
        have hsp : spanB v = false := by
          rcases hs : spanB v with _ | _
          · rfl
          · rw [hs] at h1; exact absurd h1 hb
        rw [hsp] at h1
        rw [h1]
        have := rone_span p e a i v A n c N w he hv hfv ha hsp
        rwa [ha] at this
/-- What the loop over the acts keeps. -/
def ARunRel (W : World) (w1 : World) (e : Ev) (l : List Ac) (now i : Value) (wr : World) : Prop := ∃ (k : Nat) (xs : List V4), k ≤ l.length ∧ i = .int .i64 k ∧ LeftA e l k xs ∧ V4s wr now xs ∧ Below w1.heap.size w1 wr ∧ Below W.heap.size W w1
set_option maxHeartbeats 8000000 in
theorem rrun_any (p : EP) (e : Ev) (A : Option Addr) (n c : Nat) (l : List Ac) (w : World) (he : EnvIn w p e) (hf : ∀ v ∈ e.vars, VFit v) (hs : ∀ a ∈ l, SmallA a) (hl : l.length ≤ 9223372036854775807) (h : Acs w (.slice A n c) l) :
    Calls Tryz.prog 23 #[.slice A n c, envV p e] w (RetVE w (runE e l)) := by
  have HT := Lib.hid h
  have HN := Lib.hid h.len.1
  have hcap := h.len.2
  have HE := Lib.hid he
  have HCK := Lib.hid (fun w h => rcheck_acts A n c l hs hl w h)
  have HONE := Lib.hid (fun (h4 : e.vars.length ≤ 4) (a : Ac) (ha : a ∈ l) (B : Option Addr) (m d : Nat) (N : Value) (w : World) he ht xs hN hx => aone_any p e a B m d N w he h4 hf (hs a ha) ht xs hN hx)
  obtain ⟨R, hR⟩ : ∃ R, R = runE e l := ⟨_, rfl⟩
  rw [← hR]
  have HR4 : Hid (4 < e.vars.length → R = (1, [])) := Lib.hid (fun h => by rw [hR]; unfold runE; rw [if_pos h])
  have HRC : Hid (¬ 4 < e.vars.length → chkA l ≠ 0 → R = (chkA l, [])) := Lib.hid (fun h h2 => by rw [hR]; unfold runE; rw [if_neg h, if_pos h2])
  have HRR : Hid (¬ 4 < e.vars.length → chkA l = 0 → R = runA e l [vals e]) := Lib.hid (fun h h2 => by rw [hR]; unfold runE; rw [if_neg h, if_neg (by omega)])
  obtain ⟨q, hq⟩ : ∃ q, q = chkA l := ⟨_, rfl⟩
  rw [← hq] at HCK HRC HRR
  have HQ8 : Hid (q = 0 → l.length ≤ 8) := Lib.hid (fun h => chkA_few (hq.symm.trans h))
  obtain ⟨E, hE⟩ : ∃ E, E = e := ⟨_, rfl⟩
  rw [← hE] at HE HR4 HRC HRR
  obtain ⟨vA, vn, vc, iA, im, ic⟩ := p
  have HVN : Hid (vn = E.vars.length) := Lib.hid (HE.out.vars.1)
  obtain ⟨vars, v0, v1, v2, v3, ins⟩ := e
  have HV : Hid (vals E = ⟨v0, v1, v2, v3⟩) := Lib.hid (by rw [hE]; rfl)
  have HONE' : Hid (E.vars.length ≤ 4 → ∀ a ∈ l, ∀ (B : Option Addr) (m d : Nat) (N : Value) (w : World), EnvIn w ⟨vA, vn, vc, iA, im, ic⟩ E → Tms w (.slice B m d) a.x → ∀ xs, V4s w N xs → xs.length ≤ 64 → Calls Tryz.prog 45 #[.agg #[.string a.s, .bool a.any, .slice B m d], .agg #[.slice vA vn vc, .int .i64 v0, .int .i64 v1, .int .i64 v2, .int .i64 v3, .slice iA im ic], N] w (RetVE w (stepA E a xs))) := Lib.hid (fun h4 a ha B m d N w he ht xs hN hx => by
    rw [hE] at he h4 ⊢
    exact HONE.out h4 a ha B m d N w he ht xs hN hx)
  clear hE HONE he hf hs h hR hq hl
  change Calls _ _ #[_, .agg #[.slice vA vn vc, .int .i64 v0, .int .i64 v1, .int .i64 v2, .int .i64 v3, .slice iA im ic]] _ _
  have HB1 := Lib.hid (KitC.below_one w (.cells #[.slice vA vn vc, .int .i64 v0, .int .i64 v1, .int .i64 v2, .int .i64 v3, .slice iA im ic] 54))
  by_cases h4 : 4 < vn
  · have h4I : (4 : Int) < vn := by omega
    have HR : Hid (R = (1, [])) := Lib.hid (HR4.out (by rw [← HVN.out]; exact h4))
    go_enter Tryz.func23, Tryz.ntmps23
    go_wp2_with fail
    refine bodyPost_ret (v := .tuple #[.slice none 0 0, .int .i64 1]) (by simp [results, Tryz.results23, go_sem]) rfl ⟨_, by rw [HR.out], by rw [HR.out]; exact v4s_nil _, HB1.out⟩
  · have h4I : ¬ (4 : Int) < vn := by omega
    have H4 : Hid (¬ 4 < E.vars.length) := Lib.hid (by rw [← HVN.out]; exact h4)
    by_cases hq0 : q = 0
    · have g : (q != 0) = false := by simp [hq0]
      have HR : Hid (R = runA E l [vals E]) := Lib.hid (HRR.out H4.out hq0)
      have H8 := Lib.hid (HQ8.out hq0)
      clear HR4 HRC HRR hq0 HQ8
      go_enter Tryz.func23, Tryz.ntmps23
      go_wp2_with (go_at_call 9; (with_reducible refine (HCK.out _ (HT.out.keep HB1.out)).mono ?_))
      rintro e2 w2 ⟨rfl, hb2⟩
      obtain ⟨B1, hbb, _⟩ := KitC.one_block hb2
      obtain ⟨c0, c1, c2, c3, c4, c5⟩ := cells_6 B1
      obtain ⟨w3, hw3⟩ : ∃ w3, w2.alloc (.cells #[.int .i64 v0, .int .i64 v1, .int .i64 v2, .int .i64 v3] 51) = w3 := ⟨_, rfl⟩
      have HST : Hid (ARunRel w w3 E l (.slice (some ⟨w2.heap.size, 0, none⟩) 1 1) (.int .i64 0) w3) := Lib.hid (by
        refine ⟨0, [vals E], Nat.zero_le _, rfl, left_start E l, ?_, Below.refl _ _, by rw [← hw3]; exact below_two' hbb (KitC.below_one _ _)⟩
        rw [← hw3, HV.out]
        exact v4_lit rfl)
      have HK : Hid (w3.heap[w.heap.size]? = some (.cells #[.slice vA vn vc, .int .i64 v0, .int .i64 v1, .int .i64 v2, .int .i64 v3, .slice iA im ic] 54 (0, 0))) := Lib.hid (by rw [← hw3]; exact KitC.block_on B1 (KitC.below_one _ _))
      have HW3 := Lib.hid hw3
      clear hb2 hbb B1 hw3
      go_wp2_with fail
      rw [HW3.out]
      clear c0 c1 c2 c3 c4 c5 HW3
      go_loopw [7, 8, 9, 10] (fun now i _ _ wr => ARunRel w w3 E l now i wr) (fun _ i _ _ _ => l.length - (Go.RowKit.intOf i).toNat)
      case atStart => exact HST.out
      case round =>
        obtain ⟨k, xs, hk, rfl, hleft, hxs, hbw, hb0⟩ := hrel
        obtain ⟨xA, xn, xc, rfl, hxn, hxc⟩ := hxs.shape
        have HL := Lib.hid hleft
        have HX := Lib.hid hxs
        have HBW := Lib.hid hbw
        have HB00 := Lib.hid hb0
        have HBW2 := Lib.hid hbw
        have HWB := Lib.hid (below_two' hb0 hbw)
        by_cases hlt : k < n
        · have hkI : (k : Int) < n := by omega
          have hk8 : (k : Int) ≤ 8 := by have := H8.out; omega
          obtain ⟨a, ha⟩ : ∃ a, l[k]? = some a := get_some (by have := HN.out; omega)
          obtain ⟨b, off, tA, tn, tc, rfl, hb, htm, d0, d1, d2⟩ := (HT.out.keep HWB.out).at_ ha
          obtain ⟨tA', tn', tc', heq, htn, htc⟩ := htm.shape
          cases heq
          have henv := KitC.block_on HK.out hbw
          obtain ⟨c0, c1, c2, c3, c4, c5⟩ := cells_6 henv
          have HC : Hid (∀ V, Below wr.heap.size wr V → Calls Tryz.prog 45 #[.agg #[.string a.s, .bool a.any, .slice tA tn tc], .agg #[.slice vA vn vc, .int .i64 v0, .int .i64 v1, .int .i64 v2, .int .i64 v3, .slice iA im ic], .slice xA xn xc] V (RetVE V (stepA E a xs))) := Lib.hid (fun V hV => HONE'.out (by have := H4.out; omega) a (List.mem_of_getElem? ha) tA tn tc (.slice xA xn xc) V (HE.out.keep (below_two' HWB.out hV)) (htm.keep hV) xs (HX.out.keep hV) hleft.2.2)
          have HNX := Lib.hid (fun h0 => left_next hleft ha h0)
          have HSP := Lib.hid (fun h0 => left_stop hleft ha h0)
          obtain ⟨r, hr⟩ : ∃ r, r = stepA E a xs := ⟨_, rfl⟩
          rw [← hr] at HC HNX HSP
          have HAC : Hid (∀ V, Below wr.heap.size wr V → V.cell? ⟨b, off + k * 3, none⟩ = some (.string a.s) ∧ V.cell? ⟨b, off + k * 3 + 1, none⟩ = some (.bool a.any) ∧ V.cell? ⟨b, off + k * 3 + 2, none⟩ = some (.slice tA tn tc)) := Lib.hid (fun V hV => ⟨(hV.cell (p := ⟨b, off + k * 3, none⟩) hb).trans d0, (hV.cell (p := ⟨b, off + k * 3 + 1, none⟩) hb).trans d1, (hV.cell (p := ⟨b, off + k * 3 + 2, none⟩) hb).trans d2⟩)
          have HEN := Lib.hid henv
          clear ha htm htn hr hleft hxs hbw hb0 henv hxn HX HL HBW
          obtain ⟨sa, aany, ax⟩ := a
          simp only at d0 d1 d2 HC HAC
          obtain ⟨rc, rl⟩ := r
          go_wp2_with fail
          go_region_held3 (fun w' => w'.cell? ⟨b, off + k * 3, none⟩ = some (.string sa) ∧ w'.cell? ⟨b, off + k * 3 + 1, none⟩ = some (.bool aany) ∧ w'.cell? ⟨b, off + k * 3 + 2, none⟩ = some (.slice tA tn tc) ∧ w'.cell? ⟨w.heap.size, 0, none⟩ = some (.slice vA vn vc) ∧ w'.cell? ⟨w.heap.size, 1, none⟩ = some (.int .i64 v0) ∧ w'.cell? ⟨w.heap.size, 2, none⟩ = some (.int .i64 v1) ∧ w'.cell? ⟨w.heap.size, 3, none⟩ = some (.int .i64 v2) ∧ w'.cell? ⟨w.heap.size, 4, none⟩ = some (.int .i64 v3) ∧ w'.cell? ⟨w.heap.size, 5, none⟩ = some (.slice iA im ic)) (go_keep)
            ((go_at_call 45; refine (HC.out _ (Below.refl _ _).drew).mono ?_; rintro e x4 ⟨rv, rfl, hrv, hb4'⟩; have hb4 := undrew hb4'; clear hb4'; have HB4 := Lib.hid hb4; have HRV := Lib.hid hrv; obtain ⟨rA, rn, rcc, rfl, hrn, hrc⟩ := hrv.shape; clear hrv hrn; obtain ⟨p0, p1, p2⟩ := HAC.out _ hb4; obtain ⟨q0, q1, q2, q3, q4, q5⟩ := cells_6 (KitC.block_on HEN.out hb4); clear hb4))
          clear p0 p1 p2 q0 q1 q2 q3 q4 q5 c0 c1 c2 c3 c4 c5 d0 d1 d2 HC HAC HEN
          by_cases hr0 : rc = 0
          · have g2 : (rc != 0) = false := by simp [hr0]
            have HN1 := Lib.hid (HNX.out hr0)
            clear HNX HSP hr0
            go_wp2_with fail
            go_roundw
            case rel => first | exact ⟨k + 1, rl, by have := HN.out; omega, by go_num, HN1.out, HRV.out, below_two' HBW2.out HB4.out, HB00.out⟩ | ((repeat apply Exists.intro); exact ⟨⟨k + 1, rl, by have := HN.out; omega, by go_num, HN1.out, HRV.out, below_two' HBW2.out HB4.out, HB00.out⟩, rfl⟩)
            case measure => have := HN.out; simp [Go.RowKit.intOf]; omega
          · have g2 : (rc != 0) = true := by simp [hr0]
            have HS1 := Lib.hid (HSP.out hr0)
            clear HNX HSP hr0
            go_wp2_with fail
            refine bodyPost_ret (v := .tuple #[.slice none 0 0, .int .i64 rc]) (by simp [results, Tryz.results23, go_sem]) rfl ⟨_, by rw [HR.out, HS1.out], by rw [HR.out, HS1.out]; exact v4s_nil _, below_two' HWB.out HB4.out⟩
        · have hkI : ¬ (k : Int) < n := by omega
          have HS1 := Lib.hid (left_end hleft (by have := HN.out; omega))
          clear hleft hxs hbw hb0 hxn
          go_wp2_with fail
          refine bodyPost_ret (v := .tuple #[.slice xA xn xc, .int .i64 0]) (by simp [results, Tryz.results23, go_sem]) rfl ⟨_, by rw [HR.out, HS1.out], by rw [HR.out, HS1.out]; exact HX.out, HWB.out⟩
    · have g : (q != 0) = true := by simp [hq0]
      have HR : Hid (R = (q, [])) := Lib.hid (HRC.out H4.out hq0)
      clear HR4 HRC HRR hq0
      go_enter Tryz.func23, Tryz.ntmps23
      go_wp2_with (go_at_call 9; (with_reducible refine (HCK.out _ (HT.out.keep HB1.out)).mono ?_))
      rintro e2 w2 ⟨rfl, hb2⟩
      have HB2 := Lib.hid (below_two' HB1.out hb2)
      clear hb2
      go_wp2_with fail
      refine bodyPost_ret (v := .tuple #[.slice none 0 0, .int .i64 q]) (by simp [results, Tryz.results23, go_sem]) rfl ⟨_, by rw [HR.out], by rw [HR.out]; exact v4s_nil _, HB2.out⟩
end Go.Proofs.YtcfcpbkeedfbpaaGreatDoor

namespace Go.Proofs.YtcfcpbkeedfbpaaGreatDoor
open Go.RowKit TermSpec EvalSpec
set_option maxRecDepth 100000

def shortS (s : ByteArray) : Bool := decide (s.size ≤ 100)
def lightE (e : Ev) (l : List Tm) : Bool := (decide (l.length ≤ 60) && decide (e.vars.length ≤ 20) && decide (e.ins.length ≤ 80)) && (l.all (fun t => shortS t.s) && (e.ins.all shortS && e.vars.all (fun v => shortS v.s)))
theorem all_stop' {α : Type} {f : α → Bool} {l : List α} {k : Nat} {x : α} (h : l[k]? = some x) (hx : f x = false) : l.all f = false := by
  rw [List.all_eq_false]
  exact ⟨x, List.mem_of_getElem? h, by simp [hx]⟩
theorem all_next' {α : Type} {f : α → Bool} {l : List α} {k : Nat} {x : α} (h : l[k]? = some x) (hx : f x = true) (h0 : (l.take k).all f = true) : (l.take (k + 1)).all f = true := by
  rw [take_next h, List.all_append, h0]; simp [hx]
theorem all_end' {α : Type} {f : α → Bool} {l : List α} {k : Nat} (h : l.length ≤ k) (h0 : (l.take k).all f = true) : l.all f = true := by rwa [List.take_of_length_le h] at h0
theorem light_parts {e : Ev} {l : List Tm} (h : lightE e l = true) : l.length ≤ 60 ∧ e.vars.length ≤ 20 ∧ e.ins.length ≤ 80 ∧ (∀ t ∈ l, t.s.size ≤ 100) := by
  unfold lightE at h
  simp only [Bool.and_eq_true, decide_eq_true_eq, List.all_eq_true, shortS] at h
  exact ⟨h.1.1.1, h.1.1.2, h.1.2, h.2.1⟩

theorem light_big (p : EP) (e : Ev) (A : Option Addr) (n c : Nat) (l : List Tm) (hn : n = l.length) (w : World) (he : EnvIn w p e) (hb : 60 < n ∨ 20 < e.vars.length ∨ 80 < e.ins.length) :
    Calls Tryz.prog 21 #[.slice A n c, envV p e] w (RetB w (lightE e l)) := by
  have HR : Hid (lightE e l = false) := Lib.hid (by
    unfold lightE
    rcases hb with h | h | h
    · rw [show decide (l.length ≤ 60) = false by simp; omega]; simp
    · rw [show decide (e.vars.length ≤ 20) = false by simp; omega]; simp
    · rw [show decide (e.ins.length ≤ 80) = false by simp; omega]; simp)
  have hv := he.vars.1
  have hi := he.ins.strs
  obtain ⟨vA, vn, vc, iA, im, ic⟩ := p
  obtain ⟨A', n', c', heq, hi, _, _⟩ := hi
  cases heq
  simp only at hv hi
  obtain ⟨r, hr⟩ : ∃ r, r = lightE e l := ⟨_, rfl⟩
  rw [← hr] at HR ⊢
  have hb' : 60 < (n : Int) ∨ (¬ 60 < (n : Int) ∧ 20 < (vn : Int)) ∨ (¬ 60 < (n : Int) ∧ ¬ 20 < (vn : Int) ∧ 80 < (im : Int)) := by omega
  obtain ⟨vars, v0, v1, v2, v3, ins⟩ := e
  change Calls _ _ #[.slice A n c, .agg #[.slice vA vn vc, .int .i64 v0, .int .i64 v1, .int .i64 v2, .int .i64 v3, .slice iA im ic]] _ _
  clear hr he hb hv hi hn
  rcases hb' with h | ⟨h, h'⟩ | ⟨h, h', h''⟩
  · have g : decide (60 < (n : Int)) = true := by simp; omega
    go_enter Tryz.func21, Tryz.ntmps21
    go_wp2_with fail
    go_ret
    exact ⟨ret_bool HR.out.symm, KitC.below_one _ _⟩
  · have g : decide (60 < (n : Int)) = false := by simp; omega
    have g2 : decide (20 < (vn : Int)) = true := by simp; omega
    go_enter Tryz.func21, Tryz.ntmps21
    go_wp2_with fail
    go_ret
    exact ⟨ret_bool HR.out.symm, KitC.below_one _ _⟩
  · have g : decide (60 < (n : Int)) = false := by simp; omega
    have g2 : decide (20 < (vn : Int)) = false := by simp; omega
    have g3 : decide (80 < (im : Int)) = true := by simp; omega
    go_enter Tryz.func21, Tryz.ntmps21
    go_wp2_with fail
    go_ret
    exact ⟨ret_bool HR.out.symm, KitC.below_one _ _⟩
set_option maxHeartbeats 4000000 in
theorem light_few' (p : EP) (e : Ev) (A : Option Addr) (n c : Nat) (l : List Tm) (hn : n = l.length) (w : World) (h : Tms w (.slice A n c) l) (he : EnvIn w p e) (hb : n ≤ 60 ∧ e.vars.length ≤ 20 ∧ e.ins.length ≤ 80) :
    Calls Tryz.prog 21 #[.slice A n c, envV p e] w (RetB w (lightE e l)) := by
  have HR : Hid (lightE e l = (l.all (fun t => shortS t.s) && (e.ins.all shortS && e.vars.all (fun v => shortS v.s)))) := Lib.hid (by
    unfold lightE
    rw [show decide (l.length ≤ 60) = true by simp; omega, show decide (e.vars.length ≤ 20) = true by simp; omega, show decide (e.ins.length ≤ 80) = true by simp; omega]
    simp)
  have hv := he.vars.1
  have hi := he.ins.strs
  have HT := Lib.hid (h.keep (KitC.below_one w (envO p e)))
  have HV := Lib.hid (he.vars.keep (KitC.below_one w (envO p e)))
  have HI := Lib.hid (he.ins.alloc (envO p e)).strs
  obtain ⟨vA, vn, vc, iA, im, ic⟩ := p
  obtain ⟨A', n', c', heq, hi, _, _⟩ := hi
  cases heq
  simp only at hv hi
  obtain ⟨r, hr⟩ : ∃ r, r = lightE e l := ⟨_, rfl⟩
  rw [← hr] at HR ⊢
  have HN := Lib.hid hn
  have HVN := Lib.hid hv
  have HIN := Lib.hid hi
  obtain ⟨hb1, hb2, hb3⟩ := hb
  have hb2' : vn ≤ 20 := by omega
  have hb3' : im ≤ 80 := by omega
  have g : decide (60 < (n : Int)) = false := by simp; omega
  have g2 : decide (20 < (vn : Int)) = false := by simp; omega
  have g3 : decide (80 < (im : Int)) = false := by simp; omega
  have hcap := h.cap
  obtain ⟨vars, v0, v1, v2, v3, ins⟩ := e
  simp only at HVN HIN HT HV HI HR
  change Calls _ _ #[.slice A n c, .agg #[.slice vA vn vc, .int .i64 v0, .int .i64 v1, .int .i64 v2, .int .i64 v3, .slice iA im ic]] _ _
  obtain ⟨W1, hW1⟩ : ∃ W1, w.alloc (.cells #[.slice vA vn vc, .int .i64 v0, .int .i64 v1, .int .i64 v2, .int .i64 v3, .slice iA im ic] 54) = W1 := ⟨_, rfl⟩
  have hBk := heap_alloc_new w (.cells #[.slice vA vn vc, .int .i64 v0, .int .i64 v1, .int .i64 v2, .int .i64 v3, .slice iA im ic] 54)
  have hBl := KitC.below_one w (.cells #[.slice vA vn vc, .int .i64 v0, .int .i64 v1, .int .i64 v2, .int .i64 v3, .slice iA im ic] 54)
  change Hid (Tms (w.alloc (.cells #[.slice vA vn vc, .int .i64 v0, .int .i64 v1, .int .i64 v2, .int .i64 v3, .slice iA im ic] 54)) _ _) at HT
  change Hid (VarsIn (w.alloc (.cells #[.slice vA vn vc, .int .i64 v0, .int .i64 v1, .int .i64 v2, .int .i64 v3, .slice iA im ic] 54)) _ _ _ _) at HV
  rw [hW1] at HT HV hBk hBl
  have HI' : Hid (0 < im → ∃ b off, iA = some ⟨b, off, none⟩ ∧ b < W1.heap.size ∧ ∀ (j : Nat) (s : ByteArray), ins[j]? = some s → W1.cell? ⟨b, off + j, none⟩ = some (.string s)) := Lib.hid (by
    obtain ⟨A', n', c', heq, _, _, hA⟩ := HI.out
    cases heq
    rw [← hW1]
    exact hA)
  obtain ⟨z0, z1, z2, z3, z4, z5⟩ := cells_6 hBk
  have HBL := Lib.hid hBl
  have HW1 := Lib.hid hW1
  clear HI hr he hn hv hi h hb2 hb3 hBk hBl hW1
  go_enter Tryz.func21, Tryz.ntmps21
  go_wp2_with fail
  rw [HW1.out]
  go_loop [5] (fun i => ∃ k : Nat, k ≤ n ∧ i = .int .i64 k ∧ Hid ((l.take k).all (fun t => shortS t.s) = true)) (fun i => n - (intOf i).toNat)
  case atStart => exact ⟨0, Nat.zero_le _, rfl, Lib.hid rfl⟩
  case round =>
    obtain ⟨k, hk, rfl, HO⟩ := hrel
    by_cases hlt : k < n
    · obtain ⟨t, ht⟩ : ∃ t, l[k]? = some t := get_some (by have := HN.out; omega)
      obtain ⟨b, off, rfl, hb, c0, c1, c2⟩ := HT.out.at_ ht
      have HX := Lib.hid ht
      have hlt' : (k : Int) < n := by omega
      clear ht c0 c1
      by_cases hs : t.s.size ≤ 100
      · have HS : Hid (shortS t.s = true) := Lib.hid (by simp [shortS, hs])
        have gs : ¬ 100 < (t.s.size : Int) := by omega
        go_wp2_with fail
        go_round
        case rel => exact ⟨k + 1, by omega, by go_num, Lib.hid (all_next' HX.out HS.out HO.out)⟩
        case measure => simp [intOf]; omega
      · have HS : Hid (shortS t.s = false) := Lib.hid (by simp [shortS]; omega)
        have gs : 100 < (t.s.size : Int) := by omega
        clear hs
        go_wp2_with fail
        go_ret
        exact ⟨ret_bool (by rw [HR.out, all_stop' HX.out HS.out]; simp), HBL.out⟩
    · have HL : Hid (l.all (fun t => shortS t.s) = true) := Lib.hid (all_end' (by have := HN.out; omega) HO.out)
      clear HO
      have hge : ¬ (k : Int) < n := by omega
      go_wp2_with fail
      go_loop [6] (fun i => ∃ k : Nat, k ≤ im ∧ i = .int .i64 k ∧ Hid ((ins.take k).all shortS = true)) (fun i => im - (intOf i).toNat)
      case atStart => exact ⟨0, Nat.zero_le _, rfl, Lib.hid rfl⟩
      case round =>
        obtain ⟨j, hj, rfl, HO⟩ := hrel
        by_cases hlt2 : j < im
        · obtain ⟨s, hs0⟩ : ∃ s, ins[j]? = some s := get_some (by have := HIN.out; omega)
          obtain ⟨b, off, rfl, hb, hcell⟩ := HI'.out (by omega)
          have c0 := hcell j s hs0
          have HX := Lib.hid hs0
          have hlt' : (j : Int) < im := by omega
          clear hs0 hcell
          by_cases hs : s.size ≤ 100
          · have HS : Hid (shortS s = true) := Lib.hid (by simp [shortS, hs])
            have gs : ¬ 100 < (s.size : Int) := by omega
            go_wp2_with fail
            go_round
            case rel => exact ⟨j + 1, by omega, by go_num, Lib.hid (all_next' HX.out HS.out HO.out)⟩
            case measure => simp [intOf]; omega
          · have HS : Hid (shortS s = false) := Lib.hid (by simp [shortS]; omega)
            have gs : 100 < (s.size : Int) := by omega
            clear hs
            go_wp2_with fail
            go_ret
            exact ⟨ret_bool (by rw [HR.out, all_stop' HX.out HS.out]; simp), HBL.out⟩
        · have HL2 : Hid (ins.all shortS = true) := Lib.hid (all_end' (by have := HIN.out; omega) HO.out)
          clear HO
          have hge2 : ¬ (j : Int) < im := by omega
          go_wp2_with fail
          go_loop [7] (fun i => ∃ k : Nat, k ≤ vn ∧ i = .int .i64 k ∧ Hid ((vars.take k).all (fun v => shortS v.s) = true)) (fun i => vn - (intOf i).toNat)
          case atStart => exact ⟨0, Nat.zero_le _, rfl, Lib.hid rfl⟩
          case round =>
            obtain ⟨m, hm, rfl, HO⟩ := hrel
            by_cases hlt3 : m < vn
            · obtain ⟨v, hv0⟩ : ∃ v, vars[m]? = some v := get_some (by have := HVN.out; omega)
              obtain ⟨b, off, rfl, hb, c0, -, -, -⟩ := HV.out.at_ hv0
              have HX := Lib.hid hv0
              have hlt' : (m : Int) < vn := by omega
              clear hv0
              by_cases hs : v.s.size ≤ 100
              · have HS : Hid (shortS v.s = true) := Lib.hid (by simp [shortS, hs])
                have gs : ¬ 100 < (v.s.size : Int) := by omega
                go_wp2_with fail
                go_round
                case rel => exact ⟨m + 1, by omega, by go_num, Lib.hid (all_next' (f := fun v : Vr => shortS v.s) HX.out HS.out HO.out)⟩
                case measure => simp [intOf]; omega
              · have HS : Hid (shortS v.s = false) := Lib.hid (by simp [shortS]; omega)
                have gs : 100 < (v.s.size : Int) := by omega
                clear hs
                go_wp2_with fail
                go_ret
                exact ⟨ret_bool (by rw [HR.out, all_stop' (f := fun v : Vr => shortS v.s) HX.out HS.out]; simp), HBL.out⟩
            · have HL3 : Hid (vars.all (fun v => shortS v.s) = true) := Lib.hid (all_end' (by have := HVN.out; omega) HO.out)
              clear HO
              have hge3 : ¬ (m : Int) < vn := by omega
              go_wp2_with fail
              go_ret
              exact ⟨ret_bool (by rw [HR.out, HL.out, HL2.out, HL3.out]; rfl), HBL.out⟩
theorem elight_any (p : EP) (e : Ev) (A : Option Addr) (n c : Nat) (l : List Tm) (hn : n = l.length) (w : World) (h : Tms w (.slice A n c) l) (he : EnvIn w p e) :
    Calls Tryz.prog 21 #[.slice A n c, envV p e] w (RetB w (lightE e l)) := by
  by_cases hb : n ≤ 60 ∧ e.vars.length ≤ 20 ∧ e.ins.length ≤ 80
  · exact light_few' p e A n c l hn w h he hb
  · exact light_big p e A n c l hn w he (by omega)
end Go.Proofs.YtcfcpbkeedfbpaaGreatDoor

namespace Go.Proofs.YtcfcpbkeedfbpaaGreatDoor
open Go.RowKit TermSpec EvalSpec ActSpec NamesSpec
set_option maxRecDepth 100000

abbrev noP : EP := ⟨none, 0, 0, none, 0, 0⟩
abbrev noE : Ev := ⟨[], 0, 0, 0, 0, []⟩
theorem no_env (w : World) : EnvIn w noP noE := ⟨⟨rfl, Rdk.nil 4 w⟩, Rd.nil w, by decide, by decide⟩
def lightOne (a : Ac) : Bool := shortS a.s && lightE noE a.x
def lightA (l : List Ac) : Bool := decide (l.length < 20) && l.all lightOne
theorem lightA_parts {l : List Ac} (h : lightA l = true) : l.length < 20 ∧ ∀ a ∈ l, a.s.size ≤ 100 ∧ a.x.length ≤ 60 ∧ ∀ t ∈ a.x, t.s.size ≤ 100 := by
  unfold lightA at h
  simp only [Bool.and_eq_true, decide_eq_true_eq, List.all_eq_true] at h
  refine ⟨h.1, fun a ha => ?_⟩
  have := h.2 a ha
  unfold lightOne at this
  rw [Bool.and_eq_true] at this
  obtain ⟨h1, _, _, h2⟩ := light_parts this.2
  exact ⟨by simpa [shortS] using this.1, h1, h2⟩
theorem lightA_bad {l : List Ac} {k : Nat} {a : Ac} (h : l[k]? = some a) (h1 : lightOne a = false) : lightA l = false := by unfold lightA; rw [all_stop' h h1]; simp
def LightARel (W : World) (l : List Ac) (n : Nat) (i : Value) (wr : World) : Prop := ∃ k : Nat, k ≤ n ∧ k ≤ 20 ∧ i = .int .i64 k ∧ (l.take k).all lightOne = true ∧ Below W.heap.size W wr
set_option maxHeartbeats 1000000 in
theorem lightA_any (A : Option Addr) (n c : Nat) (l : List Ac) (hs : ∀ a ∈ l, a.s.size ≤ 9223372036854775807) (w : World) (h : Acs w (.slice A n c) l) :
    Calls Tryz.prog 6 #[.slice A n c] w (RetB w (lightA l)) := by
  have hn := h.len.1
  have hcap := h.len.2
  have HN := Lib.hid hn
  have HT := Lib.hid h
  have HS := Lib.hid hs
  obtain ⟨r, hr⟩ : ∃ r, r = lightA l := ⟨_, rfl⟩
  rw [← hr]
  have HR := Lib.hid hr
  clear hn h hs hr
  go_enter Tryz.func6, Tryz.ntmps6
  go_wp2_with fail
  go_loopw [3] (fun i wr => LightARel w l n i wr) (fun i _ => n - (intOf i).toNat)
  case atStart => exact ⟨0, Nat.zero_le _, Nat.zero_le _, rfl, rfl, Below.refl _ _⟩
  case round =>
    obtain ⟨k, hk, hk20, rfl, hall, hbw⟩ := hrel
    have HA := Lib.hid hall
    have HB := Lib.hid hbw
    clear hall hbw
    by_cases hlt : k < n
    · have hkI : (k : Int) < n := by omega
      by_cases h20 : k < 20
      · have h20I : (k : Int) < 20 := by omega
        obtain ⟨a, ha⟩ : ∃ a, l[k]? = some a := get_some (by rw [← HN.out]; exact hlt)
        obtain ⟨b, off, xA, xn, xc, rfl, hb, htm, c0, c1, c2⟩ := (HT.out.keep HB.out).at_ ha
        obtain ⟨xA', xn', xc', heq, hxn, hxc⟩ := htm.shape
        cases heq
        have HC : Hid (Calls Tryz.prog 21 #[.slice xA xn xc, .agg #[.slice none 0 0, .int .i64 0, .int .i64 0, .int .i64 0, .int .i64 0, .slice none 0 0]] wr (RetB wr (lightE noE a.x))) := Lib.hid (elight_any noP noE xA xn xc a.x hxn wr htm (no_env wr))
        have HNX := Lib.hid (fun h1 => all_next' ha (f := lightOne) h1 HA.out)
        have HST := Lib.hid (fun h1 => lightA_bad ha h1)
        have HO : Hid (lightOne a = (decide (a.s.size ≤ 100) && lightE noE a.x)) := Lib.hid rfl
        have hsz := HS.out a (List.mem_of_getElem? ha)
        obtain ⟨q, hq⟩ : ∃ q, q = lightE noE a.x := ⟨_, rfl⟩
        rw [← hq] at HC HO
        clear ha hq htm hxn hxc
        obtain ⟨s, any, x⟩ := a
        simp only at c0 c1 c2 HC hsz HO
        by_cases hs1 : 100 < s.size
        · have HST' := Lib.hid (HST.out (by rw [HO.out]; simp; omega))
          have g : decide (100 < (s.size : Int)) = true := by simp; omega
          clear HNX HST
          go_wp2_with fail
          go_ret
          exact ⟨ret_bool (by rw [HR.out, HST'.out]), HB.out⟩
        · have g : decide (100 < (s.size : Int)) = false := by simp; omega
          rcases hq : q with _ | _
          · rw [hq] at HC
            have HST' := Lib.hid (HST.out (by rw [HO.out, hq]; simp))
            clear HNX HST hq HO
            go_wp2_with (go_at_call 21; (with_reducible refine HC.out.mono ?_))
            rintro e2 w2 ⟨rfl, hb2⟩
            have HB2 := Lib.hid (below_two' HB.out hb2)
            clear hb2
            go_wp2_with fail
            go_ret
            exact ⟨ret_bool (by rw [HR.out, HST'.out]), HB2.out⟩
          · rw [hq] at HC
            have HNX' := Lib.hid (HNX.out (by rw [HO.out, hq]; simp; omega))
            clear HNX HST hq HO
            go_wp2_with (go_at_call 21; (with_reducible refine HC.out.mono ?_))
            rintro e2 w2 ⟨rfl, hb2⟩
            have HB2 := Lib.hid (below_two' HB.out hb2)
            clear hb2
            go_wp2_with fail
            go_roundw
            case rel => exact ⟨k + 1, by omega, by omega, by go_num, HNX'.out, HB2.out⟩
            case measure => simp [intOf]; omega
      · have h20I : ¬ (k : Int) < 20 := by omega
        have HE : Hid (r = false) := Lib.hid (by rw [HR.out]; unfold lightA; rw [show decide (l.length < 20) = false by have := HN.out; simp; omega]; simp)
        have g : decide ((n : Int) < 20) = false := by simp; omega
        have g' : decide (n < 20) = false := by simp; omega
        go_wp2_with fail
        go_ret
        exact ⟨ret_bool HE.out.symm, HB.out⟩
    · have hkI : ¬ (k : Int) < n := by omega
      have HE : Hid (r = decide (n < 20)) := Lib.hid (by
        have h1 := HA.out
        have h2 := HN.out
        rw [List.take_of_length_le (by omega)] at h1
        rw [HR.out]; unfold lightA; rw [h1, h2]; simp)
      go_wp2_with fail
      go_ret
      exact ⟨ret_bool (by rw [HE.out]; simp; omega), HB.out⟩
end Go.Proofs.YtcfcpbkeedfbpaaGreatDoor

namespace Go.Proofs.YtcfcpbkeedfbpaaGreatDoor
open Go.RowKit Go.Sort TermSpec EvalSpec ActSpec NamesSpec ExprSpec
set_option maxRecDepth 100000

def VSameRel (W : World) (n : Nat) (i : Value) (wr : World) : Prop := ∃ k : Nat, k ≤ n ∧ i = .int .i64 k ∧ Below W.heap.size W wr
set_option maxHeartbeats 1000000 in
theorem vsame_any (A B : Option Addr) (n c d : Nat) (l : List V4) (w : World) (h : V4s w (.slice A n c) l) (h2 : V4s w (.slice B n d) l) (hn : n = l.length) (h64 : n ≤ 64) :
    Calls Tryz.prog 24 #[.slice A n c, .slice B n d] w (RetB w true) := by
  have HT := Lib.hid h
  have HT2 := Lib.hid h2
  have HN := Lib.hid hn
  obtain ⟨_, _, _, e1, _, hc⟩ := h.shape
  cases e1
  obtain ⟨_, _, _, e2, _, hd⟩ := h2.shape
  cases e2
  have HEQ : Hid (∀ (y : V4) w, (Op.equalIn 10000 51 (v4A y) (v4A y)).run Tryz.prog w = .ok true w) := Lib.hid (fun y w => by have := eq_v4 y y w; simpa using this)
  clear h h2 hn
  go_enter Tryz.func24, Tryz.ntmps24
  go_wp2_with fail
  go_loopw [5] (fun i wr => VSameRel w n i wr) (fun i _ => n - (intOf i).toNat)
  case atStart => exact ⟨0, Nat.zero_le _, rfl, Below.refl _ _⟩
  case round =>
    obtain ⟨k, hk, rfl, hbw⟩ := hrel
    have HB := Lib.hid hbw
    by_cases hlt : k < n
    · have hkI : (k : Int) < n := by omega
      have hk64 : (k : Int) ≤ 64 := by omega
      obtain ⟨x, hx⟩ : ∃ x, l[k]? = some x := get_some (by rw [← HN.out]; exact hlt)
      obtain ⟨b, off, rfl, hb, c0, c1, c2, c3⟩ := (HT.out.keep hbw).at_ hx
      obtain ⟨b', off', rfl, hb', d0, d1, d2, d3⟩ := (HT2.out.keep hbw).at_ hx
      have heq := HEQ.out x
      clear hx hbw
      go_wp2_with fail
      go_big_quiet (fail)
      go_wp2_with fail
      go_roundw
      case rel => exact ⟨k + 1, by omega, by go_num, below_drewN HB.out _⟩
      case measure => simp [intOf]; omega
    · have hkI : ¬ (k : Int) < n := by omega
      clear hbw
      go_wp2_with fail
      go_ret
      exact ⟨rfl, HB.out⟩
/-- The cells of an Env's values, and of values in a row, at a variable's place. -/
theorem env_cell {w : World} {b : Nat} {T : TypeId} {x : V4} {q0 q5 : Value} (h : w.heap[b]? = some (.cells #[q0, .int .i64 x.a, .int .i64 x.b, .int .i64 x.c, .int .i64 x.d, q5] T (0, 0))) {k : Nat} (hk : k < 4) : w.cell? ⟨b, 1 + k, none⟩ = some (.int .i64 (x.get k)) := by
  obtain ⟨_, h0, h1, h2, h3, _⟩ := cells_6 h
  rcases (show k = 0 ∨ k = 1 ∨ k = 2 ∨ k = 3 by omega) with rfl | rfl | rfl | rfl
  · exact h0
  · exact h1
  · exact h2
  · exact h3
theorem row_cell {w : World} {A : Option Addr} {n c : Nat} {l : List V4} {i : Nat} {x : V4} (h : V4s w (.slice A n c) l) (hi : l[i]? = some x) {k : Nat} (hk : k < 4) :
    ∃ b off, A = some ⟨b, off, none⟩ ∧ b < w.heap.size ∧ w.cell? ⟨b, off + i * 4 + k, none⟩ = some (.int .i64 (x.get k)) := by
  obtain ⟨b, off, rfl, hb, c0, c1, c2, c3⟩ := h.at_ hi
  refine ⟨b, off, rfl, hb, ?_⟩
  rcases (show k = 0 ∨ k = 1 ∨ k = 2 ∨ k = 3 by omega) with rfl | rfl | rfl | rfl
  · exact c0
  · exact c1
  · exact c2
  · exact c3
def RunsRel (w1 : World) (xs : List V4) (i : Value) (wr : World) : Prop := ∃ k : Nat, k ≤ xs.length ∧ i = .int .i64 k ∧ Below w1.heap.size w1 wr
def RunsRel2 (w1 : World) (k : Value) (wr : World) : Prop := ∃ q : Nat, q ≤ 4 ∧ k = .int .i64 q ∧ Below w1.heap.size w1 wr
set_option maxRecDepth 100000 in
set_option maxHeartbeats 16000000 in
theorem runs_yes (p : EP) (e : Ev) (A : Option Addr) (n c : Nat) (l : List Ac) (w : World) (hg : SignsIn w) (he : EnvIn w p e) (hf : ∀ v ∈ e.vars, VFit v) (h : Acs w (.slice A n c) l) (hs : ∀ a ∈ l, SmallA a) (hl : l.length ≤ 9223372036854775807) (h1 : lightA l = true) (h2 : lightE e [] = true) :
    Calls Tryz.prog 5 #[.slice A n c, envV p e] w fun e w' => e = .returned (.bool true) ∧ Below w.heap.size w w' := by
  have HAW := Lib.hid (fun W (hW : Below w.heap.size w W) => aawake_any W (hg.keep hW))
  have HT := Lib.hid h
  have HE := Lib.hid he
  have HLA := Lib.hid (fun W (hW : Below w.heap.size w W) => lightA_any A n c l (fun a ha => (hs a ha).1) W (h.keep hW))
  rw [h1] at HLA
  have HLE := Lib.hid (fun W (hW : Below w.heap.size w W) => elight_any p e none 0 0 [] rfl W ⟨0, rfl, Rdk.nil 3 W⟩ (he.keep hW))
  rw [h2] at HLE
  have HRUN := Lib.hid (fun W (hW : Below w.heap.size w W) => run_any p e A n c l W (he.keep hW) hf hs hl (h.keep hW))
  have HREF := Lib.hid (fun W (hW : Below w.heap.size w W) => rrun_any p e A n c l W (he.keep hW) hf hs hl (h.keep hW))
  have hup := runE_up e l
  have hin := runE_in e l
  obtain ⟨⟨rc, xs⟩, hR⟩ : ∃ R, R = runE e l := ⟨_, rfl⟩
  rw [← hR] at HRUN HREF hup hin
  have HUP := Lib.hid hup
  have HIN := Lib.hid hin
  have HXL : Hid (xs.length ≤ 64) := Lib.hid (runE_few hR)
  obtain ⟨E, hE⟩ : ∃ E, E = e := ⟨_, rfl⟩
  rw [← hE] at HE HIN
  obtain ⟨vA, vn, vc, iA, im, ic⟩ := p
  have HVN : Hid (vn = E.vars.length) := Lib.hid (HE.out.vars.1)
  have hcap := HE.out.vars.cap
  simp only at hcap
  obtain ⟨vars, v0, v1, v2, v3, ins⟩ := e
  have HV : Hid (vals E = ⟨v0, v1, v2, v3⟩) := Lib.hid (by rw [hE]; rfl)
  change Hid (∀ W, Below w.heap.size w W → Calls _ _ #[.slice none 0 0, .agg #[.slice vA vn vc, .int .i64 v0, .int .i64 v1, .int .i64 v2, .int .i64 v3, .slice iA im ic]] W _) at HLE
  change Hid (∀ W, Below w.heap.size w W → Calls _ _ #[.slice A n c, .agg #[.slice vA vn vc, .int .i64 v0, .int .i64 v1, .int .i64 v2, .int .i64 v3, .slice iA im ic]] W _) at HRUN HREF
  clear hE he hf hs h hR hl h1 h2 hg hup hin
  change Calls _ _ #[_, .agg #[.slice vA vn vc, .int .i64 v0, .int .i64 v1, .int .i64 v2, .int .i64 v3, .slice iA im ic]] _ _
  have HB1 := Lib.hid (KitC.below_one w (.cells #[.slice vA vn vc, .int .i64 v0, .int .i64 v1, .int .i64 v2, .int .i64 v3, .slice iA im ic] 54))
  have hk := heap_alloc_new w (.cells #[.slice vA vn vc, .int .i64 v0, .int .i64 v1, .int .i64 v2, .int .i64 v3, .slice iA im ic] 54)
  obtain ⟨w1, hw1⟩ : ∃ w1, w.alloc (.cells #[.slice vA vn vc, .int .i64 v0, .int .i64 v1, .int .i64 v2, .int .i64 v3, .slice iA im ic] 54) = w1 := ⟨_, rfl⟩
  rw [hw1] at HB1 hk
  have HK := Lib.hid hk
  have HW := Lib.hid hw1
  clear hw1 hk
  go_enter Tryz.func5, Tryz.ntmps5
  go_wp2_with (rw [HW.out]; go_at_call 6; (with_reducible refine (HLA.out _ HB1.out).mono ?_))
  rintro e2 w2 ⟨rfl, hb2⟩
  have HB2 := Lib.hid (below_two' HB1.out hb2)
  have HK2 := Lib.hid (KitC.block_on HK.out hb2)
  obtain ⟨c0, c1, c2, c3, c4, c5⟩ := cells_6 HK2.out
  clear hb2
  go_wp2_with (go_at_call 21; (with_reducible refine (HLE.out _ HB2.out).mono ?_))
  rintro e2 w3 ⟨rfl, hb3⟩
  have HB3 := Lib.hid (below_two' HB2.out hb3)
  have HK3 := Lib.hid (KitC.block_on HK2.out hb3)
  clear c0 c1 c2 c3 c4 c5 hb3
  obtain ⟨c0, c1, c2, c3, c4, c5⟩ := cells_6 HK3.out
  go_wp2_with (go_at_call 22; (with_reducible refine (HRUN.out _ HB3.out).mono ?_))
  rintro e2 w4 ⟨av, rfl, hav, hb4⟩
  have HB4 := Lib.hid (below_two' HB3.out hb4)
  have HK4 := Lib.hid (KitC.block_on HK3.out hb4)
  have HAV := Lib.hid hav
  obtain ⟨aA, an, ac, rfl, han, hac⟩ := hav.shape
  have HAN := Lib.hid han
  clear c0 c1 c2 c3 c4 c5 hb4 hav han
  obtain ⟨c0, c1, c2, c3, c4, c5⟩ := cells_6 HK4.out
  go_wp2_with (go_at_call 23; (with_reducible refine (HREF.out _ HB4.out).mono ?_))
  rintro e2 w5 ⟨bv, rfl, hbv, hb5⟩
  have HB5 := Lib.hid (below_two' HB4.out hb5)
  have HK5 := Lib.hid (KitC.block_on HK4.out hb5)
  have HAV5 := Lib.hid (HAV.out.keep hb5)
  obtain ⟨bA, bn, bc, rfl, hbn, hbc⟩ := hbv.shape
  have hbn' : bn = an := by rw [hbn, HAN.out]
  subst hbn'
  have HSM := Lib.hid (vsame_any aA bA bn ac bc xs w5 HAV5.out hbv HAN.out (by have := HXL.out; have := HAN.out; omega))
  clear c0 c1 c2 c3 c4 c5 hb5 hbv hbn
  go_wp2_with (go_at_call 24; (with_reducible refine HSM.out.mono ?_))
  rintro e2 w6 ⟨rfl, hb6⟩
  have HB6 := Lib.hid (below_two' HB5.out hb6)
  have HK6 := Lib.hid (KitC.block_on HK5.out hb6)
  have HAV6 := Lib.hid (HAV5.out.keep hb6)
  have hb64 : bn ≤ 64 := by have := HXL.out; have := HAN.out; omega
  clear hb6
  go_wp2_with fail
  go_loopw [9, 10, 11] (fun i _ _ wr => RunsRel w6 xs i wr) (fun i _ _ _ => xs.length - (Go.RowKit.intOf i).toNat)
  case atStart => exact ⟨0, Nat.zero_le _, rfl, Below.refl _ _⟩
  case round =>
    obtain ⟨k, hk, rfl, hbw⟩ := hrel
    have HBW := Lib.hid hbw
    clear hbw
    by_cases hlt : k < bn
    · have hkI : (k : Int) < bn := by omega
      have hk64 : (k : Int) ≤ 64 := by omega
      obtain ⟨x, hx⟩ : ∃ x, xs[k]? = some x := get_some (by have := HAN.out; omega)
      have HX := Lib.hid hx
      have HINX : Hid (InAll E x) := Lib.hid (HIN.out x (List.mem_of_getElem? hx))
      clear hx
      have key : True := trivial
      clear key
      by_cases hk0 : 0 < k
      · obtain ⟨j, rfl⟩ : ∃ j, k = j + 1 := ⟨k - 1, by omega⟩
        have g0 : decide (0 < ((j + 1 : Nat) : Int)) = true := decide_eq_true (by omega)
        have g0' : decide (0 < (j : Int) + 1) = true := decide_eq_true (by omega)
        rw [show ((j + 1 : Nat) : Int) = (j : Int) + 1 by omega]
        have gk : (j : Int) + 1 < bn := by omega
        have gkd : decide ((j : Int) + 1 < bn) = true := decide_eq_true gk
        obtain ⟨y, hy⟩ : ∃ y, xs[j]? = some y := get_some (by have := HAN.out; omega)
        obtain ⟨ba, oa, rfl, hba, e0, e1, e2, e3⟩ := (HAV6.out.keep HBW.out).at_ HX.out
        obtain ⟨_, _, heqa, _, f0, f1, f2, f3⟩ := (HAV6.out.keep HBW.out).at_ hy
        cases heqa
        have hyx : lessV y x = true := by
          have h1 := List.pairwise_iff_getElem.1 HUP.out j (j + 1) (get_lt hy) (get_lt HX.out) (by omega)
          rw [(List.getElem?_eq_some_iff.1 hy).2, (List.getElem?_eq_some_iff.1 HX.out).2] at h1
          exact h1
        have HL : Hid (∀ d os, Calls Tryz.prog 25 #[v4A y, v4A x] (grow (redrawn wr d) os) fun e w'' => e = .returned (.bool true) ∧ ∃ p : Regrown, w'' = grow (redrawn wr p.d) p.os) := Lib.hid (fun d os => Calls.regrown_of (by have := rless_any y x (grow (redrawn wr d) os); rwa [hyx] at this))
        have re0 := cell_regrown e0
        have re1 := cell_regrown e1
        have re2 := cell_regrown e2
        have re3 := cell_regrown e3
        have rf0 := cell_regrown f0
        have rf1 := cell_regrown f1
        have rf2 := cell_regrown f2
        have rf3 := cell_regrown f3
        have hj64 : (j : Int) ≤ 64 := by omega
        clear hy hyx hk0 e0 e1 e2 e3 f0 f1 f2 f3
        go_wp2_with fail
        refine wp_region_quiet_below (by kernel_rfl) (by kernel_rfl) ?_
        repeat (go_big_quiet_step (exact HL.out _ _))
        refine wpQuiet_nil ?_
        intro _ hw'
        obtain ⟨⟨dq, osq⟩, hw''⟩ := hw'
        subst hw''
        simp only
        have HBQ := Lib.hid (below_two' HBW.out (below_regrown wr dq osq))
        clear re0 re1 re2 re3 rf0 rf1 rf2 rf3
        go_wp2_with fail
        go_loopw [10, 11] (fun q _ wr => RunsRel2 w6 q wr) (fun q _ _ => 4 - (Go.RowKit.intOf q).toNat)
        case atStart => exact ⟨0, Nat.zero_le _, rfl, HBQ.out⟩
        case round =>
          obtain ⟨q, hq, rfl, hbw⟩ := hrel
          have HBR := Lib.hid hbw
          obtain ⟨c0, c1, c2, c3, c4, c5⟩ := cells_6 (KitC.block_on HK6.out hbw)
          have hq8 : (q : Int) ≤ 4 := by omega
          by_cases hqn : q < vn
          · have q1 : decide ((q : Int) < vn) = true := by simp; omega
            have q1' : decide (q < vn) = true := by simp; omega
            have q1i : (q : Int) < vn := by omega
            by_cases hq4 : q < 4
            · have q2 : decide ((q : Int) < 4) = true := by simp; omega
              have q2i : (q : Int) < 4 := by omega
              obtain ⟨v, hv⟩ : ∃ v, E.vars[q]? = some v := get_some (by have := HVN.out; omega)
              obtain ⟨bv, ov, rfl, hbv, d0, d1, d2, d3⟩ := (HE.out.vars.keep (below_two' HB6.out hbw)).at_ hv
              have HBN := Lib.hid (KitC.below_one wr (.cells #[.string v.s, .int .i64 v.lo, .int .i64 v.hi, .int .i64 v.ini] 62))
              obtain ⟨_, y1, y2, _⟩ := cells_4 (heap_alloc_new wr (.cells #[.string v.s, .int .i64 v.lo, .int .i64 v.hi, .int .i64 v.ini] 62))
              obtain ⟨W1, hW1⟩ : ∃ W1, wr.alloc (.cells #[.string v.s, .int .i64 v.lo, .int .i64 v.hi, .int .i64 v.ini] 62) = W1 := ⟨_, rfl⟩
              rw [hW1] at HBN y1 y2
              have HW1 := Lib.hid hW1
              have HBW1 := Lib.hid (below_two' hbw HBN.out)
              have hec := env_cell (x := ⟨v0, v1, v2, v3⟩) (KitC.block_on HK6.out HBW1.out) hq4
              obtain ⟨ba, oa, heqa, hba, hrc⟩ := row_cell (HAV6.out.keep HBW1.out) HX.out hq4
              have hz0 := KitC.block_on HK6.out HBW1.out
              obtain ⟨z0, _, _, _, _, z5⟩ := cells_6 hz0
              have HI3 : Hid (v.lo ≤ (⟨v0, v1, v2, v3⟩ : V4).get q → (⟨v0, v1, v2, v3⟩ : V4).get q ≤ v.hi → v.lo ≤ x.get q ∧ x.get q ≤ v.hi) := Lib.hid (by
                have := HINX.out q v hq4 hv
                rwa [HV.out] at this)
              obtain ⟨V, hVV⟩ : ∃ V, V = (⟨v0, v1, v2, v3⟩ : V4).get q := ⟨_, rfl⟩
              rw [← hVV] at hec HI3
              obtain ⟨X, hXX⟩ : ∃ X, X = x.get q := ⟨_, rfl⟩
              rw [← hXX] at hrc HI3
              cases heqa
              clear hv hbw hW1 hVV hXX hz0
              obtain ⟨vs, lo, hib, ini⟩ := v
              simp only at d0 d1 d2 d3 y1 y2 HI3 HW1
              by_cases hlo : lo ≤ V
              · have r1 : decide (lo ≤ V) = true := by simpa using hlo
                by_cases hhi : V ≤ hib
                · have r2 : decide (V ≤ hib) = true := by simpa using hhi
                  have hin := HI3.out hlo hhi
                  have r3 : decide (X < lo) = false := by simp; omega
                  have r4 : decide (hib < X) = false := by simp; omega
                  clear hin hlo hhi HI3
                  go_wp2_with fail
                  rw [HW1.out]
                  go_big_quiet (fail)
                  go_wp2_with fail
                  go_roundw
                  case rel => first | exact ⟨q + 1, by omega, by go_num, below_drewN HBW1.out _⟩ | ((repeat apply Exists.intro); exact ⟨⟨q + 1, by omega, by go_num, below_drewN HBW1.out _⟩, rfl⟩)
                  case measure => simp [Go.RowKit.intOf]; omega
                · have r2 : decide (V ≤ hib) = false := by simp; omega
                  clear hlo hhi HI3
                  go_wp2_with fail
                  rw [HW1.out]
                  go_big_quiet (fail)
                  go_wp2_with fail
                  go_roundw
                  case rel => first | exact ⟨q + 1, by omega, by go_num, below_drewN HBW1.out _⟩ | ((repeat apply Exists.intro); exact ⟨⟨q + 1, by omega, by go_num, below_drewN HBW1.out _⟩, rfl⟩)
                  case measure => simp [Go.RowKit.intOf]; omega
              · have r1 : decide (lo ≤ V) = false := by simpa using hlo
                clear hlo HI3
                go_wp2_with fail
                rw [HW1.out]
                go_big_quiet (fail)
                go_wp2_with fail
                go_roundw
                case rel => first | exact ⟨q + 1, by omega, by go_num, below_drewN HBW1.out _⟩ | ((repeat apply Exists.intro); exact ⟨⟨q + 1, by omega, by go_num, below_drewN HBW1.out _⟩, rfl⟩)
                case measure => simp [Go.RowKit.intOf]; omega
            · have q2 : decide ((q : Int) < 4) = false := by simp; omega
              have q2i : ¬ (q : Int) < 4 := by omega
              clear hbw
              go_wp2_with fail
              go_roundw
              case rel => first | exact ⟨(j + 1) + 1, by have := HAN.out; omega, by go_num, HBR.out⟩ | ((repeat apply Exists.intro); exact ⟨⟨(j + 1) + 1, by have := HAN.out; omega, by go_num, HBR.out⟩, rfl⟩)
              case measure => have := HAN.out; simp [Go.RowKit.intOf]; omega
          · have q1 : decide ((q : Int) < vn) = false := by simp; omega
            have q1' : decide (q < vn) = false := by simp; omega
            have q1i : ¬ (q : Int) < vn := by omega
            clear hbw
            go_wp2_with fail
            go_roundw
            case rel => first | exact ⟨(j + 1) + 1, by have := HAN.out; omega, by go_num, HBR.out⟩ | ((repeat apply Exists.intro); exact ⟨⟨(j + 1) + 1, by have := HAN.out; omega, by go_num, HBR.out⟩, rfl⟩)
            case measure => have := HAN.out; simp [Go.RowKit.intOf]; omega
      · have g0 : decide (0 < (k : Int)) = false := decide_eq_false (by omega)
        have g0' : decide (0 < k) = false := decide_eq_false (by omega)
        have g0i : ¬ 0 < (k : Int) := by omega
        clear hk0
        go_wp2_with fail
        go_big_quiet (fail)
        have HBQ := Lib.hid (below_drewN HBW.out nq)
        go_wp2_with fail
        go_loopw [10, 11] (fun q _ wr => RunsRel2 w6 q wr) (fun q _ _ => 4 - (Go.RowKit.intOf q).toNat)
        case atStart => exact ⟨0, Nat.zero_le _, rfl, HBQ.out⟩
        case round =>
          obtain ⟨q, hq, rfl, hbw⟩ := hrel
          have HBR := Lib.hid hbw
          obtain ⟨c0, c1, c2, c3, c4, c5⟩ := cells_6 (KitC.block_on HK6.out hbw)
          have hq8 : (q : Int) ≤ 4 := by omega
          by_cases hqn : q < vn
          · have q1 : decide ((q : Int) < vn) = true := by simp; omega
            have q1' : decide (q < vn) = true := by simp; omega
            have q1i : (q : Int) < vn := by omega
            by_cases hq4 : q < 4
            · have q2 : decide ((q : Int) < 4) = true := by simp; omega
              have q2i : (q : Int) < 4 := by omega
              obtain ⟨v, hv⟩ : ∃ v, E.vars[q]? = some v := get_some (by have := HVN.out; omega)
              obtain ⟨bv, ov, rfl, hbv, d0, d1, d2, d3⟩ := (HE.out.vars.keep (below_two' HB6.out hbw)).at_ hv
              have HBN := Lib.hid (KitC.below_one wr (.cells #[.string v.s, .int .i64 v.lo, .int .i64 v.hi, .int .i64 v.ini] 62))
              obtain ⟨_, y1, y2, _⟩ := cells_4 (heap_alloc_new wr (.cells #[.string v.s, .int .i64 v.lo, .int .i64 v.hi, .int .i64 v.ini] 62))
              obtain ⟨W1, hW1⟩ : ∃ W1, wr.alloc (.cells #[.string v.s, .int .i64 v.lo, .int .i64 v.hi, .int .i64 v.ini] 62) = W1 := ⟨_, rfl⟩
              rw [hW1] at HBN y1 y2
              have HW1 := Lib.hid hW1
              have HBW1 := Lib.hid (below_two' hbw HBN.out)
              have hec := env_cell (x := ⟨v0, v1, v2, v3⟩) (KitC.block_on HK6.out HBW1.out) hq4
              obtain ⟨ba, oa, heqa, hba, hrc⟩ := row_cell (HAV6.out.keep HBW1.out) HX.out hq4
              have hz0 := KitC.block_on HK6.out HBW1.out
              obtain ⟨z0, _, _, _, _, z5⟩ := cells_6 hz0
              have HI3 : Hid (v.lo ≤ (⟨v0, v1, v2, v3⟩ : V4).get q → (⟨v0, v1, v2, v3⟩ : V4).get q ≤ v.hi → v.lo ≤ x.get q ∧ x.get q ≤ v.hi) := Lib.hid (by
                have := HINX.out q v hq4 hv
                rwa [HV.out] at this)
              obtain ⟨V, hVV⟩ : ∃ V, V = (⟨v0, v1, v2, v3⟩ : V4).get q := ⟨_, rfl⟩
              rw [← hVV] at hec HI3
              obtain ⟨X, hXX⟩ : ∃ X, X = x.get q := ⟨_, rfl⟩
              rw [← hXX] at hrc HI3
              cases heqa
              clear hv hbw hW1 hVV hXX hz0
              obtain ⟨vs, lo, hib, ini⟩ := v
              simp only at d0 d1 d2 d3 y1 y2 HI3 HW1
              by_cases hlo : lo ≤ V
              · have r1 : decide (lo ≤ V) = true := by simpa using hlo
                by_cases hhi : V ≤ hib
                · have r2 : decide (V ≤ hib) = true := by simpa using hhi
                  have hin := HI3.out hlo hhi
                  have r3 : decide (X < lo) = false := by simp; omega
                  have r4 : decide (hib < X) = false := by simp; omega
                  clear hin hlo hhi HI3
                  go_wp2_with fail
                  rw [HW1.out]
                  go_big_quiet (fail)
                  go_wp2_with fail
                  go_roundw
                  case rel => first | exact ⟨q + 1, by omega, by go_num, below_drewN HBW1.out _⟩ | ((repeat apply Exists.intro); exact ⟨⟨q + 1, by omega, by go_num, below_drewN HBW1.out _⟩, rfl⟩)
                  case measure => simp [Go.RowKit.intOf]; omega
                · have r2 : decide (V ≤ hib) = false := by simp; omega
                  clear hlo hhi HI3
                  go_wp2_with fail
                  rw [HW1.out]
                  go_big_quiet (fail)
                  go_wp2_with fail
                  go_roundw
                  case rel => first | exact ⟨q + 1, by omega, by go_num, below_drewN HBW1.out _⟩ | ((repeat apply Exists.intro); exact ⟨⟨q + 1, by omega, by go_num, below_drewN HBW1.out _⟩, rfl⟩)
                  case measure => simp [Go.RowKit.intOf]; omega
              · have r1 : decide (lo ≤ V) = false := by simpa using hlo
                clear hlo HI3
                go_wp2_with fail
                rw [HW1.out]
                go_big_quiet (fail)
                go_wp2_with fail
                go_roundw
                case rel => first | exact ⟨q + 1, by omega, by go_num, below_drewN HBW1.out _⟩ | ((repeat apply Exists.intro); exact ⟨⟨q + 1, by omega, by go_num, below_drewN HBW1.out _⟩, rfl⟩)
                case measure => simp [Go.RowKit.intOf]; omega
            · have q2 : decide ((q : Int) < 4) = false := by simp; omega
              have q2i : ¬ (q : Int) < 4 := by omega
              clear hbw
              go_wp2_with fail
              go_roundw
              case rel => first | exact ⟨k + 1, by have := HAN.out; omega, by go_num, HBR.out⟩ | ((repeat apply Exists.intro); exact ⟨⟨k + 1, by have := HAN.out; omega, by go_num, HBR.out⟩, rfl⟩)
              case measure => have := HAN.out; simp [Go.RowKit.intOf]; omega
          · have q1 : decide ((q : Int) < vn) = false := by simp; omega
            have q1' : decide (q < vn) = false := by simp; omega
            have q1i : ¬ (q : Int) < vn := by omega
            clear hbw
            go_wp2_with fail
            go_roundw
            case rel => first | exact ⟨k + 1, by have := HAN.out; omega, by go_num, HBR.out⟩ | ((repeat apply Exists.intro); exact ⟨⟨k + 1, by have := HAN.out; omega, by go_num, HBR.out⟩, rfl⟩)
            case measure => have := HAN.out; simp [Go.RowKit.intOf]; omega
    · have hkI : ¬ (k : Int) < bn := by omega
      go_wp2_with (go_at_call 7; (with_reducible refine (HAW.out _ (below_two' HB6.out HBW.out)).mono ?_))
      rintro e2 w7 ⟨rfl, hb7⟩
      have HB7 := Lib.hid (below_two' (below_two' HB6.out HBW.out) hb7)
      clear hb7
      go_wp2_with fail
      go_ret
      exact ⟨rfl, HB7.out⟩
end Go.Proofs.YtcfcpbkeedfbpaaGreatDoor

namespace Go.Proofs.YtcfcpbkeedfbpaaGreatDoor
open Go.RowKit Go.Sort TermSpec EvalSpec ActSpec NamesSpec ExprSpec
set_option maxRecDepth 100000

set_option maxHeartbeats 2000000 in
theorem runs_no1 (p : EP) (e : Ev) (A : Option Addr) (n c : Nat) (l : List Ac) (w : World) (hg : SignsIn w) (h : Acs w (.slice A n c) l) (hs : ∀ a ∈ l, a.s.size ≤ 9223372036854775807) (h1 : lightA l = false) :
    Calls Tryz.prog 5 #[.slice A n c, envV p e] w fun e w' => e = .returned (.bool true) ∧ Below w.heap.size w w' := by
  have HAW := Lib.hid (fun W (hW : Below w.heap.size w W) => aawake_any W (hg.keep hW))
  have HLA := Lib.hid (fun W (hW : Below w.heap.size w W) => lightA_any A n c l hs W (h.keep hW))
  rw [h1] at HLA
  obtain ⟨vA, vn, vc, iA, im, ic⟩ := p
  obtain ⟨vars, v0, v1, v2, v3, ins⟩ := e
  clear hs h h1 hg
  change Calls _ _ #[_, .agg #[.slice vA vn vc, .int .i64 v0, .int .i64 v1, .int .i64 v2, .int .i64 v3, .slice iA im ic]] _ _
  have HB1 := Lib.hid (KitC.below_one w (.cells #[.slice vA vn vc, .int .i64 v0, .int .i64 v1, .int .i64 v2, .int .i64 v3, .slice iA im ic] 54))
  go_enter Tryz.func5, Tryz.ntmps5
  go_wp2_with (go_at_call 6; (with_reducible refine (HLA.out _ HB1.out).mono ?_))
  rintro e2 w2 ⟨rfl, hb2⟩
  have HB2 := Lib.hid (below_two' HB1.out hb2)
  clear hb2
  go_wp2_with (go_at_call 7; (with_reducible refine (HAW.out _ HB2.out).mono ?_))
  rintro e2 w3 ⟨rfl, hb3⟩
  have HB3 := Lib.hid (below_two' HB2.out hb3)
  clear hb3
  go_wp2_with fail
  go_ret
  exact ⟨rfl, HB3.out⟩
set_option maxHeartbeats 2000000 in
theorem runs_no2 (p : EP) (e : Ev) (A : Option Addr) (n c : Nat) (l : List Ac) (w : World) (hg : SignsIn w) (he : EnvIn w p e) (h : Acs w (.slice A n c) l) (hs : ∀ a ∈ l, a.s.size ≤ 9223372036854775807) (h1 : lightA l = true) (h2 : lightE e [] = false) :
    Calls Tryz.prog 5 #[.slice A n c, envV p e] w fun e w' => e = .returned (.bool true) ∧ Below w.heap.size w w' := by
  have HAW := Lib.hid (fun W (hW : Below w.heap.size w W) => aawake_any W (hg.keep hW))
  have HLA := Lib.hid (fun W (hW : Below w.heap.size w W) => lightA_any A n c l hs W (h.keep hW))
  rw [h1] at HLA
  have HLE := Lib.hid (fun W (hW : Below w.heap.size w W) => elight_any p e none 0 0 [] rfl W ⟨0, rfl, Rdk.nil 3 W⟩ (he.keep hW))
  rw [h2] at HLE
  obtain ⟨vA, vn, vc, iA, im, ic⟩ := p
  obtain ⟨vars, v0, v1, v2, v3, ins⟩ := e
  change Hid (∀ W, Below w.heap.size w W → Calls _ _ #[.slice none 0 0, .agg #[.slice vA vn vc, .int .i64 v0, .int .i64 v1, .int .i64 v2, .int .i64 v3, .slice iA im ic]] W _) at HLE
  clear hs h h1 h2 hg he
  change Calls _ _ #[_, .agg #[.slice vA vn vc, .int .i64 v0, .int .i64 v1, .int .i64 v2, .int .i64 v3, .slice iA im ic]] _ _
  have HB1 := Lib.hid (KitC.below_one w (.cells #[.slice vA vn vc, .int .i64 v0, .int .i64 v1, .int .i64 v2, .int .i64 v3, .slice iA im ic] 54))
  have HK := Lib.hid (heap_alloc_new w (.cells #[.slice vA vn vc, .int .i64 v0, .int .i64 v1, .int .i64 v2, .int .i64 v3, .slice iA im ic] 54))
  go_enter Tryz.func5, Tryz.ntmps5
  go_wp2_with (go_at_call 6; (with_reducible refine (HLA.out _ HB1.out).mono ?_))
  rintro e2 w2 ⟨rfl, hb2⟩
  have HB2 := Lib.hid (below_two' HB1.out hb2)
  obtain ⟨c0, c1, c2, c3, c4, c5⟩ := cells_6 (KitC.block_on HK.out hb2)
  clear hb2
  go_wp2_with (go_at_call 21; (with_reducible refine (HLE.out _ HB2.out).mono ?_))
  rintro e2 w3 ⟨rfl, hb3⟩
  have HB3 := Lib.hid (below_two' HB2.out hb3)
  clear c0 c1 c2 c3 c4 c5 hb3
  go_wp2_with (go_at_call 7; (with_reducible refine (HAW.out _ HB3.out).mono ?_))
  rintro e2 w4 ⟨rfl, hb4⟩
  have HB4 := Lib.hid (below_two' HB3.out hb4)
  clear hb4
  go_wp2_with fail
  go_ret
  exact ⟨rfl, HB4.out⟩
theorem walk_ActRuns (A : Option Addr) (n c : Nat) (l : List Ac) (p : EP) (e : Ev) (w : World) (hg : SignsIn w) (h : Acs w (.slice A n c) l) (hs : ∀ a ∈ l, a.s.size ≤ 9223372036854775807 ∧ Small a.x ∧ a.x.length ≤ 9223372036854775807) (hl : l.length ≤ 9223372036854775807) (he : EnvIn w p e) (hf : ∀ v ∈ e.vars, VFit v) :
    Calls Tryz.prog 5 #[.slice A n c, envV p e] w fun e w' => e = .returned (.bool true) ∧ Below w.heap.size w w' := by
  rcases h1 : lightA l with _ | _
  · exact runs_no1 p e A n c l w hg h (fun a ha => (hs a ha).1) h1
  · rcases h2 : lightE e [] with _ | _
    · exact runs_no2 p e A n c l w hg he h (fun a ha => (hs a ha).1) h1 h2
    · refine runs_yes p e A n c l w hg he hf h (fun a ha => ⟨(hs a ha).1, (hs a ha).2.1, ?_⟩) hl h1 h2
      have := ((lightA_parts h1).2 a ha).2.1
      omega
end Go.Proofs.YtcfcpbkeedfbpaaGreatDoor

namespace Go.Proofs.YtcfcpbkeedfbpaaGreatDoor
namespace ScanSpec

def isLow (c : UInt8) : Bool := decide (97 ≤ (c.toNat : Int)) && decide ((c.toNat : Int) ≤ 122)
def isDig (c : UInt8) : Bool := decide (48 ≤ (c.toNat : Int)) && decide ((c.toNat : Int) ≤ 57)
def isBlank (c : UInt8) : Bool := (c.toNat == 32 || c.toNat == 9) || c.toNat == 10 || c.toNat == 13
/-- What a byte is: 1 a letter, 2 a digit, 3 a low line, 4 a blank, 5 what begins a remark, 0 another one. -/
def clsB (c : UInt8) : Int := if isLow c then 1 else if isDig c then 2 else if c.toNat = 95 then 3 else if isBlank c then 4 else if c.toNat = 35 then 5 else 0
def cls (l : List UInt8) (i : Nat) : Int := match l[i]? with | some c => clsB c | none => 0

/-- How many bytes in a row are such. -/
def run (p : UInt8 → Bool) : List UInt8 → Nat
  | [] => 0
  | c :: t => if p c then run p t + 1 else 0
def isWord (c : UInt8) : Bool := decide (1 ≤ clsB c) && decide (clsB c ≤ 3)
def isNum (c : UInt8) : Bool := decide (clsB c = 2)

def marks : List (List UInt8) := [[45, 62], [58, 61], [60, 61], [62, 61], [33, 61], [61, 61], [46, 46], [123], [125], [91], [93], [40], [41], [44], [59], [61], [60], [62], [43], [45], [42], [47]]
def markLen (d : List UInt8) : Nat := match marks.find? fun m => m.isPrefixOf d with | some m => m.length | none => 0

/-- The token at the head of a text: its kind and length, what is told. -/
def one (d : List UInt8) : Int × Nat × Int :=
  if cls d 0 = 1 then (if 12 < run isWord d then (0, 0, 5) else (1, run isWord d, 0))
  else if cls d 0 = 2 then (if cls d (run isNum d) = 1 ∨ cls d (run isNum d) = 3 then (0, 0, 2) else if 9 < run isNum d then (0, 0, 5) else (2, run isNum d, 0))
  else if markLen d = 0 then (0, 0, 2) else (3, markLen d, 0)

/-- The line and the byte of a place. -/
def posGo : List UInt8 → Int × Int → Int × Int
  | [], p => p
  | c :: t, p => posGo t (if c.toNat = 10 then (p.1 + 1, 1) else (p.1, p.2 + 1))
def pos (l : List UInt8) (i : Nat) : Int × Int := posGo (l.take i) (1, 1)

end ScanSpec
end Go.Proofs.YtcfcpbkeedfbpaaGreatDoor

namespace Go.Proofs.YtcfcpbkeedfbpaaGreatDoor
open Go.RowKit ScanSpec

end Go.Proofs.YtcfcpbkeedfbpaaGreatDoor

namespace Go.Proofs.YtcfcpbkeedfbpaaGreatDoor
open Go.RowKit ScanSpec Go.BigFrame

end Go.Proofs.YtcfcpbkeedfbpaaGreatDoor

namespace Go.Proofs.YtcfcpbkeedfbpaaGreatDoor
open Go.RowKit ScanSpec
set_option maxRecDepth 100000

end Go.Proofs.YtcfcpbkeedfbpaaGreatDoor

namespace Go.Proofs.YtcfcpbkeedfbpaaGreatDoor
open Go.RowKit ScanSpec

end Go.Proofs.YtcfcpbkeedfbpaaGreatDoor

namespace Go.Proofs.YtcfcpbkeedfbpaaGreatDoor
open Go.RowKit ScanSpec
set_option maxRecDepth 100000

end Go.Proofs.YtcfcpbkeedfbpaaGreatDoor
