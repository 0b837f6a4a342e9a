/- ActRun, ExprSpec, ExprLevel, ExprTree, ExprReads, joined. -/
import Derived.Test.YtcfcpbkeedfbpaaGreatDoorMActReads06
import Derived.Test.YtcfcpbkeedfbpaaGreatDoorMActReads04
import Derived.Test.YtcfcpbkeedfbpaaGreatDoorMActReads00
namespace Go.Proofs.YtcfcpbkeedfbpaaGreatDoor
open Go.RowKit Go.Sort TermSpec EvalSpec ActSpec NamesSpec Go.Lib
set_option maxRecDepth 100000

/-- Two numbers of an act: where its variable is, and why it comes to nothing. -/
theorem fits_any (p : EP) (e : Ev) (a : Ac) (A : Option Addr) (n c : Nat) (w : World) (he : EnvIn w p e) (hf : ∀ v ∈ e.vars, VFit v) (hs : SmallA a) (ht : Tms w (.slice A n c) a.x) :
    Calls Tryz.prog 43 #[.agg #[.string a.s, .bool a.any, .slice A n c], .int .i64 (idxOfS (vnames e) a.s), envV p e] w (RetI w (badA e a)) := by
  rcases hv : varOf e a with _ | ⟨i, v⟩
  · rw [varOf_none hv, badA_none hv]
    exact fits_none p e a A n c w
  · rw [(varOf_some hv).1]
    exact fits_some p e a i v A n c w he hv (hf v (List.mem_of_getElem? (varOf_lt hv))) hs ht
theorem do_all (p : EP) (e : Ev) (a : Ac) (A : Option Addr) (n c : Nat) (w : World) (he : EnvIn w p e) (h4 : e.vars.length ≤ 4) (hf : ∀ v ∈ e.vars, VFit v) (hs : SmallA a) (ht : Tms w (.slice A n c) a.x) (hb : badA e a = 0) (N : Value) (l : List V4) (hN : V4s w N l) (h0 : 0 < l.length) (h64 : l.length ≤ 64) :
    ∃ r, stepA e a l = (if 64 < r.length then (12, []) else (0, r)) ∧ Calls Tryz.prog 44 #[.agg #[.string a.s, .bool a.any, .slice A n c], .int .i64 (idxOfS (vnames e) a.s), envV p e, N] w (CompV4Post w w r) := by
  obtain ⟨i, v, hv⟩ := bad_var hb
  have hvi := varOf_lt hv
  refine ⟨_, stepA_some hb hv, ?_⟩
  rw [(varOf_some hv).1]
  exact do_any p e a i v A n c w he hs ht hv (by have := get_lt hvi; omega) (hf v (List.mem_of_getElem? hvi)) (bad_chk hb hv) (bad_span hb hv) N l hN h0 h64
/-- What the loop over the acts keeps. -/
def PRunRel (W : World) (w1 : World) (e : Ev) (l : List Ac) (now i : Value) (wr : World) : Prop := ∃ (k : Nat) (xs : List V4), k ≤ l.length ∧ i = .int .i64 k ∧ LeftA e l k xs ∧ V4s wr now xs ∧ Below w1.heap.size w1 wr ∧ Below W.heap.size W w1
abbrev acB (s : ByteArray) (any : Bool) (xA : Option Addr) (xn xc : Nat) : Obj := .cells #[.string s, .bool any, .slice xA xn xc] 66
set_option maxHeartbeats 8000000 in
theorem run_any (p : EP) (e : Ev) (A : Option Addr) (n c : Nat) (l : List Ac) (w : World) (he : EnvIn w p e) (hf : ∀ v ∈ e.vars, VFit v) (hs : ∀ a ∈ l, SmallA a) (hl : l.length ≤ 9223372036854775807) (h : Acs w (.slice A n c) l) :
    Calls Tryz.prog 22 #[.slice A n c, envV p e] w (RetVE w (runE e l)) := by
  have HT := Lib.hid h
  have HN := Lib.hid h.len.1
  have hcap := h.len.2
  have HE := Lib.hid he
  have HCK := Lib.hid (fun w h => check_acts A n c l hs hl w h)
  have HVA := Lib.hid (fun s w h => avariable_any p e s w h)
  have HFI := Lib.hid (fun (a : Ac) (ha : a ∈ l) (B : Option Addr) (m d : Nat) (w : World) he ht => fits_any p e a B m d w he hf (hs a ha) ht)
  have HDO := Lib.hid (fun (h4 : e.vars.length ≤ 4) (a : Ac) (ha : a ∈ l) (B : Option Addr) (m d : Nat) (N : Value) (w : World) he ht hb xs hN h0 hx => do_all p e a B m d w he h4 hf (hs a ha) ht hb N xs hN h0 hx)
  obtain ⟨R, hR⟩ : ∃ R, R = runE e l := ⟨_, rfl⟩
  rw [← hR]
  have HR4 : Hid (4 < e.vars.length → R = (1, [])) := Lib.hid (fun h => by rw [hR]; unfold runE; rw [if_pos h])
  have HRC : Hid (¬ 4 < e.vars.length → chkA l ≠ 0 → R = (chkA l, [])) := Lib.hid (fun h h2 => by rw [hR]; unfold runE; rw [if_neg h, if_pos h2])
  have HRR : Hid (¬ 4 < e.vars.length → chkA l = 0 → R = runA e l [vals e]) := Lib.hid (fun h h2 => by rw [hR]; unfold runE; rw [if_neg h, if_neg (by omega)])
  obtain ⟨q, hq⟩ : ∃ q, q = chkA l := ⟨_, rfl⟩
  rw [← hq] at HCK HRC HRR
  have HQ8 : Hid (q = 0 → l.length ≤ 8) := Lib.hid (fun h => chkA_few (hq.symm.trans h))
  obtain ⟨E, hE⟩ : ∃ E, E = e := ⟨_, rfl⟩
  rw [← hE] at HE HR4 HRC HRR
  obtain ⟨vA, vn, vc, iA, im, ic⟩ := p
  have HVN : Hid (vn = E.vars.length) := Lib.hid (HE.out.vars.1)
  obtain ⟨vars, v0, v1, v2, v3, ins⟩ := e
  have HV : Hid (vals E = ⟨v0, v1, v2, v3⟩) := Lib.hid (by rw [hE]; rfl)
  have HVA' : Hid (∀ s w, EnvIn w ⟨vA, vn, vc, iA, im, ic⟩ E → Calls Tryz.prog 42 #[.agg #[.slice vA vn vc, .int .i64 v0, .int .i64 v1, .int .i64 v2, .int .i64 v3, .slice iA im ic], .string s] w (RetI w (idxOfS (vnames E) s))) := Lib.hid (fun s w h => by
    rw [hE] at h ⊢
    exact HVA.out s w h)
  have HFI' : Hid (∀ a ∈ l, ∀ (B : Option Addr) (m d : Nat) (w : World), EnvIn w ⟨vA, vn, vc, iA, im, ic⟩ E → Tms w (.slice B m d) a.x → Calls Tryz.prog 43 #[.agg #[.string a.s, .bool a.any, .slice B m d], .int .i64 (idxOfS (vnames E) a.s), .agg #[.slice vA vn vc, .int .i64 v0, .int .i64 v1, .int .i64 v2, .int .i64 v3, .slice iA im ic]] w (RetI w (badA E a))) := Lib.hid (fun a ha B m d w he ht => by
    rw [hE] at he ⊢
    exact HFI.out a ha B m d w he ht)
  have HDO' : Hid (E.vars.length ≤ 4 → ∀ a ∈ l, badA E a = 0 → ∀ (B : Option Addr) (m d : Nat) (N : Value) (w : World), EnvIn w ⟨vA, vn, vc, iA, im, ic⟩ E → Tms w (.slice B m d) a.x → ∀ xs, V4s w N xs → 0 < xs.length → xs.length ≤ 64 → ∃ r, stepA E a xs = (if 64 < r.length then (12, []) else (0, r)) ∧ Calls Tryz.prog 44 #[.agg #[.string a.s, .bool a.any, .slice B m d], .int .i64 (idxOfS (vnames E) a.s), .agg #[.slice vA vn vc, .int .i64 v0, .int .i64 v1, .int .i64 v2, .int .i64 v3, .slice iA im ic], N] w (CompV4Post w w r)) := Lib.hid (fun h4 a ha hb B m d N w he ht xs hN h0 hx => by
    rw [hE] at he h4 hb ⊢
    exact HDO.out h4 a ha B m d N w he ht hb xs hN h0 hx)
  clear hE HVA HFI HDO he hf hs h hR hq hl
  change Calls _ _ #[_, .agg #[.slice vA vn vc, .int .i64 v0, .int .i64 v1, .int .i64 v2, .int .i64 v3, .slice iA im ic]] _ _
  have HB1 := Lib.hid (KitC.below_one w (.cells #[.slice vA vn vc, .int .i64 v0, .int .i64 v1, .int .i64 v2, .int .i64 v3, .slice iA im ic] 54))
  by_cases h4 : 4 < vn
  · have h4I : (4 : Int) < vn := by omega
    have HR : Hid (R = (1, [])) := Lib.hid (HR4.out (by rw [← HVN.out]; exact h4))
    go_enter Tryz.func22, Tryz.ntmps22
    go_wp2_with fail
    refine bodyPost_ret (v := .tuple #[.slice none 0 0, .int .i64 1]) (by simp [results, Tryz.results22, go_sem]) rfl ⟨_, by rw [HR.out], by rw [HR.out]; exact v4s_nil _, HB1.out⟩
  · have h4I : ¬ (4 : Int) < vn := by omega
    have H4 : Hid (¬ 4 < E.vars.length) := Lib.hid (by rw [← HVN.out]; exact h4)
    by_cases hq0 : q = 0
    · have g : (q != 0) = false := by simp [hq0]
      have HR : Hid (R = runA E l [vals E]) := Lib.hid (HRR.out H4.out hq0)
      have H8 := Lib.hid (HQ8.out hq0)
      clear HR4 HRC HRR hq0 HQ8
      go_enter Tryz.func22, Tryz.ntmps22
      go_wp2_with (go_at_call 10; (with_reducible refine (HCK.out _ (HT.out.keep HB1.out)).mono ?_))
      rintro e2 w2 ⟨rfl, hb2⟩
      obtain ⟨B1, hbb, _⟩ := KitC.one_block hb2
      obtain ⟨c0, c1, c2, c3, c4, c5⟩ := cells_6 B1
      obtain ⟨w3, hw3⟩ : ∃ w3, w2.alloc (.cells #[.int .i64 v0, .int .i64 v1, .int .i64 v2, .int .i64 v3] 51) = w3 := ⟨_, rfl⟩
      have HST : Hid (PRunRel w w3 E l (.slice (some ⟨w2.heap.size, 0, none⟩) 1 1) (.int .i64 0) w3) := Lib.hid (by
        refine ⟨0, [vals E], Nat.zero_le _, rfl, left_start E l, ?_, Below.refl _ _, by rw [← hw3]; exact below_two' hbb (KitC.below_one _ _)⟩
        rw [← hw3, HV.out]
        exact v4_lit rfl)
      have HK : Hid (w3.heap[w.heap.size]? = some (.cells #[.slice vA vn vc, .int .i64 v0, .int .i64 v1, .int .i64 v2, .int .i64 v3, .slice iA im ic] 54 (0, 0))) := Lib.hid (by rw [← hw3]; exact KitC.block_on B1 (KitC.below_one _ _))
      have HW3 := Lib.hid hw3
      clear hb2 hbb B1 hw3
      go_wp2_with fail
      rw [HW3.out]
      clear c0 c1 c2 c3 c4 c5 HW3
      go_loopw [7, 9, 10, 11, 26] (fun now _ _ _ i wr => PRunRel w w3 E l now i wr) (fun _ _ _ _ i _ => l.length - (Go.RowKit.intOf i).toNat)
      case atStart => exact HST.out
      case round =>
        obtain ⟨k, xs, hk, rfl, hleft, hxs, hbw, hb0⟩ := hrel
        obtain ⟨xA, xn, xc, rfl, hxn, hxc⟩ := hxs.shape
        have HL := Lib.hid hleft
        have HX := Lib.hid hxs
        have HBW2 := Lib.hid hbw
        have HB00 := Lib.hid hb0
        have HWB := Lib.hid (below_two' hb0 hbw)
        by_cases hlt : k < n
        · have hkI : (k : Int) < n := by omega
          have hk8 : (k : Int) ≤ 8 := by have := H8.out; omega
          obtain ⟨a, ha⟩ : ∃ a, l[k]? = some a := get_some (by have := HN.out; omega)
          obtain ⟨b, off, tA, tn, tc, rfl, hb, htm, d0, d1, d2⟩ := (HT.out.keep HWB.out).at_ ha
          obtain ⟨tA', tn', tc', heq, htn, htc⟩ := htm.shape
          cases heq
          have hbo := KitC.below_one wr (acB a.s a.any tA tn tc)
          have hact := heap_alloc_new wr (acB a.s a.any tA tn tc)
          have henv := KitC.block_on HK.out hbw
          have henv2 := KitC.block_on henv hbo
          obtain ⟨V, hV⟩ : ∃ V, wr.alloc (acB a.s a.any tA tn tc) = V := ⟨_, rfl⟩
          rw [hV] at hbo hact henv2
          obtain ⟨m0, m1, m2, m3, m4, m5⟩ := cells_6 henv
          have hsz := (Array.getElem?_eq_some_iff.1 henv).1
          have hszn : ¬ w.heap.size = wr.heap.size := Nat.ne_of_lt hsz
          have HEV := Lib.hid (HE.out.keep (below_two' HWB.out hbo))
          have HVV := Lib.hid (fun W (hW : Below V.heap.size V W) => HVA'.out a.s W (HEV.out.keep hW))
          have HFF := Lib.hid (fun W (hW : Below V.heap.size V W) => HFI'.out a (List.mem_of_getElem? ha) tA tn tc W (HEV.out.keep hW) ((htm.keep hbo).keep hW))
          have HDD := Lib.hid (fun (hb0 : badA E a = 0) W (hW : Below V.heap.size V W) => HDO'.out (by have := H4.out; omega) a (List.mem_of_getElem? ha) hb0 tA tn tc (.slice xA xn xc) W (HEV.out.keep hW) ((htm.keep hbo).keep hW) xs ((HX.out.keep hbo).keep hW) hleft.2.1 hleft.2.2)
          have HNX := Lib.hid (fun h0 => left_next hleft ha h0)
          have HSP := Lib.hid (fun h0 => left_stop hleft ha h0)
          have HBAD := Lib.hid (fun h0 => stepA_bad (e := E) (a := a) (l := xs) h0)
          have HBO := Lib.hid hbo
          have HACT := Lib.hid hact
          have HENV := Lib.hid henv2
          obtain ⟨r, hr⟩ : ∃ r, r = stepA E a xs := ⟨_, rfl⟩
          rw [← hr] at HDD HNX HSP HBAD
          have HVB := Lib.hid hV
          obtain ⟨at', hat⟩ : ∃ at', at' = idxOfS (vnames E) a.s := ⟨_, rfl⟩
          rw [← hat] at HVV HFF HDD
          obtain ⟨bd, hbd⟩ : ∃ bd, bd = badA E a := ⟨_, rfl⟩
          rw [← hbd] at HFF HDD HBAD
          clear ha htm htn hr hleft hxs hbw hb0 henv henv2 hxn HX HL hat hbd hbo hact hV
          obtain ⟨sa, aany, ax⟩ := a
          simp only at d0 d1 d2 HVV HFF HDD HACT HVB
          by_cases hbd0 : bd = 0
          · have g2 : (bd != 0) = false := by simp [hbd0]
            have HD := Lib.hid (HDD.out hbd0)
            clear HDD HBAD hbd0
            go_wp2_with (rw [HVB.out]; go_at_call 42; (with_reducible refine (HVV.out _ (Below.refl _ _)).mono ?_))
            rintro e2 w4 ⟨rfl, hb4⟩
            have HB4 := Lib.hid hb4
            obtain ⟨c0, c1, c2, c3, c4, c5⟩ := cells_6 (KitC.block_on HENV.out hb4)
            obtain ⟨a0, a1, a2⟩ := cells_3 (KitC.block_on HACT.out hb4)
            clear hb4
            go_wp2_with (go_at_call 43; (with_reducible refine (HFF.out _ HB4.out).mono ?_))
            rintro e2 w5 ⟨rfl, hb5⟩
            have HB5 := Lib.hid (below_two' HB4.out hb5)
            obtain ⟨c0, c1, c2, c3, c4, c5⟩ := cells_6 (KitC.block_on HENV.out HB5.out)
            obtain ⟨a0, a1, a2⟩ := cells_3 (KitC.block_on HACT.out HB5.out)
            clear hb5
            obtain ⟨rl, hrl, hcall⟩ := HD.out _ HB5.out
            have HCALL := Lib.hid hcall
            have HRL := Lib.hid hrl
            clear hcall hrl
            go_wp2_with (go_at_call 44; (with_reducible refine HCALL.out.mono ?_))
            rintro e2 w6 ⟨dv, rfl, hdv, hb6⟩
            have HB6 := Lib.hid (below_two' HB5.out hb6)
            have HDV := Lib.hid hdv
            obtain ⟨dA, dn, dc, rfl, hdn, hdc⟩ := hdv.shape
            have HDN := Lib.hid hdn
            clear hb6 hdv hdn
            by_cases h64 : 64 < dn
            · have h64I : (64 : Int) < dn := by omega
              have HRS : Hid (R = (12, [])) := Lib.hid (by
                have h1 := HRL.out
                rw [if_pos (by rw [← HDN.out]; exact h64)] at h1
                have h2 := HSP.out (by rw [h1]; decide)
                rw [HR.out, h2, h1])
              go_wp2_with fail
              refine bodyPost_ret (v := .tuple #[.slice none 0 0, .int .i64 12]) (by simp [results, Tryz.results22, go_sem]) rfl ⟨_, by rw [HRS.out], by rw [HRS.out]; exact v4s_nil _, below_two' (below_two' HWB.out HBO.out) HB6.out⟩
            · have h64I : ¬ (64 : Int) < dn := by omega
              have HN1 : Hid (LeftA E l (k + 1) rl) := Lib.hid (by
                have h1 := HRL.out
                rw [if_neg (by rw [← HDN.out]; exact h64)] at h1
                have h2 := HNX.out (by rw [h1])
                rw [h1] at h2
                exact h2)
              go_wp2_with fail
              go_roundw
              case rel => first | exact ⟨k + 1, rl, by have := HN.out; omega, by go_num, HN1.out, HDV.out, below_two' (below_two' HBW2.out HBO.out) HB6.out, HB00.out⟩ | ((repeat apply Exists.intro); exact ⟨⟨k + 1, rl, by have := HN.out; omega, by go_num, HN1.out, HDV.out, below_two' (below_two' HBW2.out HBO.out) HB6.out, HB00.out⟩, rfl⟩)
              case measure => have := HN.out; simp [Go.RowKit.intOf]; omega
          · have g2 : (bd != 0) = true := by simp [hbd0]
            have HRS : Hid (R = (bd, [])) := Lib.hid (by
              have h1 := HBAD.out hbd0
              have h2 := HSP.out (by rw [h1]; exact hbd0)
              rw [HR.out, h2, h1])
            clear HDD HBAD hbd0
            go_wp2_with (rw [HVB.out]; go_at_call 42; (with_reducible refine (HVV.out _ (Below.refl _ _)).mono ?_))
            rintro e2 w4 ⟨rfl, hb4⟩
            have HB4 := Lib.hid hb4
            obtain ⟨c0, c1, c2, c3, c4, c5⟩ := cells_6 (KitC.block_on HENV.out hb4)
            obtain ⟨a0, a1, a2⟩ := cells_3 (KitC.block_on HACT.out hb4)
            clear hb4
            go_wp2_with (go_at_call 43; (with_reducible refine (HFF.out _ HB4.out).mono ?_))
            rintro e2 w5 ⟨rfl, hb5⟩
            have HB5 := Lib.hid (below_two' HB4.out hb5)
            clear hb5
            go_wp2_with fail
            refine bodyPost_ret (v := .tuple #[.slice none 0 0, .int .i64 bd]) (by simp [results, Tryz.results22, go_sem]) rfl ⟨_, by rw [HRS.out], by rw [HRS.out]; exact v4s_nil _, below_two' (below_two' HWB.out HBO.out) HB5.out⟩
        · have hkI : ¬ (k : Int) < n := by omega
          have HS1 := Lib.hid (left_end hleft (by have := HN.out; omega))
          clear hleft hxs hbw hb0 hxn
          go_wp2_with fail
          refine bodyPost_ret (v := .tuple #[.slice xA xn xc, .int .i64 0]) (by simp [results, Tryz.results22, go_sem]) rfl ⟨_, by rw [HR.out, HS1.out], by rw [HR.out, HS1.out]; exact HX.out, HWB.out⟩
    · have g : (q != 0) = true := by simp [hq0]
      have HR : Hid (R = (q, [])) := Lib.hid (HRC.out H4.out hq0)
      clear HR4 HRC HRR hq0
      go_enter Tryz.func22, Tryz.ntmps22
      go_wp2_with (go_at_call 10; (with_reducible refine (HCK.out _ (HT.out.keep HB1.out)).mono ?_))
      rintro e2 w2 ⟨rfl, hb2⟩
      have HB2 := Lib.hid (below_two' HB1.out hb2)
      clear hb2
      go_wp2_with fail
      refine bodyPost_ret (v := .tuple #[.slice none 0 0, .int .i64 q]) (by simp [results, Tryz.results22, go_sem]) rfl ⟨_, by rw [HR.out], by rw [HR.out]; exact v4s_nil _, HB2.out⟩
end Go.Proofs.YtcfcpbkeedfbpaaGreatDoor

namespace Go.Proofs.YtcfcpbkeedfbpaaGreatDoor
namespace ExprSpec
open CurSpec TermSpec

/-- A sign between two: its text, what it does, its level, and of which levels those on its sides must be. -/
structure Sg where
  t : ByteArray
  op : Int
  lev : Int
  left : Int
  right : Int
def sgs : List Sg := [⟨⟨#[111, 114]⟩, 20, 1, 1, 2⟩, ⟨⟨#[97, 110, 100]⟩, 19, 2, 2, 3⟩, ⟨⟨#[61, 61]⟩, 13, 4, 5, 5⟩, ⟨⟨#[33, 61]⟩, 14, 4, 5, 5⟩, ⟨⟨#[60]⟩, 15, 4, 5, 5⟩, ⟨⟨#[60, 61]⟩, 16, 4, 5, 5⟩, ⟨⟨#[62]⟩, 17, 4, 5, 5⟩, ⟨⟨#[62, 61]⟩, 18, 4, 5, 5⟩, ⟨⟨#[43]⟩, 4, 5, 5, 6⟩, ⟨⟨#[45]⟩, 5, 5, 5, 6⟩, ⟨⟨#[42]⟩, 6, 6, 6, 7⟩]
def look (t : ByteArray) : Option Sg := sgs.find? fun s => decide (s.t = t)
def fits (lev k : Int) (s : Sg) : Bool := decide (s.left ≤ lev) && decide (k ≤ s.lev)
/-- The sign that is next, and may stand behind what is of a level, in a part of a level at least. -/
def sgn (c : Cur) (lev k : Int) : Option Sg := if (next c).k = 3 ∨ (next c).k = 1 then (look (next c).t).filter (fits lev k) else none

abbrev tNot : ByteArray := ⟨#[110, 111, 116]⟩
abbrev tNeg : ByteArray := ⟨#[45]⟩
abbrev tTrue : ByteArray := ⟨#[116, 114, 117, 101]⟩
abbrev tFalse : ByteArray := ⟨#[102, 97, 108, 115, 101]⟩
abbrev tIn : ByteArray := ⟨#[105, 110]⟩
abbrev tMin : ByteArray := ⟨#[109, 105, 110]⟩
abbrev tMax : ByteArray := ⟨#[109, 97, 120]⟩
abbrev tOpen : ByteArray := ⟨#[40]⟩
abbrev tClose : ByteArray := ⟨#[41]⟩
abbrev tComma : ByteArray := ⟨#[44]⟩

def opT (o : Int) : Tm := ⟨o, 0, ⟨#[]⟩⟩
abbrev Pa := Cur × List Tm
section
variable (rec : Cur → Int → Pa)
/-- What stands behind min or max. -/
def two (c : Cur) (o : Int) : Pa :=
  let p := rec (want c 3 tOpen) 1
  let q := rec (want p.1 3 tComma) 1
  (want q.1 3 tClose, opT o :: (p.2 ++ q.2))
def atom (c : Cur) : Pa :=
  if (next c).k = 2 then (numC c 1000000, [⟨1, numN c 1000000, ⟨#[]⟩⟩])
  else if isB c 1 tTrue then (on c, [opT 9])
  else if isB c 1 tFalse then (on c, [opT 10])
  else if isB c 1 tIn then (want (nameC (want (on c) 3 tOpen)) 3 tClose, [⟨11, 0, nameS (want (on c) 3 tOpen)⟩])
  else if isB c 1 tMin then two rec (on c) 7
  else if isB c 1 tMax then two rec (on c) 8
  else if isB c 3 tOpen then (want (rec (on c) 1).1 3 tClose, (rec (on c) 1).2)
  else (nameC c, [⟨2, 0, nameS c⟩])
/-- What stands ahead of all signs between two; its level. -/
def hd (c : Cur) (k : Int) : Pa × Int :=
  if k ≤ 3 ∧ isB c 1 tNot = true then (((rec (on c) 3).1, opT 12 :: (rec (on c) 3).2), 3)
  else if isB c 3 tNeg then (((rec (on c) 7).1, opT 3 :: (rec (on c) 7).2), 7)
  else (atom rec c, 8)
end
mutual
/-- The part of a level at least that is next. -/
def S : Nat → Cur → Int → Pa
  | 0, c, _ => (c, [])
  | f + 1, c, k => if c.bad ≠ 0 then (c, []) else
    let h := hd (S f) c k
    C f h.2 k h.1.1 h.1.2
/-- The part goes on behind what was read of it, that is of a level. -/
def C : Nat → Int → Int → Cur → List Tm → Pa
  | 0, _, _, c, x => (c, x)
  | f + 1, lev, k, c, x =>
    match sgn c lev k with
    | none => (c, x)
    | some s =>
      let p := S f (on c) s.right
      C f s.lev k p.1 (opT s.op :: (x ++ p.2))
end

theorem S_dead {c : Cur} (f : Nat) (k : Int) (h : c.bad ≠ 0) : S f c k = (c, []) := by
  cases f with
  | zero => rfl
  | succ f => rw [S]; exact if_pos h
theorem S_good {c : Cur} (f : Nat) (k : Int) (h : c.bad = 0) : S (f + 1) c k = C f (hd (S f) c k).2 k (hd (S f) c k).1.1 (hd (S f) c k).1.2 := by
  rw [S]; exact if_neg (fun h' => h' h)
theorem C_stop {c : Cur} {lev k : Int} (f : Nat) (x : List Tm) (h : sgn c lev k = none) : C f lev k c x = (c, x) := by
  cases f with
  | zero => rfl
  | succ f => rw [C, h]
theorem C_step {c : Cur} {lev k : Int} {s : Sg} (f : Nat) (x : List Tm) (h : sgn c lev k = some s) :
    C (f + 1) lev k c x = C f s.lev k (S f (on c) s.right).1 (opT s.op :: (x ++ (S f (on c) s.right).2)) := by
  rw [C, h]

def first (k : Int) : Int := if k = 4 then 5 else k
theorem sgs_all : ∀ s ∈ sgs, s.right = s.lev + 1 ∧ s.left = first s.lev ∧ (s.lev = 1 ∨ s.lev = 2 ∨ s.lev = 4 ∨ s.lev = 5 ∨ s.lev = 6) ∧ ar s.op = 2 ∧ s.t.size ≠ 0 := by decide
theorem look_mem {t : ByteArray} {s : Sg} (h : look t = some s) : s ∈ sgs ∧ s.t = t := by
  have := List.find?_some h
  exact ⟨List.mem_of_find?_eq_some h, by simpa using this⟩
theorem sgn_some {c : Cur} {lev k : Int} {s : Sg} (h : sgn c lev k = some s) : look (next c).t = some s ∧ ((next c).k = 3 ∨ (next c).k = 1) ∧ s.left ≤ lev ∧ k ≤ s.lev ∧ s ∈ sgs := by
  unfold sgn at h
  split at h
  · rename_i hk
    rw [Option.filter_eq_some_iff] at h
    obtain ⟨h1, h2⟩ := h
    unfold fits at h2
    simp only [Bool.and_eq_true, decide_eq_true_eq] at h2
    exact ⟨h1, hk, h2.1, h2.2, (look_mem h1).1⟩
  · cases h
theorem sgn_mk {c : Cur} {lev k : Int} {s : Sg} (h1 : look (next c).t = some s) (h2 : (next c).k = 3 ∨ (next c).k = 1) (h3 : s.left ≤ lev) (h4 : k ≤ s.lev) : sgn c lev k = some s := by
  unfold sgn
  rw [if_pos h2, h1, Option.filter_eq_some_iff]
  exact ⟨rfl, by simp [fits, h3, h4]⟩
theorem sgn_none {c : Cur} {lev k : Int} (h : ∀ s, sgn c lev k = some s → False) : sgn c lev k = none := by
  cases hs : sgn c lev k with
  | none => rfl
  | some s => exact absurd hs (fun h' => h s h')
theorem sgn_dead {c : Cur} (lev k : Int) (h : c.bad ≠ 0) : sgn c lev k = none := by
  unfold sgn
  rw [next_dead h]
  rfl
theorem sgn_good {c : Cur} {lev k : Int} {s : Sg} (h : sgn c lev k = some s) : c.bad = 0 := by
  by_cases h0 : c.bad = 0
  · exact h0
  · rw [sgn_dead lev k h0] at h; cases h
theorem next_real {c : Cur} (h : (next c).k ≠ 0) : c.bad = 0 ∧ (on c).L.length + 1 = c.L.length ∧ (on c).bad = 0 := by
  have h0 : c.bad = 0 := by
    by_cases h0 : c.bad = 0
    · exact h0
    · rw [next_dead h0] at h; exact absurd rfl h
  refine ⟨h0, ?_, (on_bad c).1.trans h0⟩
  obtain ⟨L, w1, w2, a1, a2, bad⟩ := c
  cases L with
  | nil => unfold next at h; rw [if_pos h0] at h; exact absurd rfl h
  | cons t r => rfl
theorem sgn_real {c : Cur} {lev k : Int} {s : Sg} (h : sgn c lev k = some s) : c.bad = 0 ∧ (on c).L.length + 1 = c.L.length ∧ (on c).bad = 0 := by
  obtain ⟨_, h2, _⟩ := sgn_some h
  exact next_real (by omega)
theorem isB_next {c : Cur} {k : Int} {s : ByteArray} (h : isB c k s = true) : c.bad = 0 ∧ (next c).k = k ∧ (next c).t = s := by
  unfold isB at h
  simp only [Bool.and_eq_true, decide_eq_true_eq] at h
  exact h
theorem isB_real {c : Cur} {k : Int} {s : ByteArray} (h : isB c k s = true) (hk : k ≠ 0) : c.bad = 0 ∧ (on c).L.length + 1 = c.L.length ∧ (on c).bad = 0 := by
  obtain ⟨_, h1, _⟩ := isB_next h
  exact next_real (by omega)

theorem fail_len (c : Cur) (e : Int) : (fail c e).L = c.L := by unfold fail; split <;> rfl
theorem want_len (c : Cur) (k : Int) (s : ByteArray) : (want c k s).L.length ≤ c.L.length := by
  unfold want
  split
  · rw [on_len]; omega
  · rw [fail_len]; exact Nat.le_refl _
theorem nameC_len (c : Cur) : (nameC c).L.length ≤ c.L.length := by
  unfold nameC
  split
  · rw [on_len]; omega
  · rw [fail_len]; exact Nat.le_refl _
theorem numC_len (c : Cur) (m : Int) : (numC c m).L.length ≤ c.L.length := by
  unfold numC
  split
  · rw [on_len]; omega
  · rw [fail_len]; exact Nat.le_refl _
theorem fail_bad {c : Cur} {e : Int} (he : e ≠ 0) : (fail c e).bad ≠ 0 := by
  by_cases h : c.bad = 0
  · rw [fail_yes h he]; exact he
  · rw [fail_dead e h]; exact h
theorem want_good {c : Cur} {k : Int} {s : ByteArray} (h : (want c k s).bad = 0) : isB c k s = true ∧ want c k s = on c := by
  unfold want at h ⊢
  split
  · rename_i hb; exact ⟨hb, rfl⟩
  · rename_i hb; rw [if_neg hb] at h; exact absurd h (fail_bad (by decide))
theorem nameC_good {c : Cur} (h : (nameC c).bad = 0) : nameB c = true ∧ nameC c = on c := by
  unfold nameC at h ⊢
  split
  · rename_i hb; exact ⟨hb, rfl⟩
  · rename_i hb; rw [if_neg hb] at h; exact absurd h (fail_bad (by decide))
theorem numC_good {c : Cur} {m : Int} (h : (numC c m).bad = 0) : numE c m = 0 ∧ numC c m = on c := by
  unfold numC at h ⊢
  split
  · rename_i hb; exact ⟨hb, rfl⟩
  · rename_i hb; rw [if_neg hb] at h; exact absurd h (fail_bad hb)
theorem nameB_next {c : Cur} (h : nameB c = true) : c.bad = 0 ∧ (next c).k = 1 ∧ NamesSpec.isName (next c).t.data.toList = true := by
  unfold nameB at h
  simp only [Bool.and_eq_true, decide_eq_true_eq] at h
  exact h
theorem numE_next {c : Cur} {m : Int} (h : numE c m = 0) : c.bad = 0 ∧ (next c).k = 2 := by
  unfold numE at h
  split at h
  · assumption
  · omega
/-- What is read by a function that never gives tokens back. -/
def Less (rec : Cur → Int → Pa) : Prop := ∀ d j, (rec d j).1.L.length ≤ d.L.length ∧ ((rec d j).1.bad = 0 → d.bad = 0)
theorem two_len {rec : Cur → Int → Pa} (H : Less rec) (c : Cur) (o : Int) : (two rec c o).1.L.length ≤ c.L.length ∧ ((two rec c o).1.bad = 0 → c.bad = 0) := by
  unfold two
  dsimp only
  have h1 := want_len c 3 tOpen
  have h2 := (H (want c 3 tOpen) 1).1
  have h3 := want_len (rec (want c 3 tOpen) 1).1 3 tComma
  have h4 := (H (want (rec (want c 3 tOpen) 1).1 3 tComma) 1).1
  have h5 := want_len (rec (want (rec (want c 3 tOpen) 1).1 3 tComma) 1).1 3 tClose
  refine ⟨by omega, fun h => ?_⟩
  have g1 := (isB_next (want_good h).1).1
  have g2 := (H _ _).2 g1
  have g3 := (isB_next (want_good g2).1).1
  have g4 := (H _ _).2 g3
  exact (isB_next (want_good g4).1).1
theorem atom_len {rec : Cur → Int → Pa} (H : Less rec) (c : Cur) : (atom rec c).1.L.length ≤ c.L.length ∧ ((atom rec c).1.bad = 0 → (atom rec c).1.L.length < c.L.length) := by
  unfold atom
  split
  · refine ⟨numC_len _ _, fun h => ?_⟩
    obtain ⟨h1, h2⟩ := numC_good h
    have := (next_real (c := c) (by have := (numE_next h1).2; omega)).2.1
    dsimp only
    rw [h2]; omega
  split
  · rename_i hb
    have := isB_real hb (by decide)
    exact ⟨by dsimp only; omega, fun _ => by dsimp only; omega⟩
  split
  · rename_i hb
    have := isB_real hb (by decide)
    exact ⟨by dsimp only; omega, fun _ => by dsimp only; omega⟩
  split
  · rename_i hb
    have := isB_real hb (by decide)
    have h1 := want_len (on c) 3 tOpen
    have h2 := nameC_len (want (on c) 3 tOpen)
    have h3 := want_len (nameC (want (on c) 3 tOpen)) 3 tClose
    exact ⟨by dsimp only; omega, fun _ => by dsimp only; omega⟩
  split
  · rename_i hb
    have := isB_real hb (by decide)
    have h1 := (two_len H (on c) 7).1
    exact ⟨by omega, fun _ => by omega⟩
  split
  · rename_i hb
    have := isB_real hb (by decide)
    have h1 := (two_len H (on c) 8).1
    exact ⟨by omega, fun _ => by omega⟩
  split
  · rename_i hb
    have := isB_real hb (by decide)
    have h1 := (H (on c) 1).1
    have h2 := want_len (rec (on c) 1).1 3 tClose
    exact ⟨by dsimp only; omega, fun _ => by dsimp only; omega⟩
  · refine ⟨nameC_len _, fun h => ?_⟩
    obtain ⟨h1, h2⟩ := nameC_good h
    have := (next_real (c := c) (by have := (nameB_next h1).2.1; omega)).2.1
    dsimp only
    rw [h2]; omega
theorem hd_len {rec : Cur → Int → Pa} (H : Less rec) (c : Cur) (k : Int) : (hd rec c k).1.1.L.length ≤ c.L.length ∧ ((hd rec c k).1.1.bad = 0 → (hd rec c k).1.1.L.length < c.L.length) := by
  unfold hd
  split
  · rename_i hb
    have := isB_real hb.2 (by decide)
    have h1 := (H (on c) 3).1
    exact ⟨by dsimp only; omega, fun _ => by dsimp only; omega⟩
  split
  · rename_i hb
    have := isB_real hb (by decide)
    have h1 := (H (on c) 7).1
    exact ⟨by dsimp only; omega, fun _ => by dsimp only; omega⟩
  · exact atom_len H c
theorem len_all : ∀ f, Less (S f) ∧ ∀ lev k c x, (C f lev k c x).1.L.length ≤ c.L.length ∧ ((C f lev k c x).1.bad = 0 → c.bad = 0)
  | 0 => ⟨fun d j => ⟨Nat.le_refl _, id⟩, fun lev k c x => ⟨Nat.le_refl _, id⟩⟩
  | f + 1 => by
    obtain ⟨ih1, ih2⟩ := len_all f
    refine ⟨fun d j => ?_, fun lev k c x => ?_⟩
    · by_cases h : d.bad = 0
      · rw [S_good f j h]
        exact ⟨Nat.le_trans (ih2 _ _ _ _).1 (hd_len ih1 d j).1, fun _ => h⟩
      · rw [S_dead _ j h]; exact ⟨Nat.le_refl _, id⟩
    · cases hs : sgn c lev k with
      | none => rw [C_stop _ x hs]; exact ⟨Nat.le_refl _, id⟩
      | some s =>
        rw [C_step f x hs]
        have h1 := sgn_real hs
        have h2 := (ih1 (on c) s.right).1
        have h3 := ih2 s.lev k (S f (on c) s.right).1 (opT s.op :: (x ++ (S f (on c) s.right).2))
        exact ⟨by omega, fun _ => h1.1⟩
theorem S_less (f : Nat) : Less (S f) := (len_all f).1
theorem C_len (f : Nat) (lev k : Int) (c : Cur) (x : List Tm) : (C f lev k c x).1.L.length ≤ c.L.length := ((len_all f).2 lev k c x).1

/-- The measure is enough. -/
def Fit (f : Nat) (c : Cur) : Prop := c.bad = 0 → c.L.length < f
theorem Fit.zero {c : Cur} (h : Fit 0 c) : c.bad ≠ 0 := fun h' => absurd (h h') (by omega)
theorem Fit.fitHd {f : Nat} {c : Cur} (h : Fit (f + 1) c) (h0 : c.bad = 0) (k : Int) : Fit f (hd (S f) c k).1.1 := fun hb => by
  have := (hd_len (S_less f) c k).2 hb
  have := h h0
  omega
theorem Fit.fitOn {f : Nat} {c : Cur} {lev k : Int} {s : Sg} (h : Fit (f + 1) c) (hs : sgn c lev k = some s) : Fit f (on c) := fun _ => by
  have := sgn_real hs
  have := h this.1
  omega
theorem Fit.fitStep {f : Nat} {c : Cur} {lev k : Int} {s : Sg} (h : Fit (f + 1) c) (hs : sgn c lev k = some s) (j : Int) : Fit f (S f (on c) j).1 := fun _ => by
  have := (S_less f (on c) j).1
  have := sgn_real hs
  have := h this.1
  omega
theorem Fit.le {f : Nat} {c d : Cur} (h : Fit f c) (h0 : c.bad = 0) (hl : d.L.length ≤ c.L.length) : Fit f d := fun _ => by
  have := h h0
  omega
theorem two_congr {rec rec' : Cur → Int → Pa} {c : Cur} {n : Nat} (H : ∀ d j, (d.bad = 0 → d.L.length < n) → rec d j = rec' d j) (HL : Less rec) (hc : c.bad = 0 → c.L.length < n) (o : Int) : two rec c o = two rec' c o := by
  unfold two
  have e1 : rec (want c 3 tOpen) 1 = rec' (want c 3 tOpen) 1 := H _ _ (fun hb => by
    have h1 := want_good hb
    have := want_len c 3 tOpen
    have := hc (isB_next h1.1).1
    omega)
  have e2 : rec (want (rec (want c 3 tOpen) 1).1 3 tComma) 1 = rec' (want (rec (want c 3 tOpen) 1).1 3 tComma) 1 := H _ _ (fun hb => by
    have h1 := isB_next (want_good hb).1
    have h2 := HL (want c 3 tOpen) 1
    have h3 := isB_next (want_good (h2.2 h1.1)).1
    have := want_len c 3 tOpen
    have := want_len (rec (want c 3 tOpen) 1).1 3 tComma
    have := hc h3.1
    omega)
  dsimp only
  rw [e2, e1]
theorem hd_congr {rec rec' : Cur → Int → Pa} {c : Cur} (H : ∀ d j, (d.bad = 0 → d.L.length < c.L.length) → rec d j = rec' d j) (HL : Less rec) (k : Int) : hd rec c k = hd rec' c k := by
  have ho : ∀ {k : Int} {s : ByteArray}, isB c k s = true → k ≠ 0 → (on c).bad = 0 → (on c).L.length < c.L.length := fun hb hk _ => by
    have := isB_real hb hk
    omega
  unfold hd
  split
  · rename_i hb
    rw [H (on c) 3 (ho hb.2 (by decide))]
  split
  · rename_i hb
    rw [H (on c) 7 (ho hb (by decide))]
  · congr 1
    unfold atom
    split
    · rfl
    split
    · rfl
    split
    · rfl
    split
    · rfl
    split
    · rename_i hb; exact two_congr H HL (ho hb (by decide)) 7
    split
    · rename_i hb; exact two_congr H HL (ho hb (by decide)) 8
    split
    · rename_i hb; rw [H (on c) 1 (ho hb (by decide))]
    · rfl
theorem same_all : ∀ f g, (∀ c k, Fit f c → Fit g c → S f c k = S g c k) ∧ (∀ lev k c x, Fit f c → Fit g c → C f lev k c x = C g lev k c x)
  | 0, g => ⟨fun c k h _ => by rw [S_dead 0 k h.zero, S_dead g k h.zero], fun lev k c x h _ => by rw [C_stop 0 x (sgn_dead lev k h.zero), C_stop g x (sgn_dead lev k h.zero)]⟩
  | f + 1, 0 => ⟨fun c k _ h => by rw [S_dead 0 k h.zero, S_dead (f + 1) k h.zero], fun lev k c x _ h => by rw [C_stop 0 x (sgn_dead lev k h.zero), C_stop (f + 1) x (sgn_dead lev k h.zero)]⟩
  | f + 1, g + 1 => by
    obtain ⟨ih1, ih2⟩ := same_all f g
    refine ⟨fun c k hf hg => ?_, fun lev k c x hf hg => ?_⟩
    · by_cases h : c.bad = 0
      · have e : hd (S f) c k = hd (S g) c k := hd_congr (fun d j hd => ih1 d j (fun hb => by have := hd hb; have := hf h; omega) (fun hb => by have := hd hb; have := hg h; omega)) (S_less f) k
        rw [S_good f k h, S_good g k h, e]
        exact ih2 _ _ _ _ (by rw [← e]; exact hf.fitHd h k) (hg.fitHd h k)
      · rw [S_dead _ k h, S_dead _ k h]
    · cases hs : sgn c lev k with
      | none => rw [C_stop _ x hs, C_stop _ x hs]
      | some s =>
        rw [C_step f x hs, C_step g x hs, ih1 (on c) s.right (hf.fitOn hs) (hg.fitOn hs)]
        exact ih2 _ _ _ _ (by rw [← ih1 (on c) s.right (hf.fitOn hs) (hg.fitOn hs)]; exact hf.fitStep hs _) (hg.fitStep hs _)
theorem S_same {f g : Nat} {c : Cur} (k : Int) (hf : Fit f c) (hg : Fit g c) : S f c k = S g c k := (same_all f g).1 c k hf hg
theorem C_same {f g : Nat} {c : Cur} (lev k : Int) (x : List Tm) (hf : Fit f c) (hg : Fit g c) : C f lev k c x = C g lev k c x := (same_all f g).2 lev k c x hf hg
end ExprSpec
end Go.Proofs.YtcfcpbkeedfbpaaGreatDoor

namespace Go.Proofs.YtcfcpbkeedfbpaaGreatDoor
namespace ExprSpec
open CurSpec TermSpec

theorem sg_lev {s : Sg} (h : s ∈ sgs) : s.right = s.lev + 1 ∧ s.lev ≤ s.left ∧ s.left = first s.lev ∧ 1 ≤ s.lev ∧ s.lev ≤ 6 ∧ s.lev ≠ 3 ∧ ar s.op = 2 := by
  obtain ⟨h1, h2, h3, h4, _⟩ := sgs_all s h
  refine ⟨h1, ?_, h2, by omega, by omega, by omega, h4⟩
  rw [h2]
  unfold first
  split <;> omega
/-- Where a part of a level is over, no sign of that level or of a greater one is next. -/
theorem C_end : ∀ (f : Nat) (lev k : Int) (c : Cur) (x : List Tm), Fit f c → k ≤ lev → sgn (C f lev k c x).1 k k = none
  | 0, lev, k, c, x, h, _ => by rw [C_stop 0 x (sgn_dead lev k h.zero)]; exact sgn_dead k k h.zero
  | f + 1, lev, k, c, x, h, hk => by
    cases hs : sgn c lev k with
    | none =>
      rw [C_stop _ x hs]
      refine sgn_none fun s h' => ?_
      obtain ⟨h1, h2, h3, h4, _⟩ := sgn_some h'
      rw [sgn_mk h1 h2 (by omega) h4] at hs
      cases hs
    | some s =>
      rw [C_step f x hs]
      exact C_end f _ _ _ _ (h.fitStep hs _) (sgn_some hs).2.2.2.1
/-- A part of a level is a part of the next one that goes on. -/
theorem C_split (k : Int) : ∀ (f g : Nat) (lev : Int) (c : Cur) (x : List Tm), Fit f c → first k ≤ lev → Fit g (C f lev (k + 1) c x).1 →
    C f lev k c x = C g (first k) k (C f lev (k + 1) c x).1 (C f lev (k + 1) c x).2
  | 0, g, lev, c, x, h, _, _ => by rw [C_stop 0 x (sgn_dead lev k h.zero), C_stop 0 x (sgn_dead lev (k + 1) h.zero), C_stop g x (sgn_dead _ k h.zero)]
  | f + 1, g, lev, c, x, h, hl, hg => by
    cases hs : sgn c lev k with
    | none =>
      have h1 : sgn c lev (k + 1) = none := sgn_none fun s h' => by
        obtain ⟨h1, h2, h3, h4, _⟩ := sgn_some h'
        rw [sgn_mk h1 h2 h3 (by omega)] at hs
        cases hs
      have h2 : sgn c (first k) k = none := sgn_none fun s h' => by
        obtain ⟨h1, h2, h3, h4, _⟩ := sgn_some h'
        rw [sgn_mk h1 h2 (by omega) h4] at hs
        cases hs
      rw [C_stop _ x hs, C_stop _ x h1, C_stop _ x h2]
    | some s =>
      obtain ⟨h1, h2, h3, h4, hm⟩ := sgn_some hs
      obtain ⟨q1, q2, q3, q4, q5, q6, q7⟩ := sg_lev hm
      by_cases hk : s.lev = k
      · have e1 : sgn c lev (k + 1) = none := sgn_none fun t h' => by
          obtain ⟨g1, g2, g3, g4, _⟩ := sgn_some h'
          rw [h1] at g1
          cases g1
          omega
        have e2 : sgn c (first k) k = some s := sgn_mk h1 h2 (by rw [q3, hk]; omega) h4
        rw [C_stop _ x e1] at hg ⊢
        cases g with
        | zero => exact absurd (sgn_good hs) hg.zero
        | succ g =>
          rw [C_step f x hs, C_step g x e2, S_same s.right (h.fitOn hs) (hg.fitOn e2), hk]
          refine C_same _ _ _ ?_ (hg.fitStep e2 _)
          rw [← S_same s.right (h.fitOn hs) (hg.fitOn e2)]
          exact h.fitStep hs _
      · have e1 : sgn c lev (k + 1) = some s := sgn_mk h1 h2 h3 (by omega)
        rw [C_step f x e1] at hg ⊢
        rw [C_step f x hs]
        refine C_split k f g _ _ _ (h.fitStep hs _) ?_ hg
        unfold first
        split <;> omega

/-- Signs: a level's. -/
theorem stop_8 (c : Cur) (lev : Int) : sgn c lev 8 = none := sgn_none fun s h => by
  obtain ⟨_, _, _, h4, hm⟩ := sgn_some h
  have := sg_lev hm
  omega
theorem stop_7 (c : Cur) (lev : Int) : sgn c lev 7 = none := sgn_none fun s h => by
  obtain ⟨_, _, _, h4, hm⟩ := sgn_some h
  have := sg_lev hm
  omega
theorem stop_3 (c : Cur) : sgn c 3 3 = none := sgn_none fun s h => by
  obtain ⟨_, _, h3, h4, hm⟩ := sgn_some h
  have := sg_lev hm
  omega
theorem stop_4 (c : Cur) : sgn c 4 4 = none := sgn_none fun s h => by
  obtain ⟨_, _, h3, h4, hm⟩ := sgn_some h
  have := sg_lev hm
  obtain ⟨_, h5, h6, _⟩ := this
  unfold first at h6
  split at h6 <;> omega

theorem hd_next {rec : Cur → Int → Pa} {c : Cur} {k : Int} (h3 : ¬ (k = 3 ∧ isB c 1 tNot = true)) : hd rec c (k + 1) = hd rec c k := by
  unfold hd
  by_cases h : isB c 1 tNot = true
  · have : k ≠ 3 := fun e => h3 ⟨e, h⟩
    by_cases hk : k ≤ 3
    · rw [if_pos (show k + 1 ≤ 3 ∧ isB c 1 tNot = true from ⟨by omega, h⟩), if_pos (show k ≤ 3 ∧ isB c 1 tNot = true from ⟨hk, h⟩)]
    · rw [if_neg (show ¬ (k + 1 ≤ 3 ∧ isB c 1 tNot = true) from fun h' => by omega), if_neg (show ¬ (k ≤ 3 ∧ isB c 1 tNot = true) from fun h' => hk h'.1)]
  · rw [if_neg (show ¬ (k + 1 ≤ 3 ∧ isB c 1 tNot = true) from fun h' => h h'.2), if_neg (show ¬ (k ≤ 3 ∧ isB c 1 tNot = true) from fun h' => h h'.2)]
theorem hd_first {rec : Cur → Int → Pa} {c : Cur} {k : Int} (h1 : 1 ≤ k) (h7 : k ≤ 7) (h3 : ¬ (k = 3 ∧ isB c 1 tNot = true)) (hn : ¬ (k = 7 ∧ isB c 3 tNeg = true)) : first k ≤ (hd rec c k).2 ∧ (k ≠ 3 → k + 1 ≤ (hd rec c k).2) := by
  have hf : first k ≤ k + 1 := by unfold first; split <;> omega
  have hf' : k = 4 ∨ first k = k := by unfold first; split <;> omega
  unfold hd
  split
  · rename_i h
    have : k ≠ 3 := fun e => h3 ⟨e, h.2⟩
    dsimp only
    omega
  split
  · rename_i h
    have : k ≠ 7 := fun e => hn ⟨e, h⟩
    dsimp only
    omega
  · dsimp only; omega
/-- Level by level. -/
theorem S_level {f : Nat} {c : Cur} {k : Int} (hf : Fit f c) (h0 : c.bad = 0) (h1 : 1 ≤ k) (h7 : k ≤ 7) (h3 : ¬ (k = 3 ∧ isB c 1 tNot = true)) (hn : ¬ (k = 7 ∧ isB c 3 tNeg = true)) :
    S f c k = C f (first k) k (S f c (k + 1)).1 (S f c (k + 1)).2 ∧ (k = 4 → sgn (S f c (k + 1)).1 5 5 = none) := by
  cases f with
  | zero => exact absurd h0 hf.zero
  | succ f =>
    have hh := hd_first (rec := S f) h1 h7 h3 hn
    rw [S_good f k h0, S_good f (k + 1) h0, hd_next h3]
    refine ⟨C_split k f (f + 1) _ _ _ (hf.fitHd h0 k) hh.1 ?_, fun h4 => ?_⟩
    · exact hf.le h0 (Nat.le_trans (C_len _ _ _ _ _) (hd_len (S_less f) c k).1)
    · subst h4
      exact C_end f _ 5 _ _ (hf.fitHd h0 4) (hh.2 (by decide))
theorem S_not {f : Nat} {c : Cur} (h : isB c 1 tNot = true) : S (f + 1) c 3 = ((S f (on c) 3).1, opT 12 :: (S f (on c) 3).2) := by
  rw [S_good f 3 (isB_next h).1]
  have e : hd (S f) c 3 = (((S f (on c) 3).1, opT 12 :: (S f (on c) 3).2), 3) := if_pos ⟨by decide, h⟩
  rw [e]
  exact C_stop f _ (stop_3 _)
theorem S_neg {f : Nat} {c : Cur} (h : isB c 3 tNeg = true) : S (f + 1) c 7 = ((S f (on c) 7).1, opT 3 :: (S f (on c) 7).2) := by
  rw [S_good f 7 (isB_next h).1]
  have e : hd (S f) c 7 = (((S f (on c) 7).1, opT 3 :: (S f (on c) 7).2), 7) := by
    unfold hd
    rw [if_neg (fun h' => absurd h'.1 (by decide)), if_pos h]
  rw [e]
  exact C_stop f _ (stop_7 _ _)
theorem S_atom {f : Nat} {c : Cur} (h0 : c.bad = 0) (h : isB c 3 tNeg = false) : S (f + 1) c 8 = atom (S f) c := by
  rw [S_good f 8 h0]
  have e : hd (S f) c 8 = (atom (S f) c, 8) := by
    unfold hd
    rw [if_neg (fun h' => absurd h'.1 (by decide)), if_neg (by rw [h]; decide)]
  rw [e]
  exact C_stop f _ (stop_8 _ _)

/-- One expression, of terms that may be. -/
def WF (x : List Tm) : Prop := cnt 1 x = some x.length ∧ x.all mayB = true
theorem cnt_more : ∀ {l : List Tm} {k m : Nat} (r : List Tm), cnt k l = some m → cnt k (l ++ r) = some m
  | l, 0, m, r, h => by rw [cnt_zero] at h; cases h; rw [cnt_zero]
  | [], k + 1, m, r, h => by cases h
  | t :: l, k + 1, m, r, h => by
    obtain ⟨h0, m', rfl, h'⟩ := cnt_step h
    exact cnt_mk h0 (cnt_more r h')
theorem WF.leaf {t : Tm} (h : ar t.op = 0) (hm : mayB t = true) : WF [t] := by
  refine ⟨?_, by simp [hm]⟩
  refine cnt_mk (m := 0) (by omega) ?_
  rw [show 0 + arN t.op = 0 by unfold arN; omega]
  rfl
theorem WF.un {t : Tm} {a : List Tm} (h : ar t.op = 1) (hm : mayB t = true) (ha : WF a) : WF (t :: a) := by
  refine ⟨?_, by rw [List.all_cons, hm, ha.2]; rfl⟩
  refine cnt_mk (m := a.length) (by omega) ?_
  rw [show 0 + arN t.op = 1 by unfold arN; omega]
  exact ha.1
theorem WF.bin {t : Tm} {a b : List Tm} (h : ar t.op = 2) (hm : mayB t = true) (ha : WF a) (hb : WF b) : WF (t :: (a ++ b)) := by
  refine ⟨?_, by rw [List.all_cons, hm, List.all_append, ha.2, hb.2]; rfl⟩
  refine cnt_mk (m := (a ++ b).length) (by omega) ?_
  rw [show 0 + arN t.op = 1 + 1 by unfold arN; omega, List.length_append]
  refine cnt_join (cnt_more b ha.1) ?_
  rw [List.drop_left]
  exact hb.1
theorem may_op {o : Int} (h1 : o ≠ 1) (h2 : o ≠ 2) (h11 : o ≠ 11) : mayB (opT o) = true := by
  show ((if o = 1 then _ else decide ((0 : Int) = 0)) && (if o = 2 ∨ o = 11 then _ else decide ((⟨#[]⟩ : ByteArray).size = 0))) = true
  rw [if_neg h1, if_neg (fun h => h.elim h2 h11)]
  rfl
theorem sg_may {s : Sg} (h : s ∈ sgs) : mayB (opT s.op) = true := by
  have : ∀ s ∈ sgs, s.op ≠ 1 ∧ s.op ≠ 2 ∧ s.op ≠ 11 := by decide
  obtain ⟨h1, h2, h3⟩ := this s h
  exact may_op h1 h2 h3
theorem getN_bd (l : List UInt8) : 0 ≤ ValSpec.getN l ∧ ValSpec.getN l ≤ 1000000 := by
  unfold ValSpec.getN
  split
  · rename_i h
    split
    · omega
    · exact ⟨ValSpec.says_nonneg l (ValSpec.isNum_all h), by omega⟩
  · omega
theorem numN_bd (c : Cur) (m : Int) : 0 ≤ numN c m ∧ numN c m ≤ 1000000 := by
  unfold numN
  split
  · exact getN_bd _
  · omega
theorem wf_all : ∀ f, (∀ c k, Fit f c → (S f c k).1.bad = 0 → WF (S f c k).2) ∧ (∀ lev k c x, Fit f c → WF x → (C f lev k c x).1.bad = 0 → WF (C f lev k c x).2)
  | 0 => ⟨fun c k h hb => absurd hb h.zero, fun lev k c x h _ hb => absurd hb h.zero⟩
  | f + 1 => by
    obtain ⟨ih1, ih2⟩ := wf_all f
    refine ⟨fun c k hf hb => ?_, fun lev k c x hf hx hb => ?_⟩
    · have h0 : c.bad = 0 := (S_less (f + 1) c k).2 hb
      have hs : ∀ d j, d.L.length < c.L.length → (S f d j).1.bad = 0 → WF (S f d j).2 := fun d j hd hb => ih1 d j (fun _ => by have := hf h0; omega) hb
      rw [S_good f k h0] at hb ⊢
      refine ih2 _ _ _ _ (hf.fitHd h0 k) ?_ hb
      have hg := ((len_all f).2 _ _ _ _).2 hb
      clear hb
      revert hg
      unfold hd
      split
      · rename_i hn
        have := isB_real hn.2 (by decide)
        exact fun hg => WF.un (by decide) (by decide) (hs _ _ (by omega) hg)
      split
      · rename_i hn
        have := isB_real hn (by decide)
        exact fun hg => WF.un (by decide) (by decide) (hs _ _ (by omega) hg)
      · have two_wf : ∀ o : Int, ar (opT o).op = 2 → mayB (opT o) = true → (on c).L.length < c.L.length → (two (S f) (on c) o).1.bad = 0 → WF (two (S f) (on c) o).2 := fun o ho hm hl hg => by
          unfold two at hg ⊢
          dsimp only at hg ⊢
          have g4 := (isB_next (want_good hg).1).1
          have g3 := (isB_next (want_good ((S_less f _ _).2 g4)).1).1
          have l1 := want_len (on c) 3 tOpen
          have l2 := (S_less f (want (on c) 3 tOpen) 1).1
          have l3 := want_len (S f (want (on c) 3 tOpen) 1).1 3 tComma
          exact WF.bin ho hm (hs _ _ (by omega) g3) (hs _ _ (by omega) g4)
        dsimp only
        unfold atom
        split
        · intro _
          refine WF.leaf rfl ?_
          have := numN_bd c 1000000
          unfold mayB
          dsimp only
          rw [if_pos rfl, if_neg (by decide), decide_eq_true this.1, decide_eq_true this.2]
          rfl
        split
        · exact fun _ => WF.leaf (by decide) (by decide)
        split
        · exact fun _ => WF.leaf (by decide) (by decide)
        split
        · intro hg
          refine WF.leaf rfl ?_
          have g1 := (isB_next (want_good hg).1).1
          have g2 := (nameC_good g1).1
          unfold mayB nameS
          rw [if_pos g2]
          dsimp only
          rw [if_neg (by decide), if_pos (by decide), (nameB_next g2).2.2]
          rfl
        split
        · rename_i hn
          have := isB_real hn (by decide)
          exact two_wf 7 (by decide) (by decide) (by omega)
        split
        · rename_i hn
          have := isB_real hn (by decide)
          exact two_wf 8 (by decide) (by decide) (by omega)
        split
        · rename_i hn
          have := isB_real hn (by decide)
          intro hg
          exact hs _ _ (by omega) (isB_next (want_good hg).1).1
        · intro hg
          refine WF.leaf rfl ?_
          have g2 := (nameC_good hg).1
          unfold mayB nameS
          rw [if_pos g2]
          dsimp only
          rw [if_neg (by decide), if_pos (by decide), (nameB_next g2).2.2]
          rfl
    · cases hs : sgn c lev k with
      | none => rw [C_stop _ x hs]; exact hx
      | some s =>
        rw [C_step f x hs] at hb ⊢
        have hm := (sgn_some hs).2.2.2.2
        refine ih2 _ _ _ _ (hf.fitStep hs _) ?_ hb
        exact WF.bin (sg_lev hm).2.2.2.2.2.2 (sg_may hm) hx (ih1 _ _ (hf.fitOn hs) (((len_all f).2 _ _ _ _).2 hb))
theorem S_wf {f : Nat} {c : Cur} {k : Int} (hf : Fit f c) (hb : (S f c k).1.bad = 0) : WF (S f c k).2 := (wf_all f).1 c k hf hb

/-- The whole of what is next: the terms; too many, too deep. -/
def readP (f : Nat) (c : Cur) : Pa :=
  let p := S f c 1
  if p.1.bad = 0 then (fail p.1 (chk p.2), if chk p.2 = 0 then p.2 else []) else (p.1, [])
theorem WF.chk_eq {x : List Tm} (h : WF x) : chk x = if 40 < x.length then 8 else if 12 < come depF x then 6 else 0 := by
  unfold chk
  by_cases h4 : 40 < x.length
  · rw [if_pos h4, if_pos h4]
  · have hw : wholeB x = true := wholeB_iff.2 ⟨by omega, h.1⟩
    rw [if_neg h4, if_neg h4, if_neg (by rw [hw]; decide), if_neg (by rw [h.2]; decide)]
    unfold depth tell
    rw [hw]
    rfl
end ExprSpec
end Go.Proofs.YtcfcpbkeedfbpaaGreatDoor

namespace Go.Proofs.YtcfcpbkeedfbpaaGreatDoor
namespace ExprSpec
open CurSpec TermSpec NamesSpec

inductive Ex where
  | leaf (t : Tm)
  | un (o : Int) (a : Ex)
  | bin (o : Int) (a b : Ex)
def flat : Ex → List Tm
  | .leaf t => [t]
  | .un o a => opT o :: flat a
  | .bin o a b => opT o :: (flat a ++ flat b)
def Good : Ex → Prop
  | .leaf t => ar t.op = 0 ∧ mayB t = true
  | .un o a => ar o = 1 ∧ Good a
  | .bin o a b => ar o = 2 ∧ Good a ∧ Good b
theorem may_plain {t : Tm} (h : mayB t = true) (h0 : 1 ≤ ar t.op) : t = opT t.op := by
  obtain ⟨o, n, s⟩ := t
  have h1 : o ≠ 1 ∧ o ≠ 2 ∧ o ≠ 11 := by
    refine ⟨?_, ?_, ?_⟩ <;> rintro rfl <;> exact absurd (show (1 : Int) ≤ 0 from h0) (by decide)
  unfold mayB at h
  dsimp only at h
  rw [if_neg h1.1, if_neg (fun h => h.elim h1.2.1 h1.2.2)] at h
  simp only [Bool.and_eq_true, decide_eq_true_eq] at h
  obtain ⟨rfl, hs⟩ := h
  have : s = ⟨#[]⟩ := by
    apply ByteArray.ext
    apply Array.eq_empty_of_size_eq_zero
    exact hs
  rw [this]
  rfl
theorem ex_all : ∀ (l : List Tm) (k m : Nat), cnt k l = some m → (l.take m).all mayB = true → ∃ es : List Ex, es.length = k ∧ es.flatMap flat = l.take m ∧ ∀ e ∈ es, Good e
  | l, 0, m, h, _ => by
    rw [cnt_zero] at h; cases h
    exact ⟨[], rfl, by simp, by simp⟩
  | [], k + 1, m, h, _ => by cases h
  | t :: r, k + 1, m, h, hm => by
    obtain ⟨h0, m', rfl, h'⟩ := cnt_step h
    rw [List.take_succ_cons, List.all_cons, Bool.and_eq_true] at hm
    obtain ⟨es, hl, hf, hg⟩ := ex_all r _ m' h' hm.2
    rw [List.take_succ_cons]
    have hb := (ar_bd t.op).2
    have e0 := arN_of h0
    rcases (show ar t.op = 0 ∨ ar t.op = 1 ∨ ar t.op = 2 by omega) with h1 | h1 | h1
    · refine ⟨.leaf t :: es, by rw [List.length_cons, hl]; omega, by rw [List.flatMap_cons, hf]; rfl, ?_⟩
      intro e he
      rcases List.mem_cons.1 he with rfl | he
      · exact ⟨h1, hm.1⟩
      · exact hg e he
    · match es, hl with
      | [], hl => simp at hl; omega
      | a :: es, hl =>
        refine ⟨.un t.op a :: es, by rw [List.length_cons] at hl ⊢; omega, ?_, ?_⟩
        · rw [List.flatMap_cons] at hf ⊢
          rw [← hf]
          show (opT t.op :: flat a) ++ _ = _
          rw [← may_plain hm.1 (by omega)]
          rfl
        · intro e he
          rcases List.mem_cons.1 he with rfl | he
          · exact ⟨h1, hg a (by simp)⟩
          · exact hg e (by simp [he])
    · match es, hl with
      | [], hl => simp at hl; omega
      | [a], hl => simp at hl; omega
      | a :: b :: es, hl =>
        refine ⟨.bin t.op a b :: es, by simp only [List.length_cons] at hl ⊢; omega, ?_, ?_⟩
        · rw [List.flatMap_cons, List.flatMap_cons] at hf
          rw [List.flatMap_cons, ← hf]
          show (opT t.op :: (flat a ++ flat b)) ++ _ = _
          rw [← may_plain hm.1 (by omega)]
          simp
        · intro e he
          rcases List.mem_cons.1 he with rfl | he
          · exact ⟨h1, hg a (by simp), hg b (by simp)⟩
          · exact hg e (by simp [he])
theorem ex_of {x : List Tm} (h : WF x) : ∃ e, flat e = x ∧ Good e := by
  obtain ⟨es, hl, hf, hg⟩ := ex_all x 1 x.length h.1 (by rw [List.take_of_length_le (Nat.le_refl _)]; exact h.2)
  rw [List.take_of_length_le (Nat.le_refl _)] at hf
  match es, hl with
  | [e], _ =>
    refine ⟨e, by simpa using hf, hg e (by simp)⟩
theorem flat_wf : ∀ {e : Ex}, Good e → WF (flat e)
  | .leaf t, h => WF.leaf h.1 h.2
  | .un o a, h => WF.un h.1 (may_op (by rintro rfl; exact absurd h.1 (by decide)) (by rintro rfl; exact absurd h.1 (by decide)) (by rintro rfl; exact absurd h.1 (by decide))) (flat_wf h.2)
  | .bin o a b, h => WF.bin h.1 (may_op (by rintro rfl; exact absurd h.1 (by decide)) (by rintro rfl; exact absurd h.1 (by decide)) (by rintro rfl; exact absurd h.1 (by decide))) (flat_wf h.2.1) (flat_wf h.2.2)

/-- The sign of what a term does. -/
def sgOf (o : Int) : Sg := (sgs.find? fun s => decide (s.op = o)).getD ⟨⟨#[]⟩, 0, 0, 0, 0⟩
def lev : Ex → Int
  | .leaf _ => 8
  | .un o _ => if o = 3 then 7 else 3
  | .bin o _ _ => if o = 7 ∨ o = 8 then 8 else (sgOf o).lev
abbrev Tx := Int × List UInt8
def bs (l : List UInt8) : ByteArray := ⟨l.toArray⟩
def lTrue : List UInt8 := [116, 114, 117, 101]
def lFalse : List UInt8 := [102, 97, 108, 115, 101]
def lIn : List UInt8 := [105, 110]
def lMin : List UInt8 := [109, 105, 110]
def lMax : List UInt8 := [109, 97, 120]
def lNot : List UInt8 := [110, 111, 116]
def twr (b : Prop) [Decidable b] (x : List Tx) : List Tx := if b then (3, [40]) :: (x ++ [(3, [41])]) else x
/-- The tokens of an expression. -/
def tk : Ex → List Tx
  | .leaf t => if t.op = 1 then [(2, ValSpec.text t.n)] else if t.op = 2 then [(1, t.s.data.toList)] else if t.op = 9 then [(1, lTrue)] else if t.op = 10 then [(1, lFalse)] else [(1, lIn), (3, [40]), (1, t.s.data.toList), (3, [41])]
  | .un o a => if o = 3 then (3, [45]) :: twr (lev a < 7) (tk a) else (1, lNot) :: twr (lev a < 3) (tk a)
  | .bin o a b => if o = 7 then (1, lMin) :: (3, [40]) :: (tk a ++ (3, [44]) :: (tk b ++ [(3, [41])]))
    else if o = 8 then (1, lMax) :: (3, [40]) :: (tk a ++ (3, [44]) :: (tk b ++ [(3, [41])]))
    else twr (lev a < (sgOf o).left) (tk a) ++ ((if (sgOf o).lev ≤ 2 then 1 else 3, (sgOf o).t.data.toList) :: twr (lev b < (sgOf o).right) (tk b))

/-- A sign that stands behind what is of a level does not go into it. -/
def Qu (lv : Int) (d : Cur) : Prop := ∀ s, sgn d 9 0 = some s → s.left ≤ lv
theorem Qu.mono {lv lv' : Int} {d : Cur} (h : Qu lv d) (hl : lv ≤ lv') : Qu lv' d := fun s hs => by have := h s hs; omega
theorem sgOf_mem {o : Int} (ho : ar o = 2) (h7 : ¬ (o = 7 ∨ o = 8)) : sgOf o ∈ sgs ∧ (sgOf o).op = o := by
  have h1 : o = 4 ∨ o = 5 ∨ o = 6 ∨ o = 13 ∨ o = 14 ∨ o = 15 ∨ o = 16 ∨ o = 17 ∨ o = 18 ∨ o = 19 ∨ o = 20 := by
    unfold ar at ho
    split at ho
    · omega
    split at ho
    · omega
    split at ho
    · omega
    · omega
  rcases h1 with rfl | rfl | rfl | rfl | rfl | rfl | rfl | rfl | rfl | rfl | rfl <;> exact ⟨by unfold sgOf sgs; simp, rfl⟩
end ExprSpec
end Go.Proofs.YtcfcpbkeedfbpaaGreatDoor

namespace Go.Proofs.YtcfcpbkeedfbpaaGreatDoor
namespace ExprSpec
open CurSpec TermSpec NamesSpec

theorem empty_of {s : ByteArray} (h : s.size = 0) : s = ⟨#[]⟩ := by
  apply ByteArray.ext
  apply Array.eq_empty_of_size_eq_zero
  exact h
theorem may_num {t : Tm} (h1 : t.op = 1) (hm : mayB t = true) : (0 ≤ t.n ∧ t.n ≤ 1000000) ∧ t = ⟨1, t.n, ⟨#[]⟩⟩ := by
  obtain ⟨o, n, s⟩ := t
  dsimp only at h1
  subst h1
  have hm' : (decide (0 ≤ n) && decide (n ≤ 1000000) && decide (s.size = 0)) = true := hm
  simp only [Bool.and_eq_true, decide_eq_true_eq] at hm'
  exact ⟨hm'.1, by rw [empty_of hm'.2]⟩
theorem may_name {t : Tm} (h2 : t.op = 2 ∨ t.op = 11) (hm : mayB t = true) : isName t.s.data.toList = true ∧ t = ⟨t.op, 0, t.s⟩ := by
  obtain ⟨o, n, s⟩ := t
  dsimp only at h2
  unfold mayB at hm
  dsimp only at hm
  rw [if_neg (by rcases h2 with rfl | rfl <;> decide), if_pos h2] at hm
  simp only [Bool.and_eq_true, decide_eq_true_eq] at hm
  exact ⟨hm.2, by rw [hm.1]⟩
theorem leaf_ops {o : Int} (h : ar o = 0) : o = 1 ∨ o = 2 ∨ o = 9 ∨ o = 10 ∨ o = 11 := by
  unfold ar at h
  split at h
  · assumption
  split at h
  · omega
  split at h
  · omega
  · omega
theorem bin_ops {o : Int} (_h : ar o = 2) : o = 7 ∨ o = 8 ∨ ¬ (o = 7 ∨ o = 8) := by omega
end ExprSpec
end Go.Proofs.YtcfcpbkeedfbpaaGreatDoor
