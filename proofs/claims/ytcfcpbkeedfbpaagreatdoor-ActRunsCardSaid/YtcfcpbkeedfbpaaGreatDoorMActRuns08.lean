/- ActCheck, ActRunSpec, ActRun, ExprSpec, ExprLevel, ExprTree, ExprReads, ExprInsert, ExprInsert2, CurAt, CurDead, CurRef, CurLive, CurRefTake, CurRefName, ValGet, CurRefNum, CurCalls, ExprRdr, ExprSigns, joined. -/
import Derived.Test.YtcfcpbkeedfbpaaGreatDoorMActRuns03
import Derived.Test.YtcfcpbkeedfbpaaGreatDoorMActRuns01
import Derived.Test.YtcfcpbkeedfbpaaGreatDoorMActRuns06
import Derived.Test.YtcfcpbkeedfbpaaGreatDoorMActRuns07
import Derived.Test.YtcfcpbkeedfbpaaGreatDoorMActRuns04
import Derived.Test.YtcfcpbkeedfbpaaGreatDoorMActRuns00
import Derived.Lib.Overlaps
import Derived.Lib.AppendZerosOnto
import Derived.Laws.CopyRow
import Derived.Shelf.Spec.SlicesInsert
import Derived.RegionTactic
import Derived.ChangeAlike
import Derived.Test.YtcfcpbkeedfbpaaGreatDoorMActRuns02
import Derived.Deep.RegionHeld3
import Derived.Lib.Hide
import Derived.Laws.Rows
import Derived.Deep.RegionLaw
namespace Go.Proofs.YtcfcpbkeedfbpaaGreatDoor
open Go.RowKit TermSpec EvalSpec ActSpec NamesSpec
set_option maxRecDepth 100000

set_option maxHeartbeats 1000000 in
theorem may_act (a : Ac) (A : Option Addr) (n c : Nat) (hs : SmallA a) (w : World) (h : Tms w (.slice A n c) a.x) :
    Calls Tryz.prog 30 #[.agg #[.string a.s, .bool a.any, .slice A n c]] w (RetI w (oneA a)) := by
  obtain ⟨A', n', c', heq, hn, hnc⟩ := h.shape
  cases heq
  have HIS := Lib.hid (fun w => is_any a.s w hs.1)
  have HC := Lib.hid (fun w h => check_any A n c a.x hn (by have := hs.2.2; omega) hs.2.1 w h)
  have HT := Lib.hid h
  obtain ⟨q, hq⟩ : ∃ q, q = isName a.s.data.toList := ⟨_, rfl⟩
  rw [← hq] at HIS
  obtain ⟨r, hr⟩ : ∃ r, r = oneA a := ⟨_, rfl⟩
  rw [← hr]
  rcases hb : q with _ | _
  · rw [hb] at HIS hq
    have HR := Lib.hid (hr.trans (oneA_name hq.symm))
    obtain ⟨s, any, x⟩ := a
    simp only at HIS HC HT hn ⊢
    clear hs h hq hr hb hn
    go_enter Tryz.func30, Tryz.ntmps30
    go_wp2_with (go_at_call 53; (with_reducible refine (HIS.out _).mono ?_))
    rintro e2 w2 ⟨rfl, hb2⟩
    obtain ⟨B2, hbb, _⟩ := KitC.one_block hb2
    have HB2 := Lib.hid hbb
    obtain ⟨c0, c1, c2⟩ := cells_3 B2
    clear hb2 hbb B2
    go_wp2_with fail
    go_ret
    exact ⟨ret_int HR.out.symm, HB2.out⟩
  · rw [hb] at HIS hq
    rcases ha : a.any with _ | _
    · have HR := Lib.hid (hr.trans (oneA_expr hq.symm ha))
      obtain ⟨s, any, x⟩ := a
      simp only at HIS HC HT HR hn ha ⊢
      subst ha
      obtain ⟨m, hm⟩ : ∃ m, m = chk x := ⟨_, rfl⟩
      rw [← hm] at HR HC
      clear hs h hq hr hb hn hm
      go_enter Tryz.func30, Tryz.ntmps30
      go_wp2_with (go_at_call 53; (with_reducible refine (HIS.out _).mono ?_))
      rintro e2 w2 ⟨rfl, hb2⟩
      obtain ⟨B2, hbb, _⟩ := KitC.one_block hb2
      have HB2 := Lib.hid hbb
      obtain ⟨c0, c1, c2⟩ := cells_3 B2
      clear hb2 hbb B2
      go_wp2_with (go_at_call 54; (with_reducible refine (HC.out _ (HT.out.keep HB2.out)).mono ?_))
      rintro e2 w3 ⟨rfl, hb3⟩
      have HB3 := Lib.hid (below_two' HB2.out hb3)
      clear hb3
      go_wp2_with fail
      go_ret
      exact ⟨ret_int HR.out.symm, HB3.out⟩
    · have HR0 := Lib.hid (hr.trans (oneA_any hq.symm ha))
      rw [← hn] at HR0
      obtain ⟨s, any, x⟩ := a
      simp only at HIS HC HT hn ha ⊢
      subst ha
      by_cases h0 : n = 0
      · have HR : Hid (r = 0) := Lib.hid (by rw [HR0.out, if_pos h0])
        have g : decide (0 < n) = false := by simp; omega
        have g2 : decide (0 < (n : Int)) = false := by simp; omega
        clear hs h hq hr hb hn h0 HR0
        go_enter Tryz.func30, Tryz.ntmps30
        go_wp2_with (go_at_call 53; (with_reducible refine (HIS.out _).mono ?_))
        rintro e2 w2 ⟨rfl, hb2⟩
        obtain ⟨B2, hbb, _⟩ := KitC.one_block hb2
        have HB2 := Lib.hid hbb
        obtain ⟨c0, c1, c2⟩ := cells_3 B2
        clear hb2 hbb B2
        go_wp2_with fail
        go_ret
        exact ⟨ret_int HR.out.symm, HB2.out⟩
      · have HR : Hid (r = 1) := Lib.hid (by rw [HR0.out, if_neg h0])
        have g : decide (0 < n) = true := by simp; omega
        have g2 : decide (0 < (n : Int)) = true := by simp; omega
        clear hs h hq hr hb hn h0 HR0
        go_enter Tryz.func30, Tryz.ntmps30
        go_wp2_with (go_at_call 53; (with_reducible refine (HIS.out _).mono ?_))
        rintro e2 w2 ⟨rfl, hb2⟩
        obtain ⟨B2, hbb, _⟩ := KitC.one_block hb2
        have HB2 := Lib.hid hbb
        obtain ⟨c0, c1, c2⟩ := cells_3 B2
        clear hb2 hbb B2
        go_wp2_with fail
        go_ret
        exact ⟨ret_int HR.out.symm, HB2.out⟩
def PChkRel (W : World) (l : List Ac) (n : Nat) (i : Value) (wr : World) : Prop := ∃ k : Nat, k ≤ n ∧ i = .int .i64 k ∧ firstA (l.take k) = 0 ∧ Below W.heap.size W wr
abbrev acO (a : Ac) (xA : Option Addr) (xn xc : Nat) : Obj := .cells #[.string a.s, .bool a.any, .slice xA xn xc] 66
set_option maxHeartbeats 1000000 in
theorem check_acts (A : Option Addr) (n c : Nat) (l : List Ac) (hs : ∀ a ∈ l, SmallA a) (hl : l.length ≤ 9223372036854775807) (w : World) (h : Acs w (.slice A n c) l) :
    Calls Tryz.prog 10 #[.slice A n c] w (RetI w (chkA l)) := by
  have hn := h.len.1
  have hcap := h.len.2
  have HN := Lib.hid hn
  have HT := Lib.hid h
  have HS := Lib.hid hs
  obtain ⟨r, hr⟩ : ∃ r, r = chkA l := ⟨_, rfl⟩
  rw [← hr]
  by_cases h8 : 8 < n
  · have HR : Hid (r = 8) := Lib.hid (by rw [hr]; unfold chkA; rw [if_pos (by omega)])
    have g : decide (8 < n) = true := by simp; omega
    have h8' : 8 < (n : Int) := by omega
    clear hn h hs hr hl
    go_enter Tryz.func10, Tryz.ntmps10
    go_wp2_with fail
    go_ret
    exact ⟨ret_int HR.out.symm, Below.refl _ _⟩
  · have HR : Hid (r = firstA l) := Lib.hid (by rw [hr]; unfold chkA; rw [if_neg (by omega)])
    have h8' : ¬ 8 < (n : Int) := by omega
    clear hn h hs hr hl
    go_enter Tryz.func10, Tryz.ntmps10
    go_wp2_with fail
    go_loopw [11] (fun i wr => PChkRel w l n i wr) (fun i _ => n - (intOf i).toNat)
    case atStart => exact ⟨0, Nat.zero_le _, rfl, rfl, Below.refl _ _⟩
    case round =>
      obtain ⟨k, hk, rfl, hall, hbw⟩ := hrel
      have HA := Lib.hid hall
      have HB := Lib.hid hbw
      clear hall hbw
      by_cases hlt : k < n
      · obtain ⟨a, ha⟩ : ∃ a, l[k]? = some a := get_some (by rw [← HN.out]; exact hlt)
        obtain ⟨b, off, xA, xn, xc, rfl, hb, htm, c0, c1, c2⟩ := (HT.out.keep HB.out).at_ ha
        have HC : Hid (Calls Tryz.prog 30 #[.agg #[.string a.s, .bool a.any, .slice xA xn xc]] (wr.alloc (acO a xA xn xc)) (RetI (wr.alloc (acO a xA xn xc)) (oneA a))) := Lib.hid (may_act a xA xn xc (HS.out a (List.mem_of_getElem? ha)) _ (htm.keep (KitC.below_one _ _)))
        have HNX := Lib.hid (fun h1 => firstA_next ha HA.out h1)
        have HST := Lib.hid (fun h1 => firstA_stop ha HA.out h1)
        obtain ⟨q, hq⟩ : ∃ q, q = oneA a := ⟨_, rfl⟩
        rw [← hq] at HC HNX HST
        have hkI : (k : Int) < n := by omega
        clear ha hq htm
        obtain ⟨s, any, x⟩ := a
        simp only at c0 c1 c2 HC
        by_cases hq0 : q = 0
        · have HNX' := Lib.hid (HNX.out hq0)
          have g : (q != 0) = false := by simp [hq0]
          clear HNX HST hq0
          go_wp2_with (go_at_call 30; (with_reducible refine HC.out.mono ?_))
          rintro e2 w2 ⟨rfl, hb2⟩
          have HB2 := Lib.hid (below_two' HB.out (below_two' (KitC.below_one _ _) hb2))
          clear hb2
          go_wp2_with fail
          go_roundw
          case rel => exact ⟨k + 1, by omega, by go_num, HNX'.out, HB2.out⟩
          case measure => simp [intOf]; omega
        · have HST' := Lib.hid (HST.out hq0)
          have g : (q != 0) = true := by simp [hq0]
          clear HNX HST hq0
          go_wp2_with (go_at_call 30; (with_reducible refine HC.out.mono ?_))
          rintro e2 w2 ⟨rfl, hb2⟩
          have HB2 := Lib.hid (below_two' HB.out (below_two' (KitC.below_one _ _) hb2))
          clear hb2
          go_wp2_with fail
          go_ret
          exact ⟨ret_int (by rw [HR.out, HST'.out]), HB2.out⟩
      · have HE : Hid (firstA l = 0) := Lib.hid (by
          have h1 := HN.out
          have h2 := HA.out
          rwa [List.take_of_length_le (by omega)] at h2)
        go_wp2_with fail
        go_ret
        exact ⟨ret_int (by rw [HR.out, HE.out]), HB.out⟩
end Go.Proofs.YtcfcpbkeedfbpaaGreatDoor

namespace Go.Proofs.YtcfcpbkeedfbpaaGreatDoor
namespace ActSpec
open TermSpec EvalSpec Go.Lib

theorem chkA_few {l : List Ac} (h : chkA l = 0) : l.length ≤ 8 := by
  unfold chkA at h
  split at h
  · cases h
  · omega
theorem stepA_bad {e : Ev} {a : Ac} {l : List V4} (h : badA e a ≠ 0) : stepA e a l = (badA e a, []) := by unfold stepA; rw [if_pos h]
theorem stepA_some {e : Ev} {a : Ac} {l : List V4} {i : Nat} {v : Vr} (h : badA e a = 0) (hv : varOf e a = some (i, v)) :
    stepA e a l = if 64 < (allV [] (l.flatMap (stepsA e a i v))).length then (12, []) else (0, allV [] (l.flatMap (stepsA e a i v))) := by
  unfold stepA
  rw [if_neg (by omega), hv]
/-- So much is left: from an act on, by these lists. -/
def LeftA (e : Ev) (l : List Ac) (k : Nat) (now : List V4) : Prop := runA e l [vals e] = runA e (l.drop k) now ∧ 0 < now.length ∧ now.length ≤ 64
theorem left_start (e : Ev) (l : List Ac) : LeftA e l 0 [vals e] := ⟨by rw [List.drop_zero], by simp, by simp⟩
theorem drop_ac {l : List Ac} {k : Nat} {a : Ac} (h : l[k]? = some a) : l.drop k = a :: l.drop (k + 1) := by
  obtain ⟨hk, he⟩ := List.getElem?_eq_some_iff.1 h
  rw [List.drop_eq_getElem_cons hk, he]
theorem steps_some (e : Ev) (a : Ac) (i : Nat) (v : Vr) (x : V4) (h : a.any = true → spanB v = true) : stepsA e a i v x ≠ [] := by
  unfold stepsA
  split
  · rename_i ha
    have := h ha
    unfold spanB at this
    simp only [Bool.and_eq_true, decide_eq_true_eq] at this
    intro hc
    have h2 := congrArg List.length hc
    rw [List.length_map, List.length_range] at h2
    simp at h2
    omega
  · simp
theorem bad_span {e : Ev} {a : Ac} {i : Nat} {v : Vr} (h : badA e a = 0) (hv : varOf e a = some (i, v)) : a.any = true → spanB v = true := by
  intro ha
  unfold badA at h
  rw [hv] at h
  simp only at h
  rw [if_pos ha] at h
  rcases hs : spanB v with _ | _
  · rw [hs] at h; simp at h
  · rfl
theorem bad_chk {e : Ev} {a : Ac} {i : Nat} {v : Vr} (h : badA e a = 0) (hv : varOf e a = some (i, v)) : a.any = false → chkE e a.x = 0 := by
  intro ha
  unfold badA at h
  rw [hv] at h
  simp only at h
  rw [if_neg (by simp [ha])] at h
  rcases Decidable.em (chkE e a.x = 0) with h0 | h0
  · exact h0
  · rw [if_pos h0] at h; exact absurd h h0
theorem bad_var {e : Ev} {a : Ac} (h : badA e a = 0) : ∃ i v, varOf e a = some (i, v) := by
  unfold badA at h
  rcases hv : varOf e a with _ | ⟨i, v⟩
  · rw [hv] at h; cases h
  · exact ⟨i, v, rfl⟩
theorem stepA_len {e : Ev} {a : Ac} {now : List V4} (h0 : 0 < now.length) (h : (stepA e a now).1 = 0) : 0 < (stepA e a now).2.length ∧ (stepA e a now).2.length ≤ 64 := by
  rcases Decidable.em (badA e a = 0) with hb | hb
  · obtain ⟨i, v, hv⟩ := bad_var hb
    rw [stepA_some hb hv] at h ⊢
    split at h
    · cases h
    · rename_i h64
      rw [if_neg h64]
      refine ⟨List.length_pos_iff.2 (allV_some fun hc => ?_), by simp only; omega⟩
      cases now with
      | nil => simp at h0
      | cons x r =>
        rw [List.flatMap_cons] at hc
        exact steps_some e a i v x (bad_span hb hv) (List.append_eq_nil_iff.1 hc).1
  · rw [stepA_bad hb] at h
    exact absurd h hb
theorem left_next {e : Ev} {l : List Ac} {k : Nat} {now : List V4} {a : Ac} (h : LeftA e l k now) (ha : l[k]? = some a) (h0 : (stepA e a now).1 = 0) : LeftA e l (k + 1) (stepA e a now).2 := by
  obtain ⟨h1, h2, _⟩ := h
  refine ⟨?_, stepA_len h2 h0⟩
  rw [h1, drop_ac ha]
  unfold runA
  rw [if_pos h0]
  rcases hd : l.drop (k + 1) with _ | ⟨b, r⟩
  · rfl
  · rfl
theorem left_stop {e : Ev} {l : List Ac} {k : Nat} {now : List V4} {a : Ac} (h : LeftA e l k now) (ha : l[k]? = some a) (h0 : (stepA e a now).1 ≠ 0) : runA e l [vals e] = ((stepA e a now).1, []) := by
  rw [h.1, drop_ac ha]
  unfold runA
  rw [if_neg h0]
theorem left_end {e : Ev} {l : List Ac} {k : Nat} {now : List V4} (h : LeftA e l k now) (hk : l.length ≤ k) : runA e l [vals e] = (0, now) := by
  rw [h.1, List.drop_of_length_le hk]
  rfl
theorem runA_few {e : Ev} : ∀ {l : List Ac} {now : List V4}, 0 < now.length → now.length ≤ 64 → (runA e l now).2.length ≤ 64
  | [], _, _, h => h
  | a :: r, now, h0, h => by
    unfold runA
    split
    · rename_i hs
      have := stepA_len h0 hs
      exact runA_few this.1 this.2
    · simp
theorem runE_few {e : Ev} {l : List Ac} {rc : Int} {xs : List V4} (h : (rc, xs) = runE e l) : xs.length ≤ 64 := by
  have h2 : xs = (runE e l).2 := by rw [← h]
  rw [h2]
  unfold runE
  split
  · simp
  · split
    · simp
    · exact runA_few (by simp) (by simp)
end ActSpec
end Go.Proofs.YtcfcpbkeedfbpaaGreatDoor

namespace Go.Proofs.YtcfcpbkeedfbpaaGreatDoor
open Go.RowKit Go.Sort TermSpec EvalSpec ActSpec NamesSpec Go.Lib
set_option maxRecDepth 100000

/-- Two numbers of an act: where its variable is, and why it comes to nothing. -/
theorem fits_any (p : EP) (e : Ev) (a : Ac) (A : Option Addr) (n c : Nat) (w : World) (he : EnvIn w p e) (hf : ∀ v ∈ e.vars, VFit v) (hs : SmallA a) (ht : Tms w (.slice A n c) a.x) :
    Calls Tryz.prog 43 #[.agg #[.string a.s, .bool a.any, .slice A n c], .int .i64 (idxOfS (vnames e) a.s), envV p e] w (RetI w (badA e a)) := by
  rcases hv : varOf e a with _ | ⟨i, v⟩
  · rw [varOf_none hv, badA_none hv]
    exact fits_none p e a A n c w
  · rw [(varOf_some hv).1]
    exact fits_some p e a i v A n c w he hv (hf v (List.mem_of_getElem? (varOf_lt hv))) hs ht
theorem do_all (p : EP) (e : Ev) (a : Ac) (A : Option Addr) (n c : Nat) (w : World) (he : EnvIn w p e) (h4 : e.vars.length ≤ 4) (hf : ∀ v ∈ e.vars, VFit v) (hs : SmallA a) (ht : Tms w (.slice A n c) a.x) (hb : badA e a = 0) (N : Value) (l : List V4) (hN : V4s w N l) (h0 : 0 < l.length) (h64 : l.length ≤ 64) :
    ∃ r, stepA e a l = (if 64 < r.length then (12, []) else (0, r)) ∧ Calls Tryz.prog 44 #[.agg #[.string a.s, .bool a.any, .slice A n c], .int .i64 (idxOfS (vnames e) a.s), envV p e, N] w (CompV4Post w w r) := by
  obtain ⟨i, v, hv⟩ := bad_var hb
  have hvi := varOf_lt hv
  refine ⟨_, stepA_some hb hv, ?_⟩
  rw [(varOf_some hv).1]
  exact do_any p e a i v A n c w he hs ht hv (by have := get_lt hvi; omega) (hf v (List.mem_of_getElem? hvi)) (bad_chk hb hv) (bad_span hb hv) N l hN h0 h64
/-- What the loop over the acts keeps. -/
def PRunRel (W : World) (w1 : World) (e : Ev) (l : List Ac) (now i : Value) (wr : World) : Prop := ∃ (k : Nat) (xs : List V4), k ≤ l.length ∧ i = .int .i64 k ∧ LeftA e l k xs ∧ V4s wr now xs ∧ Below w1.heap.size w1 wr ∧ Below W.heap.size W w1
abbrev acB (s : ByteArray) (any : Bool) (xA : Option Addr) (xn xc : Nat) : Obj := .cells #[.string s, .bool any, .slice xA xn xc] 66
set_option maxHeartbeats 8000000 in
theorem run_any (p : EP) (e : Ev) (A : Option Addr) (n c : Nat) (l : List Ac) (w : World) (he : EnvIn w p e) (hf : ∀ v ∈ e.vars, VFit v) (hs : ∀ a ∈ l, SmallA a) (hl : l.length ≤ 9223372036854775807) (h : Acs w (.slice A n c) l) :
    Calls Tryz.prog 22 #[.slice A n c, envV p e] w (RetVE w (runE e l)) := by
  have HT := Lib.hid h
  have HN := Lib.hid h.len.1
  have hcap := h.len.2
  have HE := Lib.hid he
  have HCK := Lib.hid (fun w h => check_acts A n c l hs hl w h)
  have HVA := Lib.hid (fun s w h => avariable_any p e s w h)
  have HFI := Lib.hid (fun (a : Ac) (ha : a ∈ l) (B : Option Addr) (m d : Nat) (w : World) he ht => fits_any p e a B m d w he hf (hs a ha) ht)
  have HDO := Lib.hid (fun (h4 : e.vars.length ≤ 4) (a : Ac) (ha : a ∈ l) (B : Option Addr) (m d : Nat) (N : Value) (w : World) he ht hb xs hN h0 hx => do_all p e a B m d w he h4 hf (hs a ha) ht hb N xs hN h0 hx)
  obtain ⟨R, hR⟩ : ∃ R, R = runE e l := ⟨_, rfl⟩
  rw [← hR]
  have HR4 : Hid (4 < e.vars.length → R = (1, [])) := Lib.hid (fun h => by rw [hR]; unfold runE; rw [if_pos h])
  have HRC : Hid (¬ 4 < e.vars.length → chkA l ≠ 0 → R = (chkA l, [])) := Lib.hid (fun h h2 => by rw [hR]; unfold runE; rw [if_neg h, if_pos h2])
  have HRR : Hid (¬ 4 < e.vars.length → chkA l = 0 → R = runA e l [vals e]) := Lib.hid (fun h h2 => by rw [hR]; unfold runE; rw [if_neg h, if_neg (by omega)])
  obtain ⟨q, hq⟩ : ∃ q, q = chkA l := ⟨_, rfl⟩
  rw [← hq] at HCK HRC HRR
  have HQ8 : Hid (q = 0 → l.length ≤ 8) := Lib.hid (fun h => chkA_few (hq.symm.trans h))
  obtain ⟨E, hE⟩ : ∃ E, E = e := ⟨_, rfl⟩
  rw [← hE] at HE HR4 HRC HRR
  obtain ⟨vA, vn, vc, iA, im, ic⟩ := p
  have HVN : Hid (vn = E.vars.length) := Lib.hid (HE.out.vars.1)
  obtain ⟨vars, v0, v1, v2, v3, ins⟩ := e
  have HV : Hid (vals E = ⟨v0, v1, v2, v3⟩) := Lib.hid (by rw [hE]; rfl)
  have HVA' : Hid (∀ s w, EnvIn w ⟨vA, vn, vc, iA, im, ic⟩ E → Calls Tryz.prog 42 #[.agg #[.slice vA vn vc, .int .i64 v0, .int .i64 v1, .int .i64 v2, .int .i64 v3, .slice iA im ic], .string s] w (RetI w (idxOfS (vnames E) s))) := Lib.hid (fun s w h => by
    rw [hE] at h ⊢
    exact HVA.out s w h)
  have HFI' : Hid (∀ a ∈ l, ∀ (B : Option Addr) (m d : Nat) (w : World), EnvIn w ⟨vA, vn, vc, iA, im, ic⟩ E → Tms w (.slice B m d) a.x → Calls Tryz.prog 43 #[.agg #[.string a.s, .bool a.any, .slice B m d], .int .i64 (idxOfS (vnames E) a.s), .agg #[.slice vA vn vc, .int .i64 v0, .int .i64 v1, .int .i64 v2, .int .i64 v3, .slice iA im ic]] w (RetI w (badA E a))) := Lib.hid (fun a ha B m d w he ht => by
    rw [hE] at he ⊢
    exact HFI.out a ha B m d w he ht)
  have HDO' : Hid (E.vars.length ≤ 4 → ∀ a ∈ l, badA E a = 0 → ∀ (B : Option Addr) (m d : Nat) (N : Value) (w : World), EnvIn w ⟨vA, vn, vc, iA, im, ic⟩ E → Tms w (.slice B m d) a.x → ∀ xs, V4s w N xs → 0 < xs.length → xs.length ≤ 64 → ∃ r, stepA E a xs = (if 64 < r.length then (12, []) else (0, r)) ∧ Calls Tryz.prog 44 #[.agg #[.string a.s, .bool a.any, .slice B m d], .int .i64 (idxOfS (vnames E) a.s), .agg #[.slice vA vn vc, .int .i64 v0, .int .i64 v1, .int .i64 v2, .int .i64 v3, .slice iA im ic], N] w (CompV4Post w w r)) := Lib.hid (fun h4 a ha hb B m d N w he ht xs hN h0 hx => by
    rw [hE] at he h4 hb ⊢
    exact HDO.out h4 a ha B m d N w he ht hb xs hN h0 hx)
  clear hE HVA HFI HDO he hf hs h hR hq hl
  change Calls _ _ #[_, .agg #[.slice vA vn vc, .int .i64 v0, .int .i64 v1, .int .i64 v2, .int .i64 v3, .slice iA im ic]] _ _
  have HB1 := Lib.hid (KitC.below_one w (.cells #[.slice vA vn vc, .int .i64 v0, .int .i64 v1, .int .i64 v2, .int .i64 v3, .slice iA im ic] 54))
  by_cases h4 : 4 < vn
  · have h4I : (4 : Int) < vn := by omega
    have HR : Hid (R = (1, [])) := Lib.hid (HR4.out (by rw [← HVN.out]; exact h4))
    go_enter Tryz.func22, Tryz.ntmps22
    go_wp2_with fail
    refine bodyPost_ret (v := .tuple #[.slice none 0 0, .int .i64 1]) (by simp [results, Tryz.results22, go_sem]) rfl ⟨_, by rw [HR.out], by rw [HR.out]; exact v4s_nil _, HB1.out⟩
  · have h4I : ¬ (4 : Int) < vn := by omega
    have H4 : Hid (¬ 4 < E.vars.length) := Lib.hid (by rw [← HVN.out]; exact h4)
    by_cases hq0 : q = 0
    · have g : (q != 0) = false := by simp [hq0]
      have HR : Hid (R = runA E l [vals E]) := Lib.hid (HRR.out H4.out hq0)
      have H8 := Lib.hid (HQ8.out hq0)
      clear HR4 HRC HRR hq0 HQ8
      go_enter Tryz.func22, Tryz.ntmps22
      go_wp2_with (go_at_call 10; (with_reducible refine (HCK.out _ (HT.out.keep HB1.out)).mono ?_))
      rintro e2 w2 ⟨rfl, hb2⟩
      obtain ⟨B1, hbb, _⟩ := KitC.one_block hb2
      obtain ⟨c0, c1, c2, c3, c4, c5⟩ := cells_6 B1
      obtain ⟨w3, hw3⟩ : ∃ w3, w2.alloc (.cells #[.int .i64 v0, .int .i64 v1, .int .i64 v2, .int .i64 v3] 51) = w3 := ⟨_, rfl⟩
      have HST : Hid (PRunRel w w3 E l (.slice (some ⟨w2.heap.size, 0, none⟩) 1 1) (.int .i64 0) w3) := Lib.hid (by
        refine ⟨0, [vals E], Nat.zero_le _, rfl, left_start E l, ?_, Below.refl _ _, by rw [← hw3]; exact below_two' hbb (KitC.below_one _ _)⟩
        rw [← hw3, HV.out]
        exact v4_lit rfl)
      have HK : Hid (w3.heap[w.heap.size]? = some (.cells #[.slice vA vn vc, .int .i64 v0, .int .i64 v1, .int .i64 v2, .int .i64 v3, .slice iA im ic] 54 (0, 0))) := Lib.hid (by rw [← hw3]; exact KitC.block_on B1 (KitC.below_one _ _))
      have HW3 := Lib.hid hw3
      clear hb2 hbb B1 hw3
      go_wp2_with fail
      rw [HW3.out]
      clear c0 c1 c2 c3 c4 c5 HW3
      go_loopw [7, 9, 10, 11, 26] (fun now _ _ _ i wr => PRunRel w w3 E l now i wr) (fun _ _ _ _ i _ => l.length - (Go.RowKit.intOf i).toNat)
      case atStart => exact HST.out
      case round =>
        obtain ⟨k, xs, hk, rfl, hleft, hxs, hbw, hb0⟩ := hrel
        obtain ⟨xA, xn, xc, rfl, hxn, hxc⟩ := hxs.shape
        have HL := Lib.hid hleft
        have HX := Lib.hid hxs
        have HBW2 := Lib.hid hbw
        have HB00 := Lib.hid hb0
        have HWB := Lib.hid (below_two' hb0 hbw)
        by_cases hlt : k < n
        · have hkI : (k : Int) < n := by omega
          have hk8 : (k : Int) ≤ 8 := by have := H8.out; omega
          obtain ⟨a, ha⟩ : ∃ a, l[k]? = some a := get_some (by have := HN.out; omega)
          obtain ⟨b, off, tA, tn, tc, rfl, hb, htm, d0, d1, d2⟩ := (HT.out.keep HWB.out).at_ ha
          obtain ⟨tA', tn', tc', heq, htn, htc⟩ := htm.shape
          cases heq
          have hbo := KitC.below_one wr (acB a.s a.any tA tn tc)
          have hact := heap_alloc_new wr (acB a.s a.any tA tn tc)
          have henv := KitC.block_on HK.out hbw
          have henv2 := KitC.block_on henv hbo
          obtain ⟨V, hV⟩ : ∃ V, wr.alloc (acB a.s a.any tA tn tc) = V := ⟨_, rfl⟩
          rw [hV] at hbo hact henv2
          obtain ⟨m0, m1, m2, m3, m4, m5⟩ := cells_6 henv
          have hsz := (Array.getElem?_eq_some_iff.1 henv).1
          have hszn : ¬ w.heap.size = wr.heap.size := Nat.ne_of_lt hsz
          have HEV := Lib.hid (HE.out.keep (below_two' HWB.out hbo))
          have HVV := Lib.hid (fun W (hW : Below V.heap.size V W) => HVA'.out a.s W (HEV.out.keep hW))
          have HFF := Lib.hid (fun W (hW : Below V.heap.size V W) => HFI'.out a (List.mem_of_getElem? ha) tA tn tc W (HEV.out.keep hW) ((htm.keep hbo).keep hW))
          have HDD := Lib.hid (fun (hb0 : badA E a = 0) W (hW : Below V.heap.size V W) => HDO'.out (by have := H4.out; omega) a (List.mem_of_getElem? ha) hb0 tA tn tc (.slice xA xn xc) W (HEV.out.keep hW) ((htm.keep hbo).keep hW) xs ((HX.out.keep hbo).keep hW) hleft.2.1 hleft.2.2)
          have HNX := Lib.hid (fun h0 => left_next hleft ha h0)
          have HSP := Lib.hid (fun h0 => left_stop hleft ha h0)
          have HBAD := Lib.hid (fun h0 => stepA_bad (e := E) (a := a) (l := xs) h0)
          have HBO := Lib.hid hbo
          have HACT := Lib.hid hact
          have HENV := Lib.hid henv2
          obtain ⟨r, hr⟩ : ∃ r, r = stepA E a xs := ⟨_, rfl⟩
          rw [← hr] at HDD HNX HSP HBAD
          have HVB := Lib.hid hV
          obtain ⟨at', hat⟩ : ∃ at', at' = idxOfS (vnames E) a.s := ⟨_, rfl⟩
          rw [← hat] at HVV HFF HDD
          obtain ⟨bd, hbd⟩ : ∃ bd, bd = badA E a := ⟨_, rfl⟩
          rw [← hbd] at HFF HDD HBAD
          clear ha htm htn hr hleft hxs hbw hb0 henv henv2 hxn HX HL hat hbd hbo hact hV
          obtain ⟨sa, aany, ax⟩ := a
          simp only at d0 d1 d2 HVV HFF HDD HACT HVB
          by_cases hbd0 : bd = 0
          · have g2 : (bd != 0) = false := by simp [hbd0]
            have HD := Lib.hid (HDD.out hbd0)
            clear HDD HBAD hbd0
            go_wp2_with (rw [HVB.out]; go_at_call 42; (with_reducible refine (HVV.out _ (Below.refl _ _)).mono ?_))
            rintro e2 w4 ⟨rfl, hb4⟩
            have HB4 := Lib.hid hb4
            obtain ⟨c0, c1, c2, c3, c4, c5⟩ := cells_6 (KitC.block_on HENV.out hb4)
            obtain ⟨a0, a1, a2⟩ := cells_3 (KitC.block_on HACT.out hb4)
            clear hb4
            go_wp2_with (go_at_call 43; (with_reducible refine (HFF.out _ HB4.out).mono ?_))
            rintro e2 w5 ⟨rfl, hb5⟩
            have HB5 := Lib.hid (below_two' HB4.out hb5)
            obtain ⟨c0, c1, c2, c3, c4, c5⟩ := cells_6 (KitC.block_on HENV.out HB5.out)
            obtain ⟨a0, a1, a2⟩ := cells_3 (KitC.block_on HACT.out HB5.out)
            clear hb5
            obtain ⟨rl, hrl, hcall⟩ := HD.out _ HB5.out
            have HCALL := Lib.hid hcall
            have HRL := Lib.hid hrl
            clear hcall hrl
            go_wp2_with (go_at_call 44; (with_reducible refine HCALL.out.mono ?_))
            rintro e2 w6 ⟨dv, rfl, hdv, hb6⟩
            have HB6 := Lib.hid (below_two' HB5.out hb6)
            have HDV := Lib.hid hdv
            obtain ⟨dA, dn, dc, rfl, hdn, hdc⟩ := hdv.shape
            have HDN := Lib.hid hdn
            clear hb6 hdv hdn
            by_cases h64 : 64 < dn
            · have h64I : (64 : Int) < dn := by omega
              have HRS : Hid (R = (12, [])) := Lib.hid (by
                have h1 := HRL.out
                rw [if_pos (by rw [← HDN.out]; exact h64)] at h1
                have h2 := HSP.out (by rw [h1]; decide)
                rw [HR.out, h2, h1])
              go_wp2_with fail
              refine bodyPost_ret (v := .tuple #[.slice none 0 0, .int .i64 12]) (by simp [results, Tryz.results22, go_sem]) rfl ⟨_, by rw [HRS.out], by rw [HRS.out]; exact v4s_nil _, below_two' (below_two' HWB.out HBO.out) HB6.out⟩
            · have h64I : ¬ (64 : Int) < dn := by omega
              have HN1 : Hid (LeftA E l (k + 1) rl) := Lib.hid (by
                have h1 := HRL.out
                rw [if_neg (by rw [← HDN.out]; exact h64)] at h1
                have h2 := HNX.out (by rw [h1])
                rw [h1] at h2
                exact h2)
              go_wp2_with fail
              go_roundw
              case rel => first | exact ⟨k + 1, rl, by have := HN.out; omega, by go_num, HN1.out, HDV.out, below_two' (below_two' HBW2.out HBO.out) HB6.out, HB00.out⟩ | ((repeat apply Exists.intro); exact ⟨⟨k + 1, rl, by have := HN.out; omega, by go_num, HN1.out, HDV.out, below_two' (below_two' HBW2.out HBO.out) HB6.out, HB00.out⟩, rfl⟩)
              case measure => have := HN.out; simp [Go.RowKit.intOf]; omega
          · have g2 : (bd != 0) = true := by simp [hbd0]
            have HRS : Hid (R = (bd, [])) := Lib.hid (by
              have h1 := HBAD.out hbd0
              have h2 := HSP.out (by rw [h1]; exact hbd0)
              rw [HR.out, h2, h1])
            clear HDD HBAD hbd0
            go_wp2_with (rw [HVB.out]; go_at_call 42; (with_reducible refine (HVV.out _ (Below.refl _ _)).mono ?_))
            rintro e2 w4 ⟨rfl, hb4⟩
            have HB4 := Lib.hid hb4
            obtain ⟨c0, c1, c2, c3, c4, c5⟩ := cells_6 (KitC.block_on HENV.out hb4)
            obtain ⟨a0, a1, a2⟩ := cells_3 (KitC.block_on HACT.out hb4)
            clear hb4
            go_wp2_with (go_at_call 43; (with_reducible refine (HFF.out _ HB4.out).mono ?_))
            rintro e2 w5 ⟨rfl, hb5⟩
            have HB5 := Lib.hid (below_two' HB4.out hb5)
            clear hb5
            go_wp2_with fail
            refine bodyPost_ret (v := .tuple #[.slice none 0 0, .int .i64 bd]) (by simp [results, Tryz.results22, go_sem]) rfl ⟨_, by rw [HRS.out], by rw [HRS.out]; exact v4s_nil _, below_two' (below_two' HWB.out HBO.out) HB5.out⟩
        · have hkI : ¬ (k : Int) < n := by omega
          have HS1 := Lib.hid (left_end hleft (by have := HN.out; omega))
          clear hleft hxs hbw hb0 hxn
          go_wp2_with fail
          refine bodyPost_ret (v := .tuple #[.slice xA xn xc, .int .i64 0]) (by simp [results, Tryz.results22, go_sem]) rfl ⟨_, by rw [HR.out, HS1.out], by rw [HR.out, HS1.out]; exact HX.out, HWB.out⟩
    · have g : (q != 0) = true := by simp [hq0]
      have HR : Hid (R = (q, [])) := Lib.hid (HRC.out H4.out hq0)
      clear HR4 HRC HRR hq0
      go_enter Tryz.func22, Tryz.ntmps22
      go_wp2_with (go_at_call 10; (with_reducible refine (HCK.out _ (HT.out.keep HB1.out)).mono ?_))
      rintro e2 w2 ⟨rfl, hb2⟩
      have HB2 := Lib.hid (below_two' HB1.out hb2)
      clear hb2
      go_wp2_with fail
      refine bodyPost_ret (v := .tuple #[.slice none 0 0, .int .i64 q]) (by simp [results, Tryz.results22, go_sem]) rfl ⟨_, by rw [HR.out], by rw [HR.out]; exact v4s_nil _, HB2.out⟩
end Go.Proofs.YtcfcpbkeedfbpaaGreatDoor

namespace Go.Proofs.YtcfcpbkeedfbpaaGreatDoor
namespace ExprSpec
open CurSpec TermSpec

/-- A sign between two: its text, what it does, its level, and of which levels those on its sides must be. -/
structure Sg where
  t : ByteArray
  op : Int
  lev : Int
  left : Int
  right : Int
def sgs : List Sg := [⟨⟨#[111, 114]⟩, 20, 1, 1, 2⟩, ⟨⟨#[97, 110, 100]⟩, 19, 2, 2, 3⟩, ⟨⟨#[61, 61]⟩, 13, 4, 5, 5⟩, ⟨⟨#[33, 61]⟩, 14, 4, 5, 5⟩, ⟨⟨#[60]⟩, 15, 4, 5, 5⟩, ⟨⟨#[60, 61]⟩, 16, 4, 5, 5⟩, ⟨⟨#[62]⟩, 17, 4, 5, 5⟩, ⟨⟨#[62, 61]⟩, 18, 4, 5, 5⟩, ⟨⟨#[43]⟩, 4, 5, 5, 6⟩, ⟨⟨#[45]⟩, 5, 5, 5, 6⟩, ⟨⟨#[42]⟩, 6, 6, 6, 7⟩]
def look (t : ByteArray) : Option Sg := sgs.find? fun s => decide (s.t = t)
def fits (lev k : Int) (s : Sg) : Bool := decide (s.left ≤ lev) && decide (k ≤ s.lev)
/-- The sign that is next, and may stand behind what is of a level, in a part of a level at least. -/
def sgn (c : Cur) (lev k : Int) : Option Sg := if (next c).k = 3 ∨ (next c).k = 1 then (look (next c).t).filter (fits lev k) else none

abbrev tNot : ByteArray := ⟨#[110, 111, 116]⟩
abbrev tNeg : ByteArray := ⟨#[45]⟩
abbrev tTrue : ByteArray := ⟨#[116, 114, 117, 101]⟩
abbrev tFalse : ByteArray := ⟨#[102, 97, 108, 115, 101]⟩
abbrev tIn : ByteArray := ⟨#[105, 110]⟩
abbrev tMin : ByteArray := ⟨#[109, 105, 110]⟩
abbrev tMax : ByteArray := ⟨#[109, 97, 120]⟩
abbrev tOpen : ByteArray := ⟨#[40]⟩
abbrev tClose : ByteArray := ⟨#[41]⟩
abbrev tComma : ByteArray := ⟨#[44]⟩

def opT (o : Int) : Tm := ⟨o, 0, ⟨#[]⟩⟩
abbrev Pa := Cur × List Tm
section
variable (rec : Cur → Int → Pa)
/-- What stands behind min or max. -/
def two (c : Cur) (o : Int) : Pa :=
  let p := rec (want c 3 tOpen) 1
  let q := rec (want p.1 3 tComma) 1
  (want q.1 3 tClose, opT o :: (p.2 ++ q.2))
def atom (c : Cur) : Pa :=
  if (next c).k = 2 then (numC c 1000000, [⟨1, numN c 1000000, ⟨#[]⟩⟩])
  else if isB c 1 tTrue then (on c, [opT 9])
  else if isB c 1 tFalse then (on c, [opT 10])
  else if isB c 1 tIn then (want (nameC (want (on c) 3 tOpen)) 3 tClose, [⟨11, 0, nameS (want (on c) 3 tOpen)⟩])
  else if isB c 1 tMin then two rec (on c) 7
  else if isB c 1 tMax then two rec (on c) 8
  else if isB c 3 tOpen then (want (rec (on c) 1).1 3 tClose, (rec (on c) 1).2)
  else (nameC c, [⟨2, 0, nameS c⟩])
/-- What stands ahead of all signs between two; its level. -/
def hd (c : Cur) (k : Int) : Pa × Int :=
  if k ≤ 3 ∧ isB c 1 tNot = true then (((rec (on c) 3).1, opT 12 :: (rec (on c) 3).2), 3)
  else if isB c 3 tNeg then (((rec (on c) 7).1, opT 3 :: (rec (on c) 7).2), 7)
  else (atom rec c, 8)
end
mutual
/-- The part of a level at least that is next. -/
def S : Nat → Cur → Int → Pa
  | 0, c, _ => (c, [])
  | f + 1, c, k => if c.bad ≠ 0 then (c, []) else
    let h := hd (S f) c k
    C f h.2 k h.1.1 h.1.2
/-- The part goes on behind what was read of it, that is of a level. -/
def C : Nat → Int → Int → Cur → List Tm → Pa
  | 0, _, _, c, x => (c, x)
  | f + 1, lev, k, c, x =>
    match sgn c lev k with
    | none => (c, x)
    | some s =>
      let p := S f (on c) s.right
      C f s.lev k p.1 (opT s.op :: (x ++ p.2))
end

def first (k : Int) : Int := if k = 4 then 5 else k
/-- The measure is enough. -/
def Fit (f : Nat) (c : Cur) : Prop := c.bad = 0 → c.L.length < f
theorem Fit.zero {c : Cur} (h : Fit 0 c) : c.bad ≠ 0 := fun h' => absurd (h h') (by omega)
end ExprSpec
end Go.Proofs.YtcfcpbkeedfbpaaGreatDoor

namespace Go.Proofs.YtcfcpbkeedfbpaaGreatDoor
namespace ExprSpec
open CurSpec TermSpec

/-- One expression, of terms that may be. -/
def WF (x : List Tm) : Prop := cnt 1 x = some x.length ∧ x.all mayB = true
theorem cnt_more : ∀ {l : List Tm} {k m : Nat} (r : List Tm), cnt k l = some m → cnt k (l ++ r) = some m
  | l, 0, m, r, h => by rw [cnt_zero] at h; cases h; rw [cnt_zero]
  | [], k + 1, m, r, h => by cases h
  | t :: l, k + 1, m, r, h => by
    obtain ⟨h0, m', rfl, h'⟩ := cnt_step h
    exact cnt_mk h0 (cnt_more r h')
theorem WF.leaf {t : Tm} (h : ar t.op = 0) (hm : mayB t = true) : WF [t] := by
  refine ⟨?_, by simp [hm]⟩
  refine cnt_mk (m := 0) (by omega) ?_
  rw [show 0 + arN t.op = 0 by unfold arN; omega]
  rfl
theorem WF.un {t : Tm} {a : List Tm} (h : ar t.op = 1) (hm : mayB t = true) (ha : WF a) : WF (t :: a) := by
  refine ⟨?_, by rw [List.all_cons, hm, ha.2]; rfl⟩
  refine cnt_mk (m := a.length) (by omega) ?_
  rw [show 0 + arN t.op = 1 by unfold arN; omega]
  exact ha.1
theorem WF.bin {t : Tm} {a b : List Tm} (h : ar t.op = 2) (hm : mayB t = true) (ha : WF a) (hb : WF b) : WF (t :: (a ++ b)) := by
  refine ⟨?_, by rw [List.all_cons, hm, List.all_append, ha.2, hb.2]; rfl⟩
  refine cnt_mk (m := (a ++ b).length) (by omega) ?_
  rw [show 0 + arN t.op = 1 + 1 by unfold arN; omega, List.length_append]
  refine cnt_join (cnt_more b ha.1) ?_
  rw [List.drop_left]
  exact hb.1
theorem may_op {o : Int} (h1 : o ≠ 1) (h2 : o ≠ 2) (h11 : o ≠ 11) : mayB (opT o) = true := by
  show ((if o = 1 then _ else decide ((0 : Int) = 0)) && (if o = 2 ∨ o = 11 then _ else decide ((⟨#[]⟩ : ByteArray).size = 0))) = true
  rw [if_neg h1, if_neg (fun h => h.elim h2 h11)]
  rfl
end ExprSpec
end Go.Proofs.YtcfcpbkeedfbpaaGreatDoor

namespace Go.Proofs.YtcfcpbkeedfbpaaGreatDoor
namespace ExprSpec
open CurSpec TermSpec NamesSpec

inductive Ex where
  | leaf (t : Tm)
  | un (o : Int) (a : Ex)
  | bin (o : Int) (a b : Ex)
def flat : Ex → List Tm
  | .leaf t => [t]
  | .un o a => opT o :: flat a
  | .bin o a b => opT o :: (flat a ++ flat b)
def Good : Ex → Prop
  | .leaf t => ar t.op = 0 ∧ mayB t = true
  | .un o a => ar o = 1 ∧ Good a
  | .bin o a b => ar o = 2 ∧ Good a ∧ Good b
theorem flat_wf : ∀ {e : Ex}, Good e → WF (flat e)
  | .leaf t, h => WF.leaf h.1 h.2
  | .un o a, h => WF.un h.1 (may_op (by rintro rfl; exact absurd h.1 (by decide)) (by rintro rfl; exact absurd h.1 (by decide)) (by rintro rfl; exact absurd h.1 (by decide))) (flat_wf h.2)
  | .bin o a b, h => WF.bin h.1 (may_op (by rintro rfl; exact absurd h.1 (by decide)) (by rintro rfl; exact absurd h.1 (by decide)) (by rintro rfl; exact absurd h.1 (by decide))) (flat_wf h.2.1) (flat_wf h.2.2)

/-- The sign of what a term does. -/
def sgOf (o : Int) : Sg := (sgs.find? fun s => decide (s.op = o)).getD ⟨⟨#[]⟩, 0, 0, 0, 0⟩
def lev : Ex → Int
  | .leaf _ => 8
  | .un o _ => if o = 3 then 7 else 3
  | .bin o _ _ => if o = 7 ∨ o = 8 then 8 else (sgOf o).lev
abbrev Tx := Int × List UInt8
def bs (l : List UInt8) : ByteArray := ⟨l.toArray⟩
def lTrue : List UInt8 := [116, 114, 117, 101]
def lFalse : List UInt8 := [102, 97, 108, 115, 101]
def lIn : List UInt8 := [105, 110]
def lMin : List UInt8 := [109, 105, 110]
def lMax : List UInt8 := [109, 97, 120]
def lNot : List UInt8 := [110, 111, 116]
def twr (b : Prop) [Decidable b] (x : List Tx) : List Tx := if b then (3, [40]) :: (x ++ [(3, [41])]) else x
/-- The tokens of an expression. -/
def tk : Ex → List Tx
  | .leaf t => if t.op = 1 then [(2, ValSpec.text t.n)] else if t.op = 2 then [(1, t.s.data.toList)] else if t.op = 9 then [(1, lTrue)] else if t.op = 10 then [(1, lFalse)] else [(1, lIn), (3, [40]), (1, t.s.data.toList), (3, [41])]
  | .un o a => if o = 3 then (3, [45]) :: twr (lev a < 7) (tk a) else (1, lNot) :: twr (lev a < 3) (tk a)
  | .bin o a b => if o = 7 then (1, lMin) :: (3, [40]) :: (tk a ++ (3, [44]) :: (tk b ++ [(3, [41])]))
    else if o = 8 then (1, lMax) :: (3, [40]) :: (tk a ++ (3, [44]) :: (tk b ++ [(3, [41])]))
    else twr (lev a < (sgOf o).left) (tk a) ++ ((if (sgOf o).lev ≤ 2 then 1 else 3, (sgOf o).t.data.toList) :: twr (lev b < (sgOf o).right) (tk b))

/-- A sign that stands behind what is of a level does not go into it. -/
def Qu (lv : Int) (d : Cur) : Prop := ∀ s, sgn d 9 0 = some s → s.left ≤ lv
theorem Qu.mono {lv lv' : Int} {d : Cur} (h : Qu lv d) (hl : lv ≤ lv') : Qu lv' d := fun s hs => by have := h s hs; omega
theorem sgOf_mem {o : Int} (ho : ar o = 2) (h7 : ¬ (o = 7 ∨ o = 8)) : sgOf o ∈ sgs ∧ (sgOf o).op = o := by
  have h1 : o = 4 ∨ o = 5 ∨ o = 6 ∨ o = 13 ∨ o = 14 ∨ o = 15 ∨ o = 16 ∨ o = 17 ∨ o = 18 ∨ o = 19 ∨ o = 20 := by
    unfold ar at ho
    split at ho
    · omega
    split at ho
    · omega
    split at ho
    · omega
    · omega
  rcases h1 with rfl | rfl | rfl | rfl | rfl | rfl | rfl | rfl | rfl | rfl | rfl <;> exact ⟨by unfold sgOf sgs; simp, rfl⟩
end ExprSpec
end Go.Proofs.YtcfcpbkeedfbpaaGreatDoor

namespace Go.Proofs.YtcfcpbkeedfbpaaGreatDoor
namespace ExprSpec
open CurSpec TermSpec NamesSpec

theorem empty_of {s : ByteArray} (h : s.size = 0) : s = ⟨#[]⟩ := by
  apply ByteArray.ext
  apply Array.eq_empty_of_size_eq_zero
  exact h
theorem may_num {t : Tm} (h1 : t.op = 1) (hm : mayB t = true) : (0 ≤ t.n ∧ t.n ≤ 1000000) ∧ t = ⟨1, t.n, ⟨#[]⟩⟩ := by
  obtain ⟨o, n, s⟩ := t
  dsimp only at h1
  subst h1
  have hm' : (decide (0 ≤ n) && decide (n ≤ 1000000) && decide (s.size = 0)) = true := hm
  simp only [Bool.and_eq_true, decide_eq_true_eq] at hm'
  exact ⟨hm'.1, by rw [empty_of hm'.2]⟩
theorem may_name {t : Tm} (h2 : t.op = 2 ∨ t.op = 11) (hm : mayB t = true) : isName t.s.data.toList = true ∧ t = ⟨t.op, 0, t.s⟩ := by
  obtain ⟨o, n, s⟩ := t
  dsimp only at h2
  unfold mayB at hm
  dsimp only at hm
  rw [if_neg (by rcases h2 with rfl | rfl <;> decide), if_pos h2] at hm
  simp only [Bool.and_eq_true, decide_eq_true_eq] at hm
  exact ⟨hm.2, by rw [hm.1]⟩
theorem leaf_ops {o : Int} (h : ar o = 0) : o = 1 ∨ o = 2 ∨ o = 9 ∨ o = 10 ∨ o = 11 := by
  unfold ar at h
  split at h
  · assumption
  split at h
  · omega
  split at h
  · omega
  · omega
theorem bin_ops {o : Int} (_h : ar o = 2) : o = 7 ∨ o = 8 ∨ ¬ (o = 7 ∨ o = 8) := by omega
end ExprSpec
end Go.Proofs.YtcfcpbkeedfbpaaGreatDoor

namespace Go.Proofs.YtcfcpbkeedfbpaaGreatDoor
open Go.RowKit TermSpec
set_option maxRecDepth 100000

end Go.Proofs.YtcfcpbkeedfbpaaGreatDoor

namespace Go.Proofs.YtcfcpbkeedfbpaaGreatDoor
open Go.RowKit TermSpec
set_option maxRecDepth 100000

end Go.Proofs.YtcfcpbkeedfbpaaGreatDoor

namespace Go.Proofs.YtcfcpbkeedfbpaaGreatDoor
open Go.RowKit CurSpec
set_option maxRecDepth 100000

theorem Toks.but {w w' : World} {b off n cp B : Nat} {l : List Tk} (h : Toks w (.slice (some ⟨b, off, none⟩) n cp) l) (hb : w.grownBy w' (some B)) (hne : b ≠ B) : Toks w' (.slice (some ⟨b, off, none⟩) n cp) l := by
  obtain ⟨m, hm, A, c, heq, hc, hl, hA⟩ := h
  cases heq
  refine ⟨n, hm, _, cp, rfl, hc, hl, fun h0 => ?_⟩
  obtain ⟨b', off', h1, hlt, hcell⟩ := hA h0
  cases h1
  refine ⟨b, off, rfl, Nat.lt_of_lt_of_le hlt hb.size, fun j u hj => ?_⟩
  rw [← hcell j u hj]
  have := hb.block b hlt (by simp; omega)
  simp [World.cell?, this]

/-- Block B holds a cursor: the tokens from the next one on, the end behind them; the fault's place and the fault. -/
def CurAt (w : World) (B : Nat) (c : Cur) : Prop :=
  ∃ b off n cp, w.heap[B]? = some (.cells #[.slice (some ⟨b, off, none⟩) (n + 1) cp, .int .i64 c.a1, .int .i64 c.a2, .int .i64 c.bad] 78 (0, 0)) ∧ b < B ∧ n = c.L.length ∧
    Toks w (.slice (some ⟨b, off, none⟩) (n + 1) cp) (full c.L c.w1 c.w2)
theorem CurAt.lt {w : World} {B : Nat} {c : Cur} (h : CurAt w B c) : B < w.heap.size := by
  obtain ⟨b, off, n, cp, h, _⟩ := h
  exact (Array.getElem?_eq_some_iff.1 h).1
theorem CurAt.keep {w w' : World} {B : Nat} {c : Cur} (h : CurAt w B c) (hb : Below w.heap.size w w') : CurAt w' B c := by
  obtain ⟨b, off, n, cp, h, hne, hn, hT⟩ := h
  exact ⟨b, off, n, cp, block_on h hb, hne, hn, hT.keep hb⟩
theorem CurAt.but {w w' : World} {B B2 : Nat} {c : Cur} (h : CurAt w B c) (hb : w.grownBy w' (some B2)) (hlt : B < B2) : CurAt w' B c := by
  obtain ⟨b, off, n, cp, h, hne, hn, hT⟩ := h
  exact ⟨b, off, n, cp, (hb.block _ (Array.getElem?_eq_some_iff.1 h).1 (by simp; omega)).trans h, hne, hn, hT.but hb (by omega)⟩
theorem CurAt.drew {w : World} {B : Nat} {c : Cur} (h : CurAt w B c) : CurAt w.drew B c := h
theorem CurAt.alloc {w : World} {B : Nat} {c : Cur} (h : CurAt w B c) (o : Obj) : CurAt (w.alloc o) B c := h.keep ((Below.refl _ _).alloc (Nat.le_refl _) _)

/-- What a cursor's fault is: of nobody's it is ErrState at 0, 0. -/
def Fl (w : World) (p : Value) (a1 a2 e : Int) : Prop :=
  (p = .pointer none ∧ a1 = 0 ∧ a2 = 0 ∧ e = 10) ∨
  (∃ B, p = .pointer (some ⟨B, 0, none⟩) ∧ w.heap[B]? = some (.cells #[.slice none 0 0, .int .i64 0, .int .i64 0, .int .i64 0] 78 (0, 0)) ∧ a1 = 0 ∧ a2 = 0 ∧ e = 10) ∨
  (∃ B c, p = .pointer (some ⟨B, 0, none⟩) ∧ CurAt w B c ∧ a1 = c.a1 ∧ a2 = c.a2 ∧ e = c.bad)
theorem Fl.keep {w w' : World} {p : Value} {a1 a2 e : Int} (h : Fl w p a1 a2 e) (hb : Below w.heap.size w w') : Fl w' p a1 a2 e := by
  rcases h with h | ⟨B, hp, h, h'⟩ | ⟨B, c, hp, h, h'⟩
  · exact .inl h
  · exact .inr (.inl ⟨B, hp, block_on h hb, h'⟩)
  · exact .inr (.inr ⟨B, c, hp, h.keep hb, h'⟩)
theorem Fl.of {w : World} {B : Nat} {c : Cur} (h : CurAt w B c) : Fl w (.pointer (some ⟨B, 0, none⟩)) c.a1 c.a2 c.bad := .inr (.inr ⟨B, c, rfl, h, rfl, rfl, rfl⟩)

end Go.Proofs.YtcfcpbkeedfbpaaGreatDoor

namespace Go.Proofs.YtcfcpbkeedfbpaaGreatDoor
open Go.RowKit CurSpec
set_option maxRecDepth 100000

section
variable (p : Value) (a1 a2 er : Int) (hne : er ≠ 0) (w : World) (h : Fl w p a1 a2 er)
include hne h
end
end Go.Proofs.YtcfcpbkeedfbpaaGreatDoor

namespace Go.Proofs.YtcfcpbkeedfbpaaGreatDoor
open Go.RowKit CurSpec
set_option maxRecDepth 100000

end Go.Proofs.YtcfcpbkeedfbpaaGreatDoor

namespace Go.Proofs.YtcfcpbkeedfbpaaGreatDoor
open Go.RowKit CurSpec
set_option maxRecDepth 100000

theorem full_next {c : Cur} (h : c.bad = 0) : ∃ r, full c.L c.w1 c.w2 = next c :: r ∧ (0 < c.L.length → r = full (on c).L (on c).w1 (on c).w2) := by
  obtain ⟨L, w1, w2, a1, a2, bad⟩ := c
  obtain rfl : bad = 0 := h
  cases L with
  | nil => exact ⟨[], rfl, fun h => absurd h (by simp)⟩
  | cons t r => exact ⟨_, rfl, fun _ => rfl⟩
/-- The block of a cursor, and where its next token lies. -/
theorem CurAt.open {w : World} {B : Nat} {c : Cur} (h : CurAt w B c) (h0 : c.bad = 0) :
    ∃ b off n cp, w.heap[B]? = some (.cells #[.slice (some ⟨b, off, none⟩) (n + 1) cp, .int .i64 c.a1, .int .i64 c.a2, .int .i64 c.bad] 78 (0, 0)) ∧ b ≠ B ∧ n = c.L.length ∧ n + 1 ≤ cp ∧ b < w.heap.size ∧
      w.cell? ⟨b, off, none⟩ = some (.int .i64 (next c).k) ∧ w.cell? ⟨b, off + 1, none⟩ = some (.string (next c).t) ∧ w.cell? ⟨b, off + 2, none⟩ = some (.int .i64 (next c).l) ∧ w.cell? ⟨b, off + 3, none⟩ = some (.int .i64 (next c).c) := by
  obtain ⟨b, off, n, cp, hB, hne, hn, hT⟩ := h
  obtain ⟨r, hr, _⟩ := full_next h0
  rw [hr] at hT
  obtain ⟨b', off', m, hA, hm, hc, hlt, c0, c1, c2, c3, _⟩ := hT.cons'
  cases hA; cases hm
  exact ⟨b, off, n, cp, hB, Nat.ne_of_lt hne, hn, hc, hlt, c0, c1, c2, c3⟩

theorem CurAt.fault {w : World} {B : Nat} {c : Cur} (h : CurAt w B c) (l cc er : Int) :
    CurAt (((w.setCell ⟨B, 1, none⟩ (.int .i64 l)).setCell ⟨B, 2, none⟩ (.int .i64 cc)).setCell ⟨B, 3, none⟩ (.int .i64 er)) B ⟨c.L, c.w1, c.w2, l, cc, er⟩ := by
  obtain ⟨b, off, n, cp, hBl, hne, hn, hT⟩ := h
  refine ⟨b, off, n, cp, ?_, hne, hn, hT.but (but_set (but_set (but_set (but_refl _ _) 1 _) 2 _) 3 _) (Nat.ne_of_lt hne)⟩
  exact block_setCell' (block_setCell' (block_setCell' hBl 1 (.int .i64 l)) 2 (.int .i64 cc)) 3 (.int .i64 er)

end Go.Proofs.YtcfcpbkeedfbpaaGreatDoor

namespace Go.Proofs.YtcfcpbkeedfbpaaGreatDoor
open Go.RowKit CurSpec
set_option maxRecDepth 100000

end Go.Proofs.YtcfcpbkeedfbpaaGreatDoor

namespace Go.Proofs.YtcfcpbkeedfbpaaGreatDoor
open Go.RowKit CurSpec NamesSpec
set_option maxRecDepth 100000

end Go.Proofs.YtcfcpbkeedfbpaaGreatDoor

namespace Go.Proofs.YtcfcpbkeedfbpaaGreatDoor
open Go.RowKit ValSpec
set_option maxRecDepth 100000

end Go.Proofs.YtcfcpbkeedfbpaaGreatDoor

namespace Go.Proofs.YtcfcpbkeedfbpaaGreatDoor
open Go.RowKit CurSpec ValSpec
set_option maxRecDepth 100000

end Go.Proofs.YtcfcpbkeedfbpaaGreatDoor

namespace Go.Proofs.YtcfcpbkeedfbpaaGreatDoor
open Go.RowKit CurSpec NamesSpec ValSpec
set_option maxRecDepth 100000

end Go.Proofs.YtcfcpbkeedfbpaaGreatDoor

namespace Go.Proofs.YtcfcpbkeedfbpaaGreatDoor
open Go.RowKit CurSpec TermSpec ExprSpec
set_option maxRecDepth 100000

/-- The reader in block R: the cursor in block B, the terms in a row of its own. -/
structure RdAt (w : World) (R B : Nat) (v : Value) (c : Cur) (l : List Tm) : Prop where
  cur : CurAt w B c
  blk : w.heap[R]? = some (.cells #[.pointer (some ⟨B, 0, none⟩), v] 147 (0, 0))
  own : w.ownsRow (R + 1) 68 3 v l.length (tmsV l)
  lt : B < R
  few : l.length ≤ 41
  small : Small l
/-- What a call leaves: nothing is changed but the cursor, the reader, and the row; new blocks may have come. -/
structure Hold (R B : Nat) (v v' : Value) (w w' : World) : Prop where
  os : w'.os = w.os
  tape : w'.tape = w.tape
  output : w'.output = w.output
  size : w.heap.size ≤ w'.heap.size
  block : ∀ i, i < w.heap.size → i ≠ B → i ≠ R → v.ownBlock ≠ some i → w'.heap[i]? = w.heap[i]?
  row : v'.ownBlock = v.ownBlock ∨ ∀ j, v'.ownBlock = some j → w.heap.size ≤ j
theorem Hold.refl (R B : Nat) (v : Value) (w : World) : Hold R B v v w w := ⟨rfl, rfl, rfl, Nat.le_refl _, fun _ _ _ _ _ => rfl, .inl rfl⟩
theorem Hold.trans {R B : Nat} {v v' v2 : Value} {w w' w2 : World} (h : Hold R B v v' w w') (k : Hold R B v' v2 w' w2) : Hold R B v v2 w w2 := by
  refine ⟨k.os.trans h.os, k.tape.trans h.tape, k.output.trans h.output, Nat.le_trans h.size k.size, fun i hi h1 h2 h3 => ?_, ?_⟩
  · refine (k.block i (Nat.lt_of_lt_of_le hi h.size) h1 h2 ?_).trans (h.block i hi h1 h2 h3)
    rcases h.row with hr | hr
    · rw [hr]; exact h3
    · intro e; have := hr i e; omega
  · rcases k.row with hk | hk
    · rcases h.row with hr | hr
      · exact .inl (hk.trans hr)
      · exact .inr (fun j hj => hr j (by rw [← hk]; exact hj))
    · exact .inr (fun j hj => Nat.le_trans h.size (hk j hj))
theorem RdAt.lt' {w : World} {R B : Nat} {v : Value} {c : Cur} {l : List Tm} (h : RdAt w R B v c l) : R < w.heap.size := (Array.getElem?_eq_some_iff.1 h.blk).1
theorem RdAt.keep {w w' : World} {R B : Nat} {v : Value} {c : Cur} {l : List Tm} (h : RdAt w R B v c l) (hb : Below w.heap.size w w') : RdAt w' R B v c l :=
  ⟨h.cur.keep hb, block_on h.blk hb, own_keep h.own hb, h.lt, h.few, h.small⟩
theorem RdAt.but {w w' : World} {R B : Nat} {v : Value} {c c' : Cur} {l : List Tm} (h : RdAt w R B v c l) (hb : w.grownBy w' (some B)) (hc : CurAt w' B c') : RdAt w' R B v c' l :=
  ⟨hc, (hb.block R h.lt' (by have := h.lt; simp; omega)).trans h.blk, own_but h.own hb (by have := h.lt; omega), h.lt, h.few, h.small⟩
theorem RdAt.alloc {w : World} {R B : Nat} {v : Value} {c : Cur} {l : List Tm} (h : RdAt w R B v c l) (o : Obj) : RdAt (w.alloc o) R B v c l := h.keep ((Below.refl _ _).alloc (Nat.le_refl _) _)
theorem RdAt.drew {w : World} {R B : Nat} {v : Value} {c : Cur} {l : List Tm} (h : RdAt w R B v c l) : RdAt w.drew R B v c l := ⟨h.cur.drew, h.blk, h.own, h.lt, h.few, h.small⟩

/-- A term put in, where there is room for one more. -/
def ins (l : List Tm) (i : Nat) (t : Tm) : List Tm := if l.length ≤ 40 then l.take i ++ t :: l.drop i else l
end Go.Proofs.YtcfcpbkeedfbpaaGreatDoor

namespace Go.Proofs.YtcfcpbkeedfbpaaGreatDoor
open Go.RowKit CurSpec TermSpec ExprSpec
set_option maxRecDepth 100000

def sgC (s : Sg) : List Value := [.string s.t, .int .i64 s.op, .int .i64 s.lev, .int .i64 s.left, .int .i64 s.right]
abbrev sgA (s : Sg) : Value := .agg #[.string s.t, .int .i64 s.op, .int .i64 s.lev, .int .i64 s.left, .int .i64 s.right]
def sgZ : Sg := ⟨⟨#[]⟩, 0, 0, 0, 0⟩
def signsV : Array Value := (sgs.flatMap sgC).toArray
def SignsIn (w : World) : Prop := ∃ T fr, w.heap[1]? = some (.cells signsV T fr)
theorem SignsIn.pos {w : World} (h : SignsIn w) : 1 < w.heap.size := by
  obtain ⟨T, fr, h⟩ := h
  exact (Array.getElem?_eq_some_iff.1 h).1
theorem SignsIn.of {w w' : World} (h : SignsIn w) (hb : w'.heap[1]? = w.heap[1]?) : SignsIn w' := by
  obtain ⟨T, fr, h⟩ := h
  exact ⟨T, fr, hb.trans h⟩
theorem SignsIn.keep {w w' : World} (h : SignsIn w) (hb : Below w.heap.size w w') : SignsIn w' := h.of (hb.block _ h.pos)
theorem SignsIn.alloc {w : World} (h : SignsIn w) (o : Obj) : SignsIn (w.alloc o) := h.keep ((Below.refl _ _).alloc (Nat.le_refl _) _)

theorem signs_size : (Tryz.prog.info? 197).map (·.size) = some signsV.size := by kernel_rfl
theorem signs_index : ∀ (j : Nat) (s : Sg), sgs[j]? = some s → ∀ w, (Instr.index 197 (.agg signsV) (.int .i64 j)).run Tryz.prog w = .ok (sgA s) w
  | 0, s, h, w => by cases h; kernel_rfl
  | 1, s, h, w => by cases h; kernel_rfl
  | 2, s, h, w => by cases h; kernel_rfl
  | 3, s, h, w => by cases h; kernel_rfl
  | 4, s, h, w => by cases h; kernel_rfl
  | 5, s, h, w => by cases h; kernel_rfl
  | 6, s, h, w => by cases h; kernel_rfl
  | 7, s, h, w => by cases h; kernel_rfl
  | 8, s, h, w => by cases h; kernel_rfl
  | 9, s, h, w => by cases h; kernel_rfl
  | 10, s, h, w => by cases h; kernel_rfl
  | j + 11, s, h, w => by cases h
theorem sgs_len : sgs.length = 11 := rfl

theorem cells_5 {w : World} {b : Nat} {T : TypeId} {x0 x1 x2 x3 x4 : Value} (h : w.heap[b]? = some (.cells #[x0, x1, x2, x3, x4] T (0, 0))) : w.cell? ⟨b, 0, none⟩ = some x0 ∧ w.cell? ⟨b, 1, none⟩ = some x1 ∧ w.cell? ⟨b, 2, none⟩ = some x2 ∧ w.cell? ⟨b, 3, none⟩ = some x3 ∧ w.cell? ⟨b, 4, none⟩ = some x4 :=
  ⟨cell_of_block' h (i := 0) rfl, cell_of_block' h (i := 1) rfl, cell_of_block' h (i := 2) rfl, cell_of_block' h (i := 3) rfl, cell_of_block' h (i := 4) rfl⟩
theorem free_5 {w : World} {b : Nat} {T : TypeId} {cs : Array Value} (h : w.heap[b]? = some (.cells cs T (0, 0))) : w.frozen? ⟨b, 0, none⟩ = false ∧ w.frozen? ⟨b, 1, none⟩ = false ∧ w.frozen? ⟨b, 2, none⟩ = false ∧ w.frozen? ⟨b, 3, none⟩ = false ∧ w.frozen? ⟨b, 4, none⟩ = false :=
  ⟨free_of_block' h 0, free_of_block' h 1, free_of_block' h 2, free_of_block' h 3, free_of_block' h 4⟩
theorem store_five {w : World} {b : Nat} (h : Blk w b 5) (u0 u1 u2 u3 u4 : Value) :
    (w.setCell ⟨b, 0, none⟩ u0).cell? ⟨b, 0, none⟩ = some u0 ∧ ((w.setCell ⟨b, 0, none⟩ u0).setCell ⟨b, 1, none⟩ u1).cell? ⟨b, 1, none⟩ = some u1 ∧
    (((w.setCell ⟨b, 0, none⟩ u0).setCell ⟨b, 1, none⟩ u1).setCell ⟨b, 2, none⟩ u2).cell? ⟨b, 2, none⟩ = some u2 ∧
    ((((w.setCell ⟨b, 0, none⟩ u0).setCell ⟨b, 1, none⟩ u1).setCell ⟨b, 2, none⟩ u2).setCell ⟨b, 3, none⟩ u3).cell? ⟨b, 3, none⟩ = some u3 ∧
    (((((w.setCell ⟨b, 0, none⟩ u0).setCell ⟨b, 1, none⟩ u1).setCell ⟨b, 2, none⟩ u2).setCell ⟨b, 3, none⟩ u3).setCell ⟨b, 4, none⟩ u4).cell? ⟨b, 4, none⟩ = some u4 :=
  ⟨h.read 0 (by omega) _, (h.set _ _).read 1 (by omega) _, ((h.set _ _).set _ _).read 2 (by omega) _, (((h.set _ _).set _ _).set _ _).read 3 (by omega) _, ((((h.set _ _).set _ _).set _ _).set _ _).read 4 (by omega) _⟩
theorem below_5 {B : Nat} {w x : World} {b : Nat} (h : Below B w x) (hb : B ≤ b) (u0 u1 u2 u3 u4 : Value) :
    Below B w (((((x.setCell ⟨b, 0, none⟩ u0).setCell ⟨b, 1, none⟩ u1).setCell ⟨b, 2, none⟩ u2).setCell ⟨b, 3, none⟩ u3).setCell ⟨b, 4, none⟩ u4) :=
  ((((h.setCell hb _).setCell hb _).setCell hb _).setCell hb _).setCell hb _

def SgRel (W : World) (o : Int) (i : Value) (wr : World) : Prop := ∃ j : Nat, j ≤ 11 ∧ i = .int .i64 j ∧ (∀ y ∈ sgs.take j, y.op ≠ o) ∧ Below W.heap.size W wr
/-- The sign of a term. -/
def opSg (o : Int) : Sg := (sgs.find? fun s => decide (s.op = o)).getD sgZ
theorem opSg_hit {o : Int} {j : Nat} {s : Sg} (hs : sgs[j]? = some s) (h : ∀ y ∈ sgs.take j, y.op ≠ o) (he : s.op = o) : opSg o = s := by
  have hl := (List.getElem?_eq_some_iff.1 hs).1
  have e : sgs = sgs.take j ++ s :: sgs.drop (j + 1) := by
    have h2 : sgs.drop j = s :: sgs.drop (j + 1) := by rw [List.drop_eq_getElem_cons hl]; congr 1; exact (List.getElem?_eq_some_iff.1 hs).2
    rw [← h2, List.take_append_drop]
  unfold opSg
  rw [e, List.find?_append]
  have : (sgs.take j).find? (fun s => decide (s.op = o)) = none := by
    rw [List.find?_eq_none]
    intro y hy
    simpa using h y hy
  rw [this]
  simp [he]
theorem opSg_none {o : Int} (h : ∀ y ∈ sgs.take 11, y.op ≠ o) : opSg o = sgZ := by
  unfold opSg
  have : sgs.find? (fun s => decide (s.op = o)) = none := by
    rw [List.find?_eq_none]
    intro y hy
    have : sgs.take 11 = sgs := rfl
    rw [this] at h
    simpa using h y hy
  rw [this]
  rfl
def RetSign (W : World) (s : Sg) (e : Ending) (w' : World) : Prop := e = .returned (sgA s) ∧ Below W.heap.size W w'
abbrev sgO (s : Sg) : Obj := .cells #[.string s.t, .int .i64 s.op, .int .i64 s.lev, .int .i64 s.left, .int .i64 s.right] 163
theorem sg_below' {w wr : World} {o : Obj} (h : Below (w.alloc o).heap.size (w.alloc o) wr) : Below w.heap.size w wr :=
  ((Below.refl _ _).alloc (Nat.le_refl _) _).trans (h.mono (by simp))
theorem sg_below {w wr : World} {o : Obj} (h : Below (w.alloc o).heap.size (w.alloc o) wr) (p : Obj) : Below w.heap.size w (wr.alloc p) :=
  (sg_below' h).alloc (sg_below' h).size _
theorem sg_next {o : Int} {j : Nat} {s : Sg} (h : ∀ y ∈ sgs.take j, y.op ≠ o) (hs : sgs[j]? = some s) (hne : s.op ≠ o) : ∀ y ∈ sgs.take (j + 1), y.op ≠ o := by
  intro y hy
  rw [take_next hs, List.mem_append, List.mem_singleton] at hy
  rcases hy with hy | rfl
  · exact h y hy
  · exact hne
set_option maxHeartbeats 4000000 in
theorem signOf_any (o : Int) (w : World) (hs : SignsIn w) : Calls Tryz.prog 124 #[.int .i64 o] w (RetSign w (opSg o)) := by
  have hi := signs_size
  have hix := signs_index
  obtain ⟨SV, hSV⟩ : ∃ SV, SV = signsV := ⟨_, rfl⟩
  unfold SignsIn at hs
  rw [← hSV] at hi hix hs
  obtain ⟨T, fr, hg0⟩ := hs
  have hg := (heap_alloc_old w (.cells #[.string ⟨#[]⟩, .int .i64 0, .int .i64 0, .int .i64 0, .int .i64 0] 163) (Array.getElem?_eq_some_iff.1 hg0).1).trans hg0
  have HIX := Lib.hid hix
  clear hix hSV hg0
  have k0 := heap_alloc_new w (.cells #[.string ⟨#[]⟩, .int .i64 0, .int .i64 0, .int .i64 0, .int .i64 0] 163)
  have HK0 := Lib.hid k0
  clear k0
  go_enter Tryz.func124, Tryz.ntmps124
  go_wp2_with (refine wpList_load_row rfl 197 _ rfl 1 rfl T SV fr _ hg Tryz.underlying197 rfl hi ?_)
  clear hg hi
  go_loopw [4, 6] (fun _ i wr => SgRel (w.alloc (.cells #[.string ⟨#[]⟩, .int .i64 0, .int .i64 0, .int .i64 0, .int .i64 0] 163)) o i wr) (fun _ i _ => 11 - (intOf i).toNat)
  case atStart => exact ⟨0, by omega, rfl, by simp, Below.refl _ _⟩
  case round =>
    obtain ⟨j, hj, rfl, hno, hbw⟩ := hrel
    have HN := Lib.hid hno
    have HB := Lib.hid hbw
    have hz := hbw.size
    rw [World.size_alloc] at hz
    have hlt0 : w.heap.size < wr.heap.size := by omega
    have k0 := block_on HK0.out hbw
    have HK := Lib.hid k0
    have HZ := Lib.hid hlt0
    clear hno hbw k0 hz
    by_cases hlt : j < 11
    · obtain ⟨s, hs⟩ : ∃ s, sgs[j]? = some s := get_some (by rw [sgs_len]; exact hlt)
      have hx := HIX.out j s hs
      have HS := Lib.hid hs
      have k1 := (heap_alloc_old wr (sgO s) hlt0).trans HK.out
      have HK1 := Lib.hid (blk_of k1 (n := 5) rfl)
      clear hs hlt0
      by_cases ho : s.op = o
      · have e1 : (s.op == o) = true := by simpa using ho
        have HO := Lib.hid (opSg_hit HS.out HN.out ho)
        obtain ⟨f0, f1, f2, f3, f4⟩ := free_5 k1
        obtain ⟨d0, d1, d2, d3, d4⟩ := cells_5 k1
        clear ho k1
        go_wp2_with fail
        obtain ⟨q0, q1, q2, q3, q4⟩ := store_five HK1.out (.string s.t) (.int .i64 s.op) (.int .i64 s.lev) (.int .i64 s.left) (.int .i64 s.right)
        refine bodyPost_ret (v := sgA s) (by simp [results, Tryz.results124, go_sem, q0, q1, q2, q3, q4]) rfl ?_
        rw [HO.out]
        exact ⟨rfl, below_5 (sg_below HB.out (sgO s)) (Nat.le_refl _) _ _ _ _ _⟩
      · have e1 : (s.op == o) = false := by simpa using ho
        have HO := Lib.hid ho
        clear ho k1
        go_wp2_with fail
        go_roundw
        case rel => exact ⟨j + 1, hlt, by simp, sg_next HN.out HS.out HO.out, HB.out.alloc HB.out.size _⟩
        case measure => simp [intOf]; omega
    · obtain rfl : j = 11 := by omega
      have HO := Lib.hid (opSg_none HN.out)
      obtain ⟨f0, f1, f2, f3, f4⟩ := free_5 HK.out
      obtain ⟨d0, d1, d2, d3, d4⟩ := cells_5 HK.out
      have HK1 := Lib.hid (blk_of HK.out (n := 5) rfl)
      go_wp2_with fail
      obtain ⟨q0, q1, q2, q3, q4⟩ := store_five HK1.out (.string ⟨#[]⟩) (.int .i64 0) (.int .i64 0) (.int .i64 0) (.int .i64 0)
      refine bodyPost_ret (v := sgA sgZ) (by simp [results, Tryz.results124, go_sem, q0, q1, q2, q3, q4, sgZ]) rfl ?_
      rw [HO.out]
      exact ⟨rfl, below_5 (sg_below' HB.out) (Nat.le_refl _) _ _ _ _ _⟩
end Go.Proofs.YtcfcpbkeedfbpaaGreatDoor
