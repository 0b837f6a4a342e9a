/- ActFits, RangeSeq, QuietRound, EvalBack, EvalAtMem, EvalAt, EvalHolds, ActRefWith, joined. -/
import Derived.Test.YtcfcpbkeedfbpaaGreatDoorMActReads03
import Derived.RangeFuncBox
import Derived.RangeFuncNested
import Derived.RangeFuncBound
import Derived.RangeFuncCalls
import Derived.RangeFuncLeaves
import Derived.Shelf.RegionOpen
import Derived.Test.YtcfcpbkeedfbpaaGreatDoorMActReads01
import Derived.Sort.QuietIn
import Derived.TacticsIn
import Derived.Lib.QuietBelowIn
import Derived.Shelf.Abstract
import Derived.WalkKit
import Derived.OwnWalkIn
import Derived.TacticsInMore
import Derived.LoopNIn
import Derived.LoopIn
import Derived.Test.YtcfcpbkeedfbpaaGreatDoorMActReads00
import Derived.Test.YtcfcpbkeedfbpaaGreatDoorMActReads02
import Derived.Laws.StructEq
import Derived.DeepKeys
namespace Go.Proofs.YtcfcpbkeedfbpaaGreatDoor
open Go.RowKit TermSpec EvalSpec ActSpec NamesSpec Go.Lib
set_option maxRecDepth 100000

set_option maxHeartbeats 400000 in
theorem aisVar_any (B : Nat) (x s : ByteArray) (lo hi ini : Int) (w : World) (hB : B < w.heap.size) (hc : w.cell? ⟨B, 0, none⟩ = some (.string s)) :
    Calls Tryz.prog 73 #[.agg #[.string x, .int .i64 lo, .int .i64 hi, .int .i64 ini], .pointer (some ⟨B, 0, none⟩)] w (RetB w (x.toList == s.toList)) := by
  have hc' : ∀ o, (w.alloc o).cell? ⟨B, 0, none⟩ = some (.string s) := fun o => (((Below.refl _ w).alloc (Nat.le_refl _) o).cell (p := ⟨B, 0, none⟩) hB).trans hc
  go_enter Tryz.func73, Tryz.ntmps73
  go_wp2
  go_ret
  exact ⟨rfl, (Below.refl _ _).alloc (Nat.le_refl _) _⟩

def AVarRel (W : World) (e : Ev) (s : ByteArray) (n : Nat) (i : Value) (wr : World) : Prop := ∃ k : Nat, k ≤ n ∧ i = .int .i64 k ∧ s ∉ (vnames e).take k ∧ Below W.heap.size W wr
set_option maxHeartbeats 1000000 in
theorem aindexFunc_any (B : Nat) (A : Option Addr) (n c : Nat) (e : Ev) (s : ByteArray) (w : World) (h : VarsIn w A n c e.vars) (hn63 : n ≤ 9223372036854775807) (hB : B < w.heap.size) (hc : w.cell? ⟨B, 0, none⟩ = some (.string s)) :
    Calls Tryz.prog 72 #[.slice A n c, .func (.func 73) #[] #[.pointer (some ⟨B, 0, none⟩)]] w (RetI w (idxOfS (vnames e) s)) := by
  have HV := Lib.hid h
  have HN := Lib.hid h.1
  have HC := Lib.hid hc
  have hcap := h.cap
  clear h hc
  go_enter Tryz.func72, Tryz.ntmps72
  go_wp2
  go_loopw [8] (fun i wr => AVarRel w e s n i wr) (fun i _ => n - (RowKit.intOf i).toNat)
  case atStart => exact ⟨0, Nat.zero_le _, rfl, by simp, Below.refl _ _⟩
  case round =>
    obtain ⟨k, hk, rfl, hno, hbw⟩ := hrel
    have HBW := Lib.hid hbw
    have HO := Lib.hid hno
    clear hno
    by_cases hlt : k < n
    · obtain ⟨v, hv⟩ : ∃ v, e.vars[k]? = some v := get_some (by have := HN.out; omega)
      obtain ⟨b, off, rfl, hb, c0, c1, c2, c3⟩ := (HV.out.keep hbw).at_ hv
      have HX := Lib.hid (vnames_get hv)
      have HCALL := Lib.hid (aisVar_any B v.s s v.lo v.hi v.ini wr (Nat.lt_of_lt_of_le hB hbw.size) ((hbw.cell (p := ⟨B, 0, none⟩) hB).trans HC.out))
      clear hv hbw
      obtain ⟨x, lo, hi, ini⟩ := v
      simp only at c0 c1 c2 c3 HX HCALL
      rcases hxs : (x.toList == s.toList) with _ | _
      · rw [hxs] at HCALL
        go_wp2_with (go_at_call 73; (with_reducible refine HCALL.out.mono ?_))
        rintro e2 w3 ⟨rfl, hb3⟩
        have HB3 := Lib.hid (below_two' HBW.out hb3)
        clear hb3
        go_wp2_with fail
        go_roundw
        case rel =>
          refine ⟨k + 1, by omega, by go_num, ?_, HB3.out⟩
          rw [take_next HX.out, List.mem_append, List.mem_singleton]
          rintro (h1 | h1)
          · exact HO.out h1
          · exact bytes_ne hxs h1.symm
        case measure => simp [RowKit.intOf]; omega
      · rw [hxs] at HCALL
        go_wp2_with (go_at_call 73; (with_reducible refine HCALL.out.mono ?_))
        rintro e2 w3 ⟨rfl, hb3⟩
        have HB3 := Lib.hid (below_two' HBW.out hb3)
        clear hb3
        go_wp2_with fail
        go_ret
        exact ⟨ret_int (by rw [← bytes_eq hxs] at HO ⊢; exact (place_hit HX.out HO.out).symm), HB3.out⟩
    · have HE : Hid (idxOfS (vnames e) s = -1) := Lib.hid (by
        have h1 := HN.out
        have h2 := HO.out
        have h3 : (vnames e).length ≤ k := by rw [vnames_length]; omega
        rw [List.take_of_length_le h3] at h2
        exact place_miss h2)
      clear hbw
      go_wp2_with fail
      go_ret
      exact ⟨ret_int HE.out.symm, HBW.out⟩

set_option maxHeartbeats 400000 in
theorem avariable_any (p : EP) (e : Ev) (s : ByteArray) (w : World) (h : EnvIn w p e) : Calls Tryz.prog 42 #[envV p e, .string s] w (RetI w (idxOfS (vnames e) s)) := by
  have hv := h.vars
  have hbd : p.vn ≤ 9223372036854775807 := by have := h.vbd; have := hv.1; omega
  obtain ⟨vA, vn, vc, iA, im, ic⟩ := p
  obtain ⟨r, hr⟩ : ∃ r, r = idxOfS (vnames e) s := ⟨_, rfl⟩
  have HIF := Lib.hid (fun B w h => aindexFunc_any B vA vn vc e s w h hbd)
  rw [← hr] at HIF ⊢
  have HV := Lib.hid hv
  obtain ⟨vars, v0, v1, v2, v3, ins⟩ := e
  change Calls _ _ #[.agg #[.slice vA vn vc, .int .i64 v0, .int .i64 v1, .int .i64 v2, .int .i64 v3, .slice iA im ic], .string s] _ _
  clear h hv hbd hr
  go_enter Tryz.func42, Tryz.ntmps42
  go_wp2_with (go_at_call 72; (with_reducible refine (HIF.out _ _ (HV.out.keep (((Below.refl _ _).alloc (Nat.le_refl _) _).alloc (by simp) _)) ?_ ?_).mono ?_))
  rintro e2 w3 ⟨rfl, hb3⟩
  go_wp2_with fail
  go_ret
  exact ⟨rfl, below_two' (KitC.below_pair _ _ _) hb3⟩


set_option maxHeartbeats 1000000 in
theorem span_any (v : Vr) (hf : VFit v) (w : World) : Calls Tryz.prog 74 #[.agg #[.string v.s, .int .i64 v.lo, .int .i64 v.hi, .int .i64 v.ini]] w (RetI w (if spanB v then 0 else 1)) := by
  obtain ⟨r, hr⟩ : ∃ r : Int, r = if spanB v then 0 else 1 := ⟨_, rfl⟩
  rw [← hr]
  have HR := Lib.hid hr
  obtain ⟨vs, lo, hi, ini⟩ := v
  obtain ⟨f1, f2, f3, f4⟩ := hf
  simp only at f1 f2 f3 f4 ⊢
  clear hr
  by_cases hlo : hi < lo
  · have HE : Hid (r = 1) := Lib.hid (by rw [HR.out, if_neg (by unfold spanB; simp; omega)])
    clear f1 f2 f3 f4
    go_enter Tryz.func74, Tryz.ntmps74
    go_wp2_with fail
    go_ret
    exact ⟨ret_int HE.out.symm, KitC.below_one _ _⟩
  · have hwr := u64_span f1 f4 (by omega : lo ≤ hi)
    by_cases hw : 64 ≤ hi - lo
    · have HE : Hid (r = 1) := Lib.hid (by rw [HR.out, if_neg (by unfold spanB; simp; omega)])
      have g : decide (64 ≤ IntKind.u64.wrap (IntKind.u64.wrap hi - IntKind.u64.wrap lo)) = true := by rw [hwr]; simp; omega
      clear f1 f2 f3 f4 hwr hw
      go_enter Tryz.func74, Tryz.ntmps74
      go_wp2_with fail
      go_ret
      exact ⟨ret_int HE.out.symm, KitC.below_one _ _⟩
    · have HE : Hid (r = 0) := Lib.hid (by rw [HR.out, if_pos (by unfold spanB; simp; omega)])
      have g : decide (64 ≤ IntKind.u64.wrap (IntKind.u64.wrap hi - IntKind.u64.wrap lo)) = false := by rw [hwr]; simp; omega
      clear f1 f2 f3 f4 hwr hw
      go_enter Tryz.func74, Tryz.ntmps74
      go_wp2_with fail
      go_ret
      exact ⟨ret_int HE.out.symm, KitC.below_one _ _⟩
set_option maxHeartbeats 1000000 in
theorem fits_none (p : EP) (e : Ev) (a : Ac) (A : Option Addr) (n c : Nat) (w : World) : Calls Tryz.prog 43 #[.agg #[.string a.s, .bool a.any, .slice A n c], .int .i64 (-1), envV p e] w (RetI w 7) := by
  obtain ⟨s, any, x⟩ := a
  obtain ⟨vA, vn, vc, iA, im, ic⟩ := p
  obtain ⟨vars, v0, v1, v2, v3, ins⟩ := e
  change Calls _ _ #[_, _, .agg #[.slice vA vn vc, .int .i64 v0, .int .i64 v1, .int .i64 v2, .int .i64 v3, .slice iA im ic]] _ _
  simp only
  go_enter Tryz.func43, Tryz.ntmps43
  go_wp2_with fail
  go_ret
  exact ⟨rfl, KitC.below_pair _ _ _⟩
set_option maxHeartbeats 2000000 in
theorem fits_some (p : EP) (e : Ev) (a : Ac) (i : Nat) (v : Vr) (A : Option Addr) (n c : Nat) (w : World) (he : EnvIn w p e) (hv : varOf e a = some (i, v)) (hf : VFit v) (hs : SmallA a) (ht : Tms w (.slice A n c) a.x) :
    Calls Tryz.prog 43 #[.agg #[.string a.s, .bool a.any, .slice A n c], .int .i64 i, envV p e] w (RetI w (badA e a)) := by
  obtain ⟨A', n', c', heq, hn, hnc⟩ := ht.shape
  cases heq
  have HT := Lib.hid ht
  have HCK := Lib.hid (fun w h h' => echeck_any p e A n c a.x hn (by have := hs.2.2; omega) hs.2.1 w h h')
  have HTY := Lib.hid (fun w h => typ_any A n c a.x hn (by have := hs.2.2; omega) w h)
  have HB1 := Lib.hid (fun ha h => badA_chk hv ha h)
  have HB0 := Lib.hid (fun ha h => badA_typ hv ha h)
  have HBA := Lib.hid (fun ha => badA_any hv ha)
  have HSP := Lib.hid (fun w => span_any v hf w)
  obtain ⟨r, hr⟩ : ∃ r, r = badA e a := ⟨_, rfl⟩
  rw [← hr] at HB1 HB0 HBA ⊢
  obtain ⟨q, hq⟩ : ∃ q, q = chkE e a.x := ⟨_, rfl⟩
  rw [← hq] at HCK HB1 HB0
  obtain ⟨t, ht2⟩ : ∃ t, t = typ a.x := ⟨_, rfl⟩
  rw [← ht2] at HTY HB0
  obtain ⟨z, hz⟩ : ∃ z : Int, z = if spanB v then 0 else 1 := ⟨_, rfl⟩
  rw [← hz] at HSP HBA
  have hvi := varOf_lt hv
  have HE := Lib.hid he
  have HVI := Lib.hid hvi
  have hin := get_lt hvi
  obtain ⟨s, any, x⟩ := a
  simp only at HT HCK HTY HB1 HB0 HBA hn ⊢
  obtain ⟨E, hE⟩ : ∃ E, E = e := ⟨_, rfl⟩
  rw [← hE] at HE HVI hin
  obtain ⟨vA, vn, vc, iA, im, ic⟩ := p
  have HVN : Hid (vn = E.vars.length) := Lib.hid (HE.out.vars.1)
  have hcap := HE.out.vars.cap
  simp only at hcap
  obtain ⟨vars, v0, v1, v2, v3, ins⟩ := e
  have HCK' : Hid (∀ w, Tms w (.slice A n c) x → EnvIn w ⟨vA, vn, vc, iA, im, ic⟩ E → Calls Tryz.prog 75 #[.slice A n c, .agg #[.slice vA vn vc, .int .i64 v0, .int .i64 v1, .int .i64 v2, .int .i64 v3, .slice iA im ic]] w (RetI w q)) := Lib.hid (fun w h h' => by rw [hE] at h'; exact HCK.out w h h')
  clear hE HCK hv he hvi hs ht hn hnc ht2 hr hq hz hf
  change Calls _ _ #[_, _, .agg #[.slice vA vn vc, .int .i64 v0, .int .i64 v1, .int .i64 v2, .int .i64 v3, .slice iA im ic]] _ _
  have hiI : ¬ (i : Int) < 0 := by omega
  have hin' : (i : Int) < vn := by have := HVN.out; omega
  have hbp := KitC.below_pair w (.cells #[.string s, .bool any, .slice A n c] 66) (.cells #[.slice vA vn vc, .int .i64 v0, .int .i64 v1, .int .i64 v2, .int .i64 v3, .slice iA im ic] 54)
  have HBP := Lib.hid hbp
  rcases hany : any with _ | _
  · have H1 := Lib.hid (HB1.out hany)
    have H0 := Lib.hid (HB0.out hany)
    subst hany
    clear HBA HSP HB1 HB0
    by_cases hq0 : q = 0
    · have HR0 := Lib.hid (H0.out hq0)
      have g : (q != 0) = false := by simp [hq0]
      clear H1 H0
      by_cases ht1 : t = 1
      · have HR : Hid (r = 0) := Lib.hid (by rw [HR0.out, if_pos ht1])
        have g2 : (t != 1) = false := by simp [ht1]
        clear HR0 ht1 hq0
        go_enter Tryz.func43, Tryz.ntmps43
        go_wp2_with (go_at_call 75; (with_reducible refine (HCK'.out _ (HT.out.keep HBP.out) (HE.out.keep HBP.out)).mono ?_))
        rintro e2 w2 ⟨rfl, hb2⟩
        obtain ⟨B1, B2, hbb, _⟩ := KitC.pair_blocks hb2
        have HB2 := Lib.hid hbb
        obtain ⟨c0, c1, c2⟩ := cells_3 B1
        clear hb2 hbb B2 B1 hbp
        go_wp2_with (go_at_call 76; (with_reducible refine (HTY.out _ (HT.out.keep HB2.out)).mono ?_))
        rintro e2 w3 ⟨rfl, hb3⟩
        have HB3 := Lib.hid (below_two' HB2.out hb3)
        clear hb3
        go_wp2_with fail
        go_ret
        exact ⟨ret_int HR.out.symm, HB3.out⟩
      · have HR : Hid (r = 4) := Lib.hid (by rw [HR0.out, if_neg ht1])
        have g2 : (t != 1) = true := by simp [ht1]
        clear HR0 ht1 hq0
        go_enter Tryz.func43, Tryz.ntmps43
        go_wp2_with (go_at_call 75; (with_reducible refine (HCK'.out _ (HT.out.keep HBP.out) (HE.out.keep HBP.out)).mono ?_))
        rintro e2 w2 ⟨rfl, hb2⟩
        obtain ⟨B1, B2, hbb, _⟩ := KitC.pair_blocks hb2
        have HB2 := Lib.hid hbb
        obtain ⟨c0, c1, c2⟩ := cells_3 B1
        clear hb2 hbb B2 B1 hbp
        go_wp2_with (go_at_call 76; (with_reducible refine (HTY.out _ (HT.out.keep HB2.out)).mono ?_))
        rintro e2 w3 ⟨rfl, hb3⟩
        have HB3 := Lib.hid (below_two' HB2.out hb3)
        clear hb3
        go_wp2_with fail
        go_ret
        exact ⟨ret_int HR.out.symm, HB3.out⟩
    · have HR := Lib.hid (H1.out hq0)
      have g : (q != 0) = true := by simp [hq0]
      clear H1 H0 hq0
      go_enter Tryz.func43, Tryz.ntmps43
      go_wp2_with (go_at_call 75; (with_reducible refine (HCK'.out _ (HT.out.keep HBP.out) (HE.out.keep HBP.out)).mono ?_))
      rintro e2 w2 ⟨rfl, hb2⟩
      have HB2 := Lib.hid (below_two' HBP.out hb2)
      clear hb2 hbp
      go_wp2_with fail
      go_ret
      exact ⟨ret_int HR.out.symm, HB2.out⟩
  · have HR := Lib.hid (HBA.out hany)
    subst hany
    clear HBA HB1 HB0 HCK'
    obtain ⟨b, off, rfl, hb, d0, d1, d2, d3⟩ := (HE.out.vars.keep hbp).at_ HVI.out
    obtain ⟨vs, lo, hi, ini⟩ := v
    simp only at d0 d1 d2 d3 HSP
    go_enter Tryz.func43, Tryz.ntmps43
    go_wp2_with (go_at_call 74; (with_reducible refine (HSP.out _).mono ?_))
    rintro e2 w2 ⟨rfl, hb2⟩
    have HB2 := Lib.hid (below_two' HBP.out hb2)
    clear hb2 hbp
    go_wp2_with fail
    go_ret
    exact ⟨ret_int HR.out.symm, HB2.out⟩
end Go.Proofs.YtcfcpbkeedfbpaaGreatDoor

namespace Go.Proofs.YtcfcpbkeedfbpaaGreatDoor
open Go.RowKit

/-- The k-th of N calls of yield hands over xs k; Kp is what the iterator asks to be kept. -/
def Hands (F : Fence) (n : Nat) (P : Program) (g : Nat) (lb : Array Value) (xs : Nat → Array Value) (Kp : World → World → Prop) (N : Nat) (w : World) : Prop :=
  ∀ (lp : Nat) (J : Nat → World → Prop) (W : World), Below w.heap.size w W →
    (∀ k W1, J k W1 → k < N → YieldAt F (n - 1) P lp (xs k) W1 fun e W' => e = .returned (.bool true) ∧ J (k + 1) W' ∧ Kp W1 W') →
    J 0 W → CallsIn F n P g (#[.func (.yield lp) #[] #[]] ++ lb) W fun e W' => (∃ v, e = .returned v) ∧ J N W'

theorem range_seq {F : Fence} {n : Nat} {P : Program} {g : Operand} {ps : Array Tmp} {assign body : Code} {Q : Exit → Act → World → Prop} {a : Act} {w : World}
    (hro : F.round = none) (h1 : 1 ≤ n) {gf : Nat} {lb : Array Value} (hg : a.eval g = .func (.func gf) #[] lb) (hFg : F.fn gf) (eg : ∀ args w, (callFunc gf args).run P w = .ok (.enter gf args) w)
    {xs : Nat → Array Value} {Kp : World → World → Prop} {N : Nat} (hseq : Hands F (n - 1) P gf lb xs Kp N w)
    (hKt : ∀ {A B C : World}, Kp A B → Kp B C → Kp A C) (hKb : ∀ (W : World) (l : Nat) (o o' : Obj), w.heap.size ≤ l → W.heap[l]? = some o → o.isCells = false → Kp W (W.putObj l o')) (hps : ∀ k, (xs k).size = ps.size)
    (I : Nat → World → Prop) (hI : OwnFrom w.heap.size I) (h0 : I 0 w) (Ax : Nat → Act → World → Prop) (hAx : ∀ a', OwnFrom w.heap.size (fun k W => Ax k a' W))
    (hassign : ∀ (l k : Nat) (W : World) (K : Act → World → Prop), k < N → I k W → (∀ a' W', KeepsFrom w.heap.size W W' → Kp W W' → I k W' → Ax k a' W' → K a' W') →
      assign.wpIn (F.inRound l) (n - 1 - 1) P (Exit.then K (fun _ _ _ => False)) { tmps := (ps.zip (xs k)).foldl (fun t (p, v) => t.setIfInBounds p v) a.tmps, defers := [] } W)
    (hbody : ∀ (l k : Nat) (a' : Act) (W : World), k < N → I k W → Ax k a' W → body.wpIn (F.inRound l) (n - 1 - 1) P (fun e _ W' => e = .normal ∧ KeepsFrom w.heap.size W W' ∧ Kp W W' ∧ I (k + 1) W') a' W)
    (hdone : ∀ (D : Nat) (W : World), w.heap.size ≤ D → I N W → W.heap[D]? = some (.deferred (some [])) → Q .normal { a with defers := { target := .collected D, args := #[] } :: a.defers } W) :
    (Code.rangeFunc g ps assign body).wpIn F n P Q a w := by
  refine wpIn_rangeFunc fun fn hfn => ?_
  rw [hro]
  let rec_ : LoopState → Loop := fun st => { state := st, pending := none, fn, tmps := a.tmps, params := ps, assign, body, defers := w.heap.size }
  let w1 := w.alloc (.deferred (some []))
  let w2 := w1.alloc (.loop (rec_ .ready))
  have s1 : w1.heap.size = w.heap.size + 1 := by simp [w1]
  have hrec : w2.heap[w.heap.size + 1]? = some (.loop (rec_ .ready)) := by have := World.alloc_heap_new w1 (.loop (rec_ .ready)); rwa [s1] at this
  have hdef : w2.heap[w.heap.size]? = some (.deferred (some [])) := (Below.heap_alloc w1 _ _ (by rw [s1]; omega)).trans (World.alloc_heap_new w _)
  have hbel : Below w.heap.size w w2 := KitC.below_pair w _ _
  -- the two blocks of the loop's own
  let Bk : Nat → LoopState → World → Prop := fun _ st W => W.heap[w.heap.size + 1]? = some (.loop (rec_ st)) ∧ W.heap[w.heap.size]? = some (.deferred (some []))
  have turned : ∀ (st st' : LoopState) (W : World), Bk 0 st W → Bk 0 st' (W.putObj (w.heap.size + 1) (.loop (rec_ st'))) := fun st st' W ⟨hl, hd⟩ =>
    ⟨World.putObj_heap_same (Array.getElem?_eq_some_iff.1 hl).1, (World.putObj_heap_other (by omega)).trans hd⟩
  have kept : ∀ (st st' : LoopState) (W : World), Bk 0 st W → Kp W (W.putObj (w.heap.size + 1) (.loop (rec_ st'))) := fun st st' W ⟨hl, _⟩ =>
    hKb W (w.heap.size + 1) _ _ (by omega) hl rfl
  have over : ∀ (k : Nat) (st st' : LoopState) (W : World), Bk 0 st W → I k W → I k (W.putObj (w.heap.size + 1) (.loop (rec_ st'))) := fun k st st' W ⟨hl, _⟩ hi =>
    hI.putObj _ hi (by omega) hl rfl
  refine ⟨w.heap.size + 1, [{ target := .collected w.heap.size, args := #[] }], w2, { target := .fn (.func gf) lb, args := #[.func (.yield (w.heap.size + 1)) #[] #[]] }, w2, gf,
    #[.func (.yield (w.heap.size + 1)) #[] #[]] ++ lb, w2, run_enterLoop_outer _ _ _ _ _, by simp only [resolve, hg]; simp [go_sem], ?_, by simp [invoke, go_sem, eg], fun _ => h1, ?_⟩
  · intro f' hf'
    simp [Target.leads] at hf'
    subst hf'
    exact hFg
  refine (hseq (w.heap.size + 1) (fun k W => I k W ∧ Bk 0 .ready W) w2 hbel ?_ ⟨hI.alloc _ (hI.alloc _ h0), hrec, hdef⟩).mono ?_
  · -- a round
    rintro k W ⟨hi, hb⟩ hk
    refine ⟨fn, _, assign, body, run_yield (P := P) (args := xs k) hb.1 (hps k), roundIn_of_wpIn hfn (hassign _ k W _ hk hi ?_)⟩
    intro a' Wa hkf hbl hia hax
    have hba : Bk 0 .ready Wa := ⟨hkf.same _ _ (by omega) hb.1 rfl, hkf.same _ _ (by omega) hb.2 rfl⟩
    refine ⟨_, run_beginRound hba.1 rfl, ?_⟩
    have hb2 := turned .ready .busy Wa hba
    refine wpIn_mono (hbody _ k a' _ hk (over k _ .busy Wa hba hia) ((hAx a').putObj (s := k) _ hax (by omega) hba.1 rfl)) ?_
    rintro e a3 W3 ⟨rfl, hkf3, hbl3, hi3⟩
    have hb3 : Bk 0 .busy W3 := ⟨hkf3.same _ _ (by omega) hb2.1 rfl, hkf3.same _ _ (by omega) hb2.2 rfl⟩
    exact ⟨_, _, run_endRound (P := P) none hb3.1, rfl, ⟨over (k + 1) _ .ready W3 hb3 hi3, turned .busy .ready W3 hb3⟩, hKt (hKt (hKt hbl (kept _ .busy Wa hba)) hbl3) (kept _ .ready W3 hb3)⟩
  · -- behind the iterator
    rintro e W ⟨⟨v, rfl⟩, hi, hb⟩
    refine ⟨none, _, run_endLoop (P := P) hb.1 (by intro h; cases h), hdone _ _ (Nat.le_refl _) (hI.putObj _ hi (by omega) hb.1 rfl) ?_⟩
    exact (World.putObj_heap_other (by omega)).trans hb.2
end Go.Proofs.YtcfcpbkeedfbpaaGreatDoor

namespace Go.Proofs.YtcfcpbkeedfbpaaGreatDoor
open Go.RowKit Go.Sort

section
variable {F : Fence} {n : Nat} {P : Program} {ops : Array Oper} {Q : Exit → Act → World → Prop} {l0 : Nat}
theorem upon_round {o : Oper} {a : Act} {K : Act → World → Prop} {r : Result Next} (h : o.uponIn F n P a K Q r) : o.uponIn (F.inRound l0) n P a K Q r := by
  cases r with
  | ok x w' => cases x <;> first | exact h | (simp only [Oper.uponIn] at h ⊢; exact h)
  | halt x w' => cases x <;> first | exact h | (simp only [Oper.uponIn] at h ⊢; exact h)
theorem op_round {o : Oper} (hnd : ∀ c, o.op ≠ .defer c) (hro : F.round = none) {a : Act} {w : World} {K : Act → World → Prop} (h : o.wpIn F n P a w K Q) : o.wpIn (F.inRound l0) n P a w K Q := by
  unfold Oper.wpIn at h ⊢
  rw [hro, Oper.semAt_none] at h
  rw [Fence.inRound_round, Oper.semAt_some _ _ _ hnd]
  exact ⟨h.1, upon_round h.2⟩
theorem any_round (hnd : ∀ o ∈ ops.toList, ∀ c, o.op ≠ .defer c) (hro : F.round = none) {md : Region.Mode} : ∀ (fuel : Nat) (listed : Array Bool) (a : Act) (w : World), wpAnyIn F n P md ops Q fuel listed a w → wpAnyIn (F.inRound l0) n P md ops Q fuel listed a w
  | 0, _, _, _, h => h
  | fuel + 1, listed, a, w, h => ⟨h.1, fun i hi => by
    have h2 := h.2 i hi
    unfold wpOpIn at h2 ⊢
    split
    · rename_i ho
      simp only [ho] at h2
      exact any_round hnd hro fuel _ _ _ h2
    · rename_i o ho
      simp only [ho] at h2
      have hno := hnd o (by
        have := (Array.getElem?_eq_some_iff.1 ho)
        obtain ⟨hlt, rfl⟩ := this
        simp)
      split
      · rename_i hw
        simp only [hw, if_true] at h2
        exact Oper.wpIn_mono (fun a w => any_round hnd hro fuel _ a w) (op_round hno hro h2)
      · rename_i hw
        simp only [hw] at h2
        exact ⟨h2.1, any_round hnd hro fuel _ _ _ h2.2⟩⟩
/-- No operation defers a call. -/
def noDefer (l : List Oper) : Bool := l.all fun o => match o.op with | .defer _ => false | _ => true
theorem noDefer_spec {l : List Oper} (h : noDefer l = true) : ∀ o ∈ l, ∀ c, o.op ≠ .defer c := by
  intro o ho c hc
  have := List.all_eq_true.1 h o ho
  rw [hc] at this
  cases this
theorem quiet_round {C : World → Prop} {id : Nat} {a : Act} {w : World} {l : List Oper} (hro : F.round = none) (hnd : noDefer l = true) (hm : P.follows .mixedOrders = true) (hB : Region.lexB .any l.toArray = true) (hC : C { w with drawn := w.drawn + 1 })
    (h : wpQuietIn F n P l.toArray C (fun a' => ∀ w', C w' → Q .normal a' w') l a) : (Code.region id l.toArray true).wpIn (F.inRound l0) n P Q a w := by
  have hB' := hB
  simp only [Region.lexB, Bool.and_eq_true] at hB'
  refine wpIn_region_any hm (any_round (by simpa using noDefer_spec hnd) hro _ _ _ _ (wpAnyIn_of_quiet (C := C) (Q := fun a' => ∀ w', C w' → Q .normal a' w') hro (fun _ w' hw' h => h w' hw') _ _ _ _ hC ?_))
  have := wpAnyQIn_lex (F := F) (n := n) (C := C) (md := .any) hB'.1 l 0 (Array.replicate l.toArray.size false) a (by simp) (by simpa using hB'.2) h
  simpa using this
/-- Callees that make memory and leave what was there. -/
theorem quiet_below_round {id : Nat} {a : Act} {w : World} {l : List Oper} (hro : F.round = none) (hnd : noDefer l = true) (hm : P.follows .mixedOrders = true) (hB : Region.lexB .any l.toArray = true)
    (h : wpQuietIn F n P l.toArray (fun w' => ∃ p : Regrown, w' = grow (redrawn w p.d) p.os) (fun a' => ∀ w', (∃ p : Regrown, w' = grow (redrawn w p.d) p.os) → Q .normal a' w') l a) : (Code.region id l.toArray true).wpIn (F.inRound l0) n P Q a w :=
  quiet_round hro hnd hm hB ⟨⟨w.drawn + 1, #[]⟩, by rw [grow_empty]; rfl⟩ h
end
end Go.Proofs.YtcfcpbkeedfbpaaGreatDoor

namespace Go.Proofs.YtcfcpbkeedfbpaaGreatDoor
open Go.RowKit Go.Shelf TermSpec
set_option maxRecDepth 100000

attribute [local go_sem] Oper.semAt_some

abbrev BT : Type := Nat × Tm
def tm0 : Tm := ⟨0, 0, ⟨#[]⟩⟩
def encB (x : BT) : Array Value := #[.int .i64 (x.1 : Int), .agg #[.int .i64 x.2.op, .int .i64 x.2.n, .string x.2.s]]
/-- The j-th that comes. -/
def backAt (l : List Tm) (j : Nat) : BT := (l.length - 1 - j, (l[l.length - 1 - j]?).getD tm0)

/-- What it asks to be kept: what lay below n₀, and the box of the slice. -/
def KpB (n₀ Bs : Nat) (W W' : World) : Prop := Below n₀ W W' ∧ ∀ v, Boxed W Bs 64 v → Boxed W' Bs 64 v
theorem KpB.trans {n₀ Bs : Nat} {A B C : World} (h : KpB n₀ Bs A B) (k : KpB n₀ Bs B C) : KpB n₀ Bs A C := ⟨h.1.trans k.1, fun v hv => k.2 v (h.2 v hv)⟩
theorem KpB.turn {n₀ Bs : Nat} {w : World} (hn : n₀ ≤ w.heap.size) (hB : Bs < w.heap.size) (W : World) (l : Nat) (o o' : Obj) (hl : w.heap.size ≤ l) (h : W.heap[l]? = some o) (_ : o.isCells = false) : KpB n₀ Bs W (W.putObj l o') :=
  ⟨(Below.refl n₀ W).grown (grownBy_putObj' W l o') (by have := (Array.getElem?_eq_some_iff.1 h).1; omega) (fun k e => by cases e; omega), fun v hv => hv.kept (grownBy_putObj' W l o') (fun e => by injection e with e; omega)⟩

set_option maxRecDepth 100000 in
set_option maxHeartbeats 2000000 in
theorem back1_in (F : Fence) (n : Nat) (h7 : F.fn 161) (hro : F.round = none) (hn : 1 ≤ n) (lp Bs n₀ : Nat) (A : Option Addr) (len cap : Nat) (l : List Tm) (hlen : len = l.length) (h63 : len ≤ 9223372036854775807) (J : Nat → World → Prop)
    (hY : ∀ k W, J k W → k < len → YieldAt F (n - 1) Tryz.prog lp (encB (backAt l k)) W fun e W' => e = .returned (.bool true) ∧ J (k + 1) W' ∧ KpB n₀ Bs W W')
    (W : World) (hBx : Boxed W Bs 64 (.slice A len cap)) (w0 : World) (hT : Tms w0 (.slice A len cap) l) (hw0 : Below w0.heap.size w0 W) (hn0 : w0.heap.size ≤ n₀) (h0 : J 0 W) :
    CallsIn F n Tryz.prog 161 #[.func (.yield lp) #[] #[], .pointer (some ⟨Bs, 0, none⟩)] W fun e W' => (∃ v, e = .returned v) ∧ J len W' := by
  have HT := Lib.hid hT
  have HL := Lib.hid hlen
  have HW0 := Lib.hid hw0
  have hcap := hT.cap
  have hBs := hBx.cell
  clear hT hlen hw0
  refine callsIn_of_wp Tryz.func161 rfl h7 ?_ hro
  simp only [Tryz.ntmps161, List.size_toArray, List.length_cons, List.length_nil, Nat.reduceAdd, Nat.reduceSub, Array.replicate_succ, Array.replicate_zero, List.push_toArray, List.append_toArray, List.nil_append, List.cons_append]
  gi_wp2
  gi_loopw [3] (fun i wr => ∃ k : Nat, k ≤ len ∧ i = .int .i64 ((len : Int) - 1 - k) ∧ J k wr ∧ KpB n₀ Bs W wr)
    (fun i _ => (intOf i + 1).toNat)
  case atStart => exact ⟨0, Nat.zero_le _, by simp, h0, Below.refl _ _, fun _ h => h⟩
  case round =>
    obtain ⟨k, hk, rfl, hJs, hnx⟩ := hrel
    by_cases hlt : k < len
    · obtain ⟨t, ht⟩ : ∃ t, l[len - 1 - k]? = some t := get_some (by have := HL.out; omega)
      have HTR : Tms wr (.slice A len cap) l := HT.out.keep (HW0.out.trans (hnx.1.mono hn0))
      obtain ⟨b, off, rfl, hb, c0, c1, c2⟩ := HTR.at_ ht
      have hy0 := hY k wr hJs hlt
      have hBS : wr.cell? ⟨Bs, 0, none⟩ = some (.slice (some ⟨b, off, none⟩) len cap) := (hnx.2 _ hBx).cell
      have hat : encB (backAt l k) = #[.int .i64 ((len : Int) - 1 - k), .agg #[.int .i64 t.op, .int .i64 t.n, .string t.s]] := by
        have hl := HL.out
        unfold encB backAt
        rw [← hl, ht]
        simp
        omega
      rw [hat] at hy0
      obtain ⟨fn, tmps, assign, body, hy, hR⟩ := hy0
      obtain ⟨q, hq⟩ : ∃ q, q = len - 1 - k := ⟨_, rfl⟩
      have hqi : (len : Int) - 1 - k = (q : Int) := by omega
      rw [← hq] at c0 c1 c2
      rw [hqi] at hy ⊢
      have hql : q < len := by omega
      have HQ := Lib.hid hq
      clear hqi hq ht hat hJs
      gi_wp2
      refine hR.mono ?_
      rintro e W3 ⟨rfl, hJ3, hk3⟩
      gi_wp2
      go_roundw
      case rel => exact ⟨k + 1, by omega, by have := HQ.out; simp; omega, hJ3, hnx.trans hk3⟩
      case measure => simp [intOf] <;> omega
    · obtain rfl : k = len := by omega
      gi_wp2
      go_end0
      exact ⟨⟨_, rfl⟩, hJs⟩

set_option maxHeartbeats 1000000 in
theorem back_in (F : Fence) (n : Nat) (h5 : F.fn 139) (hro : F.round = none) (A : Option Addr) (len cap : Nat) (w : World) :
    CallsIn F n Tryz.prog 139 #[.slice A len cap] w fun e w' => e = .returned (.func (.func 161) #[] #[.pointer (some ⟨w.heap.size, 0, none⟩)]) ∧ w' = w.alloc (.cells #[.slice A len cap] 64) := by
  refine callsIn_of_wp Tryz.func139 rfl h5 ?_ hro
  simp only [Tryz.ntmps139, List.size_toArray, List.length_cons, List.length_nil, Nat.reduceAdd, Nat.reduceSub, Array.replicate_succ, Array.replicate_zero, List.push_toArray, List.append_toArray, List.nil_append, List.cons_append]
  gi_wp2
  go_ret
  exact ⟨rfl, rfl⟩
/-- What it hands over: all terms, from the last one on. -/
theorem back_hands (F : Fence) (n : Nat) (h7 : F.fn 161) (hro : F.round = none) (hn : 1 ≤ n) (Bs n₀ : Nat) (A : Option Addr) (len cap : Nat) (l : List Tm) (hlen : len = l.length) (h63 : len ≤ 9223372036854775807) (w : World)
    (hc : Boxed w Bs 64 (.slice A len cap)) (w0 : World) (hT : Tms w0 (.slice A len cap) l) (hw0 : Below w0.heap.size w0 w) (hn0 : w0.heap.size ≤ n₀) :
    Hands F n Tryz.prog 161 #[.pointer (some ⟨Bs, 0, none⟩)] (fun k => encB (backAt l k)) (KpB n₀ Bs) len w := fun lp J W hW hY h0 =>
  back1_in F n h7 hro hn lp Bs n₀ A len cap l hlen h63 J hY W ((hW.block Bs hc.lt).trans hc) w0 hT (hw0.trans (hW.mono hw0.size)) hn0 h0
end Go.Proofs.YtcfcpbkeedfbpaaGreatDoor

namespace Go.Proofs.YtcfcpbkeedfbpaaGreatDoor
open Go.RowKit TermSpec EvalSpec
set_option maxRecDepth 100000

theorem elem_ints : Tryz.prog.elem 110 = 3 := by kernel_rfl
/-- A list of the call's own, from a place on. -/
theorem slice_rest {W0 : World} {base : Nat} {A : Option Addr} {m cap j : Nat} {xs : List Value} (h : W0.ownsRow base 3 1 (.slice A m cap) m xs) (hj : j ≤ m) :
    ∃ v, (∀ W, (Instr.slice 110 (.slice A m cap) (some (.int .i64 (j : Int))) none none).run Tryz.prog W = .ok v W) ∧ ∃ A' c', v = .slice A' (m - j) c' ∧ Rd W0 v (xs.drop j) := by
  have hl : xs.length = m := by have := h.1; omega
  rcases h.2 with ⟨heq, h0⟩ | ⟨g, cap', cur, heq, hbase, hb, hnc, hcm, hcs, ht⟩
  · cases heq
    obtain rfl : j = 0 := by omega
    refine ⟨.slice none 0 0, fun W => ?_, none, 0, rfl, ?_⟩
    · rw [run_slice_l (P := Tryz.prog) W 110 _ 0 0 (by rw [elem_ints]; exact Tryz.underlying110) .i64 ((0 : Nat) : Int) (by omega) (by omega), elem_ints, Tryz.sizeOf3]
      simp [sliced, Result.andThen]
    · rw [List.drop_zero, List.eq_nil_of_length_eq_zero hl]
      exact Rd.nil W0
  · cases heq
    have hrd : Rd W0 (.slice (some ⟨g, 0, none⟩) m cap) xs := Rd.own h
    refine ⟨.slice (if cap = j then some ⟨g, 0, none⟩ else some ⟨g, j, none⟩) (m - j) (cap - j), fun W => ?_, _, _, rfl, ?_⟩
    · rw [run_slice_l (P := Tryz.prog) W 110 _ m cap (by rw [elem_ints]; exact Tryz.underlying110) .i64 (j : Int) (by omega) (by omega), elem_ints, Tryz.sizeOf3]
      simp [sliced, Result.andThen, addr_add]
    · refine ⟨_, m - j, cap - j, rfl, by rw [List.length_drop, hl], by omega, fun h0 => ⟨g, j, if_neg (by omega), (Array.getElem?_eq_some_iff.1 hb).1, fun q u hq => ?_⟩⟩
      obtain ⟨A', n', c', heq, _, _, hA⟩ := hrd
      cases heq
      obtain ⟨b, off, heq, _, hcell⟩ := hA (by omega)
      cases heq
      rw [List.getElem?_drop] at hq
      have := hcell _ _ hq
      simpa using this
/-- Up to a place: it is still the call's own. -/
theorem slice_upto {W0 : World} {base : Nat} {A : Option Addr} {m cap j : Nat} {xs : List Value} (h : W0.ownsRow base 3 1 (.slice A m cap) m xs) (hj : j ≤ m) :
    (∀ W, (Instr.slice 110 (.slice A m cap) none (some (.int .i64 (j : Int))) none).run Tryz.prog W = .ok (.slice A j cap) W) ∧ W0.ownsRow base 3 1 (.slice A j cap) j (xs.take j) := by
  have hl : xs.length = m := by have := h.1; omega
  rcases h.2 with ⟨heq, h0⟩ | ⟨g, cap', cur, heq, hbase, hb, hnc, hcm, hcs, ht⟩
  · cases heq
    obtain rfl : j = 0 := by omega
    refine ⟨fun W => ?_, ?_⟩
    · rw [run_slice_h (P := Tryz.prog) W 110 _ 0 0 (by rw [elem_ints]; exact Tryz.underlying110) .i64 ((0 : Nat) : Int) (by omega) (by omega), elem_ints, Tryz.sizeOf3]
      simp [sliced, Result.andThen]
    · simpa using World.ownsRow_nil W0 base _ 1
  · cases heq
    refine ⟨fun W => ?_, ?_⟩
    · rw [run_slice_h (P := Tryz.prog) W 110 _ m cap (by rw [elem_ints]; exact Tryz.underlying110) .i64 (j : Int) (by omega) (by omega), elem_ints, Tryz.sizeOf3]
      simp [sliced, Result.andThen, addr_add]
    · refine ⟨by rw [List.length_take]; omega, .inr ⟨g, cap, cur, rfl, hbase, hb, by omega, hcm, hcs, ?_⟩⟩
      rw [← ht, List.take_take]
      congr 1
      omega
/-- What lies in memory when so much has come. -/
def AtI (w : World) (C Bs : Nat) (eo : Obj) (sv : Value) (st : List Int) (W : World) : Prop :=
  ((∃ v, Boxed W C 110 v ∧ W.ownsRow w.heap.size 3 1 v st.length (intV st.reverse) ∧ True) ∧ (W.heap[w.heap.size]? = some eo ∧ Boxed W Bs 64 sv)) ∧ Below w.heap.size w W
theorem heap_own {β : Type} (B E : Nat) (o : Obj) (ho : o.isCells = true) : OwnFrom B (fun (_ : β) W => W.heap[E]? = some o) := fun s X Y row h hg hr =>
  (hg.block E (Array.getElem?_eq_some_iff.1 h).1 (fun e => by
    obtain ⟨_, o', ho', hc⟩ := hr E e.symm
    rw [h] at ho'
    cases ho'
    rw [ho] at hc
    cases hc)).trans h
theorem AtI.own (w : World) (C Bs : Nat) (cs : Array Value) (T : TypeId) (sv : Value) (st : Nat → List Int) (B : Nat) (hB : w.heap.size ≤ B) : OwnFrom B (fun k W => AtI w C Bs (.cells cs T) sv (st k) W) :=
  OwnFrom.and (OwnFrom.and (Own.from (holdsRow_own _ _ _ _ _ (fun k => (st k).length) (fun k => intV (st k).reverse) (fun _ _ => True)) _) (OwnFrom.and (heap_own B _ _ rfl) (Own.from (boxed_own Bs _ (fun _ => sv)) _))) (ownFrom_below (Nat.le_refl _) hB)
theorem AtI.keep {w W W' : World} {C Bs : Nat} {eo : Obj} {sv : Value} {st : List Int} (h : AtI w C Bs eo sv st W) (hb : Below W.heap.size W W') : AtI w C Bs eo sv st W' := by
  obtain ⟨⟨⟨v, h1, h2, h3⟩, h4, h5⟩, h6⟩ := h
  exact ⟨⟨⟨v, KitC.block_on h1 hb, own_keep h2 hb, h3⟩, KitC.block_on h4 hb, KitC.block_on h5 hb⟩, below_two' h6 hb⟩
theorem keepsFrom_below {B : Nat} {W W' : World} (h : Below W.heap.size W W') : KeepsFrom B W W' := ⟨h.size, fun k _ _ hk _ => (h.block k (Array.getElem?_eq_some_iff.1 hk).1).trans hk⟩
theorem kpB_below {n₀ Bs : Nat} {W W' : World} (h : Below W.heap.size W W') (hn : n₀ ≤ W.heap.size) : KpB n₀ Bs W W' := ⟨h.mono hn, fun _ hv => KitC.block_on hv h⟩
/-- Behind `come = append(come[:rest], n)`. -/
theorem AtI.appended {w W w1 : World} {C Bs j m : Nat} {cap : Nat} {A : Option Addr} {eo tmp : Obj} {sv v' : Value} {st st' : List Int} {ys : List Value} (h : AtI w C Bs eo sv st W) (hBs : C ≠ Bs) (hE : C ≠ w.heap.size) (hC : w.heap.size ≤ C)
    (heo : ∀ cs T, eo = .cells cs T → T ≠ 3)
    (hrow : W.ownsRow w.heap.size 3 1 (.slice A j cap) m ys) (hown' : w1.ownsRow w.heap.size 3 1 v' st'.length (intV st'.reverse)) (hgrow : (W.alloc tmp).grownBy w1 (Value.slice A j cap).ownBlock) :
    (∃ u, Boxed w1 C 110 u) ∧ AtI w C Bs eo sv st' (w1.setCell ⟨C, 0, none⟩ v') ∧ (∀ B, KeepsFrom B W (w1.setCell ⟨C, 0, none⟩ v')) ∧ KpB w.heap.size Bs W (w1.setCell ⟨C, 0, none⟩ v') := by
  obtain ⟨⟨⟨u, h1, h2, h3⟩, h4, h5⟩, h6⟩ := h
  have hu1 : Boxed w1 C 110 u := (h1.alloc tmp).kept hgrow (h1.not_row (by decide) hrow)
  have hs1 : Boxed w1 Bs 64 sv := (h5.alloc tmp).kept hgrow (h5.not_row (by decide) hrow)
  have he1 : w1.heap[w.heap.size]? = some eo := by
    have hlt := (Array.getElem?_eq_some_iff.1 h4).1
    refine (hgrow.block _ (by simp; omega) (fun e => ?_)).trans ((Below.heap_alloc W _ _ hlt).trans h4)
    rcases hrow.2 with ⟨heq, _⟩ | ⟨g, cap', cur, heq, _, hgb, _⟩
    · rw [heq] at e; simp [Value.ownBlock] at e
    · rw [heq] at e
      obtain rfl : w.heap.size = g := by simpa [Value.ownBlock] using e
      rw [h4] at hgb
      cases hgb
      exact heo _ _ rfl rfl
  have hlow : Below w.heap.size W (w1.setCell ⟨C, 0, none⟩ v') := by
    refine (((Below.refl w.heap.size W).alloc h6.size tmp).grown hgrow (by have := h6.size; simp; omega) fun i ei => ?_).setCell (p := ⟨C, 0, none⟩) hC v'
    exact (own_block_bd hrow i ei).1
  refine ⟨⟨u, hu1⟩, ⟨⟨⟨v', hu1.set v', hown'.kept (grownBy_setCell' w1 C v') (.inr (hu1.not_row (by decide) hown').symm), trivial⟩, (Below.heap_setCell _ _ _ _ hE.symm).trans he1, hs1.other hBs.symm _⟩, h6.trans hlow⟩, fun B => ?_, hlow, fun q hq => ?_⟩
  · refine KeepsOthers.from ((KeepsOthers.alloc W tmp).trans (KeepsOthers.trans (KeepsOthers.of_grownBy hgrow fun i o ei hi => ?_) (KeepsOthers.setCell _ _ _))) B
    rcases (hrow.alloc tmp).2 with ⟨heq, _⟩ | ⟨g, cap', cur, heq, _, hgb, _⟩
    · rw [heq] at ei; simp [Value.ownBlock] at ei
    · rw [heq] at ei
      obtain rfl : g = i := by simpa [Value.ownBlock] using ei
      rw [hgb] at hi; cases hi; rfl
  · exact (((hq.alloc tmp).kept hgrow (hq.not_row (by decide) hrow)).other hBs.symm _)
end Go.Proofs.YtcfcpbkeedfbpaaGreatDoor

namespace Go.Proofs.YtcfcpbkeedfbpaaGreatDoor
open Go.RowKit Go.Shelf Go.Sort TermSpec EvalSpec
set_option maxRecDepth 100000

attribute [local go_sem] Oper.semAt_some

set_option maxRecDepth 100000 in
set_option maxHeartbeats 4000000 in
theorem at_yes (p : EP) (e : Ev) (A : Option Addr) (n c : Nat) (l : List Tm) (hn : n = l.length) (hn62 : n ≤ 4398046511104) (hs : Small l) (w : World) (h : Tms w (.slice A n c) l) (he : EnvIn w p e) (hc : chkE e l = 0) :
    Calls Tryz.prog 114 #[.slice A n c, envV p e] w fun e2 w' => e2 = .returned (.tuple #[.int .i64 (comeE e l), .int .i64 0]) ∧ Below w.heap.size w w' := by
  have HC := Lib.hid (fun w h h' => echeck_any p e A n c l hn hn62 hs w h h')
  rw [hc] at HC
  have HT := Lib.hid h
  have HN := Lib.hid hn
  have HEN := Lib.hid he
  obtain ⟨vA, vn, vc, iA, im, ic⟩ := p
  obtain ⟨E, hE⟩ : ∃ E, E = e := ⟨_, rfl⟩
  obtain ⟨vars, v0, v1, v2, v3, ins⟩ := e
  change Calls _ _ #[.slice A n c, .agg #[.slice vA vn vc, .int .i64 v0, .int .i64 v1, .int .i64 v2, .int .i64 v3, .slice iA im ic]] _ _
  have HCE := Lib.hid hc
  have HEE := Lib.hid hE
  clear h hn he hc hE
  refine (callsIn_wide (n := 5)).1 ?_
  refine callsIn_of_wp_marks Tryz.func114 rfl trivial ?_ rfl
  simp only [Tryz.ntmps114, List.size_toArray, List.length_cons, List.length_nil, Nat.reduceAdd, Nat.reduceSub, Array.replicate_succ, Array.replicate_zero, List.push_toArray, List.append_toArray, List.nil_append, List.cons_append]
  gi_wp2_with (refine ⟨trivial, ?_⟩; gi_at_call 75; (with_reducible refine (callsIn_wide.2 (HC.out _ (HT.out.keep (KitC.below_one _ _)) (HEN.out.keep (KitC.below_one _ _)))).mono ?_))
  rintro e2 w2 ⟨rfl, hb2⟩
  obtain ⟨B2, hw2, hz2⟩ := KitC.one_block hb2
  have HB2 := Lib.hid B2
  have HW2 := Lib.hid hw2
  clear hb2 B2 hw2
  gi_wp2_with (refine ⟨trivial, ?_⟩; gi_at_call 139; (with_reducible refine (back_in _ _ trivial rfl _ _ _ _).mono ?_); rintro e w' ⟨rfl, rfl⟩)
  have bC := (Boxed.new w2 110 (.slice none 0 0)).alloc (.cells #[.slice A n c] 64)
  have bS := Boxed.new (w2.alloc (.cells #[.slice none 0 0] 110)) 64 (.slice A n c)
  rw [World.size_alloc] at bS
  have hB0 : Below w.heap.size w ((w2.alloc (.cells #[.slice none 0 0] 110)).alloc (.cells #[.slice A n c] 64)) := below_two' HW2.out (KitC.below_pair _ _ _)
  have bE : ((w2.alloc (.cells #[.slice none 0 0] 110)).alloc (.cells #[.slice A n c] 64)).heap[w.heap.size]? = some (.cells #[.slice vA vn vc, .int .i64 v0, .int .i64 v1, .int .i64 v2, .int .i64 v3, .slice iA im ic] 54) := KitC.block_on HB2.out (KitC.below_pair _ _ _)
  have hsz : ((w2.alloc (.cells #[.slice none 0 0] 110)).alloc (.cells #[.slice A n c] 64)).heap.size = w2.heap.size + 2 := by simp
  obtain ⟨W0, hW0⟩ : ∃ W0, (w2.alloc (.cells #[.slice none 0 0] 110)).alloc (.cells #[.slice A n c] 64) = W0 := ⟨_, rfl⟩
  rw [hW0] at bC bS hB0 bE hsz ⊢
  clear hW0
  have HI0 : Hid (AtI w w2.heap.size (w2.heap.size + 1) (.cells #[.slice vA vn vc, .int .i64 v0, .int .i64 v1, .int .i64 v2, .int .i64 v3, .slice iA im ic] 54) (.slice A n c) (stackE E (l.drop (n - 0))) W0) := Lib.hid (by
    have e0 : stackE E (l.drop (n - 0)) = [] := by rw [Nat.sub_zero, HN.out, List.drop_length]; rfl
    rw [e0]
    exact ⟨⟨⟨_, bC, World.ownsRow_nil _ _ _ _, trivial⟩, bE, bS⟩, hB0⟩)
  have HCNT : Hid (cnt 1 l = some l.length) := Lib.hid (wholeB_iff.1 (chk_ok (chkE_ok HCE.out).2.1).1).2
  have HBS := Lib.hid bS
  clear bC bE hB0 bS
  refine range_seq rfl (by omega) (gf := 161) (lb := #[.pointer (some ⟨w2.heap.size + 1, 0, none⟩)]) rfl trivial (enters_of Tryz.func161 (by kernel_rfl) rfl)
    (back_hands Fence.wide (5 - 1) trivial rfl (by omega) (w2.heap.size + 1) w.heap.size A n c l HN.out (by omega) W0 HBS.out w HT.out HI0.out.2 (Nat.le_refl _)) (fun h k => h.trans k) (KpB.turn (by omega) (by omega)) (fun _ => rfl)
    (fun k W => AtI w w2.heap.size (w2.heap.size + 1) (.cells #[.slice vA vn vc, .int .i64 v0, .int .i64 v1, .int .i64 v2, .int .i64 v3, .slice iA im ic] 54) (.slice A n c) (stackE E (l.drop (n - k))) W)
    (AtI.own _ _ _ _ _ _ _ _ (by omega)) HI0.out
    (fun k a' W => ∃ Bx, W0.heap.size ≤ Bx ∧ W.heap[Bx]? = some (.cells #[.int .i64 (backAt l k).2.op, .int .i64 (backAt l k).2.n, .string (backAt l k).2.s] 68) ∧ a' = { tmps := #[.slice A n c, .agg #[.slice vA vn vc, .int .i64 v0, .int .i64 v1, .int .i64 v2, .int .i64 v3, .slice iA im ic], undef, .pointer (some ⟨w.heap.size, 0, none⟩), .int .i64 0, .int .i64 0, .int .i64 0, .pointer (some ⟨w2.heap.size, 0, none⟩), undef, .pointer (some ⟨Bx, 0, none⟩), undef, undef, .slice A n c, .agg #[.slice vA vn vc, .int .i64 v0, .int .i64 v1, .int .i64 v2, .int .i64 v3, .slice iA im ic], .int .i64 0, .int .i64 0, .bool false, undef, .slice A n c, .func (.func 161) #[] #[.pointer (some ⟨w2.heap.size + 1, 0, none⟩)], .int .i64 ((backAt l k).1 : Int), .agg #[.int .i64 (backAt l k).2.op, .int .i64 (backAt l k).2.n, .string (backAt l k).2.s], undef, undef, undef, undef, undef, undef, undef, undef, undef, undef, undef, undef, undef, undef, undef, undef, undef, undef, undef, undef, undef], defers := [] })
    (fun a' k X Y row hs hg hr => by
      obtain ⟨Bx, h1, h2, h3⟩ := hs
      exact ⟨Bx, h1, heap_own (β := Unit) W0.heap.size Bx _ rfl () X Y row h2 hg hr, h3⟩)
    ?assign ?body ?done
  case assign =>
    rintro lp k W K hk hI hK
    have hsW : w2.heap.size + 2 ≤ W.heap.size := by have := hI.1.2.2.lt; omega
    have HI := Lib.hid hI
    obtain ⟨x, hx⟩ : ∃ x, x = backAt l k := ⟨_, rfl⟩
    rw [← hx] at hK ⊢
    obtain ⟨bi, ⟨bo, bn, bs⟩⟩ := x
    have HK := Lib.hid hK
    clear hI hK hx
    simp only [encB]
    gi_wp2
    exact HK.out _ _ ((KeepsOthers.alloc _ _).from _) (kpB_below (KitC.below_one _ _) (by omega)) (HI.out.keep (KitC.below_one _ _)) ⟨W.heap.size, by omega, heap_alloc_new _ _, rfl⟩
  case body =>
    rintro lp k a' W hk hI ⟨Bx, hBx, hX, rfl⟩
    obtain ⟨t, ht⟩ : ∃ t, l[n - (k + 1)]? = some t := get_some (by have := HN.out; omega)
    have hba : backAt l k = (n - (k + 1), t) := by
      have hl := HN.out
      unfold backAt
      rw [← hl, show n - 1 - k = n - (k + 1) by omega, ht]
      rfl
    rw [hba] at hX ⊢
    obtain ⟨har, hle, hnext⟩ := stackE_next (e := E) HCNT.out ht
    rw [show n - (k + 1) + 1 = n - k by omega] at hle hnext
    rw [hnext]
    obtain ⟨st, hst⟩ : ∃ st, st = stackE E (l.drop (n - k)) := ⟨_, rfl⟩
    rw [← hst] at hI hle ⊢
    obtain ⟨hv4, hck, _, hkn⟩ := chkE_ok HCE.out
    obtain ⟨_, hmay, _⟩ := chk_ok hck
    have HBD : Hid (∀ x ∈ st, -1000000 ≤ x ∧ x ≤ 1000000) := Lib.hid (by
      rw [hst]
      refine stackE_bd ?_
      rw [List.all_eq_true] at hmay ⊢
      exact fun u hu => hmay u (List.mem_of_mem_drop hu))
    have HKT : Hid (t.op = 2 → NamesSpec.hasS (vnames E) t.s = true) := Lib.hid (fun h2 => by
      unfold knownB at hkn
      rw [List.all_eq_true] at hkn
      have := hkn t (List.mem_of_getElem? ht)
      rw [HEE.out]
      simpa [h2] using this)
    have HV4 : Hid (E.vars.length ≤ 4) := Lib.hid (by rw [HEE.out]; exact hv4)
    have HI := Lib.hid hI
    obtain ⟨⟨⟨v, hv1, hv2, _⟩, hen, hbs⟩, hbel⟩ := hI
    obtain ⟨A1, cap, rfl⟩ := own_shape hv2
    have HROW := Lib.hid hv2
    obtain ⟨m, hm⟩ : ∃ m, m = st.length := ⟨_, rfl⟩
    obtain ⟨q, hq⟩ : ∃ q, q = arN t.op := ⟨_, rfl⟩
    have hqi : ar t.op = (q : Int) := by rw [hq, arN_of har]
    have HAR := Lib.hid (arity_any t.op)
    rw [hqi] at HAR
    have hqm : q ≤ m := by omega
    have hm63 : m ≤ 4398046511104 := by
      have h1 := stackE_size E (l.drop (n - k))
      rw [← hst, List.length_drop] at h1
      have := HN.out
      omega
    rw [← hm] at hv1
    have HC0 := Lib.hid hv1.cell
    have HC1 : Hid (∀ d os, (grow (redrawn W d) os).cell? ⟨w2.heap.size, 0, none⟩ = some (.slice A1 m cap)) := Lib.hid (cell_regrown hv1.cell)
    obtain ⟨x0, x1, x2⟩ := cells_3 hX
    have hc1 := HC1.out
    have hx0 := cell_regrown x0
    have hsub : IntKind.i64.wrap ((m : Int) - (q : Int)) = ((m - q : Nat) : Int) := by rw [IntWalk.i64_in _ (by omega)]; omega
    obtain ⟨rest, hrest⟩ : ∃ rest, rest = m - q := ⟨_, rfl⟩
    rw [← hrest] at hsub
    have HAQ : Hid (∀ d os, CallsIn Fence.wide 2 Tryz.prog 140 #[.int .i64 t.op] (grow (redrawn W d) os) fun e w'' => e = .returned (.int .i64 q) ∧ ∃ p : Regrown, w'' = grow (redrawn W p.d) p.os) := Lib.hid (fun d os => callsIn_wide.2 ((HAR.out _).mono fun e w'' ⟨he, hw⟩ => ⟨he, ⟨d, os⟩, hw.symm⟩))
    have HREST := Lib.hid hrest
    have HM := Lib.hid hm
    have HQ := Lib.hid hq
    have HST := Lib.hid hst
    have HX := Lib.hid hX
    have HXT := Lib.hid hnext
    have HARI := Lib.hid har
    obtain ⟨o, tn, ts⟩ := t
    simp only at HAQ hx0 ⊢
    clear hrest hm hq hst hX hba ht hnext hck hkn hv4 hmay x0 x1 x2 hv1 hv2 hen hbs hqi har hle hbel
    gi_wp2
    refine quiet_below_round rfl (by kernel_rfl) (by kernel_rfl) (by kernel_rfl) ?_
    repeat ((refine wpQuietIn_step (fun _ _ _ _ => trivial) (fun K hK => ?_)); go_simp; first | ((refine hK _ ?_); clear hK K) | ((apply Exists.intro); (refine ⟨fun _ => ?_, hK _ ?_⟩); (first | exact ⟨fun _ => by omega, HAQ.out _ _⟩ | exact HAQ.out _ _); clear hK K))
    refine wpQuietIn_nil ?_
    intro _ hw'
    obtain ⟨⟨dq, osq⟩, hw''⟩ := hw'
    subst hw''
    have hb1 := below_regrown W dq osq
    obtain ⟨W1, hW1⟩ : ∃ W1, grow (redrawn W dq) osq = W1 := ⟨_, rfl⟩
    simp only
    rw [hW1] at hb1 ⊢
    have HI1 := Lib.hid (HI.out.keep hb1)
    have HX1 := Lib.hid (KitC.block_on HX.out hb1)
    have HB1 := Lib.hid hb1
    have HROW1 := Lib.hid (own_keep HROW.out hb1)
    have HRR : Hid ((intV st.reverse).drop rest = intV (st.take q).reverse ∧ (intV st.reverse).take rest = intV (st.drop q).reverse) := Lib.hid (by
      have h1 := HREST.out
      have h2 := HM.out
      unfold intV
      rw [← List.map_drop, ← List.map_take, List.drop_reverse, List.take_reverse, show st.length - rest = q by omega]
      exact ⟨rfl, rfl⟩)
    rw [← HM.out] at HROW1
    have hrm : rest ≤ m := by have := HREST.out; omega
    obtain ⟨vr, hsl, A2, c2, rfl, hrd⟩ := slice_rest HROW1.out hrm
    rw [HRR.out.1] at hrd
    obtain ⟨hup, hpr⟩ := slice_upto HROW1.out hrm
    rw [HRR.out.2] at hpr
    obtain ⟨r, hr⟩ : ∃ r, r = evF E ⟨o, tn, ts⟩ (st.take q) := ⟨_, rfl⟩
    have HRK : Hid (∀ d os, CallsIn Fence.wide 2 Tryz.prog 141 #[.agg #[.int .i64 o, .int .i64 tn, .string ts], .slice A2 (m - rest) c2, .agg #[.slice vA vn vc, .int .i64 v0, .int .i64 v1, .int .i64 v2, .int .i64 v3, .slice iA im ic]] (grow (redrawn W1 d) os) fun e w'' => e = .returned (.int .i64 r) ∧ ∃ p : Regrown, w'' = grow (redrawn W1 p.d) p.os) := Lib.hid (fun d os => callsIn_wide.2 (by
      have hen := HEN.out.keep (below_two' HI1.out.2 (below_regrown W1 d os))
      rw [← HEE.out] at hen
      have h := reckon_any ⟨vA, vn, vc, iA, im, ic⟩ E ⟨o, tn, ts⟩ (grow (redrawn W1 d) os) _ (st.take q) hen HV4.out HKT.out HARI.out (by rw [List.length_take]; have := HQ.out; have := HM.out; simp only at *; omega) (hrd.keep (below_regrown W1 d os)) (fun x hx => HBD.out x (List.mem_of_mem_take hx))
      rw [← hr, HEE.out] at h
      exact h.mono fun e w'' ⟨he, hb⟩ => ⟨he, regrown_of_below (below_two' (below_regrown W1 d os) hb)⟩))
    have HSL := Lib.hid hsl
    obtain ⟨⟨⟨v, hv1, hv2, _⟩, hen, hbs⟩, hbel⟩ := HI1.out
    have HEQ : Hid (v = .slice A1 m cap) := Lib.hid (by
      have h1 := hv1.cell
      rw [(HB1.out.cell (p := ⟨w2.heap.size, 0, none⟩) (block_lt_of_cell HC0.out)).trans HC0.out] at h1
      injection h1 with h1
      exact h1.symm)
    rw [HEQ.out] at hv1
    obtain ⟨y0, y1, y2⟩ := cells_3 HX1.out
    obtain ⟨z0, z1, z2, z3, z4, z5⟩ := cells_6 hen
    have k0 := cell_regrown hv1.cell
    have k1 := cell_regrown y0
    have k2 := cell_regrown y1
    have k3 := cell_regrown y2
    have k4 := cell_regrown z0
    have k5 := cell_regrown z1
    have k6 := cell_regrown z2
    have k7 := cell_regrown z3
    have k8 := cell_regrown z4
    have k9 := cell_regrown z5
    have HR := Lib.hid hr
    have HPR := Lib.hid hpr
    have HUP := Lib.hid hup
    clear y0 y1 y2 z0 z1 z2 z3 z4 z5 hr hpr hup hrd hv1 hv2 hen hbs hbel hb1 hW1
    gi_wp2
    refine quiet_below_round rfl (by kernel_rfl) (by kernel_rfl) (by kernel_rfl) ?_
    repeat ((refine wpQuietIn_step (fun _ _ _ _ => trivial) (fun K hK => ?_)); go_simp; first | ((refine hK _ ?_); clear hK K) | ((apply Exists.intro); (refine ⟨fun _ => ?_, hK _ ?_⟩); (first | exact ⟨fun _ => by omega, HRK.out _ _⟩ | exact HRK.out _ _); clear hK K))
    refine wpQuietIn_nil ?_
    intro _ hw'
    obtain ⟨⟨dq2, osq2⟩, hw''⟩ := hw'
    subst hw''
    have hb2 := below_regrown W1 dq2 osq2
    obtain ⟨W2, hW2⟩ : ∃ W2, grow (redrawn W1 dq2) osq2 = W2 := ⟨_, rfl⟩
    simp only
    rw [hW2] at hb2 ⊢
    have HI2 := Lib.hid (HI1.out.keep hb2)
    have HB2' := Lib.hid hb2
    have HPR2 := Lib.hid (own_keep HPR.out hb2)
    have hcell : W2.cell? ⟨w2.heap.size, 0, none⟩ = some (.slice A1 m cap) := by rw [← hW2]; exact k0 dq2 osq2
    have hup := HUP.out
    have hszW : w.heap.size ≤ W2.heap.size := HI2.out.2.size
    obtain ⟨i0, hi, hz0, hz1, hz2⟩ := info_parts inf_int
    have HINF := Lib.hid (And.intro hi (And.intro hz0 (And.intro hz1 hz2)))
    have HEB : Hid (w2.heap.size ≠ w2.heap.size + 1 ∧ w2.heap.size ≠ w.heap.size ∧ w.heap.size ≤ w2.heap.size) := Lib.hid (by omega)
    have hL1 : rest + 1 ≤ maxLen := by unfold maxLen; omega
    have hL2 : (rest + 1) * 8 ≤ 140737488355328 := by omega
    have HSE : Hid (evF E ⟨o, tn, ts⟩ (st.take (arN o)) :: st.drop (arN o) = r :: st.drop q) := Lib.hid (by rw [HR.out, HQ.out])
    have HNI : Hid (∀ cs T, Obj.cells #[.slice vA vn vc, .int .i64 v0, .int .i64 v1, .int .i64 v2, .int .i64 v3, .slice iA im ic] 54 = .cells cs T → T ≠ 3) := Lib.hid (fun cs T h => by cases h; decide)
    have HIW : Hid (w.heap.size ≤ W.heap.size) := Lib.hid HI.out.2.size
    have HST' : Hid ((r :: st.drop q).length = rest + 1 ∧ intV (r :: st.drop q).reverse = intV (st.drop q).reverse ++ [.int .i64 r]) := Lib.hid (by
      have h1 := HREST.out
      have h2 := HM.out
      refine ⟨by rw [List.length_cons, List.length_drop]; omega, ?_⟩
      unfold intV
      simp)
    clear k0 k1 k2 k3 k4 k5 k6 k7 k8 k9 hW2 hb2 hi hz0 hz1 hz2 hsub hc1 hx0
    gi_wp2_with (gi_at_builtin; refine wpListIn_append_own _ rfl _ _ 110 rfl w.heap.size 3 i0 (.int .i64 0) 1 8 Tryz.underlying110 HINF.out.1 HINF.out.2.1 HINF.out.2.2.1 HINF.out.2.2.2 rfl (by decide) _ _ _ rfl (HPR2.out.alloc _) ⟨W2.heap.size, 0, none⟩ 1 1 [.int .i64 r] rfl rfl (cell_one_new _ _ _) (by simp [Value.oneCell']) hL1 hL2 (by simp; omega) ?_; intro v' w1 hown' hgrow _; obtain ⟨g', cap', rfl⟩ := ownsRow_succ hown'; obtain ⟨⟨u, hu1⟩, hI', hkf, hkp⟩ := AtI.appended (st' := r :: st.drop q) (A := A1) (j := rest) (cap := cap) HI2.out HEB.out.1 HEB.out.2.1 HEB.out.2.2 HNI.out HPR2.out (by rw [HST'.out.1, HST'.out.2]; exact hown') hgrow; have hc1 := hu1.cell; have hf1 := hu1.frozen; have HI' := Lib.hid hI'; have HKF := Lib.hid hkf; have HKP := Lib.hid hkp; clear hI' hkf hkp hown' hgrow hu1)
    refine ⟨(KeepsFrom.trans (keepsFrom_below HB1.out) (keepsFrom_below HB2'.out)).trans (HKF.out _), ((kpB_below HB1.out HIW.out).trans (kpB_below HB2'.out HI1.out.2.size)).trans HKP.out, ?_⟩
    have h := HI'.out
    rw [← HSE.out] at h
    exact h
  case done =>
    rintro D W hD hI hK
    rw [show n - n = 0 by omega, List.drop_zero, stackE_nil_of HCNT.out] at hI
    obtain ⟨⟨⟨v, hv1, hv2, _⟩, -, -⟩, hbel⟩ := hI
    obtain ⟨g, cap, rfl⟩ := ownsRow_succ (k := 0) hv2
    have hrd : Rd W (.slice (some ⟨g, 0, none⟩) 1 cap) (intV [comeE E l].reverse) := Rd.own hv2
    obtain ⟨A', n', c', heq, _, hcc, hA⟩ := hrd.ints
    cases heq
    obtain ⟨b, off, heq, _, hcell⟩ := hA (by omega)
    cases heq
    have c0 : W.cell? ⟨g, 0, none⟩ = some (.int .i64 (comeE E l)) := hcell 0 _ rfl
    have hc1 := hv1.cell
    have HE := Lib.hid HEE.out
    obtain ⟨x, hx⟩ : ∃ x, x = comeE E l := ⟨_, rfl⟩
    rw [← hx] at c0
    have HX := Lib.hid hx
    have HBEL := Lib.hid hbel
    clear hx hrd hA hcell hv1 hv2 hbel
    gi_wp2
    refine ⟨by simp, .inl ⟨_, _, rfl, run_takeDeferred hK, ?_⟩⟩
    refine ⟨.tuple #[.int .i64 x, .int .i64 0], by simp [results, Tryz.results114, go_sem], ?_, HBEL.out.trans (belowK_b (w := w) (Nat.le_refl _) W D _ _ (by omega) hK rfl rfl)⟩
    rw [HX.out, HE.out]
end Go.Proofs.YtcfcpbkeedfbpaaGreatDoor

namespace Go.Proofs.YtcfcpbkeedfbpaaGreatDoor
open Go.RowKit TermSpec EvalSpec
set_option maxRecDepth 100000

/-- What At answers. -/
def ERetAt (W : World) (x e : Int) (e2 : Ending) (w' : World) : Prop := e2 = .returned (.tuple #[.int .i64 x, .int .i64 e]) ∧ Below W.heap.size W w'
end Go.Proofs.YtcfcpbkeedfbpaaGreatDoor

namespace Go.Proofs.YtcfcpbkeedfbpaaGreatDoor
open Go.RowKit Go.Sort TermSpec EvalSpec ActSpec
set_option maxRecDepth 100000

theorem elem_v4s : Tryz.prog.elem 56 = 51 := by kernel_rfl
theorem inf_v4 : (Tryz.prog.info? 51).map (fun i => (i.zero, i.size, i.bytes)) = some (some (.agg #[.int .i64 0, .int .i64 0, .int .i64 0, .int .i64 0]), 4, 32) := by kernel_rfl
/-- A list of values' lists of the call's own. -/
def RowV (W wr : World) (p : Value) (xs : List V4) : Prop := wr.ownsRow W.heap.size 51 4 p xs.length (v4sV xs) ∧ Below W.heap.size W wr
theorem RowV.keep {W w w' : World} {p : Value} {xs : List V4} (h : RowV W w p xs) (hb : Below w.heap.size w w') : RowV W w' p xs := ⟨own_keep h.1 hb, below_two' h.2 hb⟩
theorem RowV.add {W wr w2 : World} {p p' : Value} {xs ys : List V4} (h : RowV W wr p xs) (hrow : w2.ownsRow W.heap.size 51 4 p' (xs.length + ys.length) (v4sV xs ++ v4sV ys)) (hg : wr.grownBy w2 p.ownBlock) : RowV W w2 p' (xs ++ ys) := by
  refine ⟨?_, h.2.grown hg h.2.size (fun j hj => (own_block_bd h.1 j hj).1)⟩
  rw [← v4sV_append, List.length_append]
  exact hrow
theorem RowV.v4s {W wr : World} {p : Value} {xs : List V4} (h : RowV W wr p xs) : V4s wr p xs := ⟨xs.length, rfl, Rdk.own h.1⟩
theorem v4_lit {w : World} {k : Nat} {x : V4} (hk : k = w.heap.size) : V4s (w.alloc (.cells #[.int .i64 x.a, .int .i64 x.b, .int .i64 x.c, .int .i64 x.d] 51)) (.slice (some ⟨k, 0, none⟩) 1 1) [x] := by
  subst hk
  refine ⟨1, rfl, _, 1, rfl, Nat.le_refl _, rfl, fun _ => ⟨w.heap.size, 0, rfl, by simp, fun j u hj => ?_⟩⟩
  rw [World.cell?_alloc_at _ _ _ _ rfl, Nat.zero_add, ← Array.getElem?_toList]
  exact hj
theorem eq_v4 (x y : V4) (w : World) : (Op.equalIn 10000 51 (v4A x) (v4A y)).run Tryz.prog w = .ok (decide (x = y)) w := by
  have u3 := Tryz.underlying3
  obtain ⟨i0, hi, hz0, hz1, hz2⟩ := info_parts inf_int
  have hc : Tryz.prog.cellsOf 3 = 1 := by kernel_rfl
  rw [show (10000 : Nat) = 9999 + 1 from rfl, run_equalIn_array w 9999 _ _ Tryz.underlying51 hi, hc]
  simp only [List.range, List.range.loop, Op.eqItems, Sem.run_bind]
  go_simp
  obtain ⟨a, b, c, d⟩ := x
  obtain ⟨a', b', c', d'⟩ := y
  by_cases h1 : a = a' <;> by_cases h2 : b = b' <;> by_cases h3 : c = c' <;> by_cases h4 : d = d' <;> simp [h1, h2, h3, h4]
/-- A slice's cells, if it has any, lie no lower. -/
def Beyond (base : Nat) (v : Value) : Prop := ∀ b off n c, v = .slice (some ⟨b, off, none⟩) n c → 0 < n → base ≤ b
theorem Beyond.row {W wr : World} {p : Value} {xs : List V4} (h : RowV W wr p xs) {base : Nat} (hb : base ≤ W.heap.size) : Beyond base p := by
  intro b off n c he _
  subst he
  have := (own_block_bd h.1 b (by simp [Value.ownBlock])).1
  omega
theorem V4s.but {w w' : World} {v : Value} {l : List V4} {base E : Nat} (h : V4s w v l) (hB : Beyond base v) (hE : E < base) (hg : w.grownBy w' (some E)) : V4s w' v l := by
  obtain ⟨n, hn, A, c, rfl, hc, hl, hA⟩ := h
  refine ⟨n, hn, A, c, rfl, hc, hl, fun h0 => ?_⟩
  obtain ⟨b, off, rfl, hb, hcell⟩ := hA h0
  refine ⟨b, off, rfl, Nat.lt_of_lt_of_le hb hg.size, fun j u hj => ?_⟩
  have hbe := hB b off n c rfl h0
  have hblk := hg.block b hb (fun e => by injection e with e; omega)
  have := hcell j u hj
  simp only [World.cell?] at this ⊢
  rw [hblk]
  exact this
end Go.Proofs.YtcfcpbkeedfbpaaGreatDoor
