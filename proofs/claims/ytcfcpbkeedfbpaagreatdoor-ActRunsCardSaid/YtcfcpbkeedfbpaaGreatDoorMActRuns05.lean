/- EvalBack, EvalAtMem, EvalAt, EvalHolds, ActRefWith, joined. -/
import Derived.RangeFuncBox
import Derived.RangeFuncNested
import Derived.RangeFuncBound
import Derived.RangeFuncCalls
import Derived.RangeFuncLeaves
import Derived.Shelf.Abstract
import Derived.Shelf.RegionOpen
import Derived.WalkKit
import Derived.OwnWalkIn
import Derived.TacticsInMore
import Derived.LoopNIn
import Derived.LoopIn
import Derived.Test.YtcfcpbkeedfbpaaGreatDoorMActRuns04
import Derived.Test.YtcfcpbkeedfbpaaGreatDoorMActRuns00
import Derived.Test.YtcfcpbkeedfbpaaGreatDoorMActRuns02
import Derived.Lib.QuietBelowIn
import Derived.Test.YtcfcpbkeedfbpaaGreatDoorMActRuns03
import Derived.Laws.StructEq
import Derived.DeepKeys
namespace Go.Proofs.YtcfcpbkeedfbpaaGreatDoor
open Go.RowKit Go.Shelf TermSpec
set_option maxRecDepth 100000

attribute [local go_sem] Oper.semAt_some

abbrev BT : Type := Nat × Tm
def tm0 : Tm := ⟨0, 0, ⟨#[]⟩⟩
def encB (x : BT) : Array Value := #[.int .i64 (x.1 : Int), .agg #[.int .i64 x.2.op, .int .i64 x.2.n, .string x.2.s]]
/-- The j-th that comes. -/
def backAt (l : List Tm) (j : Nat) : BT := (l.length - 1 - j, (l[l.length - 1 - j]?).getD tm0)

/-- What it asks to be kept: what lay below n₀, and the box of the slice. -/
def KpB (n₀ Bs : Nat) (W W' : World) : Prop := Below n₀ W W' ∧ ∀ v, Boxed W Bs 64 v → Boxed W' Bs 64 v
theorem KpB.trans {n₀ Bs : Nat} {A B C : World} (h : KpB n₀ Bs A B) (k : KpB n₀ Bs B C) : KpB n₀ Bs A C := ⟨h.1.trans k.1, fun v hv => k.2 v (h.2 v hv)⟩
theorem KpB.turn {n₀ Bs : Nat} {w : World} (hn : n₀ ≤ w.heap.size) (hB : Bs < w.heap.size) (W : World) (l : Nat) (o o' : Obj) (hl : w.heap.size ≤ l) (h : W.heap[l]? = some o) (_ : o.isCells = false) : KpB n₀ Bs W (W.putObj l o') :=
  ⟨(Below.refl n₀ W).grown (grownBy_putObj' W l o') (by have := (Array.getElem?_eq_some_iff.1 h).1; omega) (fun k e => by cases e; omega), fun v hv => hv.kept (grownBy_putObj' W l o') (fun e => by injection e with e; omega)⟩

set_option maxRecDepth 100000 in
set_option maxHeartbeats 2000000 in
theorem back1_in (F : Fence) (n : Nat) (h7 : F.fn 161) (hro : F.round = none) (hn : 1 ≤ n) (lp Bs n₀ : Nat) (A : Option Addr) (len cap : Nat) (l : List Tm) (hlen : len = l.length) (h63 : len ≤ 9223372036854775807) (J : Nat → World → Prop)
    (hY : ∀ k W, J k W → k < len → YieldAt F (n - 1) Tryz.prog lp (encB (backAt l k)) W fun e W' => e = .returned (.bool true) ∧ J (k + 1) W' ∧ KpB n₀ Bs W W')
    (W : World) (hBx : Boxed W Bs 64 (.slice A len cap)) (w0 : World) (hT : Tms w0 (.slice A len cap) l) (hw0 : Below w0.heap.size w0 W) (hn0 : w0.heap.size ≤ n₀) (h0 : J 0 W) :
    CallsIn F n Tryz.prog 161 #[.func (.yield lp) #[] #[], .pointer (some ⟨Bs, 0, none⟩)] W fun e W' => (∃ v, e = .returned v) ∧ J len W' := by
  have HT := Lib.hid hT
  have HL := Lib.hid hlen
  have HW0 := Lib.hid hw0
  have hcap := hT.cap
  have hBs := hBx.cell
  clear hT hlen hw0
  refine callsIn_of_wp Tryz.func161 rfl h7 ?_ hro
  simp only [Tryz.ntmps161, List.size_toArray, List.length_cons, List.length_nil, Nat.reduceAdd, Nat.reduceSub, Array.replicate_succ, Array.replicate_zero, List.push_toArray, List.append_toArray, List.nil_append, List.cons_append]
  gi_wp2
  gi_loopw [3] (fun i wr => ∃ k : Nat, k ≤ len ∧ i = .int .i64 ((len : Int) - 1 - k) ∧ J k wr ∧ KpB n₀ Bs W wr)
    (fun i _ => (intOf i + 1).toNat)
  case atStart => exact ⟨0, Nat.zero_le _, by simp, h0, Below.refl _ _, fun _ h => h⟩
  case round =>
    obtain ⟨k, hk, rfl, hJs, hnx⟩ := hrel
    by_cases hlt : k < len
    · obtain ⟨t, ht⟩ : ∃ t, l[len - 1 - k]? = some t := get_some (by have := HL.out; omega)
      have HTR : Tms wr (.slice A len cap) l := HT.out.keep (HW0.out.trans (hnx.1.mono hn0))
      obtain ⟨b, off, rfl, hb, c0, c1, c2⟩ := HTR.at_ ht
      have hy0 := hY k wr hJs hlt
      have hBS : wr.cell? ⟨Bs, 0, none⟩ = some (.slice (some ⟨b, off, none⟩) len cap) := (hnx.2 _ hBx).cell
      have hat : encB (backAt l k) = #[.int .i64 ((len : Int) - 1 - k), .agg #[.int .i64 t.op, .int .i64 t.n, .string t.s]] := by
        have hl := HL.out
        unfold encB backAt
        rw [← hl, ht]
        simp
        omega
      rw [hat] at hy0
      obtain ⟨fn, tmps, assign, body, hy, hR⟩ := hy0
      obtain ⟨q, hq⟩ : ∃ q, q = len - 1 - k := ⟨_, rfl⟩
      have hqi : (len : Int) - 1 - k = (q : Int) := by omega
      rw [← hq] at c0 c1 c2
      rw [hqi] at hy ⊢
      have hql : q < len := by omega
      have HQ := Lib.hid hq
      clear hqi hq ht hat hJs
      gi_wp2
      refine hR.mono ?_
      rintro e W3 ⟨rfl, hJ3, hk3⟩
      gi_wp2
      go_roundw
      case rel => exact ⟨k + 1, by omega, by have := HQ.out; simp; omega, hJ3, hnx.trans hk3⟩
      case measure => simp [intOf] <;> omega
    · obtain rfl : k = len := by omega
      gi_wp2
      go_end0
      exact ⟨⟨_, rfl⟩, hJs⟩

set_option maxHeartbeats 1000000 in
theorem back_in (F : Fence) (n : Nat) (h5 : F.fn 139) (hro : F.round = none) (A : Option Addr) (len cap : Nat) (w : World) :
    CallsIn F n Tryz.prog 139 #[.slice A len cap] w fun e w' => e = .returned (.func (.func 161) #[] #[.pointer (some ⟨w.heap.size, 0, none⟩)]) ∧ w' = w.alloc (.cells #[.slice A len cap] 64) := by
  refine callsIn_of_wp Tryz.func139 rfl h5 ?_ hro
  simp only [Tryz.ntmps139, List.size_toArray, List.length_cons, List.length_nil, Nat.reduceAdd, Nat.reduceSub, Array.replicate_succ, Array.replicate_zero, List.push_toArray, List.append_toArray, List.nil_append, List.cons_append]
  gi_wp2
  go_ret
  exact ⟨rfl, rfl⟩
/-- What it hands over: all terms, from the last one on. -/
theorem back_hands (F : Fence) (n : Nat) (h7 : F.fn 161) (hro : F.round = none) (hn : 1 ≤ n) (Bs n₀ : Nat) (A : Option Addr) (len cap : Nat) (l : List Tm) (hlen : len = l.length) (h63 : len ≤ 9223372036854775807) (w : World)
    (hc : Boxed w Bs 64 (.slice A len cap)) (w0 : World) (hT : Tms w0 (.slice A len cap) l) (hw0 : Below w0.heap.size w0 w) (hn0 : w0.heap.size ≤ n₀) :
    Hands F n Tryz.prog 161 #[.pointer (some ⟨Bs, 0, none⟩)] (fun k => encB (backAt l k)) (KpB n₀ Bs) len w := fun lp J W hW hY h0 =>
  back1_in F n h7 hro hn lp Bs n₀ A len cap l hlen h63 J hY W ((hW.block Bs hc.lt).trans hc) w0 hT (hw0.trans (hW.mono hw0.size)) hn0 h0
end Go.Proofs.YtcfcpbkeedfbpaaGreatDoor

namespace Go.Proofs.YtcfcpbkeedfbpaaGreatDoor
open Go.RowKit TermSpec EvalSpec
set_option maxRecDepth 100000

theorem elem_ints : Tryz.prog.elem 110 = 3 := by kernel_rfl
/-- A list of the call's own, from a place on. -/
theorem slice_rest {W0 : World} {base : Nat} {A : Option Addr} {m cap j : Nat} {xs : List Value} (h : W0.ownsRow base 3 1 (.slice A m cap) m xs) (hj : j ≤ m) :
    ∃ v, (∀ W, (Instr.slice 110 (.slice A m cap) (some (.int .i64 (j : Int))) none none).run Tryz.prog W = .ok v W) ∧ ∃ A' c', v = .slice A' (m - j) c' ∧ Rd W0 v (xs.drop j) := by
  have hl : xs.length = m := by have := h.1; omega
  rcases h.2 with ⟨heq, h0⟩ | ⟨g, cap', cur, heq, hbase, hb, hnc, hcm, hcs, ht⟩
  · cases heq
    obtain rfl : j = 0 := by omega
    refine ⟨.slice none 0 0, fun W => ?_, none, 0, rfl, ?_⟩
    · rw [run_slice_l (P := Tryz.prog) W 110 _ 0 0 (by rw [elem_ints]; exact Tryz.underlying110) .i64 ((0 : Nat) : Int) (by omega) (by omega), elem_ints, Tryz.sizeOf3]
      simp [sliced, Result.andThen]
    · rw [List.drop_zero, List.eq_nil_of_length_eq_zero hl]
      exact Rd.nil W0
  · cases heq
    have hrd : Rd W0 (.slice (some ⟨g, 0, none⟩) m cap) xs := Rd.own h
    refine ⟨.slice (if cap = j then some ⟨g, 0, none⟩ else some ⟨g, j, none⟩) (m - j) (cap - j), fun W => ?_, _, _, rfl, ?_⟩
    · rw [run_slice_l (P := Tryz.prog) W 110 _ m cap (by rw [elem_ints]; exact Tryz.underlying110) .i64 (j : Int) (by omega) (by omega), elem_ints, Tryz.sizeOf3]
      simp [sliced, Result.andThen, addr_add]
    · refine ⟨_, m - j, cap - j, rfl, by rw [List.length_drop, hl], by omega, fun h0 => ⟨g, j, if_neg (by omega), (Array.getElem?_eq_some_iff.1 hb).1, fun q u hq => ?_⟩⟩
      obtain ⟨A', n', c', heq, _, _, hA⟩ := hrd
      cases heq
      obtain ⟨b, off, heq, _, hcell⟩ := hA (by omega)
      cases heq
      rw [List.getElem?_drop] at hq
      have := hcell _ _ hq
      simpa using this
/-- Up to a place: it is still the call's own. -/
theorem slice_upto {W0 : World} {base : Nat} {A : Option Addr} {m cap j : Nat} {xs : List Value} (h : W0.ownsRow base 3 1 (.slice A m cap) m xs) (hj : j ≤ m) :
    (∀ W, (Instr.slice 110 (.slice A m cap) none (some (.int .i64 (j : Int))) none).run Tryz.prog W = .ok (.slice A j cap) W) ∧ W0.ownsRow base 3 1 (.slice A j cap) j (xs.take j) := by
  have hl : xs.length = m := by have := h.1; omega
  rcases h.2 with ⟨heq, h0⟩ | ⟨g, cap', cur, heq, hbase, hb, hnc, hcm, hcs, ht⟩
  · cases heq
    obtain rfl : j = 0 := by omega
    refine ⟨fun W => ?_, ?_⟩
    · rw [run_slice_h (P := Tryz.prog) W 110 _ 0 0 (by rw [elem_ints]; exact Tryz.underlying110) .i64 ((0 : Nat) : Int) (by omega) (by omega), elem_ints, Tryz.sizeOf3]
      simp [sliced, Result.andThen]
    · simpa using World.ownsRow_nil W0 base _ 1
  · cases heq
    refine ⟨fun W => ?_, ?_⟩
    · rw [run_slice_h (P := Tryz.prog) W 110 _ m cap (by rw [elem_ints]; exact Tryz.underlying110) .i64 (j : Int) (by omega) (by omega), elem_ints, Tryz.sizeOf3]
      simp [sliced, Result.andThen, addr_add]
    · refine ⟨by rw [List.length_take]; omega, .inr ⟨g, cap, cur, rfl, hbase, hb, by omega, hcm, hcs, ?_⟩⟩
      rw [← ht, List.take_take]
      congr 1
      omega
/-- What lies in memory when so much has come. -/
def AtI (w : World) (C Bs : Nat) (eo : Obj) (sv : Value) (st : List Int) (W : World) : Prop :=
  ((∃ v, Boxed W C 110 v ∧ W.ownsRow w.heap.size 3 1 v st.length (intV st.reverse) ∧ True) ∧ (W.heap[w.heap.size]? = some eo ∧ Boxed W Bs 64 sv)) ∧ Below w.heap.size w W
theorem heap_own {β : Type} (B E : Nat) (o : Obj) (ho : o.isCells = true) : OwnFrom B (fun (_ : β) W => W.heap[E]? = some o) := fun s X Y row h hg hr =>
  (hg.block E (Array.getElem?_eq_some_iff.1 h).1 (fun e => by
    obtain ⟨_, o', ho', hc⟩ := hr E e.symm
    rw [h] at ho'
    cases ho'
    rw [ho] at hc
    cases hc)).trans h
theorem AtI.own (w : World) (C Bs : Nat) (cs : Array Value) (T : TypeId) (sv : Value) (st : Nat → List Int) (B : Nat) (hB : w.heap.size ≤ B) : OwnFrom B (fun k W => AtI w C Bs (.cells cs T) sv (st k) W) :=
  OwnFrom.and (OwnFrom.and (Own.from (holdsRow_own _ _ _ _ _ (fun k => (st k).length) (fun k => intV (st k).reverse) (fun _ _ => True)) _) (OwnFrom.and (heap_own B _ _ rfl) (Own.from (boxed_own Bs _ (fun _ => sv)) _))) (ownFrom_below (Nat.le_refl _) hB)
theorem AtI.keep {w W W' : World} {C Bs : Nat} {eo : Obj} {sv : Value} {st : List Int} (h : AtI w C Bs eo sv st W) (hb : Below W.heap.size W W') : AtI w C Bs eo sv st W' := by
  obtain ⟨⟨⟨v, h1, h2, h3⟩, h4, h5⟩, h6⟩ := h
  exact ⟨⟨⟨v, KitC.block_on h1 hb, own_keep h2 hb, h3⟩, KitC.block_on h4 hb, KitC.block_on h5 hb⟩, below_two' h6 hb⟩
theorem keepsFrom_below {B : Nat} {W W' : World} (h : Below W.heap.size W W') : KeepsFrom B W W' := ⟨h.size, fun k _ _ hk _ => (h.block k (Array.getElem?_eq_some_iff.1 hk).1).trans hk⟩
theorem kpB_below {n₀ Bs : Nat} {W W' : World} (h : Below W.heap.size W W') (hn : n₀ ≤ W.heap.size) : KpB n₀ Bs W W' := ⟨h.mono hn, fun _ hv => KitC.block_on hv h⟩
/-- Behind `come = append(come[:rest], n)`. -/
theorem AtI.appended {w W w1 : World} {C Bs j m : Nat} {cap : Nat} {A : Option Addr} {eo tmp : Obj} {sv v' : Value} {st st' : List Int} {ys : List Value} (h : AtI w C Bs eo sv st W) (hBs : C ≠ Bs) (hE : C ≠ w.heap.size) (hC : w.heap.size ≤ C)
    (heo : ∀ cs T, eo = .cells cs T → T ≠ 3)
    (hrow : W.ownsRow w.heap.size 3 1 (.slice A j cap) m ys) (hown' : w1.ownsRow w.heap.size 3 1 v' st'.length (intV st'.reverse)) (hgrow : (W.alloc tmp).grownBy w1 (Value.slice A j cap).ownBlock) :
    (∃ u, Boxed w1 C 110 u) ∧ AtI w C Bs eo sv st' (w1.setCell ⟨C, 0, none⟩ v') ∧ (∀ B, KeepsFrom B W (w1.setCell ⟨C, 0, none⟩ v')) ∧ KpB w.heap.size Bs W (w1.setCell ⟨C, 0, none⟩ v') := by
  obtain ⟨⟨⟨u, h1, h2, h3⟩, h4, h5⟩, h6⟩ := h
  have hu1 : Boxed w1 C 110 u := (h1.alloc tmp).kept hgrow (h1.not_row (by decide) hrow)
  have hs1 : Boxed w1 Bs 64 sv := (h5.alloc tmp).kept hgrow (h5.not_row (by decide) hrow)
  have he1 : w1.heap[w.heap.size]? = some eo := by
    have hlt := (Array.getElem?_eq_some_iff.1 h4).1
    refine (hgrow.block _ (by simp; omega) (fun e => ?_)).trans ((Below.heap_alloc W _ _ hlt).trans h4)
    rcases hrow.2 with ⟨heq, _⟩ | ⟨g, cap', cur, heq, _, hgb, _⟩
    · rw [heq] at e; simp [Value.ownBlock] at e
    · rw [heq] at e
      obtain rfl : w.heap.size = g := by simpa [Value.ownBlock] using e
      rw [h4] at hgb
      cases hgb
      exact heo _ _ rfl rfl
  have hlow : Below w.heap.size W (w1.setCell ⟨C, 0, none⟩ v') := by
    refine (((Below.refl w.heap.size W).alloc h6.size tmp).grown hgrow (by have := h6.size; simp; omega) fun i ei => ?_).setCell (p := ⟨C, 0, none⟩) hC v'
    exact (own_block_bd hrow i ei).1
  refine ⟨⟨u, hu1⟩, ⟨⟨⟨v', hu1.set v', hown'.kept (grownBy_setCell' w1 C v') (.inr (hu1.not_row (by decide) hown').symm), trivial⟩, (Below.heap_setCell _ _ _ _ hE.symm).trans he1, hs1.other hBs.symm _⟩, h6.trans hlow⟩, fun B => ?_, hlow, fun q hq => ?_⟩
  · refine KeepsOthers.from ((KeepsOthers.alloc W tmp).trans (KeepsOthers.trans (KeepsOthers.of_grownBy hgrow fun i o ei hi => ?_) (KeepsOthers.setCell _ _ _))) B
    rcases (hrow.alloc tmp).2 with ⟨heq, _⟩ | ⟨g, cap', cur, heq, _, hgb, _⟩
    · rw [heq] at ei; simp [Value.ownBlock] at ei
    · rw [heq] at ei
      obtain rfl : g = i := by simpa [Value.ownBlock] using ei
      rw [hgb] at hi; cases hi; rfl
  · exact (((hq.alloc tmp).kept hgrow (hq.not_row (by decide) hrow)).other hBs.symm _)
end Go.Proofs.YtcfcpbkeedfbpaaGreatDoor

namespace Go.Proofs.YtcfcpbkeedfbpaaGreatDoor
open Go.RowKit Go.Shelf Go.Sort TermSpec EvalSpec
set_option maxRecDepth 100000

attribute [local go_sem] Oper.semAt_some

set_option maxRecDepth 100000 in
set_option maxHeartbeats 4000000 in
theorem at_yes (p : EP) (e : Ev) (A : Option Addr) (n c : Nat) (l : List Tm) (hn : n = l.length) (hn62 : n ≤ 4398046511104) (hs : Small l) (w : World) (h : Tms w (.slice A n c) l) (he : EnvIn w p e) (hc : chkE e l = 0) :
    Calls Tryz.prog 114 #[.slice A n c, envV p e] w fun e2 w' => e2 = .returned (.tuple #[.int .i64 (comeE e l), .int .i64 0]) ∧ Below w.heap.size w w' := by
  have HC := Lib.hid (fun w h h' => echeck_any p e A n c l hn hn62 hs w h h')
  rw [hc] at HC
  have HT := Lib.hid h
  have HN := Lib.hid hn
  have HEN := Lib.hid he
  obtain ⟨vA, vn, vc, iA, im, ic⟩ := p
  obtain ⟨E, hE⟩ : ∃ E, E = e := ⟨_, rfl⟩
  obtain ⟨vars, v0, v1, v2, v3, ins⟩ := e
  change Calls _ _ #[.slice A n c, .agg #[.slice vA vn vc, .int .i64 v0, .int .i64 v1, .int .i64 v2, .int .i64 v3, .slice iA im ic]] _ _
  have HCE := Lib.hid hc
  have HEE := Lib.hid hE
  clear h hn he hc hE
  refine (callsIn_wide (n := 5)).1 ?_
  refine callsIn_of_wp_marks Tryz.func114 rfl trivial ?_ rfl
  simp only [Tryz.ntmps114, List.size_toArray, List.length_cons, List.length_nil, Nat.reduceAdd, Nat.reduceSub, Array.replicate_succ, Array.replicate_zero, List.push_toArray, List.append_toArray, List.nil_append, List.cons_append]
  gi_wp2_with (refine ⟨trivial, ?_⟩; gi_at_call 75; (with_reducible refine (callsIn_wide.2 (HC.out _ (HT.out.keep (KitC.below_one _ _)) (HEN.out.keep (KitC.below_one _ _)))).mono ?_))
  rintro e2 w2 ⟨rfl, hb2⟩
  obtain ⟨B2, hw2, hz2⟩ := KitC.one_block hb2
  have HB2 := Lib.hid B2
  have HW2 := Lib.hid hw2
  clear hb2 B2 hw2
  gi_wp2_with (refine ⟨trivial, ?_⟩; gi_at_call 139; (with_reducible refine (back_in _ _ trivial rfl _ _ _ _).mono ?_); rintro e w' ⟨rfl, rfl⟩)
  have bC := (Boxed.new w2 110 (.slice none 0 0)).alloc (.cells #[.slice A n c] 64)
  have bS := Boxed.new (w2.alloc (.cells #[.slice none 0 0] 110)) 64 (.slice A n c)
  rw [World.size_alloc] at bS
  have hB0 : Below w.heap.size w ((w2.alloc (.cells #[.slice none 0 0] 110)).alloc (.cells #[.slice A n c] 64)) := below_two' HW2.out (KitC.below_pair _ _ _)
  have bE : ((w2.alloc (.cells #[.slice none 0 0] 110)).alloc (.cells #[.slice A n c] 64)).heap[w.heap.size]? = some (.cells #[.slice vA vn vc, .int .i64 v0, .int .i64 v1, .int .i64 v2, .int .i64 v3, .slice iA im ic] 54) := KitC.block_on HB2.out (KitC.below_pair _ _ _)
  have hsz : ((w2.alloc (.cells #[.slice none 0 0] 110)).alloc (.cells #[.slice A n c] 64)).heap.size = w2.heap.size + 2 := by simp
  obtain ⟨W0, hW0⟩ : ∃ W0, (w2.alloc (.cells #[.slice none 0 0] 110)).alloc (.cells #[.slice A n c] 64) = W0 := ⟨_, rfl⟩
  rw [hW0] at bC bS hB0 bE hsz ⊢
  clear hW0
  have HI0 : Hid (AtI w w2.heap.size (w2.heap.size + 1) (.cells #[.slice vA vn vc, .int .i64 v0, .int .i64 v1, .int .i64 v2, .int .i64 v3, .slice iA im ic] 54) (.slice A n c) (stackE E (l.drop (n - 0))) W0) := Lib.hid (by
    have e0 : stackE E (l.drop (n - 0)) = [] := by rw [Nat.sub_zero, HN.out, List.drop_length]; rfl
    rw [e0]
    exact ⟨⟨⟨_, bC, World.ownsRow_nil _ _ _ _, trivial⟩, bE, bS⟩, hB0⟩)
  have HCNT : Hid (cnt 1 l = some l.length) := Lib.hid (wholeB_iff.1 (chk_ok (chkE_ok HCE.out).2.1).1).2
  have HBS := Lib.hid bS
  clear bC bE hB0 bS
  refine range_seq rfl (by omega) (gf := 161) (lb := #[.pointer (some ⟨w2.heap.size + 1, 0, none⟩)]) rfl trivial (enters_of Tryz.func161 (by kernel_rfl) rfl)
    (back_hands Fence.wide (5 - 1) trivial rfl (by omega) (w2.heap.size + 1) w.heap.size A n c l HN.out (by omega) W0 HBS.out w HT.out HI0.out.2 (Nat.le_refl _)) (fun h k => h.trans k) (KpB.turn (by omega) (by omega)) (fun _ => rfl)
    (fun k W => AtI w w2.heap.size (w2.heap.size + 1) (.cells #[.slice vA vn vc, .int .i64 v0, .int .i64 v1, .int .i64 v2, .int .i64 v3, .slice iA im ic] 54) (.slice A n c) (stackE E (l.drop (n - k))) W)
    (AtI.own _ _ _ _ _ _ _ _ (by omega)) HI0.out
    (fun k a' W => ∃ Bx, W0.heap.size ≤ Bx ∧ W.heap[Bx]? = some (.cells #[.int .i64 (backAt l k).2.op, .int .i64 (backAt l k).2.n, .string (backAt l k).2.s] 68) ∧ a' = { tmps := #[.slice A n c, .agg #[.slice vA vn vc, .int .i64 v0, .int .i64 v1, .int .i64 v2, .int .i64 v3, .slice iA im ic], undef, .pointer (some ⟨w.heap.size, 0, none⟩), .int .i64 0, .int .i64 0, .int .i64 0, .pointer (some ⟨w2.heap.size, 0, none⟩), undef, .pointer (some ⟨Bx, 0, none⟩), undef, undef, .slice A n c, .agg #[.slice vA vn vc, .int .i64 v0, .int .i64 v1, .int .i64 v2, .int .i64 v3, .slice iA im ic], .int .i64 0, .int .i64 0, .bool false, undef, .slice A n c, .func (.func 161) #[] #[.pointer (some ⟨w2.heap.size + 1, 0, none⟩)], .int .i64 ((backAt l k).1 : Int), .agg #[.int .i64 (backAt l k).2.op, .int .i64 (backAt l k).2.n, .string (backAt l k).2.s], undef, undef, undef, undef, undef, undef, undef, undef, undef, undef, undef, undef, undef, undef, undef, undef, undef, undef, undef, undef, undef], defers := [] })
    (fun a' k X Y row hs hg hr => by
      obtain ⟨Bx, h1, h2, h3⟩ := hs
      exact ⟨Bx, h1, heap_own (β := Unit) W0.heap.size Bx _ rfl () X Y row h2 hg hr, h3⟩)
    ?assign ?body ?done
  case assign =>
    rintro lp k W K hk hI hK
    have hsW : w2.heap.size + 2 ≤ W.heap.size := by have := hI.1.2.2.lt; omega
    have HI := Lib.hid hI
    obtain ⟨x, hx⟩ : ∃ x, x = backAt l k := ⟨_, rfl⟩
    rw [← hx] at hK ⊢
    obtain ⟨bi, ⟨bo, bn, bs⟩⟩ := x
    have HK := Lib.hid hK
    clear hI hK hx
    simp only [encB]
    gi_wp2
    exact HK.out _ _ ((KeepsOthers.alloc _ _).from _) (kpB_below (KitC.below_one _ _) (by omega)) (HI.out.keep (KitC.below_one _ _)) ⟨W.heap.size, by omega, heap_alloc_new _ _, rfl⟩
  case body =>
    rintro lp k a' W hk hI ⟨Bx, hBx, hX, rfl⟩
    obtain ⟨t, ht⟩ : ∃ t, l[n - (k + 1)]? = some t := get_some (by have := HN.out; omega)
    have hba : backAt l k = (n - (k + 1), t) := by
      have hl := HN.out
      unfold backAt
      rw [← hl, show n - 1 - k = n - (k + 1) by omega, ht]
      rfl
    rw [hba] at hX ⊢
    obtain ⟨har, hle, hnext⟩ := stackE_next (e := E) HCNT.out ht
    rw [show n - (k + 1) + 1 = n - k by omega] at hle hnext
    rw [hnext]
    obtain ⟨st, hst⟩ : ∃ st, st = stackE E (l.drop (n - k)) := ⟨_, rfl⟩
    rw [← hst] at hI hle ⊢
    obtain ⟨hv4, hck, _, hkn⟩ := chkE_ok HCE.out
    obtain ⟨_, hmay, _⟩ := chk_ok hck
    have HBD : Hid (∀ x ∈ st, -1000000 ≤ x ∧ x ≤ 1000000) := Lib.hid (by
      rw [hst]
      refine stackE_bd ?_
      rw [List.all_eq_true] at hmay ⊢
      exact fun u hu => hmay u (List.mem_of_mem_drop hu))
    have HKT : Hid (t.op = 2 → NamesSpec.hasS (vnames E) t.s = true) := Lib.hid (fun h2 => by
      unfold knownB at hkn
      rw [List.all_eq_true] at hkn
      have := hkn t (List.mem_of_getElem? ht)
      rw [HEE.out]
      simpa [h2] using this)
    have HV4 : Hid (E.vars.length ≤ 4) := Lib.hid (by rw [HEE.out]; exact hv4)
    have HI := Lib.hid hI
    obtain ⟨⟨⟨v, hv1, hv2, _⟩, hen, hbs⟩, hbel⟩ := hI
    obtain ⟨A1, cap, rfl⟩ := own_shape hv2
    have HROW := Lib.hid hv2
    obtain ⟨m, hm⟩ : ∃ m, m = st.length := ⟨_, rfl⟩
    obtain ⟨q, hq⟩ : ∃ q, q = arN t.op := ⟨_, rfl⟩
    have hqi : ar t.op = (q : Int) := by rw [hq, arN_of har]
    have HAR := Lib.hid (arity_any t.op)
    rw [hqi] at HAR
    have hqm : q ≤ m := by omega
    have hm63 : m ≤ 4398046511104 := by
      have h1 := stackE_size E (l.drop (n - k))
      rw [← hst, List.length_drop] at h1
      have := HN.out
      omega
    rw [← hm] at hv1
    have HC0 := Lib.hid hv1.cell
    have HC1 : Hid (∀ d os, (grow (redrawn W d) os).cell? ⟨w2.heap.size, 0, none⟩ = some (.slice A1 m cap)) := Lib.hid (cell_regrown hv1.cell)
    obtain ⟨x0, x1, x2⟩ := cells_3 hX
    have hc1 := HC1.out
    have hx0 := cell_regrown x0
    have hsub : IntKind.i64.wrap ((m : Int) - (q : Int)) = ((m - q : Nat) : Int) := by rw [IntWalk.i64_in _ (by omega)]; omega
    obtain ⟨rest, hrest⟩ : ∃ rest, rest = m - q := ⟨_, rfl⟩
    rw [← hrest] at hsub
    have HAQ : Hid (∀ d os, CallsIn Fence.wide 2 Tryz.prog 140 #[.int .i64 t.op] (grow (redrawn W d) os) fun e w'' => e = .returned (.int .i64 q) ∧ ∃ p : Regrown, w'' = grow (redrawn W p.d) p.os) := Lib.hid (fun d os => callsIn_wide.2 ((HAR.out _).mono fun e w'' ⟨he, hw⟩ => ⟨he, ⟨d, os⟩, hw.symm⟩))
    have HREST := Lib.hid hrest
    have HM := Lib.hid hm
    have HQ := Lib.hid hq
    have HST := Lib.hid hst
    have HX := Lib.hid hX
    have HXT := Lib.hid hnext
    have HARI := Lib.hid har
    obtain ⟨o, tn, ts⟩ := t
    simp only at HAQ hx0 ⊢
    clear hrest hm hq hst hX hba ht hnext hck hkn hv4 hmay x0 x1 x2 hv1 hv2 hen hbs hqi har hle hbel
    gi_wp2
    refine quiet_below_round rfl (by kernel_rfl) (by kernel_rfl) (by kernel_rfl) ?_
    repeat ((refine wpQuietIn_step (fun _ _ _ _ => trivial) (fun K hK => ?_)); go_simp; first | ((refine hK _ ?_); clear hK K) | ((apply Exists.intro); (refine ⟨fun _ => ?_, hK _ ?_⟩); (first | exact ⟨fun _ => by omega, HAQ.out _ _⟩ | exact HAQ.out _ _); clear hK K))
    refine wpQuietIn_nil ?_
    intro _ hw'
    obtain ⟨⟨dq, osq⟩, hw''⟩ := hw'
    subst hw''
    have hb1 := below_regrown W dq osq
    obtain ⟨W1, hW1⟩ : ∃ W1, grow (redrawn W dq) osq = W1 := ⟨_, rfl⟩
    simp only
    rw [hW1] at hb1 ⊢
    have HI1 := Lib.hid (HI.out.keep hb1)
    have HX1 := Lib.hid (KitC.block_on HX.out hb1)
    have HB1 := Lib.hid hb1
    have HROW1 := Lib.hid (own_keep HROW.out hb1)
    have HRR : Hid ((intV st.reverse).drop rest = intV (st.take q).reverse ∧ (intV st.reverse).take rest = intV (st.drop q).reverse) := Lib.hid (by
      have h1 := HREST.out
      have h2 := HM.out
      unfold intV
      rw [← List.map_drop, ← List.map_take, List.drop_reverse, List.take_reverse, show st.length - rest = q by omega]
      exact ⟨rfl, rfl⟩)
    rw [← HM.out] at HROW1
    have hrm : rest ≤ m := by have := HREST.out; omega
    obtain ⟨vr, hsl, A2, c2, rfl, hrd⟩ := slice_rest HROW1.out hrm
    rw [HRR.out.1] at hrd
    obtain ⟨hup, hpr⟩ := slice_upto HROW1.out hrm
    rw [HRR.out.2] at hpr
    obtain ⟨r, hr⟩ : ∃ r, r = evF E ⟨o, tn, ts⟩ (st.take q) := ⟨_, rfl⟩
    have HRK : Hid (∀ d os, CallsIn Fence.wide 2 Tryz.prog 141 #[.agg #[.int .i64 o, .int .i64 tn, .string ts], .slice A2 (m - rest) c2, .agg #[.slice vA vn vc, .int .i64 v0, .int .i64 v1, .int .i64 v2, .int .i64 v3, .slice iA im ic]] (grow (redrawn W1 d) os) fun e w'' => e = .returned (.int .i64 r) ∧ ∃ p : Regrown, w'' = grow (redrawn W1 p.d) p.os) := Lib.hid (fun d os => callsIn_wide.2 (by
      have hen := HEN.out.keep (below_two' HI1.out.2 (below_regrown W1 d os))
      rw [← HEE.out] at hen
      have h := reckon_any ⟨vA, vn, vc, iA, im, ic⟩ E ⟨o, tn, ts⟩ (grow (redrawn W1 d) os) _ (st.take q) hen HV4.out HKT.out HARI.out (by rw [List.length_take]; have := HQ.out; have := HM.out; simp only at *; omega) (hrd.keep (below_regrown W1 d os)) (fun x hx => HBD.out x (List.mem_of_mem_take hx))
      rw [← hr, HEE.out] at h
      exact h.mono fun e w'' ⟨he, hb⟩ => ⟨he, regrown_of_below (below_two' (below_regrown W1 d os) hb)⟩))
    have HSL := Lib.hid hsl
    obtain ⟨⟨⟨v, hv1, hv2, _⟩, hen, hbs⟩, hbel⟩ := HI1.out
    have HEQ : Hid (v = .slice A1 m cap) := Lib.hid (by
      have h1 := hv1.cell
      rw [(HB1.out.cell (p := ⟨w2.heap.size, 0, none⟩) (block_lt_of_cell HC0.out)).trans HC0.out] at h1
      injection h1 with h1
      exact h1.symm)
    rw [HEQ.out] at hv1
    obtain ⟨y0, y1, y2⟩ := cells_3 HX1.out
    obtain ⟨z0, z1, z2, z3, z4, z5⟩ := cells_6 hen
    have k0 := cell_regrown hv1.cell
    have k1 := cell_regrown y0
    have k2 := cell_regrown y1
    have k3 := cell_regrown y2
    have k4 := cell_regrown z0
    have k5 := cell_regrown z1
    have k6 := cell_regrown z2
    have k7 := cell_regrown z3
    have k8 := cell_regrown z4
    have k9 := cell_regrown z5
    have HR := Lib.hid hr
    have HPR := Lib.hid hpr
    have HUP := Lib.hid hup
    clear y0 y1 y2 z0 z1 z2 z3 z4 z5 hr hpr hup hrd hv1 hv2 hen hbs hbel hb1 hW1
    gi_wp2
    refine quiet_below_round rfl (by kernel_rfl) (by kernel_rfl) (by kernel_rfl) ?_
    repeat ((refine wpQuietIn_step (fun _ _ _ _ => trivial) (fun K hK => ?_)); go_simp; first | ((refine hK _ ?_); clear hK K) | ((apply Exists.intro); (refine ⟨fun _ => ?_, hK _ ?_⟩); (first | exact ⟨fun _ => by omega, HRK.out _ _⟩ | exact HRK.out _ _); clear hK K))
    refine wpQuietIn_nil ?_
    intro _ hw'
    obtain ⟨⟨dq2, osq2⟩, hw''⟩ := hw'
    subst hw''
    have hb2 := below_regrown W1 dq2 osq2
    obtain ⟨W2, hW2⟩ : ∃ W2, grow (redrawn W1 dq2) osq2 = W2 := ⟨_, rfl⟩
    simp only
    rw [hW2] at hb2 ⊢
    have HI2 := Lib.hid (HI1.out.keep hb2)
    have HB2' := Lib.hid hb2
    have HPR2 := Lib.hid (own_keep HPR.out hb2)
    have hcell : W2.cell? ⟨w2.heap.size, 0, none⟩ = some (.slice A1 m cap) := by rw [← hW2]; exact k0 dq2 osq2
    have hup := HUP.out
    have hszW : w.heap.size ≤ W2.heap.size := HI2.out.2.size
    obtain ⟨i0, hi, hz0, hz1, hz2⟩ := info_parts inf_int
    have HINF := Lib.hid (And.intro hi (And.intro hz0 (And.intro hz1 hz2)))
    have HEB : Hid (w2.heap.size ≠ w2.heap.size + 1 ∧ w2.heap.size ≠ w.heap.size ∧ w.heap.size ≤ w2.heap.size) := Lib.hid (by omega)
    have hL1 : rest + 1 ≤ maxLen := by unfold maxLen; omega
    have hL2 : (rest + 1) * 8 ≤ 140737488355328 := by omega
    have HSE : Hid (evF E ⟨o, tn, ts⟩ (st.take (arN o)) :: st.drop (arN o) = r :: st.drop q) := Lib.hid (by rw [HR.out, HQ.out])
    have HNI : Hid (∀ cs T, Obj.cells #[.slice vA vn vc, .int .i64 v0, .int .i64 v1, .int .i64 v2, .int .i64 v3, .slice iA im ic] 54 = .cells cs T → T ≠ 3) := Lib.hid (fun cs T h => by cases h; decide)
    have HIW : Hid (w.heap.size ≤ W.heap.size) := Lib.hid HI.out.2.size
    have HST' : Hid ((r :: st.drop q).length = rest + 1 ∧ intV (r :: st.drop q).reverse = intV (st.drop q).reverse ++ [.int .i64 r]) := Lib.hid (by
      have h1 := HREST.out
      have h2 := HM.out
      refine ⟨by rw [List.length_cons, List.length_drop]; omega, ?_⟩
      unfold intV
      simp)
    clear k0 k1 k2 k3 k4 k5 k6 k7 k8 k9 hW2 hb2 hi hz0 hz1 hz2 hsub hc1 hx0
    gi_wp2_with (gi_at_builtin; refine wpListIn_append_own _ rfl _ _ 110 rfl w.heap.size 3 i0 (.int .i64 0) 1 8 Tryz.underlying110 HINF.out.1 HINF.out.2.1 HINF.out.2.2.1 HINF.out.2.2.2 rfl (by decide) _ _ _ rfl (HPR2.out.alloc _) ⟨W2.heap.size, 0, none⟩ 1 1 [.int .i64 r] rfl rfl (cell_one_new _ _ _) (by simp [Value.oneCell']) hL1 hL2 (by simp; omega) ?_; intro v' w1 hown' hgrow _; obtain ⟨g', cap', rfl⟩ := ownsRow_succ hown'; obtain ⟨⟨u, hu1⟩, hI', hkf, hkp⟩ := AtI.appended (st' := r :: st.drop q) (A := A1) (j := rest) (cap := cap) HI2.out HEB.out.1 HEB.out.2.1 HEB.out.2.2 HNI.out HPR2.out (by rw [HST'.out.1, HST'.out.2]; exact hown') hgrow; have hc1 := hu1.cell; have hf1 := hu1.frozen; have HI' := Lib.hid hI'; have HKF := Lib.hid hkf; have HKP := Lib.hid hkp; clear hI' hkf hkp hown' hgrow hu1)
    refine ⟨(KeepsFrom.trans (keepsFrom_below HB1.out) (keepsFrom_below HB2'.out)).trans (HKF.out _), ((kpB_below HB1.out HIW.out).trans (kpB_below HB2'.out HI1.out.2.size)).trans HKP.out, ?_⟩
    have h := HI'.out
    rw [← HSE.out] at h
    exact h
  case done =>
    rintro D W hD hI hK
    rw [show n - n = 0 by omega, List.drop_zero, stackE_nil_of HCNT.out] at hI
    obtain ⟨⟨⟨v, hv1, hv2, _⟩, -, -⟩, hbel⟩ := hI
    obtain ⟨g, cap, rfl⟩ := ownsRow_succ (k := 0) hv2
    have hrd : Rd W (.slice (some ⟨g, 0, none⟩) 1 cap) (intV [comeE E l].reverse) := Rd.own hv2
    obtain ⟨A', n', c', heq, _, hcc, hA⟩ := hrd.ints
    cases heq
    obtain ⟨b, off, heq, _, hcell⟩ := hA (by omega)
    cases heq
    have c0 : W.cell? ⟨g, 0, none⟩ = some (.int .i64 (comeE E l)) := hcell 0 _ rfl
    have hc1 := hv1.cell
    have HE := Lib.hid HEE.out
    obtain ⟨x, hx⟩ : ∃ x, x = comeE E l := ⟨_, rfl⟩
    rw [← hx] at c0
    have HX := Lib.hid hx
    have HBEL := Lib.hid hbel
    clear hx hrd hA hcell hv1 hv2 hbel
    gi_wp2
    refine ⟨by simp, .inl ⟨_, _, rfl, run_takeDeferred hK, ?_⟩⟩
    refine ⟨.tuple #[.int .i64 x, .int .i64 0], by simp [results, Tryz.results114, go_sem], ?_, HBEL.out.trans (belowK_b (w := w) (Nat.le_refl _) W D _ _ (by omega) hK rfl rfl)⟩
    rw [HX.out, HE.out]
end Go.Proofs.YtcfcpbkeedfbpaaGreatDoor

namespace Go.Proofs.YtcfcpbkeedfbpaaGreatDoor
open Go.RowKit TermSpec EvalSpec
set_option maxRecDepth 100000

/-- What At answers. -/
def ERetAt (W : World) (x e : Int) (e2 : Ending) (w' : World) : Prop := e2 = .returned (.tuple #[.int .i64 x, .int .i64 e]) ∧ Below W.heap.size W w'
end Go.Proofs.YtcfcpbkeedfbpaaGreatDoor

namespace Go.Proofs.YtcfcpbkeedfbpaaGreatDoor
open Go.RowKit Go.Sort TermSpec EvalSpec ActSpec
set_option maxRecDepth 100000

theorem elem_v4s : Tryz.prog.elem 56 = 51 := by kernel_rfl
theorem v4_upto {W0 : World} {A : Option Addr} {n c k : Nat} {l : List V4} (h : V4s W0 (.slice A n c) l) (hk : k ≤ n) :
    (∀ W, (Instr.slice 56 (.slice A n c) none (some (.int .i64 (k : Int))) none).run Tryz.prog W = .ok (.slice A k c) W) ∧ V4s W0 (.slice A k c) (l.take k) := by
  obtain ⟨m, hm, A', c', heq, hc, hl, hA⟩ := h
  cases heq
  refine ⟨fun W => ?_, k, by rw [List.length_take]; omega, A, c, rfl, by omega, by rw [v4sV_length, List.length_take]; congr 1; omega, fun h0 => ?_⟩
  · rw [run_slice_h (P := Tryz.prog) W 56 _ n c (by rw [elem_v4s]; exact Tryz.underlying56) .i64 (k : Int) (by omega) (by omega), elem_v4s, Tryz.sizeOf51]
    cases A with
    | none => simp [sliced, Result.andThen]
    | some a =>
      obtain ⟨b, o, s⟩ := a
      cases s <;> simp [sliced, Result.andThen, Addr.add]
  · obtain ⟨b, off, rfl, hb, hcell⟩ := hA (by omega)
    refine ⟨b, off, rfl, hb, fun j u hj => hcell j u ?_⟩
    have e : v4sV l = v4sV (l.take k) ++ v4sV (l.drop k) := by rw [v4sV_append, List.take_append_drop]
    rw [e, List.getElem?_append_left (List.getElem?_eq_some_iff.1 hj).1]
    exact hj
theorem v4_from {W0 : World} {A : Option Addr} {n c k : Nat} {l : List V4} (h : V4s W0 (.slice A n c) l) (hk : k ≤ n) :
    ∃ v, (∀ W, (Instr.slice 56 (.slice A n c) (some (.int .i64 (k : Int))) none none).run Tryz.prog W = .ok v W) ∧ V4s W0 v (l.drop k) := by
  obtain ⟨m, hm, A', c', heq, hc, hl, hA⟩ := h
  cases heq
  cases A with
  | none =>
    have hn : n = 0 := by
      rcases Nat.eq_zero_or_pos n with h | h
      · exact h
      · obtain ⟨b, off, h, _⟩ := hA h
        cases h
    subst hn
    obtain rfl : k = 0 := by omega
    refine ⟨.slice none 0 c, fun W => ?_, 0, by simp [← hm], none, c, rfl, by omega, by rw [v4sV_length]; simp [← hm], fun h => absurd h (by omega)⟩
    rw [run_slice_l (P := Tryz.prog) W 56 _ 0 c (by rw [elem_v4s]; exact Tryz.underlying56) .i64 ((0 : Nat) : Int) (by omega) (by omega), elem_v4s, Tryz.sizeOf51]
    simp [sliced, Result.andThen]
  | some a =>
    refine ⟨.slice (if c = k then some a else some (a.add (k * 4))) (n - k) (c - k), fun W => ?_, n - k, by rw [List.length_drop]; omega, _, c - k, rfl, by omega, by rw [v4sV_length, List.length_drop]; congr 1; omega, fun h0 => ?_⟩
    · rw [run_slice_l (P := Tryz.prog) W 56 _ n c (by rw [elem_v4s]; exact Tryz.underlying56) .i64 (k : Int) (by omega) (by omega), elem_v4s, Tryz.sizeOf51]
      simp [sliced, Result.andThen]
    · obtain ⟨b, off, heq, hb, hcell⟩ := hA (by omega)
      cases heq
      refine ⟨b, off + k * 4, by rw [if_neg (by omega), addr_add], hb, fun j u hj => ?_⟩
      have e : v4sV l = v4sV (l.take k) ++ v4sV (l.drop k) := by rw [v4sV_append, List.take_append_drop]
      have hlen : (v4sV (l.take k)).length = k * 4 := by rw [v4sV_length, List.length_take]; congr 1; omega
      rw [Nat.add_assoc]
      refine hcell _ _ ?_
      rw [e, List.getElem?_append_right (by omega), hlen, Nat.add_sub_cancel_left]
      exact hj
theorem inf_v4 : (Tryz.prog.info? 51).map (fun i => (i.zero, i.size, i.bytes)) = some (some (.agg #[.int .i64 0, .int .i64 0, .int .i64 0, .int .i64 0]), 4, 32) := by kernel_rfl
/-- A list of values' lists of the call's own. -/
def RowV (W wr : World) (p : Value) (xs : List V4) : Prop := wr.ownsRow W.heap.size 51 4 p xs.length (v4sV xs) ∧ Below W.heap.size W wr
theorem RowV.keep {W w w' : World} {p : Value} {xs : List V4} (h : RowV W w p xs) (hb : Below w.heap.size w w') : RowV W w' p xs := ⟨own_keep h.1 hb, below_two' h.2 hb⟩
theorem RowV.add {W wr w2 : World} {p p' : Value} {xs ys : List V4} (h : RowV W wr p xs) (hrow : w2.ownsRow W.heap.size 51 4 p' (xs.length + ys.length) (v4sV xs ++ v4sV ys)) (hg : wr.grownBy w2 p.ownBlock) : RowV W w2 p' (xs ++ ys) := by
  refine ⟨?_, h.2.grown hg h.2.size (fun j hj => (own_block_bd h.1 j hj).1)⟩
  rw [← v4sV_append, List.length_append]
  exact hrow
theorem RowV.v4s {W wr : World} {p : Value} {xs : List V4} (h : RowV W wr p xs) : V4s wr p xs := ⟨xs.length, rfl, Rdk.own h.1⟩
theorem rowV_lit {W : World} {k : Nat} (hk : k = W.heap.size) : RowV W (W.alloc (.cells #[] 51)) (.slice (some ⟨k, 0, none⟩) 0 0) [] := by
  subst hk
  exact ⟨World.ownsRow_lit W #[] 0 (Nat.le_refl _) (Nat.zero_le _) rfl, KitC.below_one _ _⟩
theorem v4_lit {w : World} {k : Nat} {x : V4} (hk : k = w.heap.size) : V4s (w.alloc (.cells #[.int .i64 x.a, .int .i64 x.b, .int .i64 x.c, .int .i64 x.d] 51)) (.slice (some ⟨k, 0, none⟩) 1 1) [x] := by
  subst hk
  refine ⟨1, rfl, _, 1, rfl, Nat.le_refl _, rfl, fun _ => ⟨w.heap.size, 0, rfl, by simp, fun j u hj => ?_⟩⟩
  rw [World.cell?_alloc_at _ _ _ _ rfl, Nat.zero_add, ← Array.getElem?_toList]
  exact hj
theorem eq_v4 (x y : V4) (w : World) : (Op.equalIn 10000 51 (v4A x) (v4A y)).run Tryz.prog w = .ok (decide (x = y)) w := by
  have u3 := Tryz.underlying3
  obtain ⟨i0, hi, hz0, hz1, hz2⟩ := info_parts inf_int
  have hc : Tryz.prog.cellsOf 3 = 1 := by kernel_rfl
  rw [show (10000 : Nat) = 9999 + 1 from rfl, run_equalIn_array w 9999 _ _ Tryz.underlying51 hi, hc]
  simp only [List.range, List.range.loop, Op.eqItems, Sem.run_bind]
  go_simp
  obtain ⟨a, b, c, d⟩ := x
  obtain ⟨a', b', c', d'⟩ := y
  by_cases h1 : a = a' <;> by_cases h2 : b = b' <;> by_cases h3 : c = c' <;> by_cases h4 : d = d' <;> simp [h1, h2, h3, h4]
/-- A slice's cells, if it has any, lie no lower. -/
def Beyond (base : Nat) (v : Value) : Prop := ∀ b off n c, v = .slice (some ⟨b, off, none⟩) n c → 0 < n → base ≤ b
theorem Beyond.row {W wr : World} {p : Value} {xs : List V4} (h : RowV W wr p xs) {base : Nat} (hb : base ≤ W.heap.size) : Beyond base p := by
  intro b off n c he _
  subst he
  have := (own_block_bd h.1 b (by simp [Value.ownBlock])).1
  omega
theorem V4s.but {w w' : World} {v : Value} {l : List V4} {base E : Nat} (h : V4s w v l) (hB : Beyond base v) (hE : E < base) (hg : w.grownBy w' (some E)) : V4s w' v l := by
  obtain ⟨n, hn, A, c, rfl, hc, hl, hA⟩ := h
  refine ⟨n, hn, A, c, rfl, hc, hl, fun h0 => ?_⟩
  obtain ⟨b, off, rfl, hb, hcell⟩ := hA h0
  refine ⟨b, off, rfl, Nat.lt_of_lt_of_le hb hg.size, fun j u hj => ?_⟩
  have hbe := hB b off n c rfl h0
  have hblk := hg.block b hb (fun e => by injection e with e; omega)
  have := hcell j u hj
  simp only [World.cell?] at this ⊢
  rw [hblk]
  exact this
/-- What a call answers that gives lists of values: its argument, or a list of its own. -/
def RetV (W : World) (v0 : Value) (l : List V4) (e : Ending) (w' : World) : Prop := ∃ v, e = .returned v ∧ V4s w' v l ∧ Below W.heap.size W w' ∧ ∀ base, base ≤ W.heap.size → Beyond base v0 → Beyond base v

theorem withV_at {l : List V4} {x y : V4} {k : Nat} (hk : k = ActSpec.ahead x l) (h : l[k]? = some y) (hne : y ≠ x) : withV l x = l.take k ++ [x] ++ l.drop k := by
  subst hk
  unfold withV
  rw [h, if_neg (by simpa using hne)]
  simp
theorem withV_end {l : List V4} {x : V4} {k : Nat} (hk : k = ActSpec.ahead x l) (h : l.length ≤ k) : withV l x = l.take k ++ [x] ++ l.drop k := by
  subst hk
  unfold withV
  rw [List.getElem?_eq_none h, if_neg (by simp)]
  simp
theorem withV_is {l : List V4} {x : V4} {k : Nat} (hk : k = ActSpec.ahead x l) (h : l[k]? = some x) : withV l x = l := by
  subst hk
  unfold withV
  rw [if_pos h]
def WithRel (W : World) (l : List V4) (x : V4) (i : Value) (wr : World) : Prop := ∃ k : Nat, k ≤ ActSpec.ahead x l ∧ i = .int .i64 k ∧ Below W.heap.size W wr
set_option maxHeartbeats 4000000 in
theorem rwith_any (A : Option Addr) (n c : Nat) (l : List V4) (x : V4) (w : World) (h : V4s w (.slice A n c) l) (hn : n = l.length) (hn62 : n ≤ 1048576) :
    Calls Tryz.prog 83 #[.slice A n c, v4A x] w (RetV w (.slice A n c) (withV l x)) := by
  have HT := Lib.hid h
  have HN := Lib.hid hn
  have HEQ := Lib.hid (fun y w => eq_v4 y x w)
  obtain ⟨i0, hi, hz0, hz1, hz2⟩ := info_parts inf_v4
  have HI := Lib.hid (And.intro hi (And.intro hz0 (And.intro hz1 hz2)))
  have hbl := KitC.below_one w (.cells #[.int .i64 x.a, .int .i64 x.b, .int .i64 x.c, .int .i64 x.d] 51)
  have hbk := heap_alloc_new w (.cells #[.int .i64 x.a, .int .i64 x.b, .int .i64 x.c, .int .i64 x.d] 51)
  obtain ⟨w1, hw1⟩ : ∃ w1, w.alloc (.cells #[.int .i64 x.a, .int .i64 x.b, .int .i64 x.c, .int .i64 x.d] 51) = w1 := ⟨_, rfl⟩
  have HW := Lib.hid hw1
  rw [hw1] at hbl hbk
  have HB := Lib.hid hbl
  have HK := Lib.hid hbk
  clear h hn hi hz0 hz1 hz2 hw1 hbl hbk
  go_enter Tryz.func83, Tryz.ntmps83
  go_wp2_with fail
  rw [HW.out]
  go_loopw [5] (fun i wr => WithRel w1 l x i wr) (fun i _ => n + 1 - (intOf i).toNat)
  case atStart => exact ⟨0, Nat.zero_le _, rfl, Below.refl _ _⟩
  case round =>
    obtain ⟨k, hk, rfl, hbw⟩ := hrel
    have HAH := Lib.hid hk
    have HBW := Lib.hid hbw
    have hkn : k ≤ n := by have := ahead_le x l; have := HN.out; omega
    obtain ⟨z0, z1, z2, z3⟩ := cells_4 (KitC.block_on HK.out hbw)
    have y0 := cell_regrown z0
    have y1 := cell_regrown z1
    have y2 := cell_regrown z2
    have y3 := cell_regrown z3
    clear hk hbw
    by_cases hlt : k < n
    · obtain ⟨y, hy⟩ : ∃ y, l[k]? = some y := get_some (by have := HN.out; omega)
      obtain ⟨b, off, rfl, hb, c0, c1, c2, c3⟩ := (HT.out.keep (below_two' HB.out HBW.out)).at_ hy
      have d0 := cell_regrown c0
      have d1 := cell_regrown c1
      have d2 := cell_regrown c2
      have d3 := cell_regrown c3
      have HY := Lib.hid hy
      have hkI : (k : Int) < n := by omega
      have HL : Hid (∀ d os, Calls Tryz.prog 25 #[v4A y, v4A x] (grow (redrawn wr d) os) fun e w'' => e = .returned (.bool (lessV y x)) ∧ ∃ p : Regrown, w'' = grow (redrawn wr p.d) p.os) := Lib.hid (fun d os => Calls.regrown_of (rless_any y x _))
      clear c0 c1 c2 c3 z0 z1 z2 z3 hy
      rcases hls : lessV y x with _ | _
      · have HSTOP := Lib.hid (ahead_stop HAH.out HY.out hls)
        rw [hls] at HL
        clear hls
        go_wp2_with fail
        refine wp_region_quiet_below (by kernel_rfl) (by kernel_rfl) ?_
        repeat (go_big_quiet_step (exact HL.out _ _))
        refine wpQuiet_nil ?_
        intro _ hw'
        obtain ⟨⟨dq, osq⟩, hw''⟩ := hw'
        subst hw''
        simp only
        have hb2 := below_regrown wr dq osq
        obtain ⟨W2, hW2⟩ : ∃ W2, grow (redrawn wr dq) osq = W2 := ⟨_, rfl⟩
        rw [hW2] at hb2 ⊢
        have HB2 := Lib.hid (below_two' HBW.out hb2)
        obtain ⟨z0, z1, z2, z3⟩ := cells_4 (KitC.block_on HK.out HB2.out)
        obtain ⟨b', off', heq, hb', c0, c1, c2, c3⟩ := (HT.out.keep (below_two' HB.out HB2.out)).at_ HY.out
        cases heq
        clear hW2 hb2 y0 y1 y2 y3 d0 d1 d2 d3
        by_cases hyx : y = x
        · have heq := HEQ.out y
          rw [show decide (y = x) = true by simp [hyx]] at heq
          have HWV : Hid (withV l x = l) := Lib.hid (withV_is HSTOP.out (by rw [← hyx]; exact HY.out))
          clear hyx
          go_wp2_with fail
          go_big_quiet (fail)
          go_wp2_with fail
          go_ret
          exact ⟨_, rfl, by rw [HWV.out]; exact HT.out.keep (below_two' HB.out (below_drewN HB2.out _)), below_two' HB.out (below_drewN HB2.out _), fun _ _ h => h⟩
        · have heq := HEQ.out y
          rw [show decide (y = x) = false by simp [hyx]] at heq
          have HWV := Lib.hid (withV_at HSTOP.out HY.out hyx)
          clear hyx
          go_wp2_with fail
          go_big_quiet (fail)
          obtain ⟨W3, hW3⟩ : ∃ W3, W2.drewN nq = W3 := ⟨_, rfl⟩
          have hb3 : Below w1.heap.size w1 W3 := by rw [← hW3]; exact below_drewN HB2.out _
          rw [hW3]
          have HB3 := Lib.hid hb3
          clear hW3 hb3 z0 z1 z2 z3 c0 c1 c2 c3 heq hb'
          have HT3 := Lib.hid (HT.out.keep (below_two' HB.out HB3.out))
          obtain ⟨hup, hva⟩ := v4_upto HT3.out hkn
          obtain ⟨vf, hfr, hvf⟩ := v4_from HT3.out hkn
          have HVF := Lib.hid hvf
          have HK3 := Lib.hid (KitC.block_on HK.out HB3.out)
          have HR0 : Hid (RowV W3 (W3.alloc (.cells #[] 51)) (.slice (some ⟨W3.heap.size, 0, none⟩) 0 0) []) := Lib.hid (rowV_lit rfl)
          have HUA := Lib.hid (hva.keep (KitC.below_one W3 (.cells #[] 51))).rdk
          have hlt1 : (l.take k).length = k := by rw [List.length_take]; have := HN.out; omega
          have hld1 : (l.drop k).length = n - k := by rw [List.length_drop]; have := HN.out; omega
          have HL1 : Hid (([] : List V4).length + (l.take k).length ≤ maxLen) := Lib.hid (by rw [hlt1]; unfold maxLen; simp; omega)
          have HL2 : Hid ((([] : List V4).length + (l.take k).length) * 32 ≤ 140737488355328) := Lib.hid (by rw [hlt1]; simp; omega)
          have HL3 : Hid (([] ++ l.take k).length + 1 ≤ maxLen) := Lib.hid (by rw [List.nil_append, hlt1]; unfold maxLen; omega)
          have HL4 : Hid ((([] ++ l.take k).length + 1) * 32 ≤ 140737488355328) := Lib.hid (by rw [List.nil_append, hlt1]; omega)
          have HL5 : Hid (([] ++ l.take k ++ [x]).length + (l.drop k).length ≤ maxLen) := Lib.hid (by rw [List.nil_append, List.length_append, hlt1, hld1]; unfold maxLen; simp; omega)
          have HL6 : Hid ((([] ++ l.take k ++ [x]).length + (l.drop k).length) * 32 ≤ 140737488355328) := Lib.hid (by rw [List.nil_append, List.length_append, hlt1, hld1]; simp; omega)
          clear hva hvf hlt1 hld1
          go_wp2_with (first
            | (at_builtin; refine wpList_append_rdk _ rfl (.tmp 34) (.tmp 37) _ rfl W3.heap.size 51 i0 (.agg #[.int .i64 0, .int .i64 0, .int .i64 0, .int .i64 0]) 4 32 Tryz.underlying56 HI.out.1 HI.out.2.1 HI.out.2.2.1 HI.out.2.2.2 rfl (by decide) _ _ _ rfl HR0.out.1 _ (l.take k).length (v4sV (l.take k)) rfl HUA.out (v4sV_one _) HL1.out HL2.out ?_ ?_; (simp); intro p1 w4 hrow1 hg1 _; have HR1 := Lib.hid (RowV.add (ys := l.take k) HR0.out hrow1 hg1); obtain ⟨z0, z1, z2, z3⟩ := cells_4 (KitC.block_on HK3.out HR1.out.2); have HXA := Lib.hid (v4_lit (w := w4) (x := x) rfl).rdk; have HR1' := Lib.hid (HR1.out.keep (KitC.below_one w4 (.cells #[.int .i64 x.a, .int .i64 x.b, .int .i64 x.c, .int .i64 x.d] 51))); have HS1 := Lib.hid HR1.out.2.size; clear hrow1 hg1)
            | (at_builtin; refine wpList_append_rdk _ rfl (.tmp 39) (.tmp 41) _ rfl W3.heap.size 51 i0 (.agg #[.int .i64 0, .int .i64 0, .int .i64 0, .int .i64 0]) 4 32 Tryz.underlying56 HI.out.1 HI.out.2.1 HI.out.2.2.1 HI.out.2.2.2 rfl (by decide) _ _ _ rfl HR1'.out.1 _ 1 (v4sV [x]) rfl HXA.out (v4sV_one _) HL3.out HL4.out ?_ ?_; (have := HS1.out; simp; omega); intro p2 w5 hrow2 hg2 _; have HR2 := Lib.hid (RowV.add (ys := [x]) HR1'.out hrow2 hg2); have HFA := Lib.hid (HVF.out.keep HR2.out.2); have HS2 := Lib.hid HR2.out.2.size; clear hrow2 hg2 z0 z1 z2 z3)
            | (at_builtin; refine wpList_append_rdk _ rfl (.tmp 43) (.tmp 46) _ rfl W3.heap.size 51 i0 (.agg #[.int .i64 0, .int .i64 0, .int .i64 0, .int .i64 0]) 4 32 Tryz.underlying56 HI.out.1 HI.out.2.1 HI.out.2.2.1 HI.out.2.2.2 rfl (by decide) _ _ _ rfl HR2.out.1 _ (l.drop k).length (v4sV (l.drop k)) rfl HFA.out.rdk' (v4sV_one _) HL5.out HL6.out ?_ ?_; (exact HS2.out); intro p3 w6 hrow3 hg3 _; have HR3 := Lib.hid (RowV.add (ys := l.drop k) HR2.out hrow3 hg3); clear hrow3 hg3))
          go_ret
          exact ⟨_, rfl, by have := HR3.out.v4s; rw [HWV.out]; simpa using this, below_two' (below_two' HB.out HB3.out) HR3.out.2, fun base hb _ => Beyond.row HR3.out (Nat.le_trans hb (below_two' HB.out HB3.out).size)⟩
      · have HNX := Lib.hid (ahead_step HAH.out HY.out hls)
        rw [hls] at HL
        clear hls
        go_wp2_with fail
        refine wp_region_quiet_below (by kernel_rfl) (by kernel_rfl) ?_
        repeat (go_big_quiet_step (exact HL.out _ _))
        refine wpQuiet_nil ?_
        intro _ hw'
        obtain ⟨⟨dq, osq⟩, hw''⟩ := hw'
        subst hw''
        simp only
        go_wp2_with fail
        go_roundw
        case rel => exact ⟨k + 1, HNX.out, by simp, below_two' HBW.out (below_regrown _ _ _)⟩
        case measure => simp [intOf]; omega
    · have HEND := Lib.hid (ahead_end HAH.out (by have := HN.out; omega))
      have HWV := Lib.hid (withV_end HEND.out (by have := HN.out; omega))
      have hkI : ¬ (k : Int) < n := by omega
      have gk : decide ((k : Int) < n) = false := by simp; omega
      go_wp2_with fail
      go_big_quiet (fail)
      obtain ⟨W2, hW2⟩ : ∃ W2, wr.drewN nq = W2 := ⟨_, rfl⟩
      have hb2 : Below w1.heap.size w1 W2 := by rw [← hW2]; exact below_drewN HBW.out _
      rw [hW2]
      have HB2 := Lib.hid hb2
      clear hW2 hb2 y0 y1 y2 y3 z0 z1 z2 z3
      go_wp2_with fail
      go_big_quiet (fail)
      obtain ⟨W3, hW3⟩ : ∃ W3, W2.drewN nq = W3 := ⟨_, rfl⟩
      have hb3 : Below w1.heap.size w1 W3 := by rw [← hW3]; exact below_drewN HB2.out _
      rw [hW3]
      have HB3 := Lib.hid hb3
      clear hW3 hb3
      have HT3 := Lib.hid (HT.out.keep (below_two' HB.out HB3.out))
      obtain ⟨hup, hva⟩ := v4_upto HT3.out hkn
      obtain ⟨vf, hfr, hvf⟩ := v4_from HT3.out hkn
      have HVF := Lib.hid hvf
      have HK3 := Lib.hid (KitC.block_on HK.out HB3.out)
      have HR0 : Hid (RowV W3 (W3.alloc (.cells #[] 51)) (.slice (some ⟨W3.heap.size, 0, none⟩) 0 0) []) := Lib.hid (rowV_lit rfl)
      have HUA := Lib.hid (hva.keep (KitC.below_one W3 (.cells #[] 51))).rdk
      have hlt1 : (l.take k).length = k := by rw [List.length_take]; have := HN.out; omega
      have hld1 : (l.drop k).length = n - k := by rw [List.length_drop]; have := HN.out; omega
      have HL1 : Hid (([] : List V4).length + (l.take k).length ≤ maxLen) := Lib.hid (by rw [hlt1]; unfold maxLen; simp; omega)
      have HL2 : Hid ((([] : List V4).length + (l.take k).length) * 32 ≤ 140737488355328) := Lib.hid (by rw [hlt1]; simp; omega)
      have HL3 : Hid (([] ++ l.take k).length + 1 ≤ maxLen) := Lib.hid (by rw [List.nil_append, hlt1]; unfold maxLen; omega)
      have HL4 : Hid ((([] ++ l.take k).length + 1) * 32 ≤ 140737488355328) := Lib.hid (by rw [List.nil_append, hlt1]; omega)
      have HL5 : Hid (([] ++ l.take k ++ [x]).length + (l.drop k).length ≤ maxLen) := Lib.hid (by rw [List.nil_append, List.length_append, hlt1, hld1]; unfold maxLen; simp; omega)
      have HL6 : Hid ((([] ++ l.take k ++ [x]).length + (l.drop k).length) * 32 ≤ 140737488355328) := Lib.hid (by rw [List.nil_append, List.length_append, hlt1, hld1]; simp; omega)
      clear hva hvf hlt1 hld1
      go_wp2_with (first
        | (at_builtin; refine wpList_append_rdk _ rfl (.tmp 34) (.tmp 37) _ rfl W3.heap.size 51 i0 (.agg #[.int .i64 0, .int .i64 0, .int .i64 0, .int .i64 0]) 4 32 Tryz.underlying56 HI.out.1 HI.out.2.1 HI.out.2.2.1 HI.out.2.2.2 rfl (by decide) _ _ _ rfl HR0.out.1 _ (l.take k).length (v4sV (l.take k)) rfl HUA.out (v4sV_one _) HL1.out HL2.out ?_ ?_; (simp); intro p1 w4 hrow1 hg1 _; have HR1 := Lib.hid (RowV.add (ys := l.take k) HR0.out hrow1 hg1); obtain ⟨z0, z1, z2, z3⟩ := cells_4 (KitC.block_on HK3.out HR1.out.2); have HXA := Lib.hid (v4_lit (w := w4) (x := x) rfl).rdk; have HR1' := Lib.hid (HR1.out.keep (KitC.below_one w4 (.cells #[.int .i64 x.a, .int .i64 x.b, .int .i64 x.c, .int .i64 x.d] 51))); have HS1 := Lib.hid HR1.out.2.size; clear hrow1 hg1)
        | (at_builtin; refine wpList_append_rdk _ rfl (.tmp 39) (.tmp 41) _ rfl W3.heap.size 51 i0 (.agg #[.int .i64 0, .int .i64 0, .int .i64 0, .int .i64 0]) 4 32 Tryz.underlying56 HI.out.1 HI.out.2.1 HI.out.2.2.1 HI.out.2.2.2 rfl (by decide) _ _ _ rfl HR1'.out.1 _ 1 (v4sV [x]) rfl HXA.out (v4sV_one _) HL3.out HL4.out ?_ ?_; (have := HS1.out; simp; omega); intro p2 w5 hrow2 hg2 _; have HR2 := Lib.hid (RowV.add (ys := [x]) HR1'.out hrow2 hg2); have HFA := Lib.hid (HVF.out.keep HR2.out.2); have HS2 := Lib.hid HR2.out.2.size; clear hrow2 hg2 z0 z1 z2 z3)
        | (at_builtin; refine wpList_append_rdk _ rfl (.tmp 43) (.tmp 46) _ rfl W3.heap.size 51 i0 (.agg #[.int .i64 0, .int .i64 0, .int .i64 0, .int .i64 0]) 4 32 Tryz.underlying56 HI.out.1 HI.out.2.1 HI.out.2.2.1 HI.out.2.2.2 rfl (by decide) _ _ _ rfl HR2.out.1 _ (l.drop k).length (v4sV (l.drop k)) rfl HFA.out.rdk' (v4sV_one _) HL5.out HL6.out ?_ ?_; (exact HS2.out); intro p3 w6 hrow3 hg3 _; have HR3 := Lib.hid (RowV.add (ys := l.drop k) HR2.out hrow3 hg3); clear hrow3 hg3))
      go_ret
      exact ⟨_, rfl, by have := HR3.out.v4s; rw [HWV.out]; simpa using this, below_two' (below_two' HB.out HB3.out) HR3.out.2, fun base hb _ => Beyond.row HR3.out (Nat.le_trans hb (below_two' HB.out HB3.out).size)⟩
end Go.Proofs.YtcfcpbkeedfbpaaGreatDoor
