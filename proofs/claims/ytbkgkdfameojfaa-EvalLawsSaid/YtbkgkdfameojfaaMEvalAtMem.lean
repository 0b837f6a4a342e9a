/- EvalAtMem, joined. -/
import Derived.Test.YtbkgkdfameojfaaMEvalBack
import Derived.Test.YtbkgkdfameojfaaMEvalCheck
import Derived.Test.YtbkgkdfameojfaaMTermA
namespace Go.Proofs.Ytbkgkdfameojfaa
open Go.RowKit TermSpec EvalSpec
set_option maxRecDepth 100000

theorem elem_ints : Try.prog.elem 37 = 3 := by kernel_rfl
/-- A list of the call's own, from a place on. -/
theorem slice_rest {W0 : World} {base : Nat} {A : Option Addr} {m cap j : Nat} {xs : List Value} (h : W0.ownsRow base 3 1 (.slice A m cap) m xs) (hj : j ≤ m) :
    ∃ v, (∀ W, (Instr.slice 37 (.slice A m cap) (some (.int .i64 (j : Int))) none none).run Try.prog W = .ok v W) ∧ ∃ A' c', v = .slice A' (m - j) c' ∧ Rd W0 v (xs.drop j) := by
  have hl : xs.length = m := by have := h.1; omega
  rcases h.2 with ⟨heq, h0⟩ | ⟨g, cap', cur, heq, hbase, hb, hnc, hcm, hcs, ht⟩
  · cases heq
    obtain rfl : j = 0 := by omega
    refine ⟨.slice none 0 0, fun W => ?_, none, 0, rfl, ?_⟩
    · rw [run_slice_l (P := Try.prog) W 37 _ 0 0 (by rw [elem_ints]; exact Try.underlying37) .i64 ((0 : Nat) : Int) (by omega) (by omega), elem_ints, Try.sizeOf3]
      simp [sliced, Result.andThen]
    · rw [List.drop_zero, List.eq_nil_of_length_eq_zero hl]
      exact Rd.nil W0
  · cases heq
    have hrd : Rd W0 (.slice (some ⟨g, 0, none⟩) m cap) xs := Rd.own h
    refine ⟨.slice (if cap = j then some ⟨g, 0, none⟩ else some ⟨g, j, none⟩) (m - j) (cap - j), fun W => ?_, _, _, rfl, ?_⟩
    · rw [run_slice_l (P := Try.prog) W 37 _ m cap (by rw [elem_ints]; exact Try.underlying37) .i64 (j : Int) (by omega) (by omega), elem_ints, Try.sizeOf3]
      simp [sliced, Result.andThen, addr_add]
    · refine ⟨_, m - j, cap - j, rfl, by rw [List.length_drop, hl], by omega, fun h0 => ⟨g, j, if_neg (by omega), (Array.getElem?_eq_some_iff.1 hb).1, fun q u hq => ?_⟩⟩
      obtain ⟨A', n', c', heq, _, _, hA⟩ := hrd
      cases heq
      obtain ⟨b, off, heq, _, hcell⟩ := hA (by omega)
      cases heq
      rw [List.getElem?_drop] at hq
      have := hcell _ _ hq
      simpa using this
/-- Up to a place: it is still the call's own. -/
theorem slice_upto {W0 : World} {base : Nat} {A : Option Addr} {m cap j : Nat} {xs : List Value} (h : W0.ownsRow base 3 1 (.slice A m cap) m xs) (hj : j ≤ m) :
    (∀ W, (Instr.slice 37 (.slice A m cap) none (some (.int .i64 (j : Int))) none).run Try.prog W = .ok (.slice A j cap) W) ∧ W0.ownsRow base 3 1 (.slice A j cap) j (xs.take j) := by
  have hl : xs.length = m := by have := h.1; omega
  rcases h.2 with ⟨heq, h0⟩ | ⟨g, cap', cur, heq, hbase, hb, hnc, hcm, hcs, ht⟩
  · cases heq
    obtain rfl : j = 0 := by omega
    refine ⟨fun W => ?_, ?_⟩
    · rw [run_slice_h (P := Try.prog) W 37 _ 0 0 (by rw [elem_ints]; exact Try.underlying37) .i64 ((0 : Nat) : Int) (by omega) (by omega), elem_ints, Try.sizeOf3]
      simp [sliced, Result.andThen]
    · simpa using World.ownsRow_nil W0 base _ 1
  · cases heq
    refine ⟨fun W => ?_, ?_⟩
    · rw [run_slice_h (P := Try.prog) W 37 _ m cap (by rw [elem_ints]; exact Try.underlying37) .i64 (j : Int) (by omega) (by omega), elem_ints, Try.sizeOf3]
      simp [sliced, Result.andThen, addr_add]
    · refine ⟨by rw [List.length_take]; omega, .inr ⟨g, cap, cur, rfl, hbase, hb, by omega, hcm, hcs, ?_⟩⟩
      rw [← ht, List.take_take]
      congr 1
      omega
/-- What lies in memory when so much has come. -/
def AtI (w : World) (C Bs : Nat) (eo : Obj) (sv : Value) (st : List Int) (W : World) : Prop :=
  ((∃ v, Boxed W C 37 v ∧ W.ownsRow w.heap.size 3 1 v st.length (intV st.reverse) ∧ True) ∧ (W.heap[w.heap.size]? = some eo ∧ Boxed W Bs 22 sv)) ∧ Below w.heap.size w W
theorem heap_own {β : Type} (B E : Nat) (o : Obj) (ho : o.isCells = true) : OwnFrom B (fun (_ : β) W => W.heap[E]? = some o) := fun s X Y row h hg hr =>
  (hg.block E (Array.getElem?_eq_some_iff.1 h).1 (fun e => by
    obtain ⟨_, o', ho', hc⟩ := hr E e.symm
    rw [h] at ho'
    cases ho'
    rw [ho] at hc
    cases hc)).trans h
theorem AtI.own (w : World) (C Bs : Nat) (cs : Array Value) (T : TypeId) (sv : Value) (st : Nat → List Int) (B : Nat) (hB : w.heap.size ≤ B) : OwnFrom B (fun k W => AtI w C Bs (.cells cs T) sv (st k) W) :=
  OwnFrom.and (OwnFrom.and (Own.from (holdsRow_own _ _ _ _ _ (fun k => (st k).length) (fun k => intV (st k).reverse) (fun _ _ => True)) _) (OwnFrom.and (heap_own B _ _ rfl) (Own.from (boxed_own Bs _ (fun _ => sv)) _))) (ownFrom_below (Nat.le_refl _) hB)
theorem AtI.keep {w W W' : World} {C Bs : Nat} {eo : Obj} {sv : Value} {st : List Int} (h : AtI w C Bs eo sv st W) (hb : Below W.heap.size W W') : AtI w C Bs eo sv st W' := by
  obtain ⟨⟨⟨v, h1, h2, h3⟩, h4, h5⟩, h6⟩ := h
  exact ⟨⟨⟨v, KitC.block_on h1 hb, own_keep h2 hb, h3⟩, KitC.block_on h4 hb, KitC.block_on h5 hb⟩, below_two' h6 hb⟩
theorem keepsFrom_below {B : Nat} {W W' : World} (h : Below W.heap.size W W') : KeepsFrom B W W' := ⟨h.size, fun k _ _ hk _ => (h.block k (Array.getElem?_eq_some_iff.1 hk).1).trans hk⟩
theorem kpB_below {n₀ Bs : Nat} {W W' : World} (h : Below W.heap.size W W') (hn : n₀ ≤ W.heap.size) : KpB n₀ Bs W W' := ⟨h.mono hn, fun _ hv => KitC.block_on hv h⟩
/-- Behind `come = append(come[:rest], n)`. -/
theorem AtI.appended {w W w1 : World} {C Bs j m : Nat} {cap : Nat} {A : Option Addr} {eo tmp : Obj} {sv v' : Value} {st st' : List Int} {ys : List Value} (h : AtI w C Bs eo sv st W) (hBs : C ≠ Bs) (hE : C ≠ w.heap.size) (hC : w.heap.size ≤ C)
    (heo : ∀ cs T, eo = .cells cs T → T ≠ 3)
    (hrow : W.ownsRow w.heap.size 3 1 (.slice A j cap) m ys) (hown' : w1.ownsRow w.heap.size 3 1 v' st'.length (intV st'.reverse)) (hgrow : (W.alloc tmp).grownBy w1 (Value.slice A j cap).ownBlock) :
    (∃ u, Boxed w1 C 37 u) ∧ AtI w C Bs eo sv st' (w1.setCell ⟨C, 0, none⟩ v') ∧ (∀ B, KeepsFrom B W (w1.setCell ⟨C, 0, none⟩ v')) ∧ KpB w.heap.size Bs W (w1.setCell ⟨C, 0, none⟩ v') := by
  obtain ⟨⟨⟨u, h1, h2, h3⟩, h4, h5⟩, h6⟩ := h
  have hu1 : Boxed w1 C 37 u := (h1.alloc tmp).kept hgrow (h1.not_row (by decide) hrow)
  have hs1 : Boxed w1 Bs 22 sv := (h5.alloc tmp).kept hgrow (h5.not_row (by decide) hrow)
  have he1 : w1.heap[w.heap.size]? = some eo := by
    have hlt := (Array.getElem?_eq_some_iff.1 h4).1
    refine (hgrow.block _ (by simp; omega) (fun e => ?_)).trans ((Below.heap_alloc W _ _ hlt).trans h4)
    rcases hrow.2 with ⟨heq, _⟩ | ⟨g, cap', cur, heq, _, hgb, _⟩
    · rw [heq] at e; simp [Value.ownBlock] at e
    · rw [heq] at e
      obtain rfl : w.heap.size = g := by simpa [Value.ownBlock] using e
      rw [h4] at hgb
      cases hgb
      exact heo _ _ rfl rfl
  have hlow : Below w.heap.size W (w1.setCell ⟨C, 0, none⟩ v') := by
    refine (((Below.refl w.heap.size W).alloc h6.size tmp).grown hgrow (by have := h6.size; simp; omega) fun i ei => ?_).setCell (p := ⟨C, 0, none⟩) hC v'
    exact (own_block_bd hrow i ei).1
  refine ⟨⟨u, hu1⟩, ⟨⟨⟨v', hu1.set v', hown'.kept (grownBy_setCell' w1 C v') (.inr (hu1.not_row (by decide) hown').symm), trivial⟩, (Below.heap_setCell _ _ _ _ hE.symm).trans he1, hs1.other hBs.symm _⟩, h6.trans hlow⟩, fun B => ?_, hlow, fun q hq => ?_⟩
  · refine KeepsOthers.from ((KeepsOthers.alloc W tmp).trans (KeepsOthers.trans (KeepsOthers.of_grownBy hgrow fun i o ei hi => ?_) (KeepsOthers.setCell _ _ _))) B
    rcases (hrow.alloc tmp).2 with ⟨heq, _⟩ | ⟨g, cap', cur, heq, _, hgb, _⟩
    · rw [heq] at ei; simp [Value.ownBlock] at ei
    · rw [heq] at ei
      obtain rfl : g = i := by simpa [Value.ownBlock] using ei
      rw [hgb] at hi; cases hi; rfl
  · exact (((hq.alloc tmp).kept hgrow (hq.not_row (by decide) hrow)).other hBs.symm _)
end Go.Proofs.Ytbkgkdfameojfaa
