/- A range over a function whose k-th call of yield hands over what is known beforehand: one law for the caller, whose body runs to its end in every round; a region in a round that draws its order and only reads. No program. -/
import Derived.RangeFuncBox
import Derived.RangeFuncNested
import Derived.RangeFuncBound
import Derived.RangeFuncCalls
import Derived.RangeFuncLeaves
import Derived.Shelf.RegionOpen
import Derived.Test.YtihgigmncgopjaaDoorKitC
namespace Go.Proofs.YtihgigmncgopjaaDoor
open Go.RowKit

/-- The k-th of N calls of yield hands over xs k; Kp is what the iterator asks to be kept. -/
def Hands (F : Fence) (n : Nat) (P : Program) (g : Nat) (lb : Array Value) (xs : Nat → Array Value) (Kp : World → World → Prop) (N : Nat) (w : World) : Prop :=
  ∀ (lp : Nat) (J : Nat → World → Prop) (W : World), Below w.heap.size w W →
    (∀ k W1, J k W1 → k < N → YieldAt F (n - 1) P lp (xs k) W1 fun e W' => e = .returned (.bool true) ∧ J (k + 1) W' ∧ Kp W1 W') →
    J 0 W → CallsIn F n P g (#[.func (.yield lp) #[] #[]] ++ lb) W fun e W' => (∃ v, e = .returned v) ∧ J N W'

theorem range_seq {F : Fence} {n : Nat} {P : Program} {g : Operand} {ps : Array Tmp} {assign body : Code} {Q : Exit → Act → World → Prop} {a : Act} {w : World}
    (hro : F.round = none) (h1 : 1 ≤ n) {gf : Nat} {lb : Array Value} (hg : a.eval g = .func (.func gf) #[] lb) (hFg : F.fn gf) (eg : ∀ args w, (callFunc gf args).run P w = .ok (.enter gf args) w)
    {xs : Nat → Array Value} {Kp : World → World → Prop} {N : Nat} (hseq : Hands F (n - 1) P gf lb xs Kp N w)
    (hKt : ∀ {A B C : World}, Kp A B → Kp B C → Kp A C) (hKb : ∀ (W : World) (l : Nat) (o o' : Obj), w.heap.size ≤ l → W.heap[l]? = some o → o.isCells = false → Kp W (W.putObj l o')) (hps : ∀ k, (xs k).size = ps.size)
    (I : Nat → World → Prop) (hI : OwnFrom w.heap.size I) (h0 : I 0 w) (Ax : Nat → Act → World → Prop) (hAx : ∀ a', OwnFrom w.heap.size (fun k W => Ax k a' W))
    (hassign : ∀ (l k : Nat) (W : World) (K : Act → World → Prop), k < N → I k W → (∀ a' W', KeepsFrom w.heap.size W W' → Kp W W' → I k W' → Ax k a' W' → K a' W') →
      assign.wpIn (F.inRound l) (n - 1 - 1) P (Exit.then K (fun _ _ _ => False)) { tmps := (ps.zip (xs k)).foldl (fun t (p, v) => t.setIfInBounds p v) a.tmps, defers := [] } W)
    (hbody : ∀ (l k : Nat) (a' : Act) (W : World), k < N → I k W → Ax k a' W → body.wpIn (F.inRound l) (n - 1 - 1) P (fun e _ W' => e = .normal ∧ KeepsFrom w.heap.size W W' ∧ Kp W W' ∧ I (k + 1) W') a' W)
    (hdone : ∀ (D : Nat) (W : World), w.heap.size ≤ D → I N W → W.heap[D]? = some (.deferred (some [])) → Q .normal { a with defers := { target := .collected D, args := #[] } :: a.defers } W) :
    (Code.rangeFunc g ps assign body).wpIn F n P Q a w := by
  refine wpIn_rangeFunc fun fn hfn => ?_
  rw [hro]
  let rec_ : LoopState → Loop := fun st => { state := st, pending := none, fn, tmps := a.tmps, params := ps, assign, body, defers := w.heap.size }
  let w1 := w.alloc (.deferred (some []))
  let w2 := w1.alloc (.loop (rec_ .ready))
  have s1 : w1.heap.size = w.heap.size + 1 := by simp [w1]
  have hrec : w2.heap[w.heap.size + 1]? = some (.loop (rec_ .ready)) := by have := World.alloc_heap_new w1 (.loop (rec_ .ready)); rwa [s1] at this
  have hdef : w2.heap[w.heap.size]? = some (.deferred (some [])) := (Below.heap_alloc w1 _ _ (by rw [s1]; omega)).trans (World.alloc_heap_new w _)
  have hbel : Below w.heap.size w w2 := KitC.below_pair w _ _
  -- the two blocks of the loop's own
  let Bk : Nat → LoopState → World → Prop := fun _ st W => W.heap[w.heap.size + 1]? = some (.loop (rec_ st)) ∧ W.heap[w.heap.size]? = some (.deferred (some []))
  have turned : ∀ (st st' : LoopState) (W : World), Bk 0 st W → Bk 0 st' (W.putObj (w.heap.size + 1) (.loop (rec_ st'))) := fun st st' W ⟨hl, hd⟩ =>
    ⟨World.putObj_heap_same (Array.getElem?_eq_some_iff.1 hl).1, (World.putObj_heap_other (by omega)).trans hd⟩
  have kept : ∀ (st st' : LoopState) (W : World), Bk 0 st W → Kp W (W.putObj (w.heap.size + 1) (.loop (rec_ st'))) := fun st st' W ⟨hl, _⟩ =>
    hKb W (w.heap.size + 1) _ _ (by omega) hl rfl
  have over : ∀ (k : Nat) (st st' : LoopState) (W : World), Bk 0 st W → I k W → I k (W.putObj (w.heap.size + 1) (.loop (rec_ st'))) := fun k st st' W ⟨hl, _⟩ hi =>
    hI.putObj _ hi (by omega) hl rfl
  refine ⟨w.heap.size + 1, [{ target := .collected w.heap.size, args := #[] }], w2, { target := .fn (.func gf) lb, args := #[.func (.yield (w.heap.size + 1)) #[] #[]] }, w2, gf,
    #[.func (.yield (w.heap.size + 1)) #[] #[]] ++ lb, w2, run_enterLoop_outer _ _ _ _ _, by simp only [resolve, hg]; simp [go_sem], ?_, by simp [invoke, go_sem, eg], fun _ => h1, ?_⟩
  · intro f' hf'
    simp [Target.leads] at hf'
    subst hf'
    exact hFg
  refine (hseq (w.heap.size + 1) (fun k W => I k W ∧ Bk 0 .ready W) w2 hbel ?_ ⟨hI.alloc _ (hI.alloc _ h0), hrec, hdef⟩).mono ?_
  · -- a round
    rintro k W ⟨hi, hb⟩ hk
    refine ⟨fn, _, assign, body, run_yield (P := P) (args := xs k) hb.1 (hps k), roundIn_of_wpIn hfn (hassign _ k W _ hk hi ?_)⟩
    intro a' Wa hkf hbl hia hax
    have hba : Bk 0 .ready Wa := ⟨hkf.same _ _ (by omega) hb.1 rfl, hkf.same _ _ (by omega) hb.2 rfl⟩
    refine ⟨_, run_beginRound hba.1 rfl, ?_⟩
    have hb2 := turned .ready .busy Wa hba
    refine wpIn_mono (hbody _ k a' _ hk (over k _ .busy Wa hba hia) ((hAx a').putObj (s := k) _ hax (by omega) hba.1 rfl)) ?_
    rintro e a3 W3 ⟨rfl, hkf3, hbl3, hi3⟩
    have hb3 : Bk 0 .busy W3 := ⟨hkf3.same _ _ (by omega) hb2.1 rfl, hkf3.same _ _ (by omega) hb2.2 rfl⟩
    exact ⟨_, _, run_endRound (P := P) none hb3.1, rfl, ⟨over (k + 1) _ .ready W3 hb3 hi3, turned .busy .ready W3 hb3⟩, hKt (hKt (hKt hbl (kept _ .busy Wa hba)) hbl3) (kept _ .ready W3 hb3)⟩
  · -- behind the iterator
    rintro e W ⟨⟨v, rfl⟩, hi, hb⟩
    refine ⟨none, _, run_endLoop (P := P) hb.1 (by intro h; cases h), hdone _ _ (Nat.le_refl _) (hI.putObj _ hi (by omega) hb.1 rfl) ?_⟩
    exact (World.putObj_heap_other (by omega)).trans hb.2
end Go.Proofs.YtihgigmncgopjaaDoor
