/- A range over a function whose k-th call of yield hands over what is known beforehand, and whose body may leave the loop in a round that is known beforehand too. No program. -/
import Derived.Test.YtihgigmncgopjaaDoorRangeSeq
namespace Go.Proofs.YtihgigmncgopjaaDoor
open Go.RowKit

/-- The k-th of N calls of yield hands over xs k; the M-th may say 'no more'; Kp is what the iterator asks to be kept. -/
def HandsS (F : Fence) (n : Nat) (P : Program) (g : Nat) (lb : Array Value) (xs : Nat → Array Value) (Kp : World → World → Prop) (N : Nat) (w : World) : Prop :=
  ∀ (lp : Nat) (J : Nat → World → Prop) (Jx : World → Prop) (M : Nat) (W : World), Below w.heap.size w W → M ≤ N →
    (∀ k W1, J k W1 → k < M → YieldAt F (n - 1) P lp (xs k) W1 fun e W' => e = .returned (.bool true) ∧ J (k + 1) W' ∧ Kp W1 W') →
    (M < N → ∀ W1, J M W1 → YieldAt F (n - 1) P lp (xs M) W1 fun e W' => e = .returned (.bool false) ∧ Jx W') →
    J 0 W → CallsIn F n P g (#[.func (.yield lp) #[] #[]] ++ lb) W fun e W' => (∃ v, e = .returned v) ∧ ((M < N ∧ Jx W') ∨ (M = N ∧ J N W'))
theorem HandsS.all {F : Fence} {n : Nat} {P : Program} {g : Nat} {lb : Array Value} {xs : Nat → Array Value} {Kp : World → World → Prop} {N : Nat} {w : World} (h : HandsS F n P g lb xs Kp N w) : Hands F n P g lb xs Kp N w :=
  fun lp J W hW hY h0 => (h lp J (fun _ => False) N W hW (Nat.le_refl _) hY (fun h => absurd h (Nat.lt_irrefl _)) h0).mono (by
    rintro e W' ⟨h1, ⟨_, h⟩ | ⟨_, h⟩⟩
    · exact h.elim
    · exact ⟨h1, h⟩)

theorem range_stop {F : Fence} {n : Nat} {P : Program} {g : Operand} {ps : Array Tmp} {assign body : Code} {Q : Exit → Act → World → Prop} {a : Act} {w : World}
    (hro : F.round = none) (h1 : 1 ≤ n) {gf : Nat} {lb : Array Value} (hg : a.eval g = .func (.func gf) #[] lb) (hFg : F.fn gf) (eg : ∀ args w, (callFunc gf args).run P w = .ok (.enter gf args) w)
    {xs : Nat → Array Value} {Kp : World → World → Prop} {N : Nat} (hseq : HandsS F (n - 1) P gf lb xs Kp N w) (M : Nat) (hM : M ≤ N) (id : Nat)
    (hKt : ∀ {A B C : World}, Kp A B → Kp B C → Kp A C) (hKb : ∀ (W : World) (l : Nat) (o o' : Obj), w.heap.size ≤ l → W.heap[l]? = some o → o.isCells = false → Kp W (W.putObj l o')) (hps : ∀ k, (xs k).size = ps.size)
    (I : Nat → World → Prop) (hI : OwnFrom w.heap.size I) (h0 : I 0 w) (Ix : Unit → World → Prop) (hIx : OwnFrom w.heap.size Ix) (Ax : Nat → Act → World → Prop) (hAx : ∀ a', OwnFrom w.heap.size (fun k W => Ax k a' W))
    (hassign : ∀ (l k : Nat) (W : World) (K : Act → World → Prop), k < N → I k W → (∀ a' W', KeepsFrom w.heap.size W W' → Kp W W' → I k W' → Ax k a' W' → K a' W') →
      assign.wpIn (F.inRound l) (n - 1 - 1) P (Exit.then K (fun _ _ _ => False)) { tmps := (ps.zip (xs k)).foldl (fun t (p, v) => t.setIfInBounds p v) a.tmps, defers := [] } W)
    (hbody : ∀ (l k : Nat) (a' : Act) (W : World), k < M → I k W → Ax k a' W → body.wpIn (F.inRound l) (n - 1 - 1) P (fun e _ W' => e = .normal ∧ KeepsFrom w.heap.size W W' ∧ Kp W W' ∧ I (k + 1) W') a' W)
    (hlast : ∀ (l : Nat) (a' : Act) (W : World), M < N → I M W → Ax M a' W → body.wpIn (F.inRound l) (n - 1 - 1) P (fun e _ W' => e = .exit id ∧ KeepsFrom w.heap.size W W' ∧ Ix () W') a' W)
    (hdone : ∀ (D : Nat) (W : World), w.heap.size ≤ D → M = N → I N W → W.heap[D]? = some (.deferred (some [])) → Q .normal { a with defers := { target := .collected D, args := #[] } :: a.defers } W)
    (hstop : ∀ (D : Nat) (W : World), w.heap.size ≤ D → M < N → Ix () W → W.heap[D]? = some (.deferred (some [])) → (Code.exit id).wpIn F n P Q { a with defers := { target := .collected D, args := #[] } :: a.defers } W) :
    (Code.rangeFunc g ps assign body).wpIn F n P Q a w := by
  refine wpIn_rangeFunc fun fn hfn => ?_
  rw [hro]
  let rec_ : LoopState → Option Code → Loop := fun st pd => { state := st, pending := pd, fn, tmps := a.tmps, params := ps, assign, body, defers := w.heap.size }
  let w1 := w.alloc (.deferred (some []))
  let w2 := w1.alloc (.loop (rec_ .ready none))
  have s1 : w1.heap.size = w.heap.size + 1 := by simp [w1]
  have hrec : w2.heap[w.heap.size + 1]? = some (.loop (rec_ .ready none)) := by have := World.alloc_heap_new w1 (.loop (rec_ .ready none)); rwa [s1] at this
  have hdef : w2.heap[w.heap.size]? = some (.deferred (some [])) := (Below.heap_alloc w1 _ _ (by rw [s1]; omega)).trans (World.alloc_heap_new w _)
  have hbel : Below w.heap.size w w2 := KitC.below_pair w _ _
  -- the two blocks of the loop's own
  let Bk : Nat → LoopState → Option Code → World → Prop := fun _ st pd W => W.heap[w.heap.size + 1]? = some (.loop (rec_ st pd)) ∧ W.heap[w.heap.size]? = some (.deferred (some []))
  have turned : ∀ (st st' : LoopState) (pd pd' : Option Code) (W : World), Bk 0 st pd W → Bk 0 st' pd' (W.putObj (w.heap.size + 1) (.loop (rec_ st' pd'))) := fun st st' pd pd' W ⟨hl, hd⟩ =>
    ⟨World.putObj_heap_same (Array.getElem?_eq_some_iff.1 hl).1, (World.putObj_heap_other (by omega)).trans hd⟩
  have kept : ∀ (st st' : LoopState) (pd pd' : Option Code) (W : World), Bk 0 st pd W → Kp W (W.putObj (w.heap.size + 1) (.loop (rec_ st' pd'))) := fun st st' pd pd' W ⟨hl, _⟩ =>
    hKb W (w.heap.size + 1) _ _ (by omega) hl rfl
  have over : ∀ (k : Nat) (st st' : LoopState) (pd pd' : Option Code) (W : World), Bk 0 st pd W → I k W → I k (W.putObj (w.heap.size + 1) (.loop (rec_ st' pd'))) := fun k st st' pd pd' W ⟨hl, _⟩ hi =>
    hI.putObj _ hi (by omega) hl rfl
  refine ⟨w.heap.size + 1, [{ target := .collected w.heap.size, args := #[] }], w2, { target := .fn (.func gf) lb, args := #[.func (.yield (w.heap.size + 1)) #[] #[]] }, w2, gf,
    #[.func (.yield (w.heap.size + 1)) #[] #[]] ++ lb, w2, run_enterLoop_outer _ _ _ _ _, by simp only [resolve, hg]; simp [go_sem], ?_, by simp [invoke, go_sem, eg], fun _ => h1, ?_⟩
  · intro f' hf'
    simp [Target.leads] at hf'
    subst hf'
    exact hFg
  refine (hseq (w.heap.size + 1) (fun k W => I k W ∧ Bk 0 .ready none W) (fun W => Ix () W ∧ Bk 0 .done (some (.exit id)) W) M w2 hbel hM ?_ ?_ ⟨hI.alloc _ (hI.alloc _ h0), hrec, hdef⟩).mono ?_
  · -- a round
    rintro k W ⟨hi, hb⟩ hk
    refine ⟨fn, _, assign, body, run_yield (P := P) (args := xs k) hb.1 (hps k), roundIn_of_wpIn hfn (hassign _ k W _ (by omega) hi ?_)⟩
    intro a' Wa hkf hbl hia hax
    have hba : Bk 0 .ready none Wa := ⟨hkf.same _ _ (by omega) hb.1 rfl, hkf.same _ _ (by omega) hb.2 rfl⟩
    refine ⟨_, run_beginRound hba.1 rfl, ?_⟩
    have hb2 := turned .ready .busy none none Wa hba
    refine wpIn_mono (hbody _ k a' _ hk (over k _ .busy _ none Wa hba hia) ((hAx a').putObj (s := k) _ hax (by omega) hba.1 rfl)) ?_
    rintro e a3 W3 ⟨rfl, hkf3, hbl3, hi3⟩
    have hb3 : Bk 0 .busy none W3 := ⟨hkf3.same _ _ (by omega) hb2.1 rfl, hkf3.same _ _ (by omega) hb2.2 rfl⟩
    exact ⟨_, _, run_endRound (P := P) none hb3.1, rfl, ⟨over (k + 1) _ .ready _ none W3 hb3 hi3, turned .busy .ready none none W3 hb3⟩, hKt (hKt (hKt hbl (kept _ .busy _ none Wa hba)) hbl3) (kept _ .ready _ none W3 hb3)⟩
  · -- the round that says 'no more'
    rintro hk W ⟨hi, hb⟩
    refine ⟨fn, _, assign, body, run_yield (P := P) (args := xs M) hb.1 (hps M), roundIn_of_wpIn hfn (hassign _ M W _ hk hi ?_)⟩
    intro a' Wa hkf hbl hia hax
    have hba : Bk 0 .ready none Wa := ⟨hkf.same _ _ (by omega) hb.1 rfl, hkf.same _ _ (by omega) hb.2 rfl⟩
    refine ⟨_, run_beginRound hba.1 rfl, ?_⟩
    have hb2 := turned .ready .busy none none Wa hba
    refine wpIn_mono (hlast _ a' _ hk (over M _ .busy _ none Wa hba hia) ((hAx a').putObj (s := M) _ hax (by omega) hba.1 rfl)) ?_
    rintro e a3 W3 ⟨rfl, hkf3, hi3⟩
    have hb3 : Bk 0 .busy none W3 := ⟨hkf3.same _ _ (by omega) hb2.1 rfl, hkf3.same _ _ (by omega) hb2.2 rfl⟩
    exact ⟨_, _, run_endRound (P := P) (some (.exit id)) hb3.1, rfl, hIx.putObj (s := ()) _ hi3 (by omega) hb3.1 rfl, turned .busy .done none (some (.exit id)) W3 hb3⟩
  · -- behind the iterator
    rintro e W ⟨⟨v, rfl⟩, ⟨hlt, hi, hb⟩ | ⟨he, hi, hb⟩⟩
    · refine ⟨some (.exit id), _, run_endLoop (P := P) hb.1 (by intro h; cases h), hstop _ _ (Nat.le_refl _) hlt (hIx.putObj (s := ()) _ hi (by omega) hb.1 rfl) ?_⟩
      exact (World.putObj_heap_other (by omega)).trans hb.2
    · refine ⟨none, _, run_endLoop (P := P) hb.1 (by intro h; cases h), hdone _ _ (Nat.le_refl _) he (hI.putObj _ hi (by omega) hb.1 rfl) ?_⟩
      exact (World.putObj_heap_other (by omega)).trans hb.2
end Go.Proofs.YtihgigmncgopjaaDoor
