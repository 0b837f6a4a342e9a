/- A list of numbers of the call's own. No condition. -/
import Derived.Test.YtihgigmncgopjaaDoorRows
import Derived.Test.YtihgigmncgopjaaDoorPosts
import Derived.Test.YtihgigmncgopjaaDoorNamesPlace
namespace Go.Proofs.YtihgigmncgopjaaDoor
open Go.RowKit NamesSpec
set_option maxRecDepth 100000

theorem inf_int : (Tryd.prog.info? 3).map (fun i => (i.zero, i.size, i.bytes)) = some (some (.int .i64 0), 1, 8) := by kernel_rfl
/-- A list of numbers of the call's own. -/
def RowI (W wr : World) (p : Value) (xs : List Int) : Prop := wr.ownsRow W.heap.size 3 1 p xs.length (intV xs) ∧ Below W.heap.size W wr
theorem RowI.nil (W wr : World) (hb : Below W.heap.size W wr) : RowI W wr (.slice none 0 0) [] := ⟨World.ownsRow_nil _ _ _ _, hb⟩
theorem RowI.keep {W w w' : World} {p : Value} {xs : List Int} (h : RowI W w p xs) (hb : Below w.heap.size w w') : RowI W w' p xs := ⟨own_keep h.1 hb, below_two' h.2 hb⟩
theorem RowI.addL {W wr w2 : World} {p p' : Value} {xs ys : List Int} {o : Obj} (h : RowI W wr p xs) (hrow : w2.ownsRow W.heap.size 3 1 p' (xs.length + (intV ys).length) (intV xs ++ intV ys)) (hg : (wr.alloc o).grownBy w2 p.ownBlock) : RowI W w2 p' (xs ++ ys) := by
  refine ⟨?_, (h.2.alloc h.2.size o).grown hg (by have := h.2.size; simp; omega) (fun j hj => (own_block_bd h.1 j hj).1)⟩
  rw [← intV_append, List.length_append, ← intV_length ys]
  exact hrow
theorem RowI.add {W wr w2 : World} {p p' : Value} {xs : List Int} {x : Int} {o : Obj} (h : RowI W wr p xs) (hrow : w2.ownsRow W.heap.size 3 1 p' (xs.length + (intV [x]).length) (intV xs ++ intV [x])) (hg : (wr.alloc o).grownBy w2 p.ownBlock) : RowI W w2 p' (xs ++ [x]) := h.addL hrow hg
theorem RowI.addB {W wr w2 : World} {p p' : Value} {xs ys : List Int} (h : RowI W wr p xs) (hrow : w2.ownsRow W.heap.size 3 1 p' (xs.length + (intV ys).length) (intV xs ++ intV ys)) (hg : wr.grownBy w2 p.ownBlock) : RowI W w2 p' (xs ++ ys) := by
  refine ⟨?_, h.2.grown hg h.2.size (fun j hj => (own_block_bd h.1 j hj).1)⟩
  rw [← intV_append, List.length_append, ← intV_length ys]
  exact hrow
theorem RowI.read {W wr : World} {p : Value} {xs : List Int} (h : RowI W wr p xs) : Rd wr p (intV xs) := Rd.own h.1
theorem RowI.ret {W wr : World} {p : Value} {xs : List Int} (h : RowI W wr p xs) : RetInts W xs (.returned p) wr := ⟨p, rfl, h.read, h.2⟩
def RetInts' (W : World) (l : List Int) (e : Ending) (w' : World) : Prop := ∃ A c, e = .returned (.slice A l.length c) ∧ Rd w' (.slice A l.length c) (intV l) ∧ Below W.heap.size W w'
theorem retInts_shape {W w' : World} {l : List Int} {e : Ending} (h : RetInts W l e w') : RetInts' W l e w' := by
  obtain ⟨v, rfl, hr, hb⟩ := h
  obtain ⟨A, n, c, rfl, hn, hc, _⟩ := hr.ints
  subst hn
  exact ⟨A, c, rfl, hr, hb⟩
theorem sameI_self (a : List Int) : sameI a a = true := decide_eq_true rfl
theorem same_yes (v u : Value) (a : List Int) (w : World) (h : Rd w v (intV a)) (h' : Rd w u (intV a)) (hm : a.length ≤ 9223372036854775807) :
    Calls Tryd.prog 8 #[v, u] w (RetB w true) := (same_any v u a a w h h' hm).mono fun e w' k => by
  have := k.below
  rwa [sameI_self] at this
end Go.Proofs.YtihgigmncgopjaaDoor
