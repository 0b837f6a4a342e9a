/- What a call answers that gives one number or one truth: the world behind it the same, or changed in new blocks alone. No condition. -/
import Derived.Test.YtihgigmncgopjaaDoorKitB
namespace Go.Proofs.YtihgigmncgopjaaDoor
open Go.RowKit
/-- What print.Put returns. -/
def RetPP (W : World) (s : ByteArray) (er : Int) (e : Ending) (w' : World) : Prop := e = .returned (.tuple #[.string s, .int .i64 er]) ∧ Below W.heap.size W w'
def RetI (W : World) (n : Int) (e : Ending) (w' : World) : Prop := e = .returned (.int .i64 n) ∧ Below W.heap.size W w'
def RetB (W : World) (b : Bool) (e : Ending) (w' : World) : Prop := e = .returned (.bool b) ∧ Below W.heap.size W w'
def SameI (W : World) (n : Int) (e : Ending) (w' : World) : Prop := e = .returned (.int .i64 n) ∧ W = w'
def SameB (W : World) (b : Bool) (e : Ending) (w' : World) : Prop := e = .returned (.bool b) ∧ W = w'
/-- A literal slice just made; its block's number as the walk spells it. -/
theorem lit_here {w : World} {cs : Array Value} {xs : List Value} {e : TypeId} {n k : Nat} (hk : k = w.heap.size) (hn : n = xs.length) (hx : cs.toList = xs) : Rd (w.alloc (.cells cs e)) (.slice (some ⟨k, 0, none⟩) n n) xs := by
  subst hk; subst hx
  exact Rd.lit (by simpa using hn)
theorem undrawn {w w' : World} (h : Below w.drew.heap.size w.drew w') : Below w.heap.size w w' := ⟨h.os, h.tape, h.output, h.size, h.block⟩
end Go.Proofs.YtihgigmncgopjaaDoor
