/- An argument that came in, opened: a list of numbers. No condition. -/
import Derived.Test.YtihgigmncgopjaaDoorRows
import Derived.Test.YtihgigmncgopjaaDoorOpenN
import Derived.ChangeArms
namespace Go.Proofs.YtihgigmncgopjaaDoor
open Go.RowKit Go.ChangeShapes Go.WideShapes
set_option maxRecDepth 100000

theorem open_ints {H : Type} {enc : TypeId × Value → H} {W : World} {base b0 : Nat} {spare : Nat → Bool} {held : Bool} {r : Reach} {v : Value} {d : DataW H} {p : List MemPlace}
    (hv : Value.okWide Tryd.prog W r b0 23 v) (h : DataW.Trod enc Tryd.prog W base spare held 23 v d p) :
    ∃ (A : Option Addr) (n c : Nat) (l : List Int), v = .slice A n c ∧ Rd W (.slice A n c) (intV l) ∧ l.length ≤ 9223372036854775807 := by
  obtain ⟨A, n, cp, l, rfl, hn, hr, -, hm⟩ := open_rows (f := fun (x : Int) => [Value.int .i64 x]) (Good := fun _ => True) (k := 1) (fun _ => rfl) (by decide) (show Tryd.prog.cellsOf 3 = 1 by kernel_rfl) Tryd.underlying23
    (fun m cs x hx => by
      obtain ⟨k, rfl, -⟩ := DataW.trod_int Tryd.underlying3 hx
      exact ⟨k, rfl, trivial⟩) hv h
  have e : ∀ l : List Int, (l.flatMap fun (x : Int) => [Value.int .i64 x]) = intV l := fun l => by
    induction l with
    | nil => rfl
    | cons a l ih => rw [List.flatMap_cons, ih]; rfl
  rw [e] at hr
  obtain ⟨A', c', heq, hc, hl, hA⟩ := hr
  cases heq
  exact ⟨_, n, _, l, rfl, ⟨_, n, _, rfl, by rw [intV_length]; exact hn, hc, hA⟩, by omega⟩
end Go.Proofs.YtihgigmncgopjaaDoor
