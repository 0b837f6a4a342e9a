/- Arguments that came in, opened: single cells of structs. No condition. -/
import Derived.Test.YtlebgecajlifgaaOpenN
import Derived.Test.YtlebgecajlifgaaRows
import Derived.Lib.SmallJoins
namespace Go.Proofs.Ytlebgecajlifgaa
namespace OpenD
open Go.RowKit Go.ChangeShapes Go.WideShapes Go.Deep
set_option maxRecDepth 100000

theorem cells_int : Try.prog.cellsOf 3 = 1 := by kernel_rfl
theorem cells_str : Try.prog.cellsOf 9 = 1 := by kernel_rfl
section
variable {H : Type} {enc : TypeId × Value → H} {W : World} {base : Nat} {spare : Nat → Bool} {held : Bool}
theorem dec_int {n : Nat} {c : Value} {x : Option (DataW H × List MemPlace)} (h : DataW.trod enc Try.prog W base spare held n 3 [c] = x) (hx : x.isSome) : ∃ k, c = .int .i64 k := by
  obtain ⟨y, rfl⟩ := Option.isSome_iff_exists.1 hx
  obtain ⟨k, hc, _⟩ := DataW.trod_int Try.underlying3 h
  simp at hc
  exact ⟨k, hc⟩
theorem dec_str {n : Nat} {c : Value} {x : Option (DataW H × List MemPlace)} (h : DataW.trod enc Try.prog W base spare held n 9 [c] = x) (hx : x.isSome) : ∃ s : ByteArray, c = .string s ∧ s.size ≤ 9223372036854775807 := by
  obtain ⟨y, rfl⟩ := Option.isSome_iff_exists.1 hx
  obtain ⟨s, hc, _, hs⟩ := DataW.trod_string Try.underlying9 h
  simp at hc
  exact ⟨s, hc, hs⟩
theorem some_at {α : Type} {l : List α} {i : Nat} (h : i < l.length) : (l[i]?).isSome := by rw [List.getElem?_eq_getElem h]; rfl
end
end OpenD
end Go.Proofs.Ytlebgecajlifgaa
