/- TermOpen, joined. -/
import Derived.Test.YtbkgkdfameojfaaMOpenD
import Derived.Test.YtbkgkdfameojfaaMTermA
namespace Go.Proofs.Ytbkgkdfameojfaa
open Go.RowKit Go.ChangeShapes Go.WideShapes Go.Deep TermSpec OpenD
set_option maxRecDepth 100000

theorem cells_term : Try.prog.cellsOf 39 = 3 := by kernel_rfl
section
variable {H : Type} {enc : TypeId × Value → H} {W : World} {base : Nat} {spare : Nat → Bool} {held : Bool}
theorem dec_term (n : Nat) (cs : List Value) (x : DataW H × List MemPlace) (h : DataW.trod enc Try.prog W base spare held n 39 cs = some x) : ∃ t : Tm, cs = tmV t ∧ t.s.size ≤ 9223372036854775807 := by
  obtain ⟨xs, m, _, _, hl, hxl, hg⟩ := DataW.trod_struct Try.underlying39 h
  rw [cells_term] at hl
  have hxl' : xs.length = 3 := hxl
  match cs, hl with
  | [c0, c1, c2], _ =>
    have g0 : DataW.trod enc Try.prog W base spare held m 3 (([c0, c1, c2].drop 0).take (Try.prog.cellsOf 3)) = xs[0]? := hg 0 _ rfl
    have g1 : DataW.trod enc Try.prog W base spare held m 3 (([c0, c1, c2].drop 1).take (Try.prog.cellsOf 3)) = xs[1]? := hg 1 _ rfl
    have g2 : DataW.trod enc Try.prog W base spare held m 9 (([c0, c1, c2].drop 2).take (Try.prog.cellsOf 9)) = xs[2]? := hg 2 _ rfl
    rw [OpenD.cells_int] at g0 g1
    rw [OpenD.cells_str] at g2
    obtain ⟨a, rfl⟩ := OpenD.dec_int g0 (OpenD.some_at (by omega))
    obtain ⟨b, rfl⟩ := OpenD.dec_int g1 (OpenD.some_at (by omega))
    obtain ⟨s, rfl, hs⟩ := OpenD.dec_str g2 (OpenD.some_at (by omega))
    exact ⟨⟨a, b, s⟩, rfl, hs⟩
variable {b0 : Nat} {r : Reach} {v : Value} {d : DataW H} {p : List MemPlace}
theorem open_terms (hv : Value.okWide Try.prog W r b0 22 v) (h : DataW.Trod enc Try.prog W base spare held 22 v d p) :
    ∃ (A : Option Addr) (n cp : Nat) (l : List Tm), v = .slice A n cp ∧ Tms W (.slice A n cp) l ∧ n = l.length ∧ Small l ∧ n ≤ 9223372036854775807 := by
  obtain ⟨A, n, cp, l, hv', hn, hR, hG, hb⟩ := open_rows (f := tmV) (Good := fun t => t.s.size ≤ 9223372036854775807) tmV_length (by decide) cells_term Try.underlying22 dec_term hv h
  exact ⟨A, n, cp, l, hv', ⟨n, hn, hR⟩, hn, hG, hb⟩
end
end Go.Proofs.Ytbkgkdfameojfaa
