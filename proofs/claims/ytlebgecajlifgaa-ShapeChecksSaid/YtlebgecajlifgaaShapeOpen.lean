/- Arguments that came in, opened: a slice of states, of which kind and parent count. No condition. -/
import Derived.Test.YtlebgecajlifgaaOpenD
import Derived.Test.YtlebgecajlifgaaShapeMem
namespace Go.Proofs.Ytlebgecajlifgaa
open Go.RowKit Go.ChangeShapes Go.WideShapes Go.Deep ShapeSpec OpenD
set_option maxRecDepth 100000

theorem cells_state : Try.prog.cellsOf 37 = 6 := by kernel_rfl
theorem cells_sacts : Try.prog.cellsOf 34 = 1 := by kernel_rfl
theorem cells_strs : Try.prog.cellsOf 35 = 1 := by kernel_rfl
section
variable {H : Type} {enc : TypeId × Value → H} {W : World} {base : Nat} {spare : Nat → Bool} {held : Bool}
theorem dec_slice {P : Program} {n : Nat} {t e : TypeId} (hu : P.underlying t = some (.slice e)) {c : Value} {x : Option (DataW H × List MemPlace)} (h : DataW.trod enc P W base spare held n t [c] = x) (hx : x.isSome) : ∃ A m cp, c = .slice A m cp := by
  obtain ⟨y, rfl⟩ := Option.isSome_iff_exists.1 hx
  rcases open_slice hu h with ⟨hcs, _⟩ | ⟨a, len', cap', m, n, D, Pl, hcs, _⟩
  · simp at hcs
    exact ⟨_, _, _, hcs⟩
  · simp at hcs
    exact ⟨_, _, _, hcs⟩
theorem dec_state (n : Nat) (cs : List Value) (x : DataW H × List MemPlace) (h : DataW.trod enc Try.prog W base spare held n 37 cs = some x) : ∃ t : StC, cs = stV t ∧ True := by
  obtain ⟨xs, m, _, _, hl, hxl, hg⟩ := DataW.trod_struct Try.underlying37 h
  rw [cells_state] at hl
  have hxl' : xs.length = 6 := hxl
  match cs, hl with
  | [c0, c1, c2, c3, c4, c5], _ =>
    have g0 : DataW.trod enc Try.prog W base spare held m 9 (([c0, c1, c2, c3, c4, c5].drop 0).take (Try.prog.cellsOf 9)) = xs[0]? := hg 0 _ rfl
    have g1 : DataW.trod enc Try.prog W base spare held m 3 (([c0, c1, c2, c3, c4, c5].drop 1).take (Try.prog.cellsOf 3)) = xs[1]? := hg 1 _ rfl
    have g2 : DataW.trod enc Try.prog W base spare held m 3 (([c0, c1, c2, c3, c4, c5].drop 2).take (Try.prog.cellsOf 3)) = xs[2]? := hg 2 _ rfl
    have g3 : DataW.trod enc Try.prog W base spare held m 34 (([c0, c1, c2, c3, c4, c5].drop 3).take (Try.prog.cellsOf 34)) = xs[3]? := hg 3 _ rfl
    have g4 : DataW.trod enc Try.prog W base spare held m 34 (([c0, c1, c2, c3, c4, c5].drop 4).take (Try.prog.cellsOf 34)) = xs[4]? := hg 4 _ rfl
    have g5 : DataW.trod enc Try.prog W base spare held m 35 (([c0, c1, c2, c3, c4, c5].drop 5).take (Try.prog.cellsOf 35)) = xs[5]? := hg 5 _ rfl
    rw [OpenD.cells_str] at g0
    rw [OpenD.cells_int] at g1 g2
    rw [cells_sacts] at g3 g4
    rw [cells_strs] at g5
    obtain ⟨s, rfl, _⟩ := OpenD.dec_str g0 (OpenD.some_at (by omega))
    obtain ⟨a, rfl⟩ := OpenD.dec_int g1 (OpenD.some_at (by omega))
    obtain ⟨b, rfl⟩ := OpenD.dec_int g2 (OpenD.some_at (by omega))
    obtain ⟨a3, n3, k3, rfl⟩ := dec_slice Try.underlying34 g3 (OpenD.some_at (by omega))
    obtain ⟨a4, n4, k4, rfl⟩ := dec_slice Try.underlying34 g4 (OpenD.some_at (by omega))
    obtain ⟨a5, n5, k5, rfl⟩ := dec_slice Try.underlying35 g5 (OpenD.some_at (by omega))
    exact ⟨⟨s, ⟨a, b⟩, a3, n3, k3, a4, n4, k4, a5, n5, k5⟩, rfl, trivial⟩
variable {b0 : Nat} {r : Reach} {v : Value} {d : DataW H} {p : List MemPlace}
theorem open_states (hv : Value.okWide Try.prog W r b0 22 v) (h : DataW.Trod enc Try.prog W base spare held 22 v d p) :
    ∃ (A : Option Addr) (n cp : Nat) (l : List Sh), v = .slice A n cp ∧ Sts W (.slice A n cp) l ∧ n ≤ 9223372036854775807 := by
  obtain ⟨A, n, cp, l, hv', hn, hR, _, hb⟩ := open_rows (f := stV) (Good := fun _ => True) stV_length (by decide) cells_state Try.underlying22 dec_state hv h
  exact ⟨A, n, cp, l.map (·.sh), hv', ⟨l, rfl, by rw [List.length_map, ← hn]; exact hR⟩, hb⟩
end
end Go.Proofs.Ytlebgecajlifgaa
