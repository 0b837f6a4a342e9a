/- ActOpen, joined. -/
import Derived.Test.YtcfcpbkeedfbpaaGreatDoorMActPuts20
import Derived.Test.YtcfcpbkeedfbpaaGreatDoorMActPuts03
namespace Go.Proofs.YtcfcpbkeedfbpaaGreatDoor
open Go.RowKit Go.ChangeShapes Go.WideShapes Go.Deep TermSpec EvalSpec ActSpec
set_option maxRecDepth 100000

theorem cells_act : Tryz.prog.cellsOf 66 = 3 := by kernel_rfl
theorem cells_bool : Tryz.prog.cellsOf 4 = 1 := by kernel_rfl
theorem cells_trms : Tryz.prog.cellsOf 64 = 1 := by kernel_rfl
section
variable {H : Type} {enc : TypeId × Value → H} {W : World} {base : Nat} {spare : Nat → Bool} {held : Bool}
theorem dec_bool {n : Nat} {c : Value} {x : Option (DataW H × List MemPlace)} (h : DataW.trod enc Tryz.prog W base spare held n 4 [c] = x) (hx : x.isSome) : ∃ b, c = .bool b := by
  obtain ⟨y, rfl⟩ := Option.isSome_iff_exists.1 hx
  obtain ⟨k, hc, _⟩ := DataW.trod_bool Tryz.underlying4 h
  simp at hc
  exact ⟨k, hc⟩
/-- An act that came in. -/
def GoodAP (W : World) (p : AP) : Prop := p.a.s.size ≤ 9223372036854775807 ∧ Small p.a.x ∧ p.a.x.length ≤ 9223372036854775807 ∧ Tms W (.slice p.xA p.xn p.xc) p.a.x
theorem dec_act (n : Nat) (cs : List Value) (x : DataW H × List MemPlace) (h : DataW.trod enc Tryz.prog W base spare held n 66 cs = some x) : ∃ p : AP, cs = acV p ∧ GoodAP W p := by
  obtain ⟨xs, m, _, _, hl, hxl, hg⟩ := DataW.trod_struct Tryz.underlying66 h
  rw [cells_act] at hl
  have hxl' : xs.length = 3 := hxl
  match cs, hl with
  | [c0, c1, c2], _ =>
    have g0 : DataW.trod enc Tryz.prog W base spare held m 9 (([c0, c1, c2].drop 0).take (Tryz.prog.cellsOf 9)) = xs[0]? := hg 0 _ rfl
    have g1 : DataW.trod enc Tryz.prog W base spare held m 4 (([c0, c1, c2].drop 1).take (Tryz.prog.cellsOf 4)) = xs[1]? := hg 1 _ rfl
    have g2 : DataW.trod enc Tryz.prog W base spare held m 64 (([c0, c1, c2].drop 2).take (Tryz.prog.cellsOf 64)) = xs[2]? := hg 2 _ rfl
    rw [OpenD.cells_str] at g0
    rw [cells_bool] at g1
    rw [cells_trms] at g2
    obtain ⟨s, rfl, hs⟩ := OpenD.dec_str g0 (OpenD.some_at (by omega))
    obtain ⟨b, rfl⟩ := dec_bool g1 (OpenD.some_at (by omega))
    obtain ⟨y2, e2⟩ := Option.isSome_iff_exists.1 (OpenD.some_at (l := xs) (i := 2) (by omega))
    rw [e2] at g2
    obtain ⟨A, k, cp, l, rfl, hn, hR, hG, hb⟩ := open_rows_c (v := c2) (f := tmV) (Good := fun t => t.s.size ≤ 9223372036854775807) tmV_length (by decide) cells_term Tryz.underlying64 dec_term g2
    exact ⟨⟨⟨s, b, l⟩, A, k, cp⟩, rfl, hs, hG, by simp only; omega, ⟨k, hn, hR⟩⟩
variable {b0 : Nat} {r : Reach} {v : Value} {d : DataW H} {p : List MemPlace}
theorem open_acts (hv : Value.okWide Tryz.prog W r b0 22 v) (h : DataW.Trod enc Tryz.prog W base spare held 22 v d p) :
    ∃ (A : Option Addr) (n cp : Nat) (l : List Ac), v = .slice A n cp ∧ Acs W (.slice A n cp) l ∧ (∀ a ∈ l, a.s.size ≤ 9223372036854775807 ∧ Small a.x ∧ a.x.length ≤ 9223372036854775807) ∧ l.length ≤ 9223372036854775807 := by
  obtain ⟨A, n, cp, ps, hv', hn, hR, hG, hb⟩ := open_rows (f := acV) (Good := GoodAP W) acV_length (by decide) cells_act Tryz.underlying22 dec_act hv h
  refine ⟨A, n, cp, ps.map (·.a), hv', ⟨ps, rfl, by rw [List.length_map, ← hn]; exact hR, fun p hp => (hG p hp).2.2.2⟩, fun a ha => ?_, by rw [List.length_map]; omega⟩
  obtain ⟨p, hp, rfl⟩ := List.mem_map.1 ha
  exact ⟨(hG p hp).1, (hG p hp).2.1, (hG p hp).2.2.1⟩
end
end Go.Proofs.YtcfcpbkeedfbpaaGreatDoor
