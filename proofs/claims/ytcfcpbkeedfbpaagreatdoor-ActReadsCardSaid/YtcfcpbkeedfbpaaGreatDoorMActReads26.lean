/- TokOpen, joined. -/
import Derived.Test.YtcfcpbkeedfbpaaGreatDoorMActReads25
import Derived.Test.YtcfcpbkeedfbpaaGreatDoorMActReads08
import Derived.Lib.SmallJoins
namespace Go.Proofs.YtcfcpbkeedfbpaaGreatDoor
open Go.RowKit Go.ChangeShapes Go.WideShapes Go.Deep CurSpec
set_option maxRecDepth 100000

theorem cells_int : Tryz.prog.cellsOf 3 = 1 := by kernel_rfl
theorem cells_str : Tryz.prog.cellsOf 9 = 1 := by kernel_rfl
theorem cells_pos : Tryz.prog.cellsOf 32 = 2 := by kernel_rfl
theorem cells_tok : Tryz.prog.cellsOf 40 = 4 := by kernel_rfl

section
variable {H : Type} {enc : TypeId × Value → H} {W : World} {base : Nat} {spare : Nat → Bool} {held : Bool}
theorem dec_int {n : Nat} {c : Value} {x : Option (DataW H × List MemPlace)} (h : DataW.trod enc Tryz.prog W base spare held n 3 [c] = x) (hx : x.isSome) : ∃ k, c = .int .i64 k := by
  obtain ⟨y, rfl⟩ := Option.isSome_iff_exists.1 hx
  obtain ⟨k, hc, _⟩ := DataW.trod_int Tryz.underlying3 h
  simp at hc
  exact ⟨k, hc⟩
theorem dec_str {n : Nat} {c : Value} {x : Option (DataW H × List MemPlace)} (h : DataW.trod enc Tryz.prog W base spare held n 9 [c] = x) (hx : x.isSome) : ∃ s : ByteArray, c = .string s ∧ s.size ≤ 9223372036854775807 := by
  obtain ⟨y, rfl⟩ := Option.isSome_iff_exists.1 hx
  obtain ⟨s, hc, _, hs⟩ := DataW.trod_string Tryz.underlying9 h
  simp at hc
  exact ⟨s, hc, hs⟩
theorem some_at {α : Type} {l : List α} {i : Nat} (h : i < l.length) : (l[i]?).isSome := by rw [List.getElem?_eq_getElem h]; rfl
theorem dec_pos {n : Nat} {c0 c1 : Value} {x : Option (DataW H × List MemPlace)} (h : DataW.trod enc Tryz.prog W base spare held n 32 [c0, c1] = x) (hx : x.isSome) : ∃ a b, c0 = .int .i64 a ∧ c1 = .int .i64 b := by
  obtain ⟨y, rfl⟩ := Option.isSome_iff_exists.1 hx
  obtain ⟨xs, m, _, _, _, hxl, hg⟩ := DataW.trod_struct Tryz.underlying32 h
  have hxl' : xs.length = 2 := hxl
  have g0 : DataW.trod enc Tryz.prog W base spare held m 3 (([c0, c1].drop 0).take (Tryz.prog.cellsOf 3)) = xs[0]? := hg 0 _ rfl
  have g1 : DataW.trod enc Tryz.prog W base spare held m 3 (([c0, c1].drop 1).take (Tryz.prog.cellsOf 3)) = xs[1]? := hg 1 _ rfl
  rw [cells_int] at g0 g1
  obtain ⟨a, ha⟩ := dec_int g0 (some_at (by omega))
  obtain ⟨b, hb⟩ := dec_int g1 (some_at (by omega))
  exact ⟨a, b, ha, hb⟩
theorem dec_tok (n : Nat) (cs : List Value) (x : DataW H × List MemPlace) (h : DataW.trod enc Tryz.prog W base spare held n 40 cs = some x) : ∃ t : Tk, cs = tkV t ∧ t.t.size ≤ 9223372036854775807 := by
  obtain ⟨xs, m, _, _, hl, hxl, hg⟩ := DataW.trod_struct Tryz.underlying40 h
  rw [cells_tok] at hl
  have hxl' : xs.length = 3 := hxl
  match cs, hl with
  | [c0, c1, c2, c3], _ =>
    have g0 : DataW.trod enc Tryz.prog W base spare held m 3 (([c0, c1, c2, c3].drop 0).take (Tryz.prog.cellsOf 3)) = xs[0]? := hg 0 _ rfl
    have g1 : DataW.trod enc Tryz.prog W base spare held m 9 (([c0, c1, c2, c3].drop 1).take (Tryz.prog.cellsOf 9)) = xs[1]? := hg 1 _ rfl
    have g2 : DataW.trod enc Tryz.prog W base spare held m 32 (([c0, c1, c2, c3].drop 2).take (Tryz.prog.cellsOf 32)) = xs[2]? := hg 2 _ rfl
    rw [cells_int] at g0
    rw [cells_str] at g1
    rw [cells_pos] at g2
    obtain ⟨a, rfl⟩ := dec_int g0 (some_at (by omega))
    obtain ⟨s, rfl, hs⟩ := dec_str g1 (some_at (by omega))
    obtain ⟨p, q, rfl, rfl⟩ := dec_pos g2 (some_at (by omega))
    exact ⟨⟨a, s, p, q⟩, rfl, hs⟩
variable {b0 : Nat} {r : Reach} {v : Value} {d : DataW H} {p : List MemPlace}
theorem open_toks (hv : Value.okWide Tryz.prog W r b0 30 v) (h : DataW.Trod enc Tryz.prog W base spare held 30 v d p) :
    ∃ (A : Option Addr) (n cp : Nat) (l : List Tk), v = .slice A n cp ∧ Toks W (.slice A n cp) l ∧ (∀ t ∈ l, t.t.size ≤ 9223372036854775807) ∧ n ≤ 9223372036854775807 := by
  obtain ⟨A, n, cp, l, hv', hn, hR, hG, hb⟩ := open_rows (f := tkV) (Good := fun t => t.t.size ≤ 9223372036854775807) tkV_length (by decide) cells_tok Tryz.underlying30 dec_tok hv h
  exact ⟨A, n, cp, l, hv', ⟨n, hn, hR⟩, hG, hb⟩
end
end Go.Proofs.YtcfcpbkeedfbpaaGreatDoor
