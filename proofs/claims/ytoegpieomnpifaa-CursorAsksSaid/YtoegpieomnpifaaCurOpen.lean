/- Arguments that came in, opened: a slice of tokens, a slice of what is asked, one of them by value. No condition. -/
import Derived.Test.YtoegpieomnpifaaOpenN
import Derived.Test.YtoegpieomnpifaaCurAsks
import Derived.Lib.SmallJoins
namespace Go.Proofs.Ytoegpieomnpifaa
open Go.RowKit Go.ChangeShapes Go.WideShapes Go.Deep CurSpec

theorem cells_int : Try.prog.cellsOf 3 = 1 := by kernel_rfl
theorem cells_str : Try.prog.cellsOf 9 = 1 := by kernel_rfl
theorem cells_pos : Try.prog.cellsOf 26 = 2 := by kernel_rfl
theorem cells_tok : Try.prog.cellsOf 28 = 4 := by kernel_rfl
theorem cells_ask : Try.prog.cellsOf 35 = 4 := by kernel_rfl

section
variable {H : Type} {enc : TypeId × Value → H} {W : World} {base : Nat} {spare : Nat → Bool} {held : Bool}
theorem dec_int {n : Nat} {c : Value} {x : Option (DataW H × List MemPlace)} (h : DataW.trod enc Try.prog W base spare held n 3 [c] = x) (hx : x.isSome) : ∃ k, c = .int .i64 k := by
  obtain ⟨y, rfl⟩ := Option.isSome_iff_exists.1 hx
  obtain ⟨k, hc, _⟩ := DataW.trod_int Try.underlying3 h
  simp at hc
  exact ⟨k, hc⟩
theorem dec_str {n : Nat} {c : Value} {x : Option (DataW H × List MemPlace)} (h : DataW.trod enc Try.prog W base spare held n 9 [c] = x) (hx : x.isSome) : ∃ s : ByteArray, c = .string s ∧ s.size ≤ 9223372036854775807 := by
  obtain ⟨y, rfl⟩ := Option.isSome_iff_exists.1 hx
  obtain ⟨s, hc, _, hs⟩ := DataW.trod_string Try.underlying9 h
  simp at hc
  exact ⟨s, hc, hs⟩
theorem some_at {α : Type} {l : List α} {i : Nat} (h : i < l.length) : (l[i]?).isSome := by rw [List.getElem?_eq_getElem h]; rfl
theorem dec_pos {n : Nat} {c0 c1 : Value} {x : Option (DataW H × List MemPlace)} (h : DataW.trod enc Try.prog W base spare held n 26 [c0, c1] = x) (hx : x.isSome) : ∃ a b, c0 = .int .i64 a ∧ c1 = .int .i64 b := by
  obtain ⟨y, rfl⟩ := Option.isSome_iff_exists.1 hx
  obtain ⟨xs, m, _, _, _, hxl, hg⟩ := DataW.trod_struct Try.underlying26 h
  have hxl' : xs.length = 2 := hxl
  have g0 : DataW.trod enc Try.prog W base spare held m 3 (([c0, c1].drop 0).take (Try.prog.cellsOf 3)) = xs[0]? := hg 0 _ rfl
  have g1 : DataW.trod enc Try.prog W base spare held m 3 (([c0, c1].drop 1).take (Try.prog.cellsOf 3)) = xs[1]? := hg 1 _ rfl
  rw [cells_int] at g0 g1
  obtain ⟨a, ha⟩ := dec_int g0 (some_at (by omega))
  obtain ⟨b, hb⟩ := dec_int g1 (some_at (by omega))
  exact ⟨a, b, ha, hb⟩
theorem dec_tok (n : Nat) (cs : List Value) (x : DataW H × List MemPlace) (h : DataW.trod enc Try.prog W base spare held n 28 cs = some x) : ∃ t : Tk, cs = tkV t ∧ t.t.size ≤ 9223372036854775807 := by
  obtain ⟨xs, m, _, _, hl, hxl, hg⟩ := DataW.trod_struct Try.underlying28 h
  rw [cells_tok] at hl
  have hxl' : xs.length = 3 := hxl
  match cs, hl with
  | [c0, c1, c2, c3], _ =>
    have g0 : DataW.trod enc Try.prog W base spare held m 3 (([c0, c1, c2, c3].drop 0).take (Try.prog.cellsOf 3)) = xs[0]? := hg 0 _ rfl
    have g1 : DataW.trod enc Try.prog W base spare held m 9 (([c0, c1, c2, c3].drop 1).take (Try.prog.cellsOf 9)) = xs[1]? := hg 1 _ rfl
    have g2 : DataW.trod enc Try.prog W base spare held m 26 (([c0, c1, c2, c3].drop 2).take (Try.prog.cellsOf 26)) = xs[2]? := hg 2 _ rfl
    rw [cells_int] at g0
    rw [cells_str] at g1
    rw [cells_pos] at g2
    obtain ⟨a, rfl⟩ := dec_int g0 (some_at (by omega))
    obtain ⟨s, rfl, hs⟩ := dec_str g1 (some_at (by omega))
    obtain ⟨p, q, rfl, rfl⟩ := dec_pos g2 (some_at (by omega))
    exact ⟨⟨a, s, p, q⟩, rfl, hs⟩
theorem dec_ask (n : Nat) (cs : List Value) (x : DataW H × List MemPlace) (h : DataW.trod enc Try.prog W base spare held n 35 cs = some x) : ∃ a : Ak, cs = akV a ∧ a.s.size ≤ 9223372036854775807 := by
  obtain ⟨xs, m, _, _, hl, hxl, hg⟩ := DataW.trod_struct Try.underlying35 h
  rw [cells_ask] at hl
  have hxl' : xs.length = 4 := hxl
  match cs, hl with
  | [c0, c1, c2, c3], _ =>
    have g0 : DataW.trod enc Try.prog W base spare held m 3 (([c0, c1, c2, c3].drop 0).take (Try.prog.cellsOf 3)) = xs[0]? := hg 0 _ rfl
    have g1 : DataW.trod enc Try.prog W base spare held m 3 (([c0, c1, c2, c3].drop 1).take (Try.prog.cellsOf 3)) = xs[1]? := hg 1 _ rfl
    have g2 : DataW.trod enc Try.prog W base spare held m 9 (([c0, c1, c2, c3].drop 2).take (Try.prog.cellsOf 9)) = xs[2]? := hg 2 _ rfl
    have g3 : DataW.trod enc Try.prog W base spare held m 3 (([c0, c1, c2, c3].drop 3).take (Try.prog.cellsOf 3)) = xs[3]? := hg 3 _ rfl
    rw [cells_int] at g0 g1 g3
    rw [cells_str] at g2
    obtain ⟨a, rfl⟩ := dec_int g0 (some_at (by omega))
    obtain ⟨b, rfl⟩ := dec_int g1 (some_at (by omega))
    obtain ⟨s, rfl, hs⟩ := dec_str g2 (some_at (by omega))
    obtain ⟨c, rfl⟩ := dec_int g3 (some_at (by omega))
    exact ⟨⟨a, b, s, c⟩, rfl, hs⟩

variable {b0 : Nat} {r : Reach} {v : Value} {d : DataW H} {p : List MemPlace}
theorem open_toks (hv : Value.okWide Try.prog W r b0 22 v) (h : DataW.Trod enc Try.prog W base spare held 22 v d p) :
    ∃ (A : Option Addr) (n cp : Nat) (l : List Tk), v = .slice A n cp ∧ Toks W (.slice A n cp) l ∧ (∀ t ∈ l, t.t.size ≤ 9223372036854775807) ∧ n ≤ 9223372036854775807 := by
  obtain ⟨A, n, cp, l, hv', hn, hR, hG, hb⟩ := open_rows (f := tkV) (Good := fun t => t.t.size ≤ 9223372036854775807) tkV_length (by decide) cells_tok Try.underlying22 dec_tok hv h
  exact ⟨A, n, cp, l, hv', ⟨n, hn, hR⟩, hG, hb⟩
theorem open_asks (hv : Value.okWide Try.prog W r b0 23 v) (h : DataW.Trod enc Try.prog W base spare held 23 v d p) :
    ∃ (A : Option Addr) (n cp : Nat) (l : List Ak), v = .slice A n cp ∧ Rdk 4 W (.slice A n cp) n (aksV l) ∧ n = l.length ∧ n ≤ 9223372036854775807 := by
  obtain ⟨A, n, cp, l, hv', hn, hR, _, hb⟩ := open_rows (f := akV) (Good := fun a => a.s.size ≤ 9223372036854775807) akV_length (by decide) cells_ask Try.underlying23 dec_ask hv h
  exact ⟨A, n, cp, l, hv', hR, hn, hb⟩
theorem open_ask (hv : Value.okWide Try.prog W r b0 35 v) (h : DataW.Trod enc Try.prog W base spare held 35 v d p) :
    ∃ a : Ak, v = .agg #[.int .i64 a.d, .int .i64 a.k, .string a.s, .int .i64 a.n] := by
  obtain ⟨cs, rfl, _⟩ := okWide_struct Try.underlying35 hv
  obtain ⟨fuel, hx⟩ := h
  obtain ⟨a, ha, _⟩ := dec_ask _ _ _ hx
  refine ⟨a, ?_⟩
  have e : cs.toList = akV a := ha
  rw [← Array.toArray_toList (xs := cs), e]
  rfl
end
end Go.Proofs.Ytoegpieomnpifaa
