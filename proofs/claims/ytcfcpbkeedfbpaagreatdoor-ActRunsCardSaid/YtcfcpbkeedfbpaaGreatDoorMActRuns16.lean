/- ScanMark, Laid, ScanLaid, ExprLaid, OpenN, OpenD, TermOpen, EvalOpen, ActOpen, joined. -/
import Derived.Test.YtcfcpbkeedfbpaaGreatDoorMActRuns15
import Derived.LaidLaws
import Derived.ChangeArms
import Derived.Lib.LaidTab
import Derived.OpenShut
import Derived.Test.YtcfcpbkeedfbpaaGreatDoorMActRuns00
import Derived.LaidMore
import Derived.Stop.Joined
import Derived.Test.YtcfcpbkeedfbpaaGreatDoorMActRuns08
import Derived.Stop.LaidErr
import Derived.ProofKit
import Derived.Deep.Slices
import Derived.Test.YtcfcpbkeedfbpaaGreatDoorRows
import Derived.Lib.SmallJoins
import Derived.Test.YtcfcpbkeedfbpaaGreatDoorMActRuns01
import Derived.Test.YtcfcpbkeedfbpaaGreatDoorMActRuns03
namespace Go.Proofs.YtcfcpbkeedfbpaaGreatDoor
open Go.RowKit ScanSpec
set_option maxRecDepth 100000

/-- The table of marks of two bytes holds what it was laid with. -/
def pairsV : Array Value := #[.string ⟨#[45, 62]⟩, .string ⟨#[58, 61]⟩, .string ⟨#[60, 61]⟩, .string ⟨#[62, 61]⟩, .string ⟨#[33, 61]⟩, .string ⟨#[61, 61]⟩, .string ⟨#[46, 46]⟩]
def PairsIn (w : World) : Prop := ∃ T fr, w.heap[0]? = some (.cells pairsV T fr)
theorem PairsIn.pos {w : World} (h : PairsIn w) : 0 < w.heap.size := by
  obtain ⟨T, fr, h⟩ := h
  exact (Array.getElem?_eq_some_iff.1 h).1
theorem PairsIn.keep {w w' : World} (h : PairsIn w) (hb : Below w.heap.size w w') : PairsIn w' := by
  have hp := h.pos
  obtain ⟨T, fr, h⟩ := h
  exact ⟨T, fr, (hb.block _ hp).trans h⟩
theorem PairsIn.alloc {w : World} (h : PairsIn w) (o : Obj) : PairsIn (w.alloc o) := h.keep ((Below.refl _ _).alloc (Nat.le_refl _) _)
theorem PairsIn.cell {w : World} (h : PairsIn w) {i : Nat} {v : Value} (hi : pairsV[i]? = some v) : w.cell? ⟨0, i, none⟩ = some v := by
  obtain ⟨T, fr, h⟩ := h
  simp [World.cell?, h, hi]

end Go.Proofs.YtcfcpbkeedfbpaaGreatDoor

namespace Go.Proofs.YtcfcpbkeedfbpaaGreatDoor
open Go.RowKit

end Go.Proofs.YtcfcpbkeedfbpaaGreatDoor

namespace Go.Proofs.YtcfcpbkeedfbpaaGreatDoor
open Go.RowKit ScanSpec
set_option maxRecDepth 100000

end Go.Proofs.YtcfcpbkeedfbpaaGreatDoor

namespace Go.Proofs.YtcfcpbkeedfbpaaGreatDoor
open Go.RowKit ExprSpec
set_option maxRecDepth 100000

theorem list5 {α : Type} {l : List α} (h : l.length = 5) : ∃ a b c d e, l = [a, b, c, d, e] := by
  match l, h with
  | [a, b, c, d, e], _ => exact ⟨a, b, c, d, e, rfl⟩
def sgD {H : Type} (s : Sg) : DataW H := .agg [.lit (.string s.t.data.toList), .lit (.int .i64 s.op), .lit (.int .i64 s.lev), .lit (.int .i64 s.left), .lit (.int .i64 s.right)]
theorem sg_cells : Tryz.prog.cellsOf 163 = 5 := by kernel_rfl
theorem sg_table : Tryz.prog.cellsOf 197 = 55 := by kernel_rfl
theorem sg_str : Tryz.prog.cellsOf 9 = 1 := by kernel_rfl
theorem sg_int : Tryz.prog.cellsOf 3 = 1 := by kernel_rfl
theorem sign_part {H : Type} {enc : TypeId × Value → H} {w : World} {base : Nat} {sp : Nat → Bool} {held : Bool} {fuel : Nat} {cs : List Value} {s : Sg} {p : List MemPlace}
    (h : DataW.trod enc Tryz.prog w base sp held fuel 163 cs = some (sgD s, p)) : cs = sgC s := by
  obtain ⟨xs, n, _, hx, hl, hlen, hf⟩ := DataW.trod_struct Tryz.underlying163 h
  obtain ⟨a, b, c, d, e, rfl⟩ := list5 (hl.trans sg_cells)
  obtain ⟨y0, y1, y2, y3, y4, rfl⟩ := list5 hlen
  have g0 : DataW.trod enc Tryz.prog w base sp held n 9 (([a, b, c, d, e].drop 0).take (Tryz.prog.cellsOf 9)) = some y0 := hf 0 _ rfl
  rw [sg_str] at g0
  have g1 : DataW.trod enc Tryz.prog w base sp held n 3 (([a, b, c, d, e].drop 1).take (Tryz.prog.cellsOf 3)) = some y1 := hf 1 _ rfl
  rw [sg_int] at g1
  have g2 : DataW.trod enc Tryz.prog w base sp held n 3 (([a, b, c, d, e].drop 2).take (Tryz.prog.cellsOf 3)) = some y2 := hf 2 _ rfl
  rw [sg_int] at g2
  have g3 : DataW.trod enc Tryz.prog w base sp held n 3 (([a, b, c, d, e].drop 3).take (Tryz.prog.cellsOf 3)) = some y3 := hf 3 _ rfl
  rw [sg_int] at g3
  have g4 : DataW.trod enc Tryz.prog w base sp held n 3 (([a, b, c, d, e].drop 4).take (Tryz.prog.cellsOf 3)) = some y4 := hf 4 _ rfl
  rw [sg_int] at g4
  obtain ⟨s0, c0, rfl, -⟩ := DataW.trod_string Tryz.underlying9 g0
  obtain ⟨n1, c1, rfl, -⟩ := DataW.trod_int Tryz.underlying3 g1
  obtain ⟨n2, c2, rfl, -⟩ := DataW.trod_int Tryz.underlying3 g2
  obtain ⟨n3, c3, rfl, -⟩ := DataW.trod_int Tryz.underlying3 g3
  obtain ⟨n4, c4, rfl, -⟩ := DataW.trod_int Tryz.underlying3 g4
  simp at c0 c1 c2 c3 c4
  subst c0 c1 c2 c3 c4
  simp only [sgD, List.map_cons, List.map_nil, Prod.mk.injEq, DataW.agg.injEq, List.cons.injEq, DataW.lit.injEq, Lit.string.injEq, Lit.int.injEq, true_and, and_true] at hx
  obtain ⟨⟨h0, h1, h2, h3, h4⟩, -⟩ := hx
  have h0' : s.t = s0 := ByteArray.ext (Array.toList_inj.mp h0)
  subst h0' h1 h2 h3 h4
  rfl
theorem flat_parts {α β : Type} {g : α → List β} {k : Nat} (hg : ∀ a, (g a).length = k) : ∀ (L : List α) (cs : List β), cs.length = L.length * k → (∀ i a, L[i]? = some a → (cs.drop (i * k)).take k = g a) → cs = L.flatMap g
  | [], cs, hl, _ => by simpa using hl
  | a :: L, cs, hl, h => by
    have h0 := h 0 a rfl
    rw [Nat.zero_mul, List.drop_zero] at h0
    rw [List.length_cons, Nat.succ_mul] at hl
    have ih := flat_parts hg L (cs.drop k) (by rw [List.length_drop]; omega) (fun i b hb => by
      rw [List.drop_drop, show k + i * k = (i + 1) * k by rw [Nat.succ_mul]; omega]
      exact h (i + 1) b hb)
    rw [List.flatMap_cons, ← ih, ← h0, List.take_append_drop]
theorem gSigns : Tryz.prog.globalNamed "semblance/expr.signs" = some 1 := by kernel_rfl
theorem tSigns : (Tryz.prog.globals[1]?).map (·.type) = some 197 := by kernel_rfl
theorem laid_signs {H : Type} : (Rows.laid_semblance_expr_signs : DataW H) = .agg (sgs.map sgD) := rfl
theorem signs_one {W : World} {rest : List (String × DataW Unit)} (h : laidMet Tryz.prog (("semblance/expr.signs", Rows.laid_semblance_expr_signs) :: rest) W) : SignsIn W := by
  obtain ⟨ps, ⟨g', t', cs, fuel, p, q, hg', ht', hvar, hd, _, _⟩, _⟩ := h
  obtain rfl := Option.some.inj (gSigns.symm.trans hg')
  obtain rfl := Option.some.inj (tSigns.symm.trans ht')
  rw [laid_signs] at hd
  obtain ⟨xs, m, _, hx, hl, hxl, hel⟩ := DataW.trod_array Tryz.underlying197 hd
  simp only [Prod.mk.injEq, DataW.agg.injEq] at hx
  have hxs := hx.1
  rw [sg_table] at hl
  have hc : cs.toList = sgs.flatMap sgC := by
    refine flat_parts (k := 5) (fun s => rfl) sgs _ (by rw [hl]; rfl) (fun i s hs => ?_)
    have hi : i < 11 := by have := get_lt hs; rwa [sgs_len] at this
    obtain ⟨y, hy⟩ : ∃ y, xs[i]? = some y := get_some (by omega)
    have hf := (hel i hi).trans hy
    rw [sg_cells] at hf
    have h2 : (xs.map (·.1))[i]? = some y.1 := by simp [hy]
    rw [← hxs, List.getElem?_map, hs] at h2
    have h3 : sgD s = y.1 := Option.some.inj h2
    obtain ⟨y1, y2⟩ := y
    subst h3
    exact sign_part hf
  have e : cs = signsV := Array.toList_inj.mp hc
  subst e
  unfold World.var? at hvar
  rw [gSigns] at hvar
  simp only [Option.bind_some] at hvar
  split at hvar
  · rename_i cs' T fr hb
    cases hvar
    exact ⟨T, fr, hb⟩
  · cases hvar
end Go.Proofs.YtcfcpbkeedfbpaaGreatDoor

namespace Go.Proofs.YtcfcpbkeedfbpaaGreatDoor
open Go.RowKit Go.ChangeShapes Go.WideShapes Go.Deep

theorem cell_there' {w : World} {b o : Nat} {u : Value} (h : w.cell? ⟨b, o, none⟩ = some u) : b < w.heap.size := by
  rcases Nat.lt_or_ge b w.heap.size with hlt | hge
  · exact hlt
  · simp [World.cell?, Array.getElem?_eq_none hge] at h
theorem list_of {α : Type} {R : Nat → α → Prop} : ∀ n, (∀ i, i < n → ∃ a, R i a) → ∃ l : List α, l.length = n ∧ ∀ i a, l[i]? = some a → R i a
  | 0, _ => ⟨[], rfl, fun i a h => by simp at h⟩
  | n + 1, h => by
    obtain ⟨l, hl, hR⟩ := list_of n (fun i hi => h i (by omega))
    obtain ⟨a, ha⟩ := h n (by omega)
    refine ⟨l ++ [a], by simp [hl], fun i b hb => ?_⟩
    rcases Nat.lt_or_ge i l.length with hlt | hge
    · rw [List.getElem?_append_left hlt] at hb
      exact hR i b hb
    · rw [List.getElem?_append_right hge] at hb
      obtain hi : i - l.length = 0 := by
        have := (List.getElem?_eq_some_iff.1 hb).1
        simp at this
        omega
      rw [hi] at hb
      simp at hb
      subst hb
      obtain rfl : i = n := by omega
      exact ha
theorem flat_at {α : Type} {k : Nat} {f : α → List Value} (hf : ∀ a, (f a).length = k) (hk : 0 < k) {l : List α} {q : Nat} {u : Value} (h : (l.flatMap f)[q]? = some u) : ∃ a, l[q / k]? = some a ∧ (f a)[q % k]? = some u := by
  have hq : q < l.length * k := by have := (List.getElem?_eq_some_iff.1 h).1; rwa [flat_length hf] at this
  have hi : q / k < l.length := Nat.div_lt_of_lt_mul (by rwa [Nat.mul_comm] at hq)
  refine ⟨l[q / k], List.getElem?_eq_getElem hi, ?_⟩
  rw [← flat_get hf (List.getElem?_eq_getElem hi) (Nat.mod_lt q hk), Nat.mul_comm (q / k) k, Nat.div_add_mod]
  exact h

theorem open_rows {α : Type} {f : α → List Value} {Good : α → Prop} {k : Nat} {H : Type} {enc : TypeId × Value → H} {P : Program} {W : World} {base b0 : Nat} {spare : Nat → Bool} {held : Bool} {r : Reach} {t e : TypeId} {v : Value} {d : DataW H} {p : List MemPlace}
    (hf : ∀ a, (f a).length = k) (hk0 : 0 < k) (hk : P.cellsOf e = k) (hu : P.underlying t = some (.slice e))
    (hdec : ∀ n cs x, DataW.trod enc P W base spare held n e cs = some x → ∃ a, cs = f a ∧ Good a)
    (hv : Value.okWide P W r b0 t v) (h : DataW.Trod enc P W base spare held t v d p) :
    ∃ (A : Option Addr) (n cp : Nat) (l : List α), v = .slice A n cp ∧ n = l.length ∧ Rdk k W (.slice A n cp) n (l.flatMap f) ∧ (∀ a ∈ l, Good a) ∧ n ≤ 9223372036854775807 := by
  obtain ⟨a0, len, cap, rfl⟩ := okWide_slice hu hv
  obtain ⟨fuel, hx⟩ := h
  rcases open_slice hu hx with ⟨hcs, _⟩ | ⟨a, len', cap', m, n, D, Pl, hcs, hb, hl, hm, hmm, _, hi⟩
  · simp [Value.cells] at hcs
    obtain ⟨rfl, rfl, rfl⟩ := hcs
    exact ⟨none, 0, 0, [], rfl, rfl, Rdk.nil k W, by simp, by omega⟩
  · simp [Value.cells] at hcs
    obtain ⟨rfl, rfl, rfl⟩ := hcs
    rw [hk] at hi
    have hlm : len ≤ m := by rw [hmm]; split <;> omega
    obtain ⟨l, hll, hR⟩ := list_of (R := fun i (x : α) => (∀ j, j < k → W.cell? ((a.add (i * k)).add j) = (f x)[j]?) ∧ Good x) len (fun i hlt => by
      obtain ⟨cs', hc, ht⟩ := hi i (by omega)
      obtain ⟨x, rfl, hg⟩ := hdec _ _ _ ht
      obtain ⟨_, _, hat⟩ := World.cells?_some hc
      exact ⟨x, hat, hg⟩)
    refine ⟨some a, len, cap, l, rfl, hll.symm, ⟨some a, cap, rfl, hl, by rw [flat_length hf, hll], fun h0 => ?_⟩, fun x hx => ?_, by unfold maxLen at hm; omega⟩
    · obtain ⟨x, hx0⟩ : ∃ x, l[0]? = some x := get_some (by omega)
      obtain ⟨u, hu0⟩ : ∃ u, (f x)[0]? = some u := get_some (by rw [hf]; exact hk0)
      obtain ⟨b, off, spot⟩ := a
      have h00 := (hR 0 x hx0).1 0 hk0
      rw [hu0] at h00
      have hspot : spot = none := by simpa [Addr.add] using World.cell?_spot h00
      subst hspot
      rw [addr_add, addr_add] at h00
      refine ⟨b, off, rfl, cell_there' h00, fun q u hq => ?_⟩
      obtain ⟨y, hy, hu⟩ := flat_at hf hk0 hq
      have := (hR _ y hy).1 (q % k) (Nat.mod_lt q hk0)
      rw [addr_add, addr_add, Nat.add_assoc, Nat.mul_comm (q / k) k, Nat.div_add_mod, hu] at this
      exact this
    · obtain ⟨i, hi⟩ := List.mem_iff_getElem?.1 hx
      exact (hR i x hi).2
end Go.Proofs.YtcfcpbkeedfbpaaGreatDoor

namespace Go.Proofs.YtcfcpbkeedfbpaaGreatDoor
namespace OpenD
open Go.RowKit Go.ChangeShapes Go.WideShapes Go.Deep
set_option maxRecDepth 100000

theorem cells_int : Tryz.prog.cellsOf 3 = 1 := by kernel_rfl
theorem cells_str : Tryz.prog.cellsOf 9 = 1 := by kernel_rfl
section
variable {H : Type} {enc : TypeId × Value → H} {W : World} {base : Nat} {spare : Nat → Bool} {held : Bool}
theorem dec_int {n : Nat} {c : Value} {x : Option (DataW H × List MemPlace)} (h : DataW.trod enc Tryz.prog W base spare held n 3 [c] = x) (hx : x.isSome) : ∃ k, c = .int .i64 k := by
  obtain ⟨y, rfl⟩ := Option.isSome_iff_exists.1 hx
  obtain ⟨k, hc, _⟩ := DataW.trod_int Tryz.underlying3 h
  simp at hc
  exact ⟨k, hc⟩
theorem dec_str {n : Nat} {c : Value} {x : Option (DataW H × List MemPlace)} (h : DataW.trod enc Tryz.prog W base spare held n 9 [c] = x) (hx : x.isSome) : ∃ s : ByteArray, c = .string s ∧ s.size ≤ 9223372036854775807 := by
  obtain ⟨y, rfl⟩ := Option.isSome_iff_exists.1 hx
  obtain ⟨s, hc, _, hs⟩ := DataW.trod_string Tryz.underlying9 h
  simp at hc
  exact ⟨s, hc, hs⟩
theorem some_at {α : Type} {l : List α} {i : Nat} (h : i < l.length) : (l[i]?).isSome := by rw [List.getElem?_eq_getElem h]; rfl
end
end OpenD
end Go.Proofs.YtcfcpbkeedfbpaaGreatDoor

namespace Go.Proofs.YtcfcpbkeedfbpaaGreatDoor
open Go.RowKit Go.ChangeShapes Go.WideShapes Go.Deep TermSpec OpenD
set_option maxRecDepth 100000

theorem cells_term : Tryz.prog.cellsOf 68 = 3 := by kernel_rfl
section
variable {H : Type} {enc : TypeId × Value → H} {W : World} {base : Nat} {spare : Nat → Bool} {held : Bool}
theorem dec_term (n : Nat) (cs : List Value) (x : DataW H × List MemPlace) (h : DataW.trod enc Tryz.prog W base spare held n 68 cs = some x) : ∃ t : Tm, cs = tmV t ∧ t.s.size ≤ 9223372036854775807 := by
  obtain ⟨xs, m, _, _, hl, hxl, hg⟩ := DataW.trod_struct Tryz.underlying68 h
  rw [cells_term] at hl
  have hxl' : xs.length = 3 := hxl
  match cs, hl with
  | [c0, c1, c2], _ =>
    have g0 : DataW.trod enc Tryz.prog W base spare held m 3 (([c0, c1, c2].drop 0).take (Tryz.prog.cellsOf 3)) = xs[0]? := hg 0 _ rfl
    have g1 : DataW.trod enc Tryz.prog W base spare held m 3 (([c0, c1, c2].drop 1).take (Tryz.prog.cellsOf 3)) = xs[1]? := hg 1 _ rfl
    have g2 : DataW.trod enc Tryz.prog W base spare held m 9 (([c0, c1, c2].drop 2).take (Tryz.prog.cellsOf 9)) = xs[2]? := hg 2 _ rfl
    rw [OpenD.cells_int] at g0 g1
    rw [OpenD.cells_str] at g2
    obtain ⟨a, rfl⟩ := OpenD.dec_int g0 (OpenD.some_at (by omega))
    obtain ⟨b, rfl⟩ := OpenD.dec_int g1 (OpenD.some_at (by omega))
    obtain ⟨s, rfl, hs⟩ := OpenD.dec_str g2 (OpenD.some_at (by omega))
    exact ⟨⟨a, b, s⟩, rfl, hs⟩
variable {b0 : Nat} {r : Reach} {v : Value} {d : DataW H} {p : List MemPlace}
end
end Go.Proofs.YtcfcpbkeedfbpaaGreatDoor

namespace Go.Proofs.YtcfcpbkeedfbpaaGreatDoor
open Go.RowKit Go.ChangeShapes Go.WideShapes Go.Deep TermSpec EvalSpec
set_option maxRecDepth 100000

theorem open_rows_c {α : Type} {f : α → List Value} {Good : α → Prop} {k : Nat} {H : Type} {enc : TypeId × Value → H} {P : Program} {W : World} {base : Nat} {spare : Nat → Bool} {held : Bool} {fuel : Nat} {t e : TypeId} {v : Value} {x : DataW H × List MemPlace}
    (hf : ∀ a, (f a).length = k) (hk0 : 0 < k) (hk : P.cellsOf e = k) (hu : P.underlying t = some (.slice e))
    (hdec : ∀ n cs x, DataW.trod enc P W base spare held n e cs = some x → ∃ a, cs = f a ∧ Good a)
    (h : DataW.trod enc P W base spare held fuel t [v] = some x) :
    ∃ (A : Option Addr) (n cp : Nat) (l : List α), v = .slice A n cp ∧ n = l.length ∧ Rdk k W (.slice A n cp) n (l.flatMap f) ∧ (∀ a ∈ l, Good a) ∧ n ≤ 9223372036854775807 := by
  rcases open_slice hu h with ⟨hcs, _⟩ | ⟨a, len, cap, m, n, D, Pl, hcs, hb, hl, hm, hmm, _, hi⟩
  · cases hcs
    exact ⟨none, 0, 0, [], rfl, rfl, Rdk.nil k W, by simp, by omega⟩
  · cases hcs
    rw [hk] at hi
    have hlm : len ≤ m := by rw [hmm]; split <;> omega
    obtain ⟨l, hll, hR⟩ := list_of (R := fun i (x : α) => (∀ j, j < k → W.cell? ((a.add (i * k)).add j) = (f x)[j]?) ∧ Good x) len (fun i hlt => by
      obtain ⟨cs', hc, ht⟩ := hi i (by omega)
      obtain ⟨x, rfl, hg⟩ := hdec _ _ _ ht
      obtain ⟨_, _, hat⟩ := World.cells?_some hc
      exact ⟨x, hat, hg⟩)
    refine ⟨some a, len, cap, l, rfl, hll.symm, ⟨some a, cap, rfl, hl, by rw [flat_length hf, hll], fun h0 => ?_⟩, fun x hx => ?_, by unfold maxLen at hm; omega⟩
    · obtain ⟨x, hx0⟩ : ∃ x, l[0]? = some x := get_some (by omega)
      obtain ⟨u, hu0⟩ : ∃ u, (f x)[0]? = some u := get_some (by rw [hf]; exact hk0)
      obtain ⟨b, off, spot⟩ := a
      have h00 := (hR 0 x hx0).1 0 hk0
      rw [hu0] at h00
      have hspot : spot = none := by simpa [Addr.add] using World.cell?_spot h00
      subst hspot
      rw [addr_add, addr_add] at h00
      refine ⟨b, off, rfl, cell_there' h00, fun q u hq => ?_⟩
      obtain ⟨y, hy, hu⟩ := flat_at hf hk0 hq
      have := (hR _ y hy).1 (q % k) (Nat.mod_lt q hk0)
      rw [addr_add, addr_add, Nat.add_assoc, Nat.mul_comm (q / k) k, Nat.div_add_mod, hu] at this
      exact this
    · obtain ⟨i, hi⟩ := List.mem_iff_getElem?.1 hx
      exact (hR i x hi).2
theorem open_strs_c {H : Type} {enc : TypeId × Value → H} {P : Program} {W : World} {base : Nat} {spare : Nat → Bool} {held : Bool} {fuel : Nat} {t e : TypeId} {v : Value} {x : DataW H × List MemPlace}
    (hu : P.underlying t = some (.slice e)) (he : P.underlying e = some .string) (hone : P.cellsOf e = 1) (h : DataW.trod enc P W base spare held fuel t [v] = some x) :
    ∃ (A : Option Addr) (n c : Nat) (l : List ByteArray), v = .slice A n c ∧ Rd W (.slice A n c) (strV l) ∧ l.length ≤ 9223372036854775807 := by
  rcases open_strings hu he hone h with ⟨hcs, hx⟩ | ⟨a, len, cap, ss, hcs, _, hl, hm, hz, hx, hcell, hws⟩
  · cases hcs
    exact ⟨none, 0, 0, [], rfl, Rd.nil _, by simp⟩
  · cases hcs
    have hlen : len ≤ ss.length := by rw [hz]; split <;> omega
    have htl : (ss.take len).length = len := by rw [List.length_take]; omega
    refine ⟨some a, len, cap, ss.take len, rfl, ⟨_, len, cap, rfl, by rw [strV_length, htl], hl, fun h0 => ?_⟩, by rw [htl]; unfold maxLen at hm; omega⟩
    obtain ⟨b, off, spot⟩ := a
    have hspot : spot = none := by simpa [Addr.add] using World.cell?_spot (hcell 0 (by omega))
    subst hspot
    have h00 := hcell 0 (by omega)
    rw [addr_add] at h00
    refine ⟨b, off, rfl, cell_there' h00, fun j u hj => ?_⟩
    have hjl := get_lt hj
    rw [strV_length, htl] at hjl
    have := hcell j (by omega)
    rw [addr_add] at this
    rw [this]
    rw [strV_get, List.getElem?_take_of_lt hjl, List.getElem?_eq_getElem (by omega)] at hj
    rw [List.getD_eq_getElem?_getD, List.getElem?_eq_getElem (by omega)]
    exact hj

theorem cells_var : Tryz.prog.cellsOf 62 = 4 := by kernel_rfl
theorem cells_env : Tryz.prog.cellsOf 54 = 6 := by kernel_rfl
theorem cells_vars : Tryz.prog.cellsOf 50 = 1 := by kernel_rfl
theorem cells_strs : Tryz.prog.cellsOf 52 = 1 := by kernel_rfl
theorem cells_arr4 : Tryz.prog.cellsOf 51 = 4 := by kernel_rfl
section
variable {H : Type} {enc : TypeId × Value → H} {W : World} {base : Nat} {spare : Nat → Bool} {held : Bool}
theorem dec_arr4 {n : Nat} {c0 c1 c2 c3 : Value} {x : Option (DataW H × List MemPlace)} (h : DataW.trod enc Tryz.prog W base spare held n 51 [c0, c1, c2, c3] = x) (hx : x.isSome) : ∃ a b c d, c0 = .int .i64 a ∧ c1 = .int .i64 b ∧ c2 = .int .i64 c ∧ c3 = .int .i64 d := by
  obtain ⟨y, rfl⟩ := Option.isSome_iff_exists.1 hx
  obtain ⟨xs, m, _, _, _, hxl, hi⟩ := DataW.trod_array Tryz.underlying51 h
  have g0 := hi 0 (by omega)
  have g1 := hi 1 (by omega)
  have g2 := hi 2 (by omega)
  have g3 := hi 3 (by omega)
  rw [OpenD.cells_int] at g0 g1 g2 g3
  obtain ⟨a, rfl⟩ := OpenD.dec_int (c := c0) g0 (OpenD.some_at (by omega))
  obtain ⟨b, rfl⟩ := OpenD.dec_int (c := c1) g1 (OpenD.some_at (by omega))
  obtain ⟨c, rfl⟩ := OpenD.dec_int (c := c2) g2 (OpenD.some_at (by omega))
  obtain ⟨d, rfl⟩ := OpenD.dec_int (c := c3) g3 (OpenD.some_at (by omega))
  exact ⟨a, b, c, d, rfl, rfl, rfl, rfl⟩
variable {b0 : Nat} {r : Reach} {v : Value} {d : DataW H} {p : List MemPlace}
end
end Go.Proofs.YtcfcpbkeedfbpaaGreatDoor

namespace Go.Proofs.YtcfcpbkeedfbpaaGreatDoor
open Go.RowKit Go.ChangeShapes Go.WideShapes Go.Deep TermSpec EvalSpec ActSpec
set_option maxRecDepth 100000

theorem cells_act : Tryz.prog.cellsOf 66 = 3 := by kernel_rfl
theorem cells_bool : Tryz.prog.cellsOf 4 = 1 := by kernel_rfl
theorem cells_trms : Tryz.prog.cellsOf 64 = 1 := by kernel_rfl
theorem wf_i64 {n : Int} (h : (Lit.int .i64 n).wf = true) : -9223372036854775808 ≤ n ∧ n ≤ 9223372036854775807 := by
  have e1 : IntKind.i64.min = -9223372036854775808 := by kernel_rfl
  have e2 : IntKind.i64.max = 9223372036854775807 := by kernel_rfl
  simp [Lit.wf, e1, e2] at h
  exact h
section
variable {H : Type} {enc : TypeId × Value → H} {W : World} {base : Nat} {spare : Nat → Bool} {held : Bool}
theorem dec_int_fit {n : Nat} {c : Value} {x : Option (DataW H × List MemPlace)} (h : DataW.trod enc Tryz.prog W base spare held n 3 [c] = x) (hx : x.isSome) : ∃ k, c = .int .i64 k ∧ -9223372036854775808 ≤ k ∧ k ≤ 9223372036854775807 := by
  obtain ⟨y, rfl⟩ := Option.isSome_iff_exists.1 hx
  obtain ⟨k, hc, _, hw⟩ := DataW.trod_int Tryz.underlying3 h
  simp at hc
  exact ⟨k, hc, wf_i64 hw⟩
theorem dec_bool {n : Nat} {c : Value} {x : Option (DataW H × List MemPlace)} (h : DataW.trod enc Tryz.prog W base spare held n 4 [c] = x) (hx : x.isSome) : ∃ b, c = .bool b := by
  obtain ⟨y, rfl⟩ := Option.isSome_iff_exists.1 hx
  obtain ⟨k, hc, _⟩ := DataW.trod_bool Tryz.underlying4 h
  simp at hc
  exact ⟨k, hc⟩
/-- An act that came in. -/
def GoodAP (W : World) (p : AP) : Prop := p.a.s.size ≤ 9223372036854775807 ∧ Small p.a.x ∧ p.a.x.length ≤ 9223372036854775807 ∧ Tms W (.slice p.xA p.xn p.xc) p.a.x
theorem dec_act (n : Nat) (cs : List Value) (x : DataW H × List MemPlace) (h : DataW.trod enc Tryz.prog W base spare held n 66 cs = some x) : ∃ p : AP, cs = acV p ∧ GoodAP W p := by
  obtain ⟨xs, m, _, _, hl, hxl, hg⟩ := DataW.trod_struct Tryz.underlying66 h
  rw [cells_act] at hl
  have hxl' : xs.length = 3 := hxl
  match cs, hl with
  | [c0, c1, c2], _ =>
    have g0 : DataW.trod enc Tryz.prog W base spare held m 9 (([c0, c1, c2].drop 0).take (Tryz.prog.cellsOf 9)) = xs[0]? := hg 0 _ rfl
    have g1 : DataW.trod enc Tryz.prog W base spare held m 4 (([c0, c1, c2].drop 1).take (Tryz.prog.cellsOf 4)) = xs[1]? := hg 1 _ rfl
    have g2 : DataW.trod enc Tryz.prog W base spare held m 64 (([c0, c1, c2].drop 2).take (Tryz.prog.cellsOf 64)) = xs[2]? := hg 2 _ rfl
    rw [OpenD.cells_str] at g0
    rw [cells_bool] at g1
    rw [cells_trms] at g2
    obtain ⟨s, rfl, hs⟩ := OpenD.dec_str g0 (OpenD.some_at (by omega))
    obtain ⟨b, rfl⟩ := dec_bool g1 (OpenD.some_at (by omega))
    obtain ⟨y2, e2⟩ := Option.isSome_iff_exists.1 (OpenD.some_at (l := xs) (i := 2) (by omega))
    rw [e2] at g2
    obtain ⟨A, k, cp, l, rfl, hn, hR, hG, hb⟩ := open_rows_c (v := c2) (f := tmV) (Good := fun t => t.s.size ≤ 9223372036854775807) tmV_length (by decide) cells_term Tryz.underlying64 dec_term g2
    exact ⟨⟨⟨s, b, l⟩, A, k, cp⟩, rfl, hs, hG, by simp only; omega, ⟨k, hn, hR⟩⟩
theorem dec_var_fit (n : Nat) (cs : List Value) (x : DataW H × List MemPlace) (h : DataW.trod enc Tryz.prog W base spare held n 62 cs = some x) : ∃ v : Vr, cs = vrV v ∧ VFit v := by
  obtain ⟨xs, m, _, _, hl, hxl, hg⟩ := DataW.trod_struct Tryz.underlying62 h
  rw [cells_var] at hl
  have hxl' : xs.length = 4 := hxl
  match cs, hl with
  | [c0, c1, c2, c3], _ =>
    have g0 : DataW.trod enc Tryz.prog W base spare held m 9 (([c0, c1, c2, c3].drop 0).take (Tryz.prog.cellsOf 9)) = xs[0]? := hg 0 _ rfl
    have g1 : DataW.trod enc Tryz.prog W base spare held m 3 (([c0, c1, c2, c3].drop 1).take (Tryz.prog.cellsOf 3)) = xs[1]? := hg 1 _ rfl
    have g2 : DataW.trod enc Tryz.prog W base spare held m 3 (([c0, c1, c2, c3].drop 2).take (Tryz.prog.cellsOf 3)) = xs[2]? := hg 2 _ rfl
    have g3 : DataW.trod enc Tryz.prog W base spare held m 3 (([c0, c1, c2, c3].drop 3).take (Tryz.prog.cellsOf 3)) = xs[3]? := hg 3 _ rfl
    rw [OpenD.cells_int] at g1 g2 g3
    rw [OpenD.cells_str] at g0
    obtain ⟨s, rfl, _⟩ := OpenD.dec_str g0 (OpenD.some_at (by omega))
    obtain ⟨a, rfl, a1, a2⟩ := dec_int_fit g1 (OpenD.some_at (by omega))
    obtain ⟨b, rfl, b1, b2⟩ := dec_int_fit g2 (OpenD.some_at (by omega))
    obtain ⟨c, rfl⟩ := OpenD.dec_int g3 (OpenD.some_at (by omega))
    exact ⟨⟨s, a, b, c⟩, rfl, a1, a2, b1, b2⟩
variable {b0 : Nat} {r : Reach} {v : Value} {d : DataW H} {p : List MemPlace}
theorem open_acts (hv : Value.okWide Tryz.prog W r b0 22 v) (h : DataW.Trod enc Tryz.prog W base spare held 22 v d p) :
    ∃ (A : Option Addr) (n cp : Nat) (l : List Ac), v = .slice A n cp ∧ Acs W (.slice A n cp) l ∧ (∀ a ∈ l, a.s.size ≤ 9223372036854775807 ∧ Small a.x ∧ a.x.length ≤ 9223372036854775807) ∧ l.length ≤ 9223372036854775807 := by
  obtain ⟨A, n, cp, ps, hv', hn, hR, hG, hb⟩ := open_rows (f := acV) (Good := GoodAP W) acV_length (by decide) cells_act Tryz.underlying22 dec_act hv h
  refine ⟨A, n, cp, ps.map (·.a), hv', ⟨ps, rfl, by rw [List.length_map, ← hn]; exact hR, fun p hp => (hG p hp).2.2.2⟩, fun a ha => ?_, by rw [List.length_map]; omega⟩
  obtain ⟨p, hp, rfl⟩ := List.mem_map.1 ha
  exact ⟨(hG p hp).1, (hG p hp).2.1, (hG p hp).2.2.1⟩
theorem open_env_fit (hv : Value.okWide Tryz.prog W r b0 54 v) (h : DataW.Trod enc Tryz.prog W base spare held 54 v d p) :
    ∃ (q : EP) (e : Ev), v = envV q e ∧ EnvIn W q e ∧ ∀ v ∈ e.vars, VFit v := by
  obtain ⟨cs, rfl, _⟩ := okWide_struct Tryz.underlying54 hv
  obtain ⟨fuel, hx⟩ := h
  obtain ⟨xs, m, _, _, hl, hxl, hg⟩ := DataW.trod_struct Tryz.underlying54 hx
  rw [cells_env] at hl
  have hxl' : xs.length = 3 := hxl
  obtain ⟨l⟩ := cs
  match l, hl with
  | [c0, c1, c2, c3, c4, c5], _ =>
    have g0 : DataW.trod enc Tryz.prog W base spare held m 50 (([c0, c1, c2, c3, c4, c5].drop 0).take (Tryz.prog.cellsOf 50)) = xs[0]? := hg 0 _ rfl
    have g1 : DataW.trod enc Tryz.prog W base spare held m 51 (([c0, c1, c2, c3, c4, c5].drop 1).take (Tryz.prog.cellsOf 51)) = xs[1]? := hg 1 _ rfl
    have g2 : DataW.trod enc Tryz.prog W base spare held m 52 (([c0, c1, c2, c3, c4, c5].drop 5).take (Tryz.prog.cellsOf 52)) = xs[2]? := hg 2 _ rfl
    rw [cells_vars] at g0
    rw [cells_arr4] at g1
    rw [cells_strs] at g2
    obtain ⟨y0, e0⟩ := Option.isSome_iff_exists.1 (OpenD.some_at (l := xs) (i := 0) (by omega))
    obtain ⟨y2, e2⟩ := Option.isSome_iff_exists.1 (OpenD.some_at (l := xs) (i := 2) (by omega))
    rw [e0] at g0
    rw [e2] at g2
    obtain ⟨A, n, cp, vs, rfl, hn, hR, hF, hb⟩ := open_rows_c (v := c0) (f := vrV) (Good := VFit) vrV_length (by decide) cells_var Tryz.underlying50 dec_var_fit g0
    obtain ⟨a, b, c, d, rfl, rfl, rfl, rfl⟩ := dec_arr4 (c0 := c1) (c1 := c2) (c2 := c3) (c3 := c4) g1 (OpenD.some_at (by omega))
    obtain ⟨A', n', c', is, rfl, hS, hSb⟩ := open_strs_c (v := c5) Tryz.underlying52 Tryz.underlying9 OpenD.cells_str g2
    exact ⟨⟨A, n, cp, A', n', c'⟩, ⟨vs, a, b, c, d, is⟩, rfl, ⟨⟨hn, hR⟩, hS, by simp only; omega, hSb⟩, hF⟩
end
end Go.Proofs.YtcfcpbkeedfbpaaGreatDoor
