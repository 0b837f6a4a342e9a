/- ExprLaid, joined. -/
import Derived.Test.YtcofikjpplkjdaaGreatDoorMPrintLong04
import Derived.Test.YtcofikjpplkjdaaGreatDoorMPrintLong22
import Derived.Stop.LaidErr
namespace Go.Proofs.YtcofikjpplkjdaaGreatDoor
open Go.RowKit ExprSpec
set_option maxRecDepth 100000

theorem list5 {α : Type} {l : List α} (h : l.length = 5) : ∃ a b c d e, l = [a, b, c, d, e] := by
  match l, h with
  | [a, b, c, d, e], _ => exact ⟨a, b, c, d, e, rfl⟩
def sgD {H : Type} (s : Sg) : DataW H := .agg [.lit (.string s.t.data.toList), .lit (.int .i64 s.op), .lit (.int .i64 s.lev), .lit (.int .i64 s.left), .lit (.int .i64 s.right)]
theorem sg_cells : Tryz.prog.cellsOf 190 = 5 := by kernel_rfl
theorem sg_table : Tryz.prog.cellsOf 198 = 55 := by kernel_rfl
theorem sg_str : Tryz.prog.cellsOf 9 = 1 := by kernel_rfl
theorem sg_int : Tryz.prog.cellsOf 3 = 1 := by kernel_rfl
theorem sign_part {H : Type} {enc : TypeId × Value → H} {w : World} {base : Nat} {sp : Nat → Bool} {held : Bool} {fuel : Nat} {cs : List Value} {s : Sg} {p : List MemPlace}
    (h : DataW.trod enc Tryz.prog w base sp held fuel 190 cs = some (sgD s, p)) : cs = sgC s := by
  obtain ⟨xs, n, _, hx, hl, hlen, hf⟩ := DataW.trod_struct Tryz.underlying190 h
  obtain ⟨a, b, c, d, e, rfl⟩ := list5 (hl.trans sg_cells)
  obtain ⟨y0, y1, y2, y3, y4, rfl⟩ := list5 hlen
  have g0 : DataW.trod enc Tryz.prog w base sp held n 9 (([a, b, c, d, e].drop 0).take (Tryz.prog.cellsOf 9)) = some y0 := hf 0 _ rfl
  rw [sg_str] at g0
  have g1 : DataW.trod enc Tryz.prog w base sp held n 3 (([a, b, c, d, e].drop 1).take (Tryz.prog.cellsOf 3)) = some y1 := hf 1 _ rfl
  rw [sg_int] at g1
  have g2 : DataW.trod enc Tryz.prog w base sp held n 3 (([a, b, c, d, e].drop 2).take (Tryz.prog.cellsOf 3)) = some y2 := hf 2 _ rfl
  rw [sg_int] at g2
  have g3 : DataW.trod enc Tryz.prog w base sp held n 3 (([a, b, c, d, e].drop 3).take (Tryz.prog.cellsOf 3)) = some y3 := hf 3 _ rfl
  rw [sg_int] at g3
  have g4 : DataW.trod enc Tryz.prog w base sp held n 3 (([a, b, c, d, e].drop 4).take (Tryz.prog.cellsOf 3)) = some y4 := hf 4 _ rfl
  rw [sg_int] at g4
  obtain ⟨s0, c0, rfl, -⟩ := DataW.trod_string Tryz.underlying9 g0
  obtain ⟨n1, c1, rfl, -⟩ := DataW.trod_int Tryz.underlying3 g1
  obtain ⟨n2, c2, rfl, -⟩ := DataW.trod_int Tryz.underlying3 g2
  obtain ⟨n3, c3, rfl, -⟩ := DataW.trod_int Tryz.underlying3 g3
  obtain ⟨n4, c4, rfl, -⟩ := DataW.trod_int Tryz.underlying3 g4
  simp at c0 c1 c2 c3 c4
  subst c0 c1 c2 c3 c4
  simp only [sgD, List.map_cons, List.map_nil, Prod.mk.injEq, DataW.agg.injEq, List.cons.injEq, DataW.lit.injEq, Lit.string.injEq, Lit.int.injEq, true_and, and_true] at hx
  obtain ⟨⟨h0, h1, h2, h3, h4⟩, -⟩ := hx
  have h0' : s.t = s0 := ByteArray.ext (Array.toList_inj.mp h0)
  subst h0' h1 h2 h3 h4
  rfl
theorem flat_parts {α β : Type} {g : α → List β} {k : Nat} (hg : ∀ a, (g a).length = k) : ∀ (L : List α) (cs : List β), cs.length = L.length * k → (∀ i a, L[i]? = some a → (cs.drop (i * k)).take k = g a) → cs = L.flatMap g
  | [], cs, hl, _ => by simpa using hl
  | a :: L, cs, hl, h => by
    have h0 := h 0 a rfl
    rw [Nat.zero_mul, List.drop_zero] at h0
    rw [List.length_cons, Nat.succ_mul] at hl
    have ih := flat_parts hg L (cs.drop k) (by rw [List.length_drop]; omega) (fun i b hb => by
      rw [List.drop_drop, show k + i * k = (i + 1) * k by rw [Nat.succ_mul]; omega]
      exact h (i + 1) b hb)
    rw [List.flatMap_cons, ← ih, ← h0, List.take_append_drop]
theorem gSigns : Tryz.prog.globalNamed "semblance/expr.signs" = some 2 := by kernel_rfl
theorem tSigns : (Tryz.prog.globals[2]?).map (·.type) = some 198 := by kernel_rfl
theorem laid_signs {H : Type} : (Rows.laid_semblance_expr_signs : DataW H) = .agg (sgs.map sgD) := rfl
theorem signs_one {W : World} {rest : List (String × DataW Unit)} (h : laidMet Tryz.prog (("semblance/expr.signs", Rows.laid_semblance_expr_signs) :: rest) W) : SignsIn W := by
  obtain ⟨ps, ⟨g', t', cs, fuel, p, q, hg', ht', hvar, hd, _, _⟩, _⟩ := h
  obtain rfl := Option.some.inj (gSigns.symm.trans hg')
  obtain rfl := Option.some.inj (tSigns.symm.trans ht')
  rw [laid_signs] at hd
  obtain ⟨xs, m, _, hx, hl, hxl, hel⟩ := DataW.trod_array Tryz.underlying198 hd
  simp only [Prod.mk.injEq, DataW.agg.injEq] at hx
  have hxs := hx.1
  rw [sg_table] at hl
  have hc : cs.toList = sgs.flatMap sgC := by
    refine flat_parts (k := 5) (fun s => rfl) sgs _ (by rw [hl]; rfl) (fun i s hs => ?_)
    have hi : i < 11 := by have := get_lt hs; rwa [sgs_len] at this
    obtain ⟨y, hy⟩ : ∃ y, xs[i]? = some y := get_some (by omega)
    have hf := (hel i hi).trans hy
    rw [sg_cells] at hf
    have h2 : (xs.map (·.1))[i]? = some y.1 := by simp [hy]
    rw [← hxs, List.getElem?_map, hs] at h2
    have h3 : sgD s = y.1 := Option.some.inj h2
    obtain ⟨y1, y2⟩ := y
    subst h3
    exact sign_part hf
  have e : cs = signsV := Array.toList_inj.mp hc
  subst e
  unfold World.var? at hvar
  rw [gSigns] at hvar
  simp only [Option.bind_some] at hvar
  split at hvar
  · rename_i cs' T fr hb
    cases hvar
    exact ⟨T, fr, hb⟩
  · cases hvar
theorem signs_in {W : World} {x : String × DataW Unit} {rest : List (String × DataW Unit)} (h : laidMet Tryz.prog (x :: ("semblance/expr.signs", Rows.laid_semblance_expr_signs) :: rest) W) : SignsIn W := signs_one (laidMet.tail h)
end Go.Proofs.YtcofikjpplkjdaaGreatDoor
