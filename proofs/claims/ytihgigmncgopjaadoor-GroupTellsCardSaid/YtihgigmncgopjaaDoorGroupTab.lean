/- The library's table of lowest bits in memory, and where it reads as listed. No condition. -/
import Derived.Test.YtihgigmncgopjaaDoorRows
import Derived.Test.YtihgigmncgopjaaDoorKit
import Derived.LaidLaws
import Derived.ChangeArms
import Derived.Lib.LaidTab
import Derived.OpenShut
import Derived.LaidMore
import Derived.Stop.Joined
import Derived.Lib.TrailingZeros
namespace Go.Proofs.YtihgigmncgopjaaDoor
open Go.RowKit
set_option maxRecDepth 100000

def tabV : List Value := Lib.deBruijn64tab.map fun (k : Nat) => Value.int .u8 (k : Int)
def TabIn (w : World) : Prop := ∃ T fr, w.heap[0]? = some (.cells tabV.toArray T fr)
theorem TabIn.pos {w : World} (h : TabIn w) : 0 < w.heap.size := by
  obtain ⟨T, fr, h⟩ := h
  exact (Array.getElem?_eq_some_iff.1 h).1
theorem TabIn.keep {w w' : World} (h : TabIn w) (hb : Below w.heap.size w w') : TabIn w' := by
  have hp := h.pos
  obtain ⟨T, fr, h⟩ := h
  exact ⟨T, fr, (hb.block _ hp).trans h⟩
theorem TabIn.cell {w : World} (h : TabIn w) {i k : Nat} (hi : Lib.deBruijn64tab.getD i 0 = k) (hl : i < 64) : w.cell? ⟨0, i, none⟩ = some (.int .u8 k) := by
  obtain ⟨T, fr, h⟩ := h
  have e : tabV[i]? = some (.int .u8 k) := by
    have hlen : Lib.deBruijn64tab.length = 64 := rfl
    have h1 : Lib.deBruijn64tab[i]? = some k := by
      rw [List.getD_eq_getElem?_getD] at hi
      rw [List.getElem?_eq_getElem (by omega)] at hi ⊢
      exact congrArg some hi
    unfold tabV
    rw [List.getElem?_map, h1]
    rfl
  simp [World.cell?, h, e]

theorem cells_of_u8s {H : Type} {enc : TypeId × Value → H} {P : Program} {w : World} {base : Nat} {sp : Nat → Bool} {held : Bool} {fuel : Nat} {t e : TypeId} {n : Nat} {cs : List Value} {bs : List Nat} {p : List MemPlace}
    (ht : P.underlying t = some (.array n e)) (he : P.underlying e = some (.int .u8)) (hce : P.cellsOf e = 1) (hct : P.cellsOf t = n)
    (h : DataW.trod enc P w base sp held fuel t cs = some (.agg (bs.map fun (b : Nat) => .lit (.int .u8 (b : Int))), p)) : cs = bs.map fun (b : Nat) => Value.int .u8 (b : Int) := by
  obtain ⟨xs, m, rfl, hx, hl, hxl, hel⟩ := DataW.trod_array ht h
  simp only [Prod.mk.injEq, DataW.agg.injEq] at hx
  have hxs := hx.1
  have hbl : bs.length = n := by
    have := congrArg List.length hxs
    simp at this
    omega
  rw [hct] at hl
  apply List.ext_getElem?
  intro i
  by_cases hi : i < n
  · obtain ⟨b, hb⟩ : ∃ b, xs[i]? = some b := get_some (by omega)
    have hf := (hel i hi).trans hb
    rw [hce, Nat.mul_one] at hf
    obtain ⟨s, hc, rfl, _⟩ := DataW.trod_int he hf
    have h1 : cs[i]? = some (.int .u8 s) := by
      have := congrArg (·[0]?) hc
      simpa [List.getElem?_take, List.getElem?_drop] using this
    have h2 : (xs.map (·.1))[i]? = some (DataW.lit (.int .u8 s) : DataW H) := by simp [hb]
    rw [← hxs] at h2
    simp only [List.getElem?_map, Option.map_eq_some_iff, DataW.lit.injEq, Lit.int.injEq] at h2
    obtain ⟨z, hz, -, rfl⟩ := h2
    simp [h1, hz]
  · rw [List.getElem?_eq_none (by omega), List.getElem?_eq_none (by simp; omega)]

theorem gTab : Tryd.prog.globalNamed "math/bits.deBruijn64tab" = some 0 := by kernel_rfl
theorem tTab : (Tryd.prog.globals[0]?).map (·.type) = some 38 := by kernel_rfl
theorem tab_in {W : World} {rest : List (String × DataW Unit)} (h : laidMet Tryd.prog (("math/bits.deBruijn64tab", Rows.laid_math_bits_deBruijn64tab) :: rest) W) : TabIn W := by
  obtain ⟨ps, ⟨g', t', cs, fuel, p, q, hg', ht', hvar, hd, _, _⟩, _⟩ := h
  obtain rfl := Option.some.inj (gTab.symm.trans hg')
  obtain rfl := Option.some.inj (tTab.symm.trans ht')
  have hc := cells_of_u8s (bs := Lib.deBruijn64tab) Tryd.underlying38 Tryd.underlying5 (by kernel_rfl) (by kernel_rfl) hd
  have e : cs = tabV.toArray := Array.toList_inj.mp hc
  subst e
  unfold World.var? at hvar
  rw [gTab] at hvar
  simp only [Option.bind_some] at hvar
  split at hvar
  · rename_i cs' T fr hb
    cases hvar
    exact ⟨T, fr, hb⟩
  · cases hvar
end Go.Proofs.YtihgigmncgopjaaDoor
