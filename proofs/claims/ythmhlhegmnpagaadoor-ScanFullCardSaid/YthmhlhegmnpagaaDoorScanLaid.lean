/- Where the listed table of marks of two bytes reads as listed, it holds what the walks ask. No condition. -/
import Derived.Test.YthmhlhegmnpagaaDoorScanMark
import Derived.Test.YthmhlhegmnpagaaDoorLaid
import Derived.LaidMore
import Derived.Stop.Joined
namespace Go.Proofs.YthmhlhegmnpagaaDoor
open Go.RowKit ScanSpec

def pairsB : List (List UInt8) := [[45, 62], [58, 61], [60, 61], [62, 61], [33, 61], [61, 61], [46, 46]]
theorem gPairs : Tryd.prog.globalNamed "semblance/scan.pairs" = some 0 := by kernel_rfl
theorem tPairs : (Tryd.prog.globals[0]?).map (·.type) = some 53 := by kernel_rfl
theorem pairs_in {W : World} {rest : List (String × DataW Unit)} (h : laidMet Tryd.prog (("semblance/scan.pairs", Rows.laid_semblance_scan_pairs) :: rest) W) : PairsIn W := by
  obtain ⟨ps, ⟨g', t', cs, fuel, p, q, hg', ht', hvar, hd, _, _⟩, _⟩ := h
  obtain rfl := Option.some.inj (gPairs.symm.trans hg')
  obtain rfl := Option.some.inj (tPairs.symm.trans ht')
  have hc := cells_of_strs (bs := pairsB) Tryd.underlying53 Tryd.underlying9 (by kernel_rfl) (by kernel_rfl) hd
  have e : cs = pairsV := Array.toList_inj.mp hc
  subst e
  unfold World.var? at hvar
  rw [gPairs] at hvar
  simp only [Option.bind_some] at hvar
  split at hvar
  · rename_i cs' T fr hb
    cases hvar
    exact ⟨T, fr, hb⟩
  · cases hvar
end Go.Proofs.YthmhlhegmnpagaaDoor
