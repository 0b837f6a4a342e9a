/- The walks of layer 3's two laws, as the statements ask for them: they return true, and what was in memory stays. Conditions: the arguments are such; the table of marks of two bytes holds what it was laid with. -/
import Derived.Test.YthmhlhegmnpagaaDoorScanFullWalk
import Derived.Test.YthmhlhegmnpagaaDoorScanLaid
import Derived.ProofKit
namespace Go.Proofs.YthmhlhegmnpagaaDoor
open Go.RowKit ScanSpec

theorem toks_say : ToksSay := fun s w hp _ => stoks_any s w hp
theorem walk_ScanTokens (s : ByteArray) (w : World) (hp : PairsIn w) (hs : s.size ≤ maxLen) :
    Calls Tryd.prog 3 #[.string s] w fun e w' => e = .returned (.bool true) ∧ Below w.heap.size w w' := walk_tokens toks_say s w hp hs
theorem u16_nat {n : Int} (h : (Lit.int .u16 n).wf = true) : ∃ m : Nat, n = m ∧ m ≤ 65535 := by
  simp [Lit.wf, IntKind.min, IntKind.max, IntKind.signed, IntKind.bits] at h
  exact ⟨n.toNat, by omega, by omega⟩
theorem walk_ScanFull (n : Int) (w : World) (hp : PairsIn w) (wf : (Lit.int .u16 n).wf = true) :
    Calls Tryd.prog 4 #[.int .u16 n] w fun e w' => e = .returned (.bool true) ∧ Below w.heap.size w w' := by
  obtain ⟨m, rfl, hm⟩ := u16_nat wf
  by_cases h : m ≤ 4100
  · exact full_loop toks_say m w hp h
  · have HAw := Lib.hid (awake_any toks_say w hp)
    have hI : 4100 < (m : Int) := by omega
    clear h wf hp
    go_enter Tryd.func4, Tryd.ntmps4
    go_wp2_with (go_at_call 5; refine HAw.out.mono ?_)
    rintro e w1 ⟨rfl, hb1⟩
    go_wp2_with fail
    go_ret
    exact ⟨rfl, hb1⟩
end Go.Proofs.YthmhlhegmnpagaaDoor
