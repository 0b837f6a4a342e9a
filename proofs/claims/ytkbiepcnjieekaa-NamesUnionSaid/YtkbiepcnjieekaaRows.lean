/-
  No cell of these rows narrows 'for every input' (looked for: loops, veiled, ifaces, maps, wideKeys, modest, calm, conditions, laid).
  DERIVED. THE GIVEN ROWS OF THIS SEAT. 3 by the template 'for every input the law returns true; each argument reads behind the call as it read before'; 0 by the template 'total and deterministic' (their statements: YtkbiepcnjieekaaTotals.lean).
  GIVEN WITH THE SEED: the statements are not yours to turn. If you find one false, say at which input.
  Laid BY PROGRAM, IN A SANDBOX (cutbox-rows.mjs): the forced cells as the released guide's own fill.sh prints them over the translation 8944e38db2fd0c3e… (all of the seat's roots in one cut). By AI agents, Wed Nov 11 2026. No macro, syntax, notation, axiom, sorry.
-/
import Derived.Test.YtkbiepcnjieekaaChecked
import GoSem.Claim
import GoSem.ClaimJoined
import GoSem.ClaimMapViews
import Derived.JoinedTies
import Derived.KernelRfl
namespace Go.Proofs.Ytkbiepcnjieekaa
/- THE CELL 'sum', in the pinned program and in every row, IS THE sha256 OF THE DUMP (.gsa) THAT YtkbiepcnjieekaaProg.lean LOADS. Nothing in Lean hashes anything: it is a label: what it is worth is what the hold of that sum in a sandbox is worth. -/
noncomputable def Try.pinned : Pinned := { name := "ytkbiepcnjieekaa", sum := "8944e38db2fd0c3e340df54641234abc71bda2484e085d2a0017f8cf97e9a4da", checked := Try.checked }
namespace Rows
def none {H : Type} : Left H := { results := [], args := [] }

/-- 'semblancelaw02.NamesIs': WHATEVER THE INPUT: true; the input reads as it did. -/
def namesIsSpec : ChangeSpec := { name := "namesIs", fn := fun _ => fun
  | [d] => { results := [.lit (.bool true)], args := [d] }
  | _ => none }
def namesIsRow : OpenClaim := { program := "ytkbiepcnjieekaa", sum := "8944e38db2fd0c3e340df54641234abc71bda2484e085d2a0017f8cf97e9a4da", func := "semblance/semblancelaw02.NamesIs", spec := "namesIs", recurses := true, apart := false }
def NamesIsSaid : Prop := namesIsRow.holds Try.pinned (OpenSpec.ofChange namesIsSpec)

/-- ITS FALSE NEIGHBOUR: 'it returns false'. Refute it at one input. -/
def namesIsWrong : ChangeSpec := { name := "namesIs", fn := fun _ => fun
  | [d] => { results := [.lit (.bool false)], args := [d] }
  | _ => none }
def NamesIsWrongFalsely : Prop := namesIsRow.holds Try.pinned (OpenSpec.ofChange namesIsWrong)

/-- 'semblancelaw02.NamesLists': WHATEVER THE INPUT: true; the input reads as it did. -/
def namesListsSpec : ChangeSpec := { name := "namesLists", fn := fun _ => fun
  | [d1, d2] => { results := [.lit (.bool true)], args := [d1, d2] }
  | _ => none }
def namesListsRow : OpenClaim := { program := "ytkbiepcnjieekaa", sum := "8944e38db2fd0c3e340df54641234abc71bda2484e085d2a0017f8cf97e9a4da", func := "semblance/semblancelaw02.NamesLists", spec := "namesLists", recurses := true, apart := false }
def NamesListsSaid : Prop := namesListsRow.holds Try.pinned (OpenSpec.ofChange namesListsSpec)

/-- ITS FALSE NEIGHBOUR: 'it returns false'. Refute it at one input. -/
def namesListsWrong : ChangeSpec := { name := "namesLists", fn := fun _ => fun
  | [d1, d2] => { results := [.lit (.bool false)], args := [d1, d2] }
  | _ => none }
def NamesListsWrongFalsely : Prop := namesListsRow.holds Try.pinned (OpenSpec.ofChange namesListsWrong)

/-- 'semblancelaw02.NamesUnion': WHATEVER THE INPUT: true; the input reads as it did. -/
def namesUnionSpec : ChangeSpec := { name := "namesUnion", fn := fun _ => fun
  | [d1, d2] => { results := [.lit (.bool true)], args := [d1, d2] }
  | _ => none }
def namesUnionRow : OpenClaim := { program := "ytkbiepcnjieekaa", sum := "8944e38db2fd0c3e340df54641234abc71bda2484e085d2a0017f8cf97e9a4da", func := "semblance/semblancelaw02.NamesUnion", spec := "namesUnion", recurses := true, apart := false }
def NamesUnionSaid : Prop := namesUnionRow.holds Try.pinned (OpenSpec.ofChange namesUnionSpec)

/-- ITS FALSE NEIGHBOUR: 'it returns false'. Refute it at one input. -/
def namesUnionWrong : ChangeSpec := { name := "namesUnion", fn := fun _ => fun
  | [d1, d2] => { results := [.lit (.bool false)], args := [d1, d2] }
  | _ => none }
def NamesUnionWrongFalsely : Prop := namesUnionRow.holds Try.pinned (OpenSpec.ofChange namesUnionWrong)

/- THE SECOND FORM. 'bulk': how many values and letters a reading holds, each counted each time it is reached (what is shared counts as often as it is met; a slice's spare places count too). A statement '..UptoSaid' is the law's where the arguments, and the package variables that the reading takes, are together of bulk at most 1048576: NARROWER than '..Said'. Prove '..Said' where nothing that the law and all that it calls make is longer than what came in: it says more and counts as full. Else prove '..UptoSaid'. A law counts once. -/
mutual
def uptoBulk {H : Type} : DataW H → Nat
  | .lit (.string bytes) => bytes.length + 1
  | .lit _ => 1
  | .nil => 1
  | .ptr d => uptoBulk d + 1
  | .slice elems spare => uptoBulkAll elems + uptoBulkAll spare + 1
  | .agg parts => uptoBulkAll parts + 1
  | .iface _ d => uptoBulk d + 1
  | .map entries => uptoBulkEntries entries + 1
  | .held _ => 1
def uptoBulkAll {H : Type} : List (DataW H) → Nat
  | [] => 0
  | d :: r => uptoBulk d + uptoBulkAll r
def uptoBulkEntries {H : Type} : List (Lit × DataW H) → Nat
  | [] => 0
  | x :: r => uptoBulkEntry x + uptoBulkEntries r
def uptoBulkEntry {H : Type} : Lit × DataW H → Nat
  | (.string bytes, d) => bytes.length + uptoBulk d + 1
  | (_, d) => uptoBulk d + 1
 end
def uptoSmall : (H : Type) → List (DataW H) → Bool := fun _ ds => decide (uptoBulkAll ds ≤ 1048576)
def OpenSpec.upto (s : _root_.Go.ChangeSpec) : _root_.Go.OpenSpec := { _root_.Go.OpenSpec.ofChange s with cond := some uptoSmall }

/-- 'semblancelaw02.NamesIs', WHERE WHAT IT READS IS OF BULK AT MOST 1048576: true; the input reads as it did. -/
def namesIsUptoRow : OpenClaim := { program := "ytkbiepcnjieekaa", sum := "8944e38db2fd0c3e340df54641234abc71bda2484e085d2a0017f8cf97e9a4da", func := "semblance/semblancelaw02.NamesIs", spec := "namesIs", recurses := true, apart := false, narrowed := true }
def NamesIsUptoSaid : Prop := namesIsUptoRow.holds Try.pinned (OpenSpec.upto namesIsSpec)

/-- 'semblancelaw02.NamesLists', WHERE WHAT IT READS IS OF BULK AT MOST 1048576: true; the input reads as it did. -/
def namesListsUptoRow : OpenClaim := { program := "ytkbiepcnjieekaa", sum := "8944e38db2fd0c3e340df54641234abc71bda2484e085d2a0017f8cf97e9a4da", func := "semblance/semblancelaw02.NamesLists", spec := "namesLists", recurses := true, apart := false, narrowed := true }
def NamesListsUptoSaid : Prop := namesListsUptoRow.holds Try.pinned (OpenSpec.upto namesListsSpec)

/-- 'semblancelaw02.NamesUnion', WHERE WHAT IT READS IS OF BULK AT MOST 1048576: true; the input reads as it did. -/
def namesUnionUptoRow : OpenClaim := { program := "ytkbiepcnjieekaa", sum := "8944e38db2fd0c3e340df54641234abc71bda2484e085d2a0017f8cf97e9a4da", func := "semblance/semblancelaw02.NamesUnion", spec := "namesUnion", recurses := true, apart := false, narrowed := true }
def NamesUnionUptoSaid : Prop := namesUnionUptoRow.holds Try.pinned (OpenSpec.upto namesUnionSpec)

end Rows
end Go.Proofs.Ytkbiepcnjieekaa
