/-
  NARROWER THAN 'FOR EVERY INPUT', by the rows' own cells (each row's printed sentence says how): ScanTokens: laid · ScanFull: laid.
  DERIVED. THE GIVEN ROWS OF THIS SEAT. 2 by the template 'for every input the law returns true; each argument reads behind the call as it read before'; 0 by the template 'total and deterministic' (their statements: YthmhlhegmnpagaaDoorTotals.lean).
  GIVEN WITH THE SEED: the statements are not yours to turn. If you find one false, say at which input.
  Laid BY PROGRAM, IN A SANDBOX (cutbox-rows.mjs): the forced cells as the released guide's own fill.sh prints them over the translation a8c197779e1d8589… (all of the seat's roots in one cut). By AI agents, Wed Nov 11 2026. No macro, syntax, notation, axiom, sorry.
-/
import Derived.Test.YthmhlhegmnpagaaDoorChecked
import GoSem.Claim
import GoSem.ClaimJoined
import GoSem.ClaimMapViews
import Derived.JoinedTies
import Derived.KernelRfl
namespace Go.Proofs.YthmhlhegmnpagaaDoor
/- THE CELL 'sum', in the pinned program and in every row, IS THE sha256 OF THE DUMP (.gsa) THAT YthmhlhegmnpagaaDoorProg.lean LOADS. Nothing in Lean hashes anything: it is a label: what it is worth is what the hold of that sum in a sandbox is worth. -/
noncomputable def Tryd.pinned : Pinned := { name := "ythmhlhegmnpagaadoor", sum := "a8c197779e1d858955bd8d083ab0b7b264b1435c4515fbe1c9902bc90c646dc7", checked := Tryd.checked }
namespace Rows
def none {H : Type} : Left H := { results := [], args := [] }

/- WHAT THE LISTED PACKAGE-LEVEL VARIABLES READ AS WHEN THE CALL BEGINS. Each datum BY PROGRAM (the guide's laid-datum.mjs) off the statement by which the dump's own 'gosem.cut.vars' lays the variable. In a bare row this is a premise. The card (YthmhlhegmnpagaaDoorCards.lean) ties it to the program's text. -/
def laid_semblance_scan_pairs {H : Type} : DataW H := .agg [.lit (.string [45, 62]), .lit (.string [58, 61]), .lit (.string [60, 61]), .lit (.string [62, 61]), .lit (.string [33, 61]), .lit (.string [61, 61]), .lit (.string [46, 46])]

/-- 'semblancelaw03.ScanTokens': WHATEVER THE INPUT: true; the input reads as it did. -/
def scanTokensSpec : ChangeSpec := { name := "scanTokens", fn := fun _ => fun
  | [d] => { results := [.lit (.bool true)], args := [d] }
  | _ => none }
def scanTokensRow : OpenClaim := { program := "ythmhlhegmnpagaadoor", sum := "a8c197779e1d858955bd8d083ab0b7b264b1435c4515fbe1c9902bc90c646dc7", func := "semblance/semblancelaw03.ScanTokens", spec := "scanTokens", inPlace := ["internal/bytealg.IndexByteString"], unfollowed := true, recurses := true, named := ["semblance/scan.pairs"], apart := false, laid := [("semblance/scan.pairs", laid_semblance_scan_pairs)] }
def ScanTokensSaid : Prop := scanTokensRow.holds Tryd.pinned (OpenSpec.ofChange scanTokensSpec)

/-- ITS FALSE NEIGHBOUR: 'it returns false'. Refute it at one input. -/
def scanTokensWrong : ChangeSpec := { name := "scanTokens", fn := fun _ => fun
  | [d] => { results := [.lit (.bool false)], args := [d] }
  | _ => none }
def ScanTokensWrongFalsely : Prop := scanTokensRow.holds Tryd.pinned (OpenSpec.ofChange scanTokensWrong)

/-- 'semblancelaw03.ScanFull': WHATEVER THE INPUT: true; the input reads as it did. -/
def scanFullSpec : ChangeSpec := { name := "scanFull", fn := fun _ => fun
  | [d] => { results := [.lit (.bool true)], args := [d] }
  | _ => none }
def scanFullRow : OpenClaim := { program := "ythmhlhegmnpagaadoor", sum := "a8c197779e1d858955bd8d083ab0b7b264b1435c4515fbe1c9902bc90c646dc7", func := "semblance/semblancelaw03.ScanFull", spec := "scanFull", inPlace := ["internal/bytealg.IndexByteString"], unfollowed := true, recurses := true, named := ["semblance/scan.pairs"], apart := false, laid := [("semblance/scan.pairs", laid_semblance_scan_pairs)] }
def ScanFullSaid : Prop := scanFullRow.holds Tryd.pinned (OpenSpec.ofChange scanFullSpec)

/-- ITS FALSE NEIGHBOUR: 'it returns false'. Refute it at one input. -/
def scanFullWrong : ChangeSpec := { name := "scanFull", fn := fun _ => fun
  | [d] => { results := [.lit (.bool false)], args := [d] }
  | _ => none }
def ScanFullWrongFalsely : Prop := scanFullRow.holds Tryd.pinned (OpenSpec.ofChange scanFullWrong)

/- THE SECOND FORM. 'bulk': how many values and letters a reading holds, each counted each time it is reached (what is shared counts as often as it is met; a slice's spare places count too). A statement '..UptoSaid' is the law's where the arguments, and the package variables that the reading takes, are together of bulk at most 1048576: NARROWER than '..Said'. Prove '..Said' where nothing that the law and all that it calls make is longer than what came in: it says more and counts as full. Else prove '..UptoSaid'. A law counts once. -/
mutual
def uptoBulk {H : Type} : DataW H → Nat
  | .lit (.string bytes) => bytes.length + 1
  | .lit _ => 1
  | .nil => 1
  | .ptr d => uptoBulk d + 1
  | .slice elems spare => uptoBulkAll elems + uptoBulkAll spare + 1
  | .agg parts => uptoBulkAll parts + 1
  | .iface _ d => uptoBulk d + 1
  | .map entries => uptoBulkEntries entries + 1
  | .held _ => 1
def uptoBulkAll {H : Type} : List (DataW H) → Nat
  | [] => 0
  | d :: r => uptoBulk d + uptoBulkAll r
def uptoBulkEntries {H : Type} : List (Lit × DataW H) → Nat
  | [] => 0
  | x :: r => uptoBulkEntry x + uptoBulkEntries r
def uptoBulkEntry {H : Type} : Lit × DataW H → Nat
  | (.string bytes, d) => bytes.length + uptoBulk d + 1
  | (_, d) => uptoBulk d + 1
 end
def uptoSmall : (H : Type) → List (DataW H) → Bool := fun _ ds => decide (uptoBulkAll ds ≤ 1048576)
def OpenSpec.upto (s : _root_.Go.ChangeSpec) : _root_.Go.OpenSpec := { _root_.Go.OpenSpec.ofChange s with cond := some uptoSmall }

/-- 'semblancelaw03.ScanTokens', WHERE WHAT IT READS IS OF BULK AT MOST 1048576: true; the input reads as it did. -/
def scanTokensUptoRow : OpenClaim := { program := "ythmhlhegmnpagaadoor", sum := "a8c197779e1d858955bd8d083ab0b7b264b1435c4515fbe1c9902bc90c646dc7", func := "semblance/semblancelaw03.ScanTokens", spec := "scanTokens", inPlace := ["internal/bytealg.IndexByteString"], unfollowed := true, recurses := true, named := ["semblance/scan.pairs"], apart := false, laid := [("semblance/scan.pairs", laid_semblance_scan_pairs)], narrowed := true }
def ScanTokensUptoSaid : Prop := scanTokensUptoRow.holds Tryd.pinned (OpenSpec.upto scanTokensSpec)

/-- 'semblancelaw03.ScanFull', WHERE WHAT IT READS IS OF BULK AT MOST 1048576: true; the input reads as it did. -/
def scanFullUptoRow : OpenClaim := { program := "ythmhlhegmnpagaadoor", sum := "a8c197779e1d858955bd8d083ab0b7b264b1435c4515fbe1c9902bc90c646dc7", func := "semblance/semblancelaw03.ScanFull", spec := "scanFull", inPlace := ["internal/bytealg.IndexByteString"], unfollowed := true, recurses := true, named := ["semblance/scan.pairs"], apart := false, laid := [("semblance/scan.pairs", laid_semblance_scan_pairs)], narrowed := true }
def ScanFullUptoSaid : Prop := scanFullUptoRow.holds Tryd.pinned (OpenSpec.upto scanFullSpec)

end Rows
end Go.Proofs.YthmhlhegmnpagaaDoor
