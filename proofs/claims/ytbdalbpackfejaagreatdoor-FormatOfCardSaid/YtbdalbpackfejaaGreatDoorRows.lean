/-
  NARROWER THAN 'FOR EVERY INPUT', by the rows' own cells (each row's printed sentence says how): FormatOf: laid.
  DERIVED. THE GIVEN ROWS OF THIS SEAT. 1 by the template 'for every input the law returns true; each argument reads behind the call as it read before'; 0 by the template 'total and deterministic' (their statements: YtbdalbpackfejaaGreatDoorTotals.lean).
  GIVEN WITH THE SEED: the statements are not yours to turn. If you find one false, say at which input.
  Laid BY PROGRAM, IN A SANDBOX (cutbox-rows.mjs): the forced cells as the released guide's own fill.sh prints them over the translation 3f2bf4dfc3e76c5a… (all of the seat's roots in one cut). By AI agents, Wed Nov 11 2026. No macro, syntax, notation, axiom, sorry.
-/
import Derived.Test.YtbdalbpackfejaaGreatDoorChecked
import GoSem.Claim
import GoSem.ClaimJoined
import GoSem.ClaimMapViews
import Derived.JoinedTies
import Derived.KernelRfl
namespace Go.Proofs.YtbdalbpackfejaaGreatDoor
/- THE CELL 'sum', in the pinned program and in every row, IS THE sha256 OF THE DUMP (.gsa) THAT YtbdalbpackfejaaGreatDoorProg.lean LOADS. Nothing in Lean hashes anything: it is a label: what it is worth is what the hold of that sum in a sandbox is worth. -/
noncomputable def Tryz.pinned : Pinned := { name := "ytbdalbpackfejaagreatdoor", sum := "3f2bf4dfc3e76c5a1423baea3da19f3ce194d6dcf9c0f0d5378e936eb1a57a4a", checked := Tryz.checked }
namespace Rows
def none {H : Type} : Left H := { results := [], args := [] }

/- WHAT THE LISTED PACKAGE-LEVEL VARIABLES READ AS WHEN THE CALL BEGINS. Each datum BY PROGRAM (the guide's laid-datum.mjs) off the statement by which the dump's own 'gosem.cut.vars' lays the variable. In a bare row this is a premise. The card (YtbdalbpackfejaaGreatDoorCards.lean) ties it to the program's text. -/
def laid_semblance_scan_pairs {H : Type} : DataW H := .agg [.lit (.string [45, 62]), .lit (.string [58, 61]), .lit (.string [60, 61]), .lit (.string [62, 61]), .lit (.string [33, 61]), .lit (.string [61, 61]), .lit (.string [46, 46])]
def laid_semblance_expr_signs {H : Type} : DataW H := .agg [.agg [.lit (.string [111, 114]), .lit (.int .i64 20), .lit (.int .i64 1), .lit (.int .i64 1), .lit (.int .i64 2)], .agg [.lit (.string [97, 110, 100]), .lit (.int .i64 19), .lit (.int .i64 2), .lit (.int .i64 2), .lit (.int .i64 3)], .agg [.lit (.string [61, 61]), .lit (.int .i64 13), .lit (.int .i64 4), .lit (.int .i64 5), .lit (.int .i64 5)], .agg [.lit (.string [33, 61]), .lit (.int .i64 14), .lit (.int .i64 4), .lit (.int .i64 5), .lit (.int .i64 5)], .agg [.lit (.string [60]), .lit (.int .i64 15), .lit (.int .i64 4), .lit (.int .i64 5), .lit (.int .i64 5)], .agg [.lit (.string [60, 61]), .lit (.int .i64 16), .lit (.int .i64 4), .lit (.int .i64 5), .lit (.int .i64 5)], .agg [.lit (.string [62]), .lit (.int .i64 17), .lit (.int .i64 4), .lit (.int .i64 5), .lit (.int .i64 5)], .agg [.lit (.string [62, 61]), .lit (.int .i64 18), .lit (.int .i64 4), .lit (.int .i64 5), .lit (.int .i64 5)], .agg [.lit (.string [43]), .lit (.int .i64 4), .lit (.int .i64 5), .lit (.int .i64 5), .lit (.int .i64 6)], .agg [.lit (.string [45]), .lit (.int .i64 5), .lit (.int .i64 5), .lit (.int .i64 5), .lit (.int .i64 6)], .agg [.lit (.string [42]), .lit (.int .i64 6), .lit (.int .i64 6), .lit (.int .i64 6), .lit (.int .i64 7)]]

/-- 'semblancelaw13.FormatOf': WHATEVER THE INPUT: true; the input reads as it did. -/
def formatOfSpec : ChangeSpec := { name := "formatOf", fn := fun _ => fun
  | [d] => { results := [.lit (.bool true)], args := [d] }
  | _ => none }
def formatOfRow : OpenClaim := { program := "ytbdalbpackfejaagreatdoor", sum := "3f2bf4dfc3e76c5a1423baea3da19f3ce194d6dcf9c0f0d5378e936eb1a57a4a", func := "semblance/semblancelaw13.FormatOf", spec := "formatOf", inPlace := ["internal/bytealg.IndexByteString", "slices.overlaps[semblance/api.Term]", "internal/abi.NoEscape", "internal/bytealg.MakeNoZero"], unfollowed := true, recurses := true, named := ["semblance/scan.pairs", "semblance/expr.signs"], apart := false, laid := [("semblance/scan.pairs", laid_semblance_scan_pairs), ("semblance/expr.signs", laid_semblance_expr_signs)] }
def FormatOfSaid : Prop := formatOfRow.holds Tryz.pinned (OpenSpec.ofChange formatOfSpec)

/-- ITS FALSE NEIGHBOUR: 'it returns false'. Refute it at one input. -/
def formatOfWrong : ChangeSpec := { name := "formatOf", fn := fun _ => fun
  | [d] => { results := [.lit (.bool false)], args := [d] }
  | _ => none }
def FormatOfWrongFalsely : Prop := formatOfRow.holds Tryz.pinned (OpenSpec.ofChange formatOfWrong)

/- THE SECOND FORM. 'bulk': how many values and letters a reading holds, each counted each time it is reached (what is shared counts as often as it is met; a slice's spare places count too). A statement '..UptoSaid' is the law's where the arguments, and the package variables that the reading takes, are together of bulk at most 1048576: NARROWER than '..Said'. Prove '..Said' where nothing that the law and all that it calls make is longer than what came in: it says more and counts as full. Else prove '..UptoSaid'. A law counts once. -/
mutual
def uptoBulk {H : Type} : DataW H → Nat
  | .lit (.string bytes) => bytes.length + 1
  | .lit _ => 1
  | .nil => 1
  | .ptr d => uptoBulk d + 1
  | .slice elems spare => uptoBulkAll elems + uptoBulkAll spare + 1
  | .agg parts => uptoBulkAll parts + 1
  | .iface _ d => uptoBulk d + 1
  | .map entries => uptoBulkEntries entries + 1
  | .held _ => 1
def uptoBulkAll {H : Type} : List (DataW H) → Nat
  | [] => 0
  | d :: r => uptoBulk d + uptoBulkAll r
def uptoBulkEntries {H : Type} : List (Lit × DataW H) → Nat
  | [] => 0
  | x :: r => uptoBulkEntry x + uptoBulkEntries r
def uptoBulkEntry {H : Type} : Lit × DataW H → Nat
  | (.string bytes, d) => bytes.length + uptoBulk d + 1
  | (_, d) => uptoBulk d + 1
 end
def uptoSmall : (H : Type) → List (DataW H) → Bool := fun _ ds => decide (uptoBulkAll ds ≤ 1048576)
def OpenSpec.upto (s : _root_.Go.ChangeSpec) : _root_.Go.OpenSpec := { _root_.Go.OpenSpec.ofChange s with cond := some uptoSmall }

/-- 'semblancelaw13.FormatOf', WHERE WHAT IT READS IS OF BULK AT MOST 1048576: true; the input reads as it did. -/
def formatOfUptoRow : OpenClaim := { program := "ytbdalbpackfejaagreatdoor", sum := "3f2bf4dfc3e76c5a1423baea3da19f3ce194d6dcf9c0f0d5378e936eb1a57a4a", func := "semblance/semblancelaw13.FormatOf", spec := "formatOf", inPlace := ["internal/bytealg.IndexByteString", "slices.overlaps[semblance/api.Term]", "internal/abi.NoEscape", "internal/bytealg.MakeNoZero"], unfollowed := true, recurses := true, named := ["semblance/scan.pairs", "semblance/expr.signs"], apart := false, laid := [("semblance/scan.pairs", laid_semblance_scan_pairs), ("semblance/expr.signs", laid_semblance_expr_signs)], narrowed := true }
def FormatOfUptoSaid : Prop := formatOfUptoRow.holds Tryz.pinned (OpenSpec.upto formatOfSpec)

end Rows
end Go.Proofs.YtbdalbpackfejaaGreatDoor
