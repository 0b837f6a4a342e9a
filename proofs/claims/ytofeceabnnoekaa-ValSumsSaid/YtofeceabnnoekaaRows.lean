/-
  No cell of these rows narrows 'for every input' (looked for: loops, veiled, ifaces, maps, wideKeys, modest, calm, conditions, laid).
  DERIVED. THE GIVEN ROWS OF THIS SEAT. 3 by the template 'for every input the law returns true; each argument reads behind the call as it read before'; 0 by the template 'total and deterministic' (their statements: YtofeceabnnoekaaTotals.lean).
  GIVEN WITH THE SEED: the statements are not yours to turn. If you find one false, say at which input.
  Laid BY PROGRAM, IN A SANDBOX (cutbox-rows.mjs): the forced cells as the released guide's own fill.sh prints them over the translation 9b0194412b2c71e2… (all of the seat's roots in one cut). By AI agents, Wed Nov 11 2026. No macro, syntax, notation, axiom, sorry.
-/
import Derived.Test.YtofeceabnnoekaaChecked
import GoSem.Claim
import GoSem.ClaimJoined
import GoSem.ClaimMapViews
import Derived.JoinedTies
import Derived.KernelRfl
namespace Go.Proofs.Ytofeceabnnoekaa
/- THE CELL 'sum', in the pinned program and in every row, IS THE sha256 OF THE DUMP (.gsa) THAT YtofeceabnnoekaaProg.lean LOADS. Nothing in Lean hashes anything: it is a label: what it is worth is what the hold of that sum in a sandbox is worth. -/
noncomputable def Try.pinned : Pinned := { name := "ytofeceabnnoekaa", sum := "9b0194412b2c71e238b76e5a6e5dabb59ff596c2f513d0b2d95022cb5825dda1", checked := Try.checked }
namespace Rows
def none {H : Type} : Left H := { results := [], args := [] }

/-- 'semblancelaw01.ValSums': WHATEVER THE INPUT: true; the input reads as it did. -/
def valSumsSpec : ChangeSpec := { name := "valSums", fn := fun _ => fun
  | [d1, d2, d3] => { results := [.lit (.bool true)], args := [d1, d2, d3] }
  | _ => none }
def valSumsRow : OpenClaim := { program := "ytofeceabnnoekaa", sum := "9b0194412b2c71e238b76e5a6e5dabb59ff596c2f513d0b2d95022cb5825dda1", func := "semblance/semblancelaw01.ValSums", spec := "valSums", apart := false }
def ValSumsSaid : Prop := valSumsRow.holds Try.pinned (OpenSpec.ofChange valSumsSpec)

/-- ITS FALSE NEIGHBOUR: 'it returns false'. Refute it at one input. -/
def valSumsWrong : ChangeSpec := { name := "valSums", fn := fun _ => fun
  | [d1, d2, d3] => { results := [.lit (.bool false)], args := [d1, d2, d3] }
  | _ => none }
def ValSumsWrongFalsely : Prop := valSumsRow.holds Try.pinned (OpenSpec.ofChange valSumsWrong)

/-- 'semblancelaw01.ValTexts': WHATEVER THE INPUT: true; the input reads as it did. -/
def valTextsSpec : ChangeSpec := { name := "valTexts", fn := fun _ => fun
  | [d1, d2] => { results := [.lit (.bool true)], args := [d1, d2] }
  | _ => none }
def valTextsRow : OpenClaim := { program := "ytofeceabnnoekaa", sum := "9b0194412b2c71e238b76e5a6e5dabb59ff596c2f513d0b2d95022cb5825dda1", func := "semblance/semblancelaw01.ValTexts", spec := "valTexts", recurses := true, apart := false }
def ValTextsSaid : Prop := valTextsRow.holds Try.pinned (OpenSpec.ofChange valTextsSpec)

/-- ITS FALSE NEIGHBOUR: 'it returns false'. Refute it at one input. -/
def valTextsWrong : ChangeSpec := { name := "valTexts", fn := fun _ => fun
  | [d1, d2] => { results := [.lit (.bool false)], args := [d1, d2] }
  | _ => none }
def ValTextsWrongFalsely : Prop := valTextsRow.holds Try.pinned (OpenSpec.ofChange valTextsWrong)

/-- 'semblancelaw01.ValLaws': WHATEVER THE INPUT: true; the input reads as it did. -/
def valLawsSpec : ChangeSpec := { name := "valLaws", fn := fun _ => fun
  | [d1, d2, d3] => { results := [.lit (.bool true)], args := [d1, d2, d3] }
  | _ => none }
def valLawsRow : OpenClaim := { program := "ytofeceabnnoekaa", sum := "9b0194412b2c71e238b76e5a6e5dabb59ff596c2f513d0b2d95022cb5825dda1", func := "semblance/semblancelaw01.ValLaws", spec := "valLaws", apart := false }
def ValLawsSaid : Prop := valLawsRow.holds Try.pinned (OpenSpec.ofChange valLawsSpec)

/-- ITS FALSE NEIGHBOUR: 'it returns false'. Refute it at one input. -/
def valLawsWrong : ChangeSpec := { name := "valLaws", fn := fun _ => fun
  | [d1, d2, d3] => { results := [.lit (.bool false)], args := [d1, d2, d3] }
  | _ => none }
def ValLawsWrongFalsely : Prop := valLawsRow.holds Try.pinned (OpenSpec.ofChange valLawsWrong)

/- THE SECOND FORM. 'bulk': how many values and letters a reading holds, each counted each time it is reached (what is shared counts as often as it is met; a slice's spare places count too). A statement '..UptoSaid' is the law's where the arguments, and the package variables that the reading takes, are together of bulk at most 1048576: NARROWER than '..Said'. Prove '..Said' where nothing that the law and all that it calls make is longer than what came in: it says more and counts as full. Else prove '..UptoSaid'. A law counts once. -/
mutual
def uptoBulk {H : Type} : DataW H → Nat
  | .lit (.string bytes) => bytes.length + 1
  | .lit _ => 1
  | .nil => 1
  | .ptr d => uptoBulk d + 1
  | .slice elems spare => uptoBulkAll elems + uptoBulkAll spare + 1
  | .agg parts => uptoBulkAll parts + 1
  | .iface _ d => uptoBulk d + 1
  | .map entries => uptoBulkEntries entries + 1
  | .held _ => 1
def uptoBulkAll {H : Type} : List (DataW H) → Nat
  | [] => 0
  | d :: r => uptoBulk d + uptoBulkAll r
def uptoBulkEntries {H : Type} : List (Lit × DataW H) → Nat
  | [] => 0
  | x :: r => uptoBulkEntry x + uptoBulkEntries r
def uptoBulkEntry {H : Type} : Lit × DataW H → Nat
  | (.string bytes, d) => bytes.length + uptoBulk d + 1
  | (_, d) => uptoBulk d + 1
 end
def uptoSmall : (H : Type) → List (DataW H) → Bool := fun _ ds => decide (uptoBulkAll ds ≤ 1048576)
def OpenSpec.upto (s : _root_.Go.ChangeSpec) : _root_.Go.OpenSpec := { _root_.Go.OpenSpec.ofChange s with cond := some uptoSmall }

/-- 'semblancelaw01.ValSums', WHERE WHAT IT READS IS OF BULK AT MOST 1048576: true; the input reads as it did. -/
def valSumsUptoRow : OpenClaim := { program := "ytofeceabnnoekaa", sum := "9b0194412b2c71e238b76e5a6e5dabb59ff596c2f513d0b2d95022cb5825dda1", func := "semblance/semblancelaw01.ValSums", spec := "valSums", apart := false, narrowed := true }
def ValSumsUptoSaid : Prop := valSumsUptoRow.holds Try.pinned (OpenSpec.upto valSumsSpec)

/-- 'semblancelaw01.ValTexts', WHERE WHAT IT READS IS OF BULK AT MOST 1048576: true; the input reads as it did. -/
def valTextsUptoRow : OpenClaim := { program := "ytofeceabnnoekaa", sum := "9b0194412b2c71e238b76e5a6e5dabb59ff596c2f513d0b2d95022cb5825dda1", func := "semblance/semblancelaw01.ValTexts", spec := "valTexts", recurses := true, apart := false, narrowed := true }
def ValTextsUptoSaid : Prop := valTextsUptoRow.holds Try.pinned (OpenSpec.upto valTextsSpec)

/-- 'semblancelaw01.ValLaws', WHERE WHAT IT READS IS OF BULK AT MOST 1048576: true; the input reads as it did. -/
def valLawsUptoRow : OpenClaim := { program := "ytofeceabnnoekaa", sum := "9b0194412b2c71e238b76e5a6e5dabb59ff596c2f513d0b2d95022cb5825dda1", func := "semblance/semblancelaw01.ValLaws", spec := "valLaws", apart := false, narrowed := true }
def ValLawsUptoSaid : Prop := valLawsUptoRow.holds Try.pinned (OpenSpec.upto valLawsSpec)

end Rows
end Go.Proofs.Ytofeceabnnoekaa
