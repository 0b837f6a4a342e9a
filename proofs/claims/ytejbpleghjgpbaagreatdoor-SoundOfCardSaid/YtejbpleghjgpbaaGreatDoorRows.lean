/-
  NARROWER THAN 'FOR EVERY INPUT', by the rows' own cells (each row's printed sentence says how): SoundOf: laid.
  DERIVED. THE GIVEN ROWS OF THIS SEAT. 1 by the template 'for every input the law returns true; each argument reads behind the call as it read before'; 0 by the template 'total and deterministic' (their statements: YtejbpleghjgpbaaGreatDoorTotals.lean).
  GIVEN WITH THE SEED: the statements are not yours to turn. If you find one false, say at which input.
  Laid BY PROGRAM, IN A SANDBOX (cutbox-rows.mjs): the forced cells as the released guide's own fill.sh prints them over the translation 3c6ac354f140b061… (all of the seat's roots in one cut). By AI agents, Wed Nov 11 2026. No macro, syntax, notation, axiom, sorry.
-/
import Derived.Test.YtejbpleghjgpbaaGreatDoorChecked
import GoSem.Claim
import GoSem.ClaimJoined
import GoSem.ClaimMapViews
import Derived.JoinedTies
import Derived.KernelRfl
namespace Go.Proofs.YtejbpleghjgpbaaGreatDoor
/- THE CELL 'sum', in the pinned program and in every row, IS THE sha256 OF THE DUMP (.gsa) THAT YtejbpleghjgpbaaGreatDoorProg.lean LOADS. Nothing in Lean hashes anything: it is a label: what it is worth is what the hold of that sum in a sandbox is worth. -/
noncomputable def Tryz.pinned : Pinned := { name := "ytejbpleghjgpbaagreatdoor", sum := "3c6ac354f140b061f5b8900f64ceda1278edba601c888d93cc18769e0a86234d", checked := Tryz.checked }
namespace Rows
def none {H : Type} : Left H := { results := [], args := [] }

/- WHAT THE LISTED PACKAGE-LEVEL VARIABLES READ AS WHEN THE CALL BEGINS. Each datum BY PROGRAM (the guide's laid-datum.mjs) off the statement by which the dump's own 'gosem.cut.vars' lays the variable. In a bare row this is a premise. The card (YtejbpleghjgpbaaGreatDoorCards.lean) ties it to the program's text. -/
def laid_semblance_sound_words {H : Type} : DataW H := .agg [.lit (.string []), .lit (.string [101, 118, 101, 110, 116]), .lit (.string [118, 97, 114]), .lit (.string [114, 97, 110, 103, 101]), .lit (.string [110, 97, 109, 101]), .lit (.string [107, 105, 100, 115]), .lit (.string [111, 110]), .lit (.string [116, 97, 114, 103, 101, 116]), .lit (.string [103, 117, 97, 114, 100]), .lit (.string [97, 99, 116, 115]), .lit (.string [101, 100, 103, 101])]

/-- 'semblancelaw15.SoundOf': WHATEVER THE INPUT: true; the input reads as it did. -/
def soundOfSpec : ChangeSpec := { name := "soundOf", fn := fun _ => fun
  | [d] => { results := [.lit (.bool true)], args := [d] }
  | _ => none }
def soundOfRow : OpenClaim := { program := "ytejbpleghjgpbaagreatdoor", sum := "3c6ac354f140b061f5b8900f64ceda1278edba601c888d93cc18769e0a86234d", func := "semblance/semblancelaw15.SoundOf", spec := "soundOf", unfollowed := true, recurses := true, named := ["semblance/sound.words"], apart := false, laid := [("semblance/sound.words", laid_semblance_sound_words)] }
def SoundOfSaid : Prop := soundOfRow.holds Tryz.pinned (OpenSpec.ofChange soundOfSpec)

/-- ITS FALSE NEIGHBOUR: 'it returns false'. Refute it at one input. -/
def soundOfWrong : ChangeSpec := { name := "soundOf", fn := fun _ => fun
  | [d] => { results := [.lit (.bool false)], args := [d] }
  | _ => none }
def SoundOfWrongFalsely : Prop := soundOfRow.holds Tryz.pinned (OpenSpec.ofChange soundOfWrong)

/- THE SECOND FORM. 'bulk': how many values and letters a reading holds, each counted each time it is reached (what is shared counts as often as it is met; a slice's spare places count too). A statement '..UptoSaid' is the law's where the arguments, and the package variables that the reading takes, are together of bulk at most 1048576: NARROWER than '..Said'. Prove '..Said' where nothing that the law and all that it calls make is longer than what came in: it says more and counts as full. Else prove '..UptoSaid'. A law counts once. -/
mutual
def uptoBulk {H : Type} : DataW H → Nat
  | .lit (.string bytes) => bytes.length + 1
  | .lit _ => 1
  | .nil => 1
  | .ptr d => uptoBulk d + 1
  | .slice elems spare => uptoBulkAll elems + uptoBulkAll spare + 1
  | .agg parts => uptoBulkAll parts + 1
  | .iface _ d => uptoBulk d + 1
  | .map entries => uptoBulkEntries entries + 1
  | .held _ => 1
def uptoBulkAll {H : Type} : List (DataW H) → Nat
  | [] => 0
  | d :: r => uptoBulk d + uptoBulkAll r
def uptoBulkEntries {H : Type} : List (Lit × DataW H) → Nat
  | [] => 0
  | x :: r => uptoBulkEntry x + uptoBulkEntries r
def uptoBulkEntry {H : Type} : Lit × DataW H → Nat
  | (.string bytes, d) => bytes.length + uptoBulk d + 1
  | (_, d) => uptoBulk d + 1
 end
def uptoSmall : (H : Type) → List (DataW H) → Bool := fun _ ds => decide (uptoBulkAll ds ≤ 1048576)
def OpenSpec.upto (s : _root_.Go.ChangeSpec) : _root_.Go.OpenSpec := { _root_.Go.OpenSpec.ofChange s with cond := some uptoSmall }

/-- 'semblancelaw15.SoundOf', WHERE WHAT IT READS IS OF BULK AT MOST 1048576: true; the input reads as it did. -/
def soundOfUptoRow : OpenClaim := { program := "ytejbpleghjgpbaagreatdoor", sum := "3c6ac354f140b061f5b8900f64ceda1278edba601c888d93cc18769e0a86234d", func := "semblance/semblancelaw15.SoundOf", spec := "soundOf", unfollowed := true, recurses := true, named := ["semblance/sound.words"], apart := false, laid := [("semblance/sound.words", laid_semblance_sound_words)], narrowed := true }
def SoundOfUptoSaid : Prop := soundOfUptoRow.holds Tryz.pinned (OpenSpec.upto soundOfSpec)

end Rows
end Go.Proofs.YtejbpleghjgpbaaGreatDoor
