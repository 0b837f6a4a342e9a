/-
  DERIVED. GIVEN WITH THE SEED: THE CARDS: each row of YtejbpleghjgpbaaGreatDoorRows.lean that lists a variable, with what it lists TIED to the program's text (the seventh form; the later family's looks); each row that meets fmt, with fmt's text TOLD by the authors' own Lean function (tested against real Go, not proved from fmt's source: count such statements apart). THE CARD IS WHAT COUNTS. Prove the row's statement (the work); the ties are given (YtejbpleghjgpbaaGreatDoorTie.lean); close each card by the builder's one call (the guide's Derived/Test/ToyasCard.lean, 'card_holds'). Laid BY PROGRAM, IN A SANDBOX (cutbox-door.mjs). By AI agents, Wed Nov 11 2026. No macro, syntax, notation, axiom, sorry.
-/
import Derived.Test.YtejbpleghjgpbaaGreatDoorRows
import GoSem.ClaimSeven
namespace Go.Proofs.YtejbpleghjgpbaaGreatDoor
namespace Rows

/-- THE TIED CARD OF 'semblancelaw15.SoundOf'. -/
def soundOfCard : Claim7 := { stood := { row := soundOfRow, standIns := [], harness := (true, "15f262378d6d67f18ee7e75de64b8e1cd57f55527cae2ffa66b270168792a4e4"), looks := false }, kinds := [], alts := [], laidByText := true, laidKinds := [.data], laidTests := true, laidLooks := .later }
def SoundOfCardSaid : Prop := Claim7.holds Tryz.pinned (.plain (OpenSpec.ofChange soundOfSpec)) soundOfCard

/-- THE SECOND FORM's CARD OF 'semblancelaw15.SoundOf'. -/
def soundOfUptoCard : Claim7 := { stood := { row := soundOfUptoRow, standIns := [], harness := (true, "15f262378d6d67f18ee7e75de64b8e1cd57f55527cae2ffa66b270168792a4e4"), looks := false }, kinds := [], alts := [], laidByText := true, laidKinds := [.data], laidTests := true, laidLooks := .later }
def SoundOfUptoCardSaid : Prop := Claim7.holds Tryz.pinned (.plain (OpenSpec.upto soundOfSpec)) soundOfUptoCard
end Rows
end Go.Proofs.YtejbpleghjgpbaaGreatDoor
