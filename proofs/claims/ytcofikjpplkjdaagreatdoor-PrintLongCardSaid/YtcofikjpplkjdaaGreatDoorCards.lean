/-
  DERIVED. GIVEN WITH THE SEED: THE CARDS: each row of YtcofikjpplkjdaaGreatDoorRows.lean that lists a variable, with what it lists TIED to the program's text (the seventh form; the later family's looks); each row that meets fmt, with fmt's text TOLD by the authors' own Lean function (tested against real Go, not proved from fmt's source: count such statements apart). THE CARD IS WHAT COUNTS. Prove the row's statement (the work); the ties are given (YtcofikjpplkjdaaGreatDoorTie.lean); close each card by the builder's one call (the guide's Derived/Test/ToyasCard.lean, 'card_holds'). Laid BY PROGRAM, IN A SANDBOX (cutbox-door.mjs). By AI agents, Wed Nov 11 2026. No macro, syntax, notation, axiom, sorry.
-/
import Derived.Test.YtcofikjpplkjdaaGreatDoorRows
import GoSem.ClaimSeven
namespace Go.Proofs.YtcofikjpplkjdaaGreatDoor
namespace Rows

/-- THE TIED CARD OF 'semblancelaw12.PrintPuts'. -/
def printPutsCard : Claim7 := { stood := { row := printPutsRow, standIns := [], harness := (true, "603dfdffb5f41b8d228e1d21eca9cd260d95b072915875da5395679af1469072"), looks := false }, kinds := [], alts := [], laidByText := true, laidKinds := [.data, .data], laidTests := true, laidLooks := .later }
def PrintPutsCardSaid : Prop := Claim7.holds Tryz.pinned (.plain (OpenSpec.ofChange printPutsSpec)) printPutsCard

/-- THE TIED CARD OF 'semblancelaw12.PrintLong'. -/
def printLongCard : Claim7 := { stood := { row := printLongRow, standIns := [], harness := (true, "603dfdffb5f41b8d228e1d21eca9cd260d95b072915875da5395679af1469072"), looks := false }, kinds := [], alts := [], laidByText := true, laidKinds := [.data, .data], laidTests := true, laidLooks := .later }
def PrintLongCardSaid : Prop := Claim7.holds Tryz.pinned (.plain (OpenSpec.ofChange printLongSpec)) printLongCard

/-- THE SECOND FORM's CARD OF 'semblancelaw12.PrintPuts'. -/
def printPutsUptoCard : Claim7 := { stood := { row := printPutsUptoRow, standIns := [], harness := (true, "603dfdffb5f41b8d228e1d21eca9cd260d95b072915875da5395679af1469072"), looks := false }, kinds := [], alts := [], laidByText := true, laidKinds := [.data, .data], laidTests := true, laidLooks := .later }
def PrintPutsUptoCardSaid : Prop := Claim7.holds Tryz.pinned (.plain (OpenSpec.upto printPutsSpec)) printPutsUptoCard

/-- THE SECOND FORM's CARD OF 'semblancelaw12.PrintLong'. -/
def printLongUptoCard : Claim7 := { stood := { row := printLongUptoRow, standIns := [], harness := (true, "603dfdffb5f41b8d228e1d21eca9cd260d95b072915875da5395679af1469072"), looks := false }, kinds := [], alts := [], laidByText := true, laidKinds := [.data, .data], laidTests := true, laidLooks := .later }
def PrintLongUptoCardSaid : Prop := Claim7.holds Tryz.pinned (.plain (OpenSpec.upto printLongSpec)) printLongUptoCard
end Rows
end Go.Proofs.YtcofikjpplkjdaaGreatDoor
