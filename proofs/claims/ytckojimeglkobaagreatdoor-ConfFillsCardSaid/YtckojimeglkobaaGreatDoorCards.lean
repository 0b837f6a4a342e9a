/-
  DERIVED. GIVEN WITH THE SEED: THE CARDS: each row of YtckojimeglkobaaGreatDoorRows.lean that lists a variable, with what it lists TIED to the program's text (the seventh form; the later family's looks); each row that meets fmt, with fmt's text TOLD by the authors' own Lean function (tested against real Go, not proved from fmt's source: count such statements apart). THE CARD IS WHAT COUNTS. Prove the row's statement (the work); the ties are given (YtckojimeglkobaaGreatDoorTie.lean); close each card by the builder's one call (the guide's Derived/Test/ToyasCard.lean, 'card_holds'). Laid BY PROGRAM, IN A SANDBOX (cutbox-door.mjs). By AI agents, Wed Nov 11 2026. No macro, syntax, notation, axiom, sorry.
-/
import Derived.Test.YtckojimeglkobaaGreatDoorRows
import GoSem.ClaimSeven
namespace Go.Proofs.YtckojimeglkobaaGreatDoor
namespace Rows

/-- THE TIED CARD OF 'semblancelaw18.ConfChecks'. -/
def confChecksCard : Claim7 := { stood := { row := confChecksRow, standIns := [], harness := (true, "c74eeccf0bf7107a0cb8d039dac0776d39f7a60b27abbf07bd0d3204d8b674b8"), looks := false }, kinds := [], alts := [], laidByText := true, laidKinds := [.data], laidTests := true, laidLooks := .later }
def ConfChecksCardSaid : Prop := Claim7.holds Tryz.pinned (.plain (OpenSpec.ofChange confChecksSpec)) confChecksCard

/-- THE TIED CARD OF 'semblancelaw18.ConfFills'. -/
def confFillsCard : Claim7 := { stood := { row := confFillsRow, standIns := [], harness := (true, "c74eeccf0bf7107a0cb8d039dac0776d39f7a60b27abbf07bd0d3204d8b674b8"), looks := false }, kinds := [], alts := [], laidByText := true, laidKinds := [.data], laidTests := true, laidLooks := .later }
def ConfFillsCardSaid : Prop := Claim7.holds Tryz.pinned (.plain (OpenSpec.ofChange confFillsSpec)) confFillsCard

/-- THE TIED CARD OF 'semblancelaw18.ConfTells'. -/
def confTellsCard : Claim7 := { stood := { row := confTellsRow, standIns := [], harness := (true, "c74eeccf0bf7107a0cb8d039dac0776d39f7a60b27abbf07bd0d3204d8b674b8"), looks := false }, kinds := [], alts := [], laidByText := true, laidKinds := [.data], laidTests := true, laidLooks := .later }
def ConfTellsCardSaid : Prop := Claim7.holds Tryz.pinned (.plain (OpenSpec.ofChange confTellsSpec)) confTellsCard

/-- THE SECOND FORM's CARD OF 'semblancelaw18.ConfChecks'. -/
def confChecksUptoCard : Claim7 := { stood := { row := confChecksUptoRow, standIns := [], harness := (true, "c74eeccf0bf7107a0cb8d039dac0776d39f7a60b27abbf07bd0d3204d8b674b8"), looks := false }, kinds := [], alts := [], laidByText := true, laidKinds := [.data], laidTests := true, laidLooks := .later }
def ConfChecksUptoCardSaid : Prop := Claim7.holds Tryz.pinned (.plain (OpenSpec.upto confChecksSpec)) confChecksUptoCard

/-- THE SECOND FORM's CARD OF 'semblancelaw18.ConfFills'. -/
def confFillsUptoCard : Claim7 := { stood := { row := confFillsUptoRow, standIns := [], harness := (true, "c74eeccf0bf7107a0cb8d039dac0776d39f7a60b27abbf07bd0d3204d8b674b8"), looks := false }, kinds := [], alts := [], laidByText := true, laidKinds := [.data], laidTests := true, laidLooks := .later }
def ConfFillsUptoCardSaid : Prop := Claim7.holds Tryz.pinned (.plain (OpenSpec.upto confFillsSpec)) confFillsUptoCard

/-- THE SECOND FORM's CARD OF 'semblancelaw18.ConfTells'. -/
def confTellsUptoCard : Claim7 := { stood := { row := confTellsUptoRow, standIns := [], harness := (true, "c74eeccf0bf7107a0cb8d039dac0776d39f7a60b27abbf07bd0d3204d8b674b8"), looks := false }, kinds := [], alts := [], laidByText := true, laidKinds := [.data], laidTests := true, laidLooks := .later }
def ConfTellsUptoCardSaid : Prop := Claim7.holds Tryz.pinned (.plain (OpenSpec.upto confTellsSpec)) confTellsUptoCard
end Rows
end Go.Proofs.YtckojimeglkobaaGreatDoor
