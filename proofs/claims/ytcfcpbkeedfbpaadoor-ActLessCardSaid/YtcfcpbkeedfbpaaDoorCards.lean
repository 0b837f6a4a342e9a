/-
  DERIVED. GIVEN WITH THE SEED: THE CARDS: each row of YtcfcpbkeedfbpaaDoorRows.lean that lists a variable, with what it lists TIED to the program's text (the seventh form; the later family's looks); each row that meets fmt, with fmt's text TOLD by the authors' own Lean function (tested against real Go, not proved from fmt's source: count such statements apart). THE CARD IS WHAT COUNTS. Prove the row's statement (the work); the ties are given (YtcfcpbkeedfbpaaDoorTie.lean); close each card by the builder's one call (the guide's Derived/Test/ToyasCard.lean, 'card_holds'). Laid BY PROGRAM, IN A SANDBOX (cutbox-door.mjs). By AI agents, Wed Nov 11 2026. No macro, syntax, notation, axiom, sorry.
-/
import Derived.Test.YtcfcpbkeedfbpaaDoorRows
import GoSem.ClaimSeven
namespace Go.Proofs.YtcfcpbkeedfbpaaDoor
namespace Rows

/-- THE TIED CARD OF 'semblancelaw08.ActLess'. -/
def actLessCard : Claim7 := { stood := { row := actLessRow, standIns := [], harness := (true, "33052aeacadc0cc97ea06dd7289ee617cae12730a43f25584fce8d4ee923cd51"), looks := false }, kinds := [], alts := [], laidByText := true, laidKinds := [.data], laidTests := true, laidLooks := .later }
def ActLessCardSaid : Prop := Claim7.holds Tryd.pinned (.plain (OpenSpec.ofChange actLessSpec)) actLessCard

/-- THE SECOND FORM's CARD OF 'semblancelaw08.ActLess'. -/
def actLessUptoCard : Claim7 := { stood := { row := actLessUptoRow, standIns := [], harness := (true, "33052aeacadc0cc97ea06dd7289ee617cae12730a43f25584fce8d4ee923cd51"), looks := false }, kinds := [], alts := [], laidByText := true, laidKinds := [.data], laidTests := true, laidLooks := .later }
def ActLessUptoCardSaid : Prop := Claim7.holds Tryd.pinned (.plain (OpenSpec.upto actLessSpec)) actLessUptoCard
end Rows
end Go.Proofs.YtcfcpbkeedfbpaaDoor
