/-
  DERIVED. GIVEN WITH THE SEED: THE CARDS: each row of YtobpcpfomdblgaaGreatDoorRows.lean that lists a variable, with what it lists TIED to the program's text (the seventh form; the later family's looks); each row that meets fmt, with fmt's text TOLD by the authors' own Lean function (tested against real Go, not proved from fmt's source: count such statements apart). THE CARD IS WHAT COUNTS. Prove the row's statement (the work); the ties are given (YtobpcpfomdblgaaGreatDoorTie.lean); close each card by the builder's one call (the guide's Derived/Test/ToyasCard.lean, 'card_holds'). Laid BY PROGRAM, IN A SANDBOX (cutbox-door.mjs). By AI agents, Wed Nov 11 2026. No macro, syntax, notation, axiom, sorry.
-/
import Derived.Test.YtobpcpfomdblgaaGreatDoorRows
import GoSem.ClaimSeven
namespace Go.Proofs.YtobpcpfomdblgaaGreatDoor
namespace Rows

/-- THE TIED CARD OF 'semblancelaw09.TransPuts'. -/
def transPutsCard : Claim7 := { stood := { row := transPutsRow, standIns := [], harness := (true, "b61d0717a453970fbec1594e6912897eea5e19ca9852f04a27622ee23b79db92"), looks := false }, kinds := [], alts := [], laidByText := true, laidKinds := [.data, .data], laidTests := true, laidLooks := .later }
def TransPutsCardSaid : Prop := Claim7.holds Tryz.pinned (.plain (OpenSpec.ofChange transPutsSpec)) transPutsCard

/-- THE SECOND FORM's CARD OF 'semblancelaw09.TransPuts'. -/
def transPutsUptoCard : Claim7 := { stood := { row := transPutsUptoRow, standIns := [], harness := (true, "b61d0717a453970fbec1594e6912897eea5e19ca9852f04a27622ee23b79db92"), looks := false }, kinds := [], alts := [], laidByText := true, laidKinds := [.data, .data], laidTests := true, laidLooks := .later }
def TransPutsUptoCardSaid : Prop := Claim7.holds Tryz.pinned (.plain (OpenSpec.upto transPutsSpec)) transPutsUptoCard
end Rows
end Go.Proofs.YtobpcpfomdblgaaGreatDoor
