/-
  DERIVED. GIVEN WITH THE SEED: THE CARDS: each row of YtejbpleghjgpbaaDoorRows.lean that lists a variable, with what it lists TIED to the program's text (the seventh form; the later family's looks); each row that meets fmt, with fmt's text TOLD by the authors' own Lean function (tested against real Go, not proved from fmt's source: count such statements apart). THE CARD IS WHAT COUNTS. Prove the row's statement (the work); the ties are given (YtejbpleghjgpbaaDoorTie.lean); close each card by the builder's one call (the guide's Derived/Test/ToyasCard.lean, 'card_holds'). Laid BY PROGRAM, IN A SANDBOX (cutbox-door.mjs). By AI agents, Wed Nov 11 2026. No macro, syntax, notation, axiom, sorry.
-/
import Derived.Test.YtejbpleghjgpbaaDoorRows
import GoSem.ClaimSeven
namespace Go.Proofs.YtejbpleghjgpbaaDoor
namespace Rows

/-- THE TIED CARD OF 'semblancelaw15.SoundLines'. -/
def soundLinesCard : Claim7 := { stood := { row := soundLinesRow, standIns := [], harness := (true, "bad7403e7034a339caf82f998861c72f8e690bc7294c6db73a4c3d4e190d70e3"), looks := false }, kinds := [], alts := [], laidByText := true, laidKinds := [.data], laidTests := true, laidLooks := .later }
def SoundLinesCardSaid : Prop := Claim7.holds Tryd.pinned (.plain (OpenSpec.ofChange soundLinesSpec)) soundLinesCard

/-- THE SECOND FORM's CARD OF 'semblancelaw15.SoundLines'. -/
def soundLinesUptoCard : Claim7 := { stood := { row := soundLinesUptoRow, standIns := [], harness := (true, "bad7403e7034a339caf82f998861c72f8e690bc7294c6db73a4c3d4e190d70e3"), looks := false }, kinds := [], alts := [], laidByText := true, laidKinds := [.data], laidTests := true, laidLooks := .later }
def SoundLinesUptoCardSaid : Prop := Claim7.holds Tryd.pinned (.plain (OpenSpec.upto soundLinesSpec)) soundLinesUptoCard
end Rows
end Go.Proofs.YtejbpleghjgpbaaDoor
