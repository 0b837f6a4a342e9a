/-
  DERIVED. GIVEN WITH THE SEED: THE CARDS: each row of YthmhlhegmnpagaaDoorRows.lean that lists a variable, with what it lists TIED to the program's text (the seventh form; the later family's looks); each row that meets fmt, with fmt's text TOLD by the authors' own Lean function (tested against real Go, not proved from fmt's source: count such statements apart). THE CARD IS WHAT COUNTS. Prove the row's statement (the work); the ties are given (YthmhlhegmnpagaaDoorTie.lean); close each card by the builder's one call (the guide's Derived/Test/ToyasCard.lean, 'card_holds'). Laid BY PROGRAM, IN A SANDBOX (cutbox-door.mjs). By AI agents, Wed Nov 11 2026. No macro, syntax, notation, axiom, sorry.
-/
import Derived.Test.YthmhlhegmnpagaaDoorRows
import GoSem.ClaimSeven
namespace Go.Proofs.YthmhlhegmnpagaaDoor
namespace Rows

/-- THE TIED CARD OF 'semblancelaw03.ScanTokens'. -/
def scanTokensCard : Claim7 := { stood := { row := scanTokensRow, standIns := [], harness := (true, "efe698a741fb13694649c52b378d82eca7fa2257398a54ea3b602cfa7f6d5d9e"), looks := false }, kinds := [], alts := [], laidByText := true, laidKinds := [.data], laidTests := true, laidLooks := .later }
def ScanTokensCardSaid : Prop := Claim7.holds Tryd.pinned (.plain (OpenSpec.ofChange scanTokensSpec)) scanTokensCard

/-- THE TIED CARD OF 'semblancelaw03.ScanFull'. -/
def scanFullCard : Claim7 := { stood := { row := scanFullRow, standIns := [], harness := (true, "efe698a741fb13694649c52b378d82eca7fa2257398a54ea3b602cfa7f6d5d9e"), looks := false }, kinds := [], alts := [], laidByText := true, laidKinds := [.data], laidTests := true, laidLooks := .later }
def ScanFullCardSaid : Prop := Claim7.holds Tryd.pinned (.plain (OpenSpec.ofChange scanFullSpec)) scanFullCard

/-- THE SECOND FORM's CARD OF 'semblancelaw03.ScanTokens'. -/
def scanTokensUptoCard : Claim7 := { stood := { row := scanTokensUptoRow, standIns := [], harness := (true, "efe698a741fb13694649c52b378d82eca7fa2257398a54ea3b602cfa7f6d5d9e"), looks := false }, kinds := [], alts := [], laidByText := true, laidKinds := [.data], laidTests := true, laidLooks := .later }
def ScanTokensUptoCardSaid : Prop := Claim7.holds Tryd.pinned (.plain (OpenSpec.upto scanTokensSpec)) scanTokensUptoCard

/-- THE SECOND FORM's CARD OF 'semblancelaw03.ScanFull'. -/
def scanFullUptoCard : Claim7 := { stood := { row := scanFullUptoRow, standIns := [], harness := (true, "efe698a741fb13694649c52b378d82eca7fa2257398a54ea3b602cfa7f6d5d9e"), looks := false }, kinds := [], alts := [], laidByText := true, laidKinds := [.data], laidTests := true, laidLooks := .later }
def ScanFullUptoCardSaid : Prop := Claim7.holds Tryd.pinned (.plain (OpenSpec.upto scanFullSpec)) scanFullUptoCard
end Rows
end Go.Proofs.YthmhlhegmnpagaaDoor
