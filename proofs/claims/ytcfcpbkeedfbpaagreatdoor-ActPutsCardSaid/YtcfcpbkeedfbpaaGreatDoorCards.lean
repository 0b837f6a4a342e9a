/-
  DERIVED. GIVEN WITH THE SEED: THE CARDS: each row of YtcfcpbkeedfbpaaGreatDoorRows.lean that lists a variable, with what it lists TIED to the program's text (the seventh form; the later family's looks); each row that meets fmt, with fmt's text TOLD by the authors' own Lean function (tested against real Go, not proved from fmt's source: count such statements apart). THE CARD IS WHAT COUNTS. Prove the row's statement (the work); the ties are given (YtcfcpbkeedfbpaaGreatDoorTie.lean); close each card by the builder's one call (the guide's Derived/Test/ToyasCard.lean, 'card_holds'). Laid BY PROGRAM, IN A SANDBOX (cutbox-door.mjs). By AI agents, Wed Nov 11 2026. No macro, syntax, notation, axiom, sorry.
-/
import Derived.Test.YtcfcpbkeedfbpaaGreatDoorRows
import GoSem.ClaimSeven
namespace Go.Proofs.YtcfcpbkeedfbpaaGreatDoor
namespace Rows

/-- THE TIED CARD OF 'semblancelaw08.ActPuts'. -/
def actPutsCard : Claim7 := { stood := { row := actPutsRow, standIns := [], harness := (true, "69feeb716b34dee15f24d896835c61378ea126068b28d9851a6aa0c84ac2576e"), looks := false }, kinds := [], alts := [], laidByText := true, laidKinds := [.data, .data], laidTests := true, laidLooks := .later }
def ActPutsCardSaid : Prop := Claim7.holds Tryz.pinned (.plain (OpenSpec.ofChange actPutsSpec)) actPutsCard

/-- THE TIED CARD OF 'semblancelaw08.ActReads'. -/
def actReadsCard : Claim7 := { stood := { row := actReadsRow, standIns := [], harness := (true, "69feeb716b34dee15f24d896835c61378ea126068b28d9851a6aa0c84ac2576e"), looks := false }, kinds := [], alts := [], laidByText := true, laidKinds := [.data], laidTests := true, laidLooks := .later }
def ActReadsCardSaid : Prop := Claim7.holds Tryz.pinned (.plain (OpenSpec.ofChange actReadsSpec)) actReadsCard

/-- THE TIED CARD OF 'semblancelaw08.ActRuns'. -/
def actRunsCard : Claim7 := { stood := { row := actRunsRow, standIns := [], harness := (true, "69feeb716b34dee15f24d896835c61378ea126068b28d9851a6aa0c84ac2576e"), looks := false }, kinds := [], alts := [], laidByText := true, laidKinds := [.data], laidTests := true, laidLooks := .later }
def ActRunsCardSaid : Prop := Claim7.holds Tryz.pinned (.plain (OpenSpec.ofChange actRunsSpec)) actRunsCard

/-- THE SECOND FORM's CARD OF 'semblancelaw08.ActPuts'. -/
def actPutsUptoCard : Claim7 := { stood := { row := actPutsUptoRow, standIns := [], harness := (true, "69feeb716b34dee15f24d896835c61378ea126068b28d9851a6aa0c84ac2576e"), looks := false }, kinds := [], alts := [], laidByText := true, laidKinds := [.data, .data], laidTests := true, laidLooks := .later }
def ActPutsUptoCardSaid : Prop := Claim7.holds Tryz.pinned (.plain (OpenSpec.upto actPutsSpec)) actPutsUptoCard

/-- THE SECOND FORM's CARD OF 'semblancelaw08.ActReads'. -/
def actReadsUptoCard : Claim7 := { stood := { row := actReadsUptoRow, standIns := [], harness := (true, "69feeb716b34dee15f24d896835c61378ea126068b28d9851a6aa0c84ac2576e"), looks := false }, kinds := [], alts := [], laidByText := true, laidKinds := [.data], laidTests := true, laidLooks := .later }
def ActReadsUptoCardSaid : Prop := Claim7.holds Tryz.pinned (.plain (OpenSpec.upto actReadsSpec)) actReadsUptoCard

/-- THE SECOND FORM's CARD OF 'semblancelaw08.ActRuns'. -/
def actRunsUptoCard : Claim7 := { stood := { row := actRunsUptoRow, standIns := [], harness := (true, "69feeb716b34dee15f24d896835c61378ea126068b28d9851a6aa0c84ac2576e"), looks := false }, kinds := [], alts := [], laidByText := true, laidKinds := [.data], laidTests := true, laidLooks := .later }
def ActRunsUptoCardSaid : Prop := Claim7.holds Tryz.pinned (.plain (OpenSpec.upto actRunsSpec)) actRunsUptoCard
end Rows
end Go.Proofs.YtcfcpbkeedfbpaaGreatDoor
