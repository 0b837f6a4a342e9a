/-
  DERIVED. GIVEN WITH THE SEED: THE CARDS: each row of YtjfghaohogcfbaaGreatDoorRows.lean that lists a variable, with what it lists TIED to the program's text (the seventh form; the later family's looks); each row that meets fmt, with fmt's text TOLD by the authors' own Lean function (tested against real Go, not proved from fmt's source: count such statements apart). THE CARD IS WHAT COUNTS. Prove the row's statement (the work); the ties are given (YtjfghaohogcfbaaGreatDoorTie.lean); close each card by the builder's one call (the guide's Derived/Test/ToyasCard.lean, 'card_holds'). Laid BY PROGRAM, IN A SANDBOX (cutbox-door.mjs). By AI agents, Wed Nov 11 2026. No macro, syntax, notation, axiom, sorry.
-/
import Derived.Test.YtjfghaohogcfbaaGreatDoorRows
import GoSem.ClaimSeven
namespace Go.Proofs.YtjfghaohogcfbaaGreatDoor
namespace Rows

/-- THE TIED CARD OF 'semblancelaw13.FormatOf'. -/
def formatOfCard : Claim7 := { stood := { row := formatOfRow, standIns := [], harness := (true, "3aca62eac5530bf085a29659f863662d695903a6be8d0e17003ffeb265c6dd34"), looks := false }, kinds := [], alts := [], laidByText := true, laidKinds := [.data, .data], laidTests := true, laidLooks := .later }
def FormatOfCardSaid : Prop := Claim7.holds Tryz.pinned (.plain (OpenSpec.ofChange formatOfSpec)) formatOfCard

/-- THE TIED CARD OF 'semblancelaw13.FormatTwice'. -/
def formatTwiceCard : Claim7 := { stood := { row := formatTwiceRow, standIns := [], harness := (true, "3aca62eac5530bf085a29659f863662d695903a6be8d0e17003ffeb265c6dd34"), looks := false }, kinds := [], alts := [], laidByText := true, laidKinds := [.data, .data], laidTests := true, laidLooks := .later }
def FormatTwiceCardSaid : Prop := Claim7.holds Tryz.pinned (.plain (OpenSpec.ofChange formatTwiceSpec)) formatTwiceCard

/-- THE TIED CARD OF 'semblancelaw13.FormatSame'. -/
def formatSameCard : Claim7 := { stood := { row := formatSameRow, standIns := [], harness := (true, "3aca62eac5530bf085a29659f863662d695903a6be8d0e17003ffeb265c6dd34"), looks := false }, kinds := [], alts := [], laidByText := true, laidKinds := [.data, .data], laidTests := true, laidLooks := .later }
def FormatSameCardSaid : Prop := Claim7.holds Tryz.pinned (.plain (OpenSpec.ofChange formatSameSpec)) formatSameCard

/-- THE SECOND FORM's CARD OF 'semblancelaw13.FormatOf'. -/
def formatOfUptoCard : Claim7 := { stood := { row := formatOfUptoRow, standIns := [], harness := (true, "3aca62eac5530bf085a29659f863662d695903a6be8d0e17003ffeb265c6dd34"), looks := false }, kinds := [], alts := [], laidByText := true, laidKinds := [.data, .data], laidTests := true, laidLooks := .later }
def FormatOfUptoCardSaid : Prop := Claim7.holds Tryz.pinned (.plain (OpenSpec.upto formatOfSpec)) formatOfUptoCard

/-- THE SECOND FORM's CARD OF 'semblancelaw13.FormatTwice'. -/
def formatTwiceUptoCard : Claim7 := { stood := { row := formatTwiceUptoRow, standIns := [], harness := (true, "3aca62eac5530bf085a29659f863662d695903a6be8d0e17003ffeb265c6dd34"), looks := false }, kinds := [], alts := [], laidByText := true, laidKinds := [.data, .data], laidTests := true, laidLooks := .later }
def FormatTwiceUptoCardSaid : Prop := Claim7.holds Tryz.pinned (.plain (OpenSpec.upto formatTwiceSpec)) formatTwiceUptoCard

/-- THE SECOND FORM's CARD OF 'semblancelaw13.FormatSame'. -/
def formatSameUptoCard : Claim7 := { stood := { row := formatSameUptoRow, standIns := [], harness := (true, "3aca62eac5530bf085a29659f863662d695903a6be8d0e17003ffeb265c6dd34"), looks := false }, kinds := [], alts := [], laidByText := true, laidKinds := [.data, .data], laidTests := true, laidLooks := .later }
def FormatSameUptoCardSaid : Prop := Claim7.holds Tryz.pinned (.plain (OpenSpec.upto formatSameSpec)) formatSameUptoCard
end Rows
end Go.Proofs.YtjfghaohogcfbaaGreatDoor
