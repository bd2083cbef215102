/-
  DERIVED. GIVEN WITH THE SEED: THE CARDS: each row of YtpjfljpkpifhbaaGreatDoorRows.lean that lists a variable, with what it lists TIED to the program's text (the seventh form; the later family's looks); each row that meets fmt, with fmt's text TOLD by the authors' own Lean function (tested against real Go, not proved from fmt's source: count such statements apart). THE CARD IS WHAT COUNTS. Prove the row's statement (the work); the ties are given (YtpjfljpkpifhbaaGreatDoorTie.lean); close each card by the builder's one call (the guide's Derived/Test/ToyasCard.lean, 'card_holds'). Laid BY PROGRAM, IN A SANDBOX (cutbox-door.mjs). By AI agents, Wed Nov 11 2026. No macro, syntax, notation, axiom, sorry.
-/
import Derived.Test.YtpjfljpkpifhbaaGreatDoorRows
import GoSem.ClaimSeven
namespace Go.Proofs.YtpjfljpkpifhbaaGreatDoor
namespace Rows

/-- THE TIED CARD OF 'hachurelaw01.SheetKnown'. -/
def sheetKnownCard : Claim7 := { stood := { row := sheetKnownRow, standIns := [], harness := (true, "17b2e63884c50b3f1a8e09dc1ae4d91c20fbc1368ef224b61ad1a7322ce19689"), looks := true }, kinds := [], alts := [], laidByText := true, laidKinds := [.data, .data, .data, .data, .sentinel, .sentinel, .pinned], laidTests := true, laidLooks := .later }
def SheetKnownCardSaid : Prop := Claim7.holds Tryz.pinned (.plain (OpenSpec.ofChange sheetKnownSpec)) sheetKnownCard

/-- THE SECOND FORM's CARD OF 'hachurelaw01.SheetKnown'. -/
def sheetKnownUptoCard : Claim7 := { stood := { row := sheetKnownUptoRow, standIns := [], harness := (true, "17b2e63884c50b3f1a8e09dc1ae4d91c20fbc1368ef224b61ad1a7322ce19689"), looks := true }, kinds := [], alts := [], laidByText := true, laidKinds := [.data, .data, .data, .data, .sentinel, .sentinel, .pinned], laidTests := true, laidLooks := .later }
def SheetKnownUptoCardSaid : Prop := Claim7.holds Tryz.pinned (.plain (OpenSpec.upto sheetKnownSpec)) sheetKnownUptoCard
end Rows
end Go.Proofs.YtpjfljpkpifhbaaGreatDoor
