/-
  DERIVED. GIVEN WITH THE SEED: THE CARDS: each row of YtdkafcgangcgbagGreatDoorRows.lean that lists a variable, with what it lists TIED to the program's text (the seventh form; the later family's looks); each row that meets fmt, with fmt's text TOLD by the authors' own Lean function (tested against real Go, not proved from fmt's source: count such statements apart). THE CARD IS WHAT COUNTS. Prove the row's statement (the work); the ties are given (YtdkafcgangcgbagGreatDoorTie.lean); close each card by the builder's one call (the guide's Derived/Test/ToyasCard.lean, 'card_holds'). Laid BY PROGRAM, IN A SANDBOX (cutbox-door.mjs). By AI agents, Wed Nov 11 2026. No macro, syntax, notation, axiom, sorry.
-/
import Derived.Test.YtdkafcgangcgbagGreatDoorRows
import GoSem.ClaimSeven
namespace Go.Proofs.YtdkafcgangcgbagGreatDoor
namespace Rows

/-- THE TIED CARD OF 'granarylaw1.ScanSays'. -/
def scanSaysCard : Claim7 := { stood := { row := scanSaysRow, standIns := [], harness := (true, "9d492f0c53a09da23c4798f2e63aaac442615f2dbcba3f4ac8d21edc57aa1963"), looks := true }, kinds := [], alts := [], goes := true, laidByText := true, laidKinds := [.handle], laidTests := true, laidLooks := .later }
def ScanSaysCardSaid : Prop := Claim7.holds Tryz.pinned (.plain (OpenSpec.ofChange scanSaysSpec)) scanSaysCard

/-- THE SECOND FORM's CARD OF 'granarylaw1.ScanSays'. -/
def scanSaysUptoCard : Claim7 := { stood := { row := scanSaysUptoRow, standIns := [], harness := (true, "9d492f0c53a09da23c4798f2e63aaac442615f2dbcba3f4ac8d21edc57aa1963"), looks := true }, kinds := [], alts := [], goes := true, laidByText := true, laidKinds := [.handle], laidTests := true, laidLooks := .later }
def ScanSaysUptoCardSaid : Prop := Claim7.holds Tryz.pinned (.plain (OpenSpec.upto scanSaysSpec)) scanSaysUptoCard
end Rows
end Go.Proofs.YtdkafcgangcgbagGreatDoor
