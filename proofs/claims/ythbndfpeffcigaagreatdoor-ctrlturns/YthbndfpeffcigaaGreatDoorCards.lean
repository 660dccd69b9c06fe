/-
  DERIVED. GIVEN WITH THE SEED: THE CARDS: each row of YthbndfpeffcigaaGreatDoorRows.lean that lists a variable, with what it lists TIED to the program's text (the seventh form; the later family's looks); each row that meets fmt, with fmt's text TOLD by the authors' own Lean function (tested against real Go, not proved from fmt's source: count such statements apart). THE CARD IS WHAT COUNTS. Prove the row's statement (the work); the ties are given (YthbndfpeffcigaaGreatDoorTie.lean); close each card by the builder's one call (the guide's Derived/Test/ToyasCard.lean, 'card_holds'). Laid BY PROGRAM, IN A SANDBOX (cutbox-door.mjs). By AI agents, Wed Nov 11 2026. No macro, syntax, notation, axiom, sorry.
-/
import Derived.Test.YthbndfpeffcigaaGreatDoorRows
import GoSem.ClaimSeven
namespace Go.Proofs.YthbndfpeffcigaaGreatDoor
namespace Rows

/-- THE TIED CARD OF 'granarylaw3.CtrlTurns'. -/
def ctrlTurnsCard : Claim7 := { stood := { row := ctrlTurnsRow, standIns := [], harness := (true, "e9086e808efa13b0defb084b184dc8d691b56fbe1c79be7d32687793128ab554"), looks := true }, kinds := [], alts := [], goes := true, laidByText := true, laidKinds := [.handle], laidTests := true, laidLooks := .later }
def CtrlTurnsCardSaid : Prop := Claim7.holds Tryz.pinned (.plain (OpenSpec.ofChange ctrlTurnsSpec)) ctrlTurnsCard

/-- THE SECOND FORM's CARD OF 'granarylaw3.CtrlTurns'. -/
def ctrlTurnsUptoCard : Claim7 := { stood := { row := ctrlTurnsUptoRow, standIns := [], harness := (true, "e9086e808efa13b0defb084b184dc8d691b56fbe1c79be7d32687793128ab554"), looks := true }, kinds := [], alts := [], goes := true, laidByText := true, laidKinds := [.handle], laidTests := true, laidLooks := .later }
def CtrlTurnsUptoCardSaid : Prop := Claim7.holds Tryz.pinned (.plain (OpenSpec.upto ctrlTurnsSpec)) ctrlTurnsUptoCard
end Rows
end Go.Proofs.YthbndfpeffcigaaGreatDoor
