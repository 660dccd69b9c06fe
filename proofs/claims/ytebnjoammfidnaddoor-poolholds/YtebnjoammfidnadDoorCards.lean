/-
  DERIVED. GIVEN WITH THE SEED: THE CARDS: each row of YtebnjoammfidnadDoorRows.lean that lists a variable, with what it lists TIED to the program's text (the seventh form; the later family's looks); each row that meets fmt, with fmt's text TOLD by the authors' own Lean function (tested against real Go, not proved from fmt's source: count such statements apart). THE CARD IS WHAT COUNTS. Prove the row's statement (the work); the ties are given (YtebnjoammfidnadDoorTie.lean); close each card by the builder's one call (the guide's Derived/Test/ToyasCard.lean, 'card_holds'). Laid BY PROGRAM, IN A SANDBOX (cutbox-door.mjs). By AI agents, Wed Nov 11 2026. No macro, syntax, notation, axiom, sorry.
-/
import Derived.Test.YtebnjoammfidnadDoorRows
import GoSem.ClaimSeven
namespace Go.Proofs.YtebnjoammfidnadDoor
namespace Rows

/-- THE TIED CARD OF 'granarylaw1.PoolHolds'. -/
def poolHoldsCard : Claim7 := { stood := { row := poolHoldsRow, standIns := [], harness := (true, "c3bc7657d405f961b69b150a6048bfbb6cb2b7151575fe3f9916bf0fd3b1c4bf"), looks := true }, kinds := [], alts := [], laidByText := true, laidKinds := [.handle], laidTests := true, laidLooks := .later }
def PoolHoldsCardSaid : Prop := Claim7.holds Tryd.pinned (.plain (OpenSpec.ofChange poolHoldsSpec)) poolHoldsCard

/-- THE SECOND FORM's CARD OF 'granarylaw1.PoolHolds'. -/
def poolHoldsUptoCard : Claim7 := { stood := { row := poolHoldsUptoRow, standIns := [], harness := (true, "c3bc7657d405f961b69b150a6048bfbb6cb2b7151575fe3f9916bf0fd3b1c4bf"), looks := true }, kinds := [], alts := [], laidByText := true, laidKinds := [.handle], laidTests := true, laidLooks := .later }
def PoolHoldsUptoCardSaid : Prop := Claim7.holds Tryd.pinned (.plain (OpenSpec.upto poolHoldsSpec)) poolHoldsUptoCard
end Rows
end Go.Proofs.YtebnjoammfidnadDoor
