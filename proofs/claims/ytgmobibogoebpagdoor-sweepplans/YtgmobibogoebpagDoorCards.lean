/-
  DERIVED. GIVEN WITH THE SEED: THE CARDS: each row of YtgmobibogoebpagDoorRows.lean that lists a variable, with what it lists TIED to the program's text (the seventh form; the later family's looks); each row that meets fmt, with fmt's text TOLD by the authors' own Lean function (tested against real Go, not proved from fmt's source: count such statements apart). THE CARD IS WHAT COUNTS. Prove the row's statement (the work); the ties are given (YtgmobibogoebpagDoorTie.lean); close each card by the builder's one call (the guide's Derived/Test/ToyasCard.lean, 'card_holds'). Laid BY PROGRAM, IN A SANDBOX (cutbox-door.mjs). By AI agents, Wed Nov 11 2026. No macro, syntax, notation, axiom, sorry.
-/
import Derived.Test.YtgmobibogoebpagDoorRows
import GoSem.ClaimSeven
namespace Go.Proofs.YtgmobibogoebpagDoor
namespace Rows

/-- THE TIED CARD OF 'granarylaw1.SweepPlans'. -/
def sweepPlansCard : Claim7 := { stood := { row := sweepPlansRow, standIns := [], harness := (true, "a4566c0b4c5cee40cb4e08ccedef10605d9bf2fe7afeac3b91fc3e1776437569"), looks := true }, kinds := [], alts := [], laidByText := true, laidKinds := [.handle], laidTests := true, laidLooks := .later }
def SweepPlansCardSaid : Prop := Claim7.holds Tryd.pinned (.plain (OpenSpec.ofChange sweepPlansSpec)) sweepPlansCard

/-- THE SECOND FORM's CARD OF 'granarylaw1.SweepPlans'. -/
def sweepPlansUptoCard : Claim7 := { stood := { row := sweepPlansUptoRow, standIns := [], harness := (true, "a4566c0b4c5cee40cb4e08ccedef10605d9bf2fe7afeac3b91fc3e1776437569"), looks := true }, kinds := [], alts := [], laidByText := true, laidKinds := [.handle], laidTests := true, laidLooks := .later }
def SweepPlansUptoCardSaid : Prop := Claim7.holds Tryd.pinned (.plain (OpenSpec.upto sweepPlansSpec)) sweepPlansUptoCard
end Rows
end Go.Proofs.YtgmobibogoebpagDoor
