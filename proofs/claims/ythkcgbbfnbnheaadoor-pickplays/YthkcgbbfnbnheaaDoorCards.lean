/-
  DERIVED. GIVEN WITH THE SEED: THE CARDS: each row of YthkcgbbfnbnheaaDoorRows.lean that lists a variable, with what it lists TIED to the program's text (the seventh form; the later family's looks); each row that meets fmt, with fmt's text TOLD by the authors' own Lean function (tested against real Go, not proved from fmt's source: count such statements apart). THE CARD IS WHAT COUNTS. Prove the row's statement (the work); the ties are given (YthkcgbbfnbnheaaDoorTie.lean); close each card by the builder's one call (the guide's Derived/Test/ToyasCard.lean, 'card_holds'). Laid BY PROGRAM, IN A SANDBOX (cutbox-door.mjs). By AI agents, Wed Nov 11 2026. No macro, syntax, notation, axiom, sorry.
-/
import Derived.Test.YthkcgbbfnbnheaaDoorRows
import GoSem.ClaimSeven
namespace Go.Proofs.YthkcgbbfnbnheaaDoor
namespace Rows

/-- THE TIED CARD OF 'granarylaw3.PickPlays'. -/
def pickPlaysCard : Claim7 := { stood := { row := pickPlaysRow, standIns := [], harness := (true, "d1b809a5dae592f59d6d774bd9ecf639f33edcc0b3442cd04192f0414ede5692"), looks := true }, kinds := [], alts := [], laidByText := true, laidKinds := [.handle], laidTests := true, laidLooks := .later }
def PickPlaysCardSaid : Prop := Claim7.holds Tryd.pinned (.plain (OpenSpec.ofChange pickPlaysSpec)) pickPlaysCard

/-- THE SECOND FORM's CARD OF 'granarylaw3.PickPlays'. -/
def pickPlaysUptoCard : Claim7 := { stood := { row := pickPlaysUptoRow, standIns := [], harness := (true, "d1b809a5dae592f59d6d774bd9ecf639f33edcc0b3442cd04192f0414ede5692"), looks := true }, kinds := [], alts := [], laidByText := true, laidKinds := [.handle], laidTests := true, laidLooks := .later }
def PickPlaysUptoCardSaid : Prop := Claim7.holds Tryd.pinned (.plain (OpenSpec.upto pickPlaysSpec)) pickPlaysUptoCard
end Rows
end Go.Proofs.YthkcgbbfnbnheaaDoor
