/-
  DERIVED. GIVEN WITH THE SEED: THE CARDS: each row of YtgmobibogoebpafDoorRows.lean that lists a variable, with what it lists TIED to the program's text (the seventh form; the later family's looks); each row that meets fmt, with fmt's text TOLD by the authors' own Lean function (tested against real Go, not proved from fmt's source: count such statements apart). THE CARD IS WHAT COUNTS. Prove the row's statement (the work); the ties are given (YtgmobibogoebpafDoorTie.lean); close each card by the builder's one call (the guide's Derived/Test/ToyasCard.lean, 'card_holds'). Laid BY PROGRAM, IN A SANDBOX (cutbox-door.mjs). By AI agents, Wed Nov 11 2026. No macro, syntax, notation, axiom, sorry.
-/
import Derived.Test.YtgmobibogoebpafDoorRows
import GoSem.ClaimSeven
namespace Go.Proofs.YtgmobibogoebpafDoor
namespace Rows

/-- THE TIED CARD OF 'granarylaw1.SlotSafe'. -/
def slotSafeCard : Claim7 := { stood := { row := slotSafeRow, standIns := [], harness := (true, "88bfe184c8ea0b1efadeb598cfbca3a73d07d63ae34a0752f7df565de50c00e1"), looks := true }, kinds := [], alts := [], laidByText := true, laidKinds := [.handle], laidTests := true, laidLooks := .later }
def SlotSafeCardSaid : Prop := Claim7.holds Tryd.pinned (.plain (OpenSpec.ofChange slotSafeSpec)) slotSafeCard

/-- THE TIED CARD OF 'granarylaw1.BufferPlays'. -/
def bufferPlaysCard : Claim7 := { stood := { row := bufferPlaysRow, standIns := [], harness := (true, "88bfe184c8ea0b1efadeb598cfbca3a73d07d63ae34a0752f7df565de50c00e1"), looks := true }, kinds := [], alts := [], laidByText := true, laidKinds := [.handle], laidTests := true, laidLooks := .later }
def BufferPlaysCardSaid : Prop := Claim7.holds Tryd.pinned (.plain (OpenSpec.ofChange bufferPlaysSpec)) bufferPlaysCard

/-- THE TIED CARD OF 'granarylaw1.BufferLast'. -/
def bufferLastCard : Claim7 := { stood := { row := bufferLastRow, standIns := [], harness := (true, "88bfe184c8ea0b1efadeb598cfbca3a73d07d63ae34a0752f7df565de50c00e1"), looks := true }, kinds := [], alts := [], laidByText := true, laidKinds := [.handle], laidTests := true, laidLooks := .later }
def BufferLastCardSaid : Prop := Claim7.holds Tryd.pinned (.plain (OpenSpec.ofChange bufferLastSpec)) bufferLastCard

/-- THE TIED CARD OF 'granarylaw1.SweepChooses'. -/
def sweepChoosesCard : Claim7 := { stood := { row := sweepChoosesRow, standIns := [], harness := (true, "88bfe184c8ea0b1efadeb598cfbca3a73d07d63ae34a0752f7df565de50c00e1"), looks := true }, kinds := [], alts := [], laidByText := true, laidKinds := [.handle], laidTests := true, laidLooks := .later }
def SweepChoosesCardSaid : Prop := Claim7.holds Tryd.pinned (.plain (OpenSpec.ofChange sweepChoosesSpec)) sweepChoosesCard

/-- THE SECOND FORM's CARD OF 'granarylaw1.SlotSafe'. -/
def slotSafeUptoCard : Claim7 := { stood := { row := slotSafeUptoRow, standIns := [], harness := (true, "88bfe184c8ea0b1efadeb598cfbca3a73d07d63ae34a0752f7df565de50c00e1"), looks := true }, kinds := [], alts := [], laidByText := true, laidKinds := [.handle], laidTests := true, laidLooks := .later }
def SlotSafeUptoCardSaid : Prop := Claim7.holds Tryd.pinned (.plain (OpenSpec.upto slotSafeSpec)) slotSafeUptoCard

/-- THE SECOND FORM's CARD OF 'granarylaw1.BufferPlays'. -/
def bufferPlaysUptoCard : Claim7 := { stood := { row := bufferPlaysUptoRow, standIns := [], harness := (true, "88bfe184c8ea0b1efadeb598cfbca3a73d07d63ae34a0752f7df565de50c00e1"), looks := true }, kinds := [], alts := [], laidByText := true, laidKinds := [.handle], laidTests := true, laidLooks := .later }
def BufferPlaysUptoCardSaid : Prop := Claim7.holds Tryd.pinned (.plain (OpenSpec.upto bufferPlaysSpec)) bufferPlaysUptoCard

/-- THE SECOND FORM's CARD OF 'granarylaw1.BufferLast'. -/
def bufferLastUptoCard : Claim7 := { stood := { row := bufferLastUptoRow, standIns := [], harness := (true, "88bfe184c8ea0b1efadeb598cfbca3a73d07d63ae34a0752f7df565de50c00e1"), looks := true }, kinds := [], alts := [], laidByText := true, laidKinds := [.handle], laidTests := true, laidLooks := .later }
def BufferLastUptoCardSaid : Prop := Claim7.holds Tryd.pinned (.plain (OpenSpec.upto bufferLastSpec)) bufferLastUptoCard

/-- THE SECOND FORM's CARD OF 'granarylaw1.SweepChooses'. -/
def sweepChoosesUptoCard : Claim7 := { stood := { row := sweepChoosesUptoRow, standIns := [], harness := (true, "88bfe184c8ea0b1efadeb598cfbca3a73d07d63ae34a0752f7df565de50c00e1"), looks := true }, kinds := [], alts := [], laidByText := true, laidKinds := [.handle], laidTests := true, laidLooks := .later }
def SweepChoosesUptoCardSaid : Prop := Claim7.holds Tryd.pinned (.plain (OpenSpec.upto sweepChoosesSpec)) sweepChoosesUptoCard
end Rows
end Go.Proofs.YtgmobibogoebpafDoor
