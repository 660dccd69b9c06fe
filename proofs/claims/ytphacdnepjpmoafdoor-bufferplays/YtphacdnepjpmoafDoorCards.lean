/-
  DERIVED. GIVEN WITH THE SEED: THE CARDS: each row of YtphacdnepjpmoafDoorRows.lean that lists a variable, with what it lists TIED to the program's text (the seventh form; the later family's looks); each row that meets fmt, with fmt's text TOLD by the authors' own Lean function (tested against real Go, not proved from fmt's source: count such statements apart). THE CARD IS WHAT COUNTS. Prove the row's statement (the work); the ties are given (YtphacdnepjpmoafDoorTie.lean); close each card by the builder's one call (the guide's Derived/Test/ToyasCard.lean, 'card_holds'). Laid BY PROGRAM, IN A SANDBOX (cutbox-door.mjs). By AI agents, Wed Nov 11 2026. No macro, syntax, notation, axiom, sorry.
-/
import Derived.Test.YtphacdnepjpmoafDoorRows
import GoSem.ClaimSeven
namespace Go.Proofs.YtphacdnepjpmoafDoor
namespace Rows

/-- THE TIED CARD OF 'granarylaw1.SlotSafe'. -/
def slotSafeCard : Claim7 := { stood := { row := slotSafeRow, standIns := [], harness := (true, "f76c0534872eef96ea35191a783a14c0e898b2739a1215388b55b573e60c1de7"), looks := true }, kinds := [], alts := [], laidByText := true, laidKinds := [.handle], laidTests := true, laidLooks := .later }
def SlotSafeCardSaid : Prop := Claim7.holds Tryd.pinned (.plain (OpenSpec.ofChange slotSafeSpec)) slotSafeCard

/-- THE TIED CARD OF 'granarylaw1.BufferPlays'. -/
def bufferPlaysCard : Claim7 := { stood := { row := bufferPlaysRow, standIns := [], harness := (true, "f76c0534872eef96ea35191a783a14c0e898b2739a1215388b55b573e60c1de7"), looks := true }, kinds := [], alts := [], laidByText := true, laidKinds := [.handle], laidTests := true, laidLooks := .later }
def BufferPlaysCardSaid : Prop := Claim7.holds Tryd.pinned (.plain (OpenSpec.ofChange bufferPlaysSpec)) bufferPlaysCard

/-- THE TIED CARD OF 'granarylaw1.BufferLast'. -/
def bufferLastCard : Claim7 := { stood := { row := bufferLastRow, standIns := [], harness := (true, "f76c0534872eef96ea35191a783a14c0e898b2739a1215388b55b573e60c1de7"), looks := true }, kinds := [], alts := [], laidByText := true, laidKinds := [.handle], laidTests := true, laidLooks := .later }
def BufferLastCardSaid : Prop := Claim7.holds Tryd.pinned (.plain (OpenSpec.ofChange bufferLastSpec)) bufferLastCard

/-- THE SECOND FORM's CARD OF 'granarylaw1.SlotSafe'. -/
def slotSafeUptoCard : Claim7 := { stood := { row := slotSafeUptoRow, standIns := [], harness := (true, "f76c0534872eef96ea35191a783a14c0e898b2739a1215388b55b573e60c1de7"), looks := true }, kinds := [], alts := [], laidByText := true, laidKinds := [.handle], laidTests := true, laidLooks := .later }
def SlotSafeUptoCardSaid : Prop := Claim7.holds Tryd.pinned (.plain (OpenSpec.upto slotSafeSpec)) slotSafeUptoCard

/-- THE SECOND FORM's CARD OF 'granarylaw1.BufferPlays'. -/
def bufferPlaysUptoCard : Claim7 := { stood := { row := bufferPlaysUptoRow, standIns := [], harness := (true, "f76c0534872eef96ea35191a783a14c0e898b2739a1215388b55b573e60c1de7"), looks := true }, kinds := [], alts := [], laidByText := true, laidKinds := [.handle], laidTests := true, laidLooks := .later }
def BufferPlaysUptoCardSaid : Prop := Claim7.holds Tryd.pinned (.plain (OpenSpec.upto bufferPlaysSpec)) bufferPlaysUptoCard

/-- THE SECOND FORM's CARD OF 'granarylaw1.BufferLast'. -/
def bufferLastUptoCard : Claim7 := { stood := { row := bufferLastUptoRow, standIns := [], harness := (true, "f76c0534872eef96ea35191a783a14c0e898b2739a1215388b55b573e60c1de7"), looks := true }, kinds := [], alts := [], laidByText := true, laidKinds := [.handle], laidTests := true, laidLooks := .later }
def BufferLastUptoCardSaid : Prop := Claim7.holds Tryd.pinned (.plain (OpenSpec.upto bufferLastSpec)) bufferLastUptoCard
end Rows
end Go.Proofs.YtphacdnepjpmoafDoor
