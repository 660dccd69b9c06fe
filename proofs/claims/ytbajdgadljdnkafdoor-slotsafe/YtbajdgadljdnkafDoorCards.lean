/-
  DERIVED. GIVEN WITH THE SEED: THE CARDS: each row of YtbajdgadljdnkafDoorRows.lean that lists a variable, with what it lists TIED to the program's text (the seventh form; the later family's looks); each row that meets fmt, with fmt's text TOLD by the authors' own Lean function (tested against real Go, not proved from fmt's source: count such statements apart). THE CARD IS WHAT COUNTS. Prove the row's statement (the work); the ties are given (YtbajdgadljdnkafDoorTie.lean); close each card by the builder's one call (the guide's Derived/Test/ToyasCard.lean, 'card_holds'). Laid BY PROGRAM, IN A SANDBOX (cutbox-door.mjs). By AI agents, Wed Nov 11 2026. No macro, syntax, notation, axiom, sorry.
-/
import Derived.Test.YtbajdgadljdnkafDoorRows
import GoSem.ClaimSeven
namespace Go.Proofs.YtbajdgadljdnkafDoor
namespace Rows

/-- THE TIED CARD OF 'granarylaw1.SlotSafe'. -/
def slotSafeCard : Claim7 := { stood := { row := slotSafeRow, standIns := [], harness := (true, "cb675278c7ae33a433da51e0539ee65b57249ddb81080dbdb7cc6292fb5c890b"), looks := true }, kinds := [], alts := [], laidByText := true, laidKinds := [.handle], laidTests := true, laidLooks := .later }
def SlotSafeCardSaid : Prop := Claim7.holds Tryd.pinned (.plain (OpenSpec.ofChange slotSafeSpec)) slotSafeCard

/-- THE SECOND FORM's CARD OF 'granarylaw1.SlotSafe'. -/
def slotSafeUptoCard : Claim7 := { stood := { row := slotSafeUptoRow, standIns := [], harness := (true, "cb675278c7ae33a433da51e0539ee65b57249ddb81080dbdb7cc6292fb5c890b"), looks := true }, kinds := [], alts := [], laidByText := true, laidKinds := [.handle], laidTests := true, laidLooks := .later }
def SlotSafeUptoCardSaid : Prop := Claim7.holds Tryd.pinned (.plain (OpenSpec.upto slotSafeSpec)) slotSafeUptoCard
end Rows
end Go.Proofs.YtbajdgadljdnkafDoor
