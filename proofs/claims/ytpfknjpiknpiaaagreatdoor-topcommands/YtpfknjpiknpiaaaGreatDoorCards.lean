/-
  DERIVED. GIVEN WITH THE SEED: THE CARDS: each row of YtpfknjpiknpiaaaGreatDoorRows.lean that lists a variable, with what it lists TIED to the program's text (the seventh form; the later family's looks); each row that meets fmt, with fmt's text TOLD by the authors' own Lean function (tested against real Go, not proved from fmt's source: count such statements apart). THE CARD IS WHAT COUNTS. Prove the row's statement (the work); the ties are given (YtpfknjpiknpiaaaGreatDoorTie.lean); close each card by the builder's one call (the guide's Derived/Test/ToyasCard.lean, 'card_holds'). Laid BY PROGRAM, IN A SANDBOX (cutbox-door.mjs). By AI agents, Wed Nov 11 2026. No macro, syntax, notation, axiom, sorry.
-/
import Derived.Test.YtpfknjpiknpiaaaGreatDoorRows
import GoSem.ClaimSeven
namespace Go.Proofs.YtpfknjpiknpiaaaGreatDoor
namespace Rows

/-- THE TIED CARD OF 'granarytop.TopCommands'. -/
def topCommandsCard : Claim7 := { stood := { row := topCommandsRow, standIns := [], harness := (true, "dab982ff751db6dfcc9a39e0790a142826cdc67624309197e0935cbd44fe4ef4"), looks := false }, kinds := [], alts := [], goes := true, laidByText := true, laidKinds := [.data], laidTests := true, laidLooks := .later }
def TopCommandsCardSaid : Prop := Claim7.holds Tryz.pinned (.plain (OpenSpec.ofChange topCommandsSpec)) topCommandsCard

/-- THE SECOND FORM's CARD OF 'granarytop.TopCommands'. -/
def topCommandsUptoCard : Claim7 := { stood := { row := topCommandsUptoRow, standIns := [], harness := (true, "dab982ff751db6dfcc9a39e0790a142826cdc67624309197e0935cbd44fe4ef4"), looks := false }, kinds := [], alts := [], goes := true, laidByText := true, laidKinds := [.data], laidTests := true, laidLooks := .later }
def TopCommandsUptoCardSaid : Prop := Claim7.holds Tryz.pinned (.plain (OpenSpec.upto topCommandsSpec)) topCommandsUptoCard
end Rows
end Go.Proofs.YtpfknjpiknpiaaaGreatDoor
