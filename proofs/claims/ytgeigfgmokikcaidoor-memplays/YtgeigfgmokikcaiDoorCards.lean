/-
  DERIVED. GIVEN WITH THE SEED: THE CARDS: each row of YtgeigfgmokikcaiDoorRows.lean that lists a variable, with what it lists TIED to the program's text (the seventh form; the later family's looks); each row that meets fmt, with fmt's text TOLD by the authors' own Lean function (tested against real Go, not proved from fmt's source: count such statements apart). THE CARD IS WHAT COUNTS. Prove the row's statement (the work); the ties are given (YtgeigfgmokikcaiDoorTie.lean); close each card by the builder's one call (the guide's Derived/Test/ToyasCard.lean, 'card_holds'). Laid BY PROGRAM, IN A SANDBOX (cutbox-door.mjs). By AI agents, Wed Nov 11 2026. No macro, syntax, notation, axiom, sorry.
-/
import Derived.Test.YtgeigfgmokikcaiDoorRows
import GoSem.ClaimSeven
namespace Go.Proofs.YtgeigfgmokikcaiDoor
namespace Rows

/-- THE TIED CARD OF 'granarylaw3.MemPlays'. -/
def memPlaysCard : Claim7 := { stood := { row := memPlaysRow, standIns := [], harness := (true, "6b74b0a768f655c052fb7c3204cdb513788c0df21e5a07c9cea60c69d3f6ac84"), looks := true }, kinds := [], alts := [], laidByText := true, laidKinds := [.handle], laidTests := true, laidLooks := .later }
def MemPlaysCardSaid : Prop := Claim7.holds Tryd.pinned (.plain (OpenSpec.ofChange memPlaysSpec)) memPlaysCard

/-- THE SECOND FORM's CARD OF 'granarylaw3.MemPlays'. -/
def memPlaysUptoCard : Claim7 := { stood := { row := memPlaysUptoRow, standIns := [], harness := (true, "6b74b0a768f655c052fb7c3204cdb513788c0df21e5a07c9cea60c69d3f6ac84"), looks := true }, kinds := [], alts := [], laidByText := true, laidKinds := [.handle], laidTests := true, laidLooks := .later }
def MemPlaysUptoCardSaid : Prop := Claim7.holds Tryd.pinned (.plain (OpenSpec.upto memPlaysSpec)) memPlaysUptoCard
end Rows
end Go.Proofs.YtgeigfgmokikcaiDoor
