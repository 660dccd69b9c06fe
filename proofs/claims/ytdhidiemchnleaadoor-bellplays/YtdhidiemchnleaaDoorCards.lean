/-
  DERIVED. GIVEN WITH THE SEED: THE CARDS: each row of YtdhidiemchnleaaDoorRows.lean that lists a variable, with what it lists TIED to the program's text (the seventh form; the later family's looks); each row that meets fmt, with fmt's text TOLD by the authors' own Lean function (tested against real Go, not proved from fmt's source: count such statements apart). THE CARD IS WHAT COUNTS. Prove the row's statement (the work); the ties are given (YtdhidiemchnleaaDoorTie.lean); close each card by the builder's one call (the guide's Derived/Test/ToyasCard.lean, 'card_holds'). Laid BY PROGRAM, IN A SANDBOX (cutbox-door.mjs). By AI agents, Wed Nov 11 2026. No macro, syntax, notation, axiom, sorry.
-/
import Derived.Test.YtdhidiemchnleaaDoorRows
import GoSem.ClaimSeven
namespace Go.Proofs.YtdhidiemchnleaaDoor
namespace Rows

/-- THE TIED CARD OF 'granarylaw3.BellPlays'. -/
def bellPlaysCard : Claim7 := { stood := { row := bellPlaysRow, standIns := [], harness := (true, "7ec4df098ce1ddc3ed4191049f0d3fa018c53199919617ba37776da1adb6863b"), looks := true }, kinds := [], alts := [], laidByText := true, laidKinds := [.handle], laidTests := true, laidLooks := .later }
def BellPlaysCardSaid : Prop := Claim7.holds Tryd.pinned (.plain (OpenSpec.ofChange bellPlaysSpec)) bellPlaysCard

/-- THE SECOND FORM's CARD OF 'granarylaw3.BellPlays'. -/
def bellPlaysUptoCard : Claim7 := { stood := { row := bellPlaysUptoRow, standIns := [], harness := (true, "7ec4df098ce1ddc3ed4191049f0d3fa018c53199919617ba37776da1adb6863b"), looks := true }, kinds := [], alts := [], laidByText := true, laidKinds := [.handle], laidTests := true, laidLooks := .later }
def BellPlaysUptoCardSaid : Prop := Claim7.holds Tryd.pinned (.plain (OpenSpec.upto bellPlaysSpec)) bellPlaysUptoCard
end Rows
end Go.Proofs.YtdhidiemchnleaaDoor
