/-
  DERIVED. GIVEN WITH THE SEED: THE CARDS: each row of YtobpjijdebnaoaaDoorRows.lean that lists a variable, with what it lists TIED to the program's text (the seventh form; the later family's looks); each row that meets fmt, with fmt's text TOLD by the authors' own Lean function (tested against real Go, not proved from fmt's source: count such statements apart). THE CARD IS WHAT COUNTS. Prove the row's statement (the work); the ties are given (YtobpjijdebnaoaaDoorTie.lean); close each card by the builder's one call (the guide's Derived/Test/ToyasCard.lean, 'card_holds'). Laid BY PROGRAM, IN A SANDBOX (cutbox-door.mjs). By AI agents, Wed Nov 11 2026. No macro, syntax, notation, axiom, sorry.
-/
import Derived.Test.YtobpjijdebnaoaaDoorRows
import GoSem.ClaimSeven
namespace Go.Proofs.YtobpjijdebnaoaaDoor
namespace Rows

/-- THE TIED CARD OF 'granarytop.TopDecay'. -/
def topDecayCard : Claim7 := { stood := { row := topDecayRow, standIns := [], harness := (true, "96f7af5ec1fa11af137ef1926a57639b5d5da0d0dca5ba8792e23193157c518b"), looks := false }, kinds := [], alts := [], goes := true, laidByText := true, laidKinds := [.data], laidTests := true, laidLooks := .later }
def TopDecayCardSaid : Prop := Claim7.holds Tryd.pinned (.plain (OpenSpec.ofChange topDecaySpec)) topDecayCard

/-- THE SECOND FORM's CARD OF 'granarytop.TopDecay'. -/
def topDecayUptoCard : Claim7 := { stood := { row := topDecayUptoRow, standIns := [], harness := (true, "96f7af5ec1fa11af137ef1926a57639b5d5da0d0dca5ba8792e23193157c518b"), looks := false }, kinds := [], alts := [], goes := true, laidByText := true, laidKinds := [.data], laidTests := true, laidLooks := .later }
def TopDecayUptoCardSaid : Prop := Claim7.holds Tryd.pinned (.plain (OpenSpec.upto topDecaySpec)) topDecayUptoCard
end Rows
end Go.Proofs.YtobpjijdebnaoaaDoor
