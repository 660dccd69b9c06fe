/-
  DERIVED. GIVEN WITH THE SEED: THE CARDS: each row of YtdkafcgangcgbajDoorRows.lean that lists a variable, with what it lists TIED to the program's text (the seventh form; the later family's looks); each row that meets fmt, with fmt's text TOLD by the authors' own Lean function (tested against real Go, not proved from fmt's source: count such statements apart). THE CARD IS WHAT COUNTS. Prove the row's statement (the work); the ties are given (YtdkafcgangcgbajDoorTie.lean); close each card by the builder's one call (the guide's Derived/Test/ToyasCard.lean, 'card_holds'). Laid BY PROGRAM, IN A SANDBOX (cutbox-door.mjs). By AI agents, Wed Nov 11 2026. No macro, syntax, notation, axiom, sorry.
-/
import Derived.Test.YtdkafcgangcgbajDoorRows
import GoSem.ClaimSeven
namespace Go.Proofs.YtdkafcgangcgbajDoor
namespace Rows

/-- THE TIED CARD OF 'granarylaw3.ListWalks'. -/
def listWalksCard : Claim7 := { stood := { row := listWalksRow, standIns := [], harness := (true, "103fa6691211c81052672fac5abeaa0694044fe8ec93a69e9d0ff8b9c5e8ec81"), looks := true }, kinds := [], alts := [], laidByText := true, laidKinds := [.handle], laidTests := true, laidLooks := .later }
def ListWalksCardSaid : Prop := Claim7.holds Tryd.pinned (.plain (OpenSpec.ofChange listWalksSpec)) listWalksCard

/-- THE TIED CARD OF 'granarylaw3.ListMoves'. -/
def listMovesCard : Claim7 := { stood := { row := listMovesRow, standIns := [], harness := (true, "103fa6691211c81052672fac5abeaa0694044fe8ec93a69e9d0ff8b9c5e8ec81"), looks := true }, kinds := [], alts := [], laidByText := true, laidKinds := [.handle], laidTests := true, laidLooks := .later }
def ListMovesCardSaid : Prop := Claim7.holds Tryd.pinned (.plain (OpenSpec.ofChange listMovesSpec)) listMovesCard

/-- THE SECOND FORM's CARD OF 'granarylaw3.ListWalks'. -/
def listWalksUptoCard : Claim7 := { stood := { row := listWalksUptoRow, standIns := [], harness := (true, "103fa6691211c81052672fac5abeaa0694044fe8ec93a69e9d0ff8b9c5e8ec81"), looks := true }, kinds := [], alts := [], laidByText := true, laidKinds := [.handle], laidTests := true, laidLooks := .later }
def ListWalksUptoCardSaid : Prop := Claim7.holds Tryd.pinned (.plain (OpenSpec.upto listWalksSpec)) listWalksUptoCard

/-- THE SECOND FORM's CARD OF 'granarylaw3.ListMoves'. -/
def listMovesUptoCard : Claim7 := { stood := { row := listMovesUptoRow, standIns := [], harness := (true, "103fa6691211c81052672fac5abeaa0694044fe8ec93a69e9d0ff8b9c5e8ec81"), looks := true }, kinds := [], alts := [], laidByText := true, laidKinds := [.handle], laidTests := true, laidLooks := .later }
def ListMovesUptoCardSaid : Prop := Claim7.holds Tryd.pinned (.plain (OpenSpec.upto listMovesSpec)) listMovesUptoCard
end Rows
end Go.Proofs.YtdkafcgangcgbajDoor
