/-
  DERIVED. GIVEN WITH THE SEED: THE CARDS: each row of YtnfjfffchhiooaaDoorRows.lean that lists a variable, with what it lists TIED to the program's text (the seventh form; the later family's looks); each row that meets fmt, with fmt's text TOLD by the authors' own Lean function (tested against real Go, not proved from fmt's source: count such statements apart). THE CARD IS WHAT COUNTS. Prove the row's statement (the work); the ties are given (YtnfjfffchhiooaaDoorTie.lean); close each card by the builder's one call (the guide's Derived/Test/ToyasCard.lean, 'card_holds'). Laid BY PROGRAM, IN A SANDBOX (cutbox-door.mjs). By AI agents, Wed Nov 11 2026. No macro, syntax, notation, axiom, sorry.
-/
import Derived.Test.YtnfjfffchhiooaaDoorRows
import GoSem.ClaimSeven
namespace Go.Proofs.YtnfjfffchhiooaaDoor
namespace Rows

/-- THE TIED CARD OF 'granarylaw3.RingPlays'. -/
def ringPlaysCard : Claim7 := { stood := { row := ringPlaysRow, standIns := [], harness := (true, "807b06beb6f9288c66b545acf92ecb441c238296efeab0a21ebfb86019afb037"), looks := true }, kinds := [], alts := [], laidByText := true, laidKinds := [.handle], laidTests := true, laidLooks := .later }
def RingPlaysCardSaid : Prop := Claim7.holds Tryd.pinned (.plain (OpenSpec.ofChange ringPlaysSpec)) ringPlaysCard

/-- THE TIED CARD OF 'granarylaw3.RingPosts'. -/
def ringPostsCard : Claim7 := { stood := { row := ringPostsRow, standIns := [], harness := (true, "807b06beb6f9288c66b545acf92ecb441c238296efeab0a21ebfb86019afb037"), looks := true }, kinds := [], alts := [], laidByText := true, laidKinds := [.handle], laidTests := true, laidLooks := .later }
def RingPostsCardSaid : Prop := Claim7.holds Tryd.pinned (.plain (OpenSpec.ofChange ringPostsSpec)) ringPostsCard

/-- THE TIED CARD OF 'granarylaw3.RingSees'. -/
def ringSeesCard : Claim7 := { stood := { row := ringSeesRow, standIns := [], harness := (true, "807b06beb6f9288c66b545acf92ecb441c238296efeab0a21ebfb86019afb037"), looks := true }, kinds := [], alts := [], laidByText := true, laidKinds := [.handle], laidTests := true, laidLooks := .later }
def RingSeesCardSaid : Prop := Claim7.holds Tryd.pinned (.plain (OpenSpec.ofChange ringSeesSpec)) ringSeesCard

/-- THE TIED CARD OF 'granarylaw3.RingRoom'. -/
def ringRoomCard : Claim7 := { stood := { row := ringRoomRow, standIns := [], harness := (true, "807b06beb6f9288c66b545acf92ecb441c238296efeab0a21ebfb86019afb037"), looks := true }, kinds := [], alts := [], laidByText := true, laidKinds := [.handle], laidTests := true, laidLooks := .later }
def RingRoomCardSaid : Prop := Claim7.holds Tryd.pinned (.plain (OpenSpec.ofChange ringRoomSpec)) ringRoomCard

/-- THE SECOND FORM's CARD OF 'granarylaw3.RingPlays'. -/
def ringPlaysUptoCard : Claim7 := { stood := { row := ringPlaysUptoRow, standIns := [], harness := (true, "807b06beb6f9288c66b545acf92ecb441c238296efeab0a21ebfb86019afb037"), looks := true }, kinds := [], alts := [], laidByText := true, laidKinds := [.handle], laidTests := true, laidLooks := .later }
def RingPlaysUptoCardSaid : Prop := Claim7.holds Tryd.pinned (.plain (OpenSpec.upto ringPlaysSpec)) ringPlaysUptoCard

/-- THE SECOND FORM's CARD OF 'granarylaw3.RingPosts'. -/
def ringPostsUptoCard : Claim7 := { stood := { row := ringPostsUptoRow, standIns := [], harness := (true, "807b06beb6f9288c66b545acf92ecb441c238296efeab0a21ebfb86019afb037"), looks := true }, kinds := [], alts := [], laidByText := true, laidKinds := [.handle], laidTests := true, laidLooks := .later }
def RingPostsUptoCardSaid : Prop := Claim7.holds Tryd.pinned (.plain (OpenSpec.upto ringPostsSpec)) ringPostsUptoCard

/-- THE SECOND FORM's CARD OF 'granarylaw3.RingSees'. -/
def ringSeesUptoCard : Claim7 := { stood := { row := ringSeesUptoRow, standIns := [], harness := (true, "807b06beb6f9288c66b545acf92ecb441c238296efeab0a21ebfb86019afb037"), looks := true }, kinds := [], alts := [], laidByText := true, laidKinds := [.handle], laidTests := true, laidLooks := .later }
def RingSeesUptoCardSaid : Prop := Claim7.holds Tryd.pinned (.plain (OpenSpec.upto ringSeesSpec)) ringSeesUptoCard

/-- THE SECOND FORM's CARD OF 'granarylaw3.RingRoom'. -/
def ringRoomUptoCard : Claim7 := { stood := { row := ringRoomUptoRow, standIns := [], harness := (true, "807b06beb6f9288c66b545acf92ecb441c238296efeab0a21ebfb86019afb037"), looks := true }, kinds := [], alts := [], laidByText := true, laidKinds := [.handle], laidTests := true, laidLooks := .later }
def RingRoomUptoCardSaid : Prop := Claim7.holds Tryd.pinned (.plain (OpenSpec.upto ringRoomSpec)) ringRoomUptoCard
end Rows
end Go.Proofs.YtnfjfffchhiooaaDoor
