/-
  DERIVED. GIVEN WITH THE SEED: THE CARDS: each row of YtjlgehmebfkioaaGreatDoorRows.lean that lists a variable, with what it lists TIED to the program's text (the seventh form; the later family's looks); each row that meets fmt, with fmt's text TOLD by the authors' own Lean function (tested against real Go, not proved from fmt's source: count such statements apart). THE CARD IS WHAT COUNTS. Prove the row's statement (the work); the ties are given (YtjlgehmebfkioaaGreatDoorTie.lean); close each card by the builder's one call (the guide's Derived/Test/ToyasCard.lean, 'card_holds'). Laid BY PROGRAM, IN A SANDBOX (cutbox-door.mjs). By AI agents, Wed Nov 11 2026. No macro, syntax, notation, axiom, sorry.
-/
import Derived.Test.YtjlgehmebfkioaaGreatDoorRows
import GoSem.ClaimSeven
namespace Go.Proofs.YtjlgehmebfkioaaGreatDoor
namespace Rows

/-- THE TIED CARD OF 'granarylaw2.DiskPlays'. -/
def diskPlaysCard : Claim7 := { stood := { row := diskPlaysRow, standIns := [], harness := (true, "58e1f38a4d28b99aff02e573f4d81191e589544172d7bca057cd455458be3315"), looks := true }, kinds := [], alts := [], goes := true, laidByText := true, laidKinds := [.handle], laidTests := true, laidLooks := .later }
def DiskPlaysCardSaid : Prop := Claim7.holds Tryz.pinned (.plain (OpenSpec.ofChange diskPlaysSpec)) diskPlaysCard

/-- THE TIED CARD OF 'granarylaw2.DiskLatches'. -/
def diskLatchesCard : Claim7 := { stood := { row := diskLatchesRow, standIns := [], harness := (true, "58e1f38a4d28b99aff02e573f4d81191e589544172d7bca057cd455458be3315"), looks := true }, kinds := [], alts := [], goes := true, laidByText := true, laidKinds := [.handle], laidTests := true, laidLooks := .later }
def DiskLatchesCardSaid : Prop := Claim7.holds Tryz.pinned (.plain (OpenSpec.ofChange diskLatchesSpec)) diskLatchesCard

/-- THE TIED CARD OF 'granarylaw2.DiskStorms'. -/
def diskStormsCard : Claim7 := { stood := { row := diskStormsRow, standIns := [], harness := (true, "58e1f38a4d28b99aff02e573f4d81191e589544172d7bca057cd455458be3315"), looks := true }, kinds := [], alts := [], goes := true, laidByText := true, laidKinds := [.handle], laidTests := true, laidLooks := .later }
def DiskStormsCardSaid : Prop := Claim7.holds Tryz.pinned (.plain (OpenSpec.ofChange diskStormsSpec)) diskStormsCard

/-- THE TIED CARD OF 'granarylaw2.DiskFlushes'. -/
def diskFlushesCard : Claim7 := { stood := { row := diskFlushesRow, standIns := [], harness := (true, "58e1f38a4d28b99aff02e573f4d81191e589544172d7bca057cd455458be3315"), looks := true }, kinds := [], alts := [], goes := true, laidByText := true, laidKinds := [.handle], laidTests := true, laidLooks := .later }
def DiskFlushesCardSaid : Prop := Claim7.holds Tryz.pinned (.plain (OpenSpec.ofChange diskFlushesSpec)) diskFlushesCard

/-- THE TIED CARD OF 'granarylaw2.DiskWeary'. -/
def diskWearyCard : Claim7 := { stood := { row := diskWearyRow, standIns := [], harness := (true, "58e1f38a4d28b99aff02e573f4d81191e589544172d7bca057cd455458be3315"), looks := true }, kinds := [], alts := [], goes := true, laidByText := true, laidKinds := [.handle], laidTests := true, laidLooks := .later }
def DiskWearyCardSaid : Prop := Claim7.holds Tryz.pinned (.plain (OpenSpec.ofChange diskWearySpec)) diskWearyCard

/-- THE TIED CARD OF 'granarylaw2.DiskSilent'. -/
def diskSilentCard : Claim7 := { stood := { row := diskSilentRow, standIns := [], harness := (true, "58e1f38a4d28b99aff02e573f4d81191e589544172d7bca057cd455458be3315"), looks := true }, kinds := [], alts := [], goes := true, laidByText := true, laidKinds := [.handle], laidTests := true, laidLooks := .later }
def DiskSilentCardSaid : Prop := Claim7.holds Tryz.pinned (.plain (OpenSpec.ofChange diskSilentSpec)) diskSilentCard

/-- THE SECOND FORM's CARD OF 'granarylaw2.DiskPlays'. -/
def diskPlaysUptoCard : Claim7 := { stood := { row := diskPlaysUptoRow, standIns := [], harness := (true, "58e1f38a4d28b99aff02e573f4d81191e589544172d7bca057cd455458be3315"), looks := true }, kinds := [], alts := [], goes := true, laidByText := true, laidKinds := [.handle], laidTests := true, laidLooks := .later }
def DiskPlaysUptoCardSaid : Prop := Claim7.holds Tryz.pinned (.plain (OpenSpec.upto diskPlaysSpec)) diskPlaysUptoCard

/-- THE SECOND FORM's CARD OF 'granarylaw2.DiskLatches'. -/
def diskLatchesUptoCard : Claim7 := { stood := { row := diskLatchesUptoRow, standIns := [], harness := (true, "58e1f38a4d28b99aff02e573f4d81191e589544172d7bca057cd455458be3315"), looks := true }, kinds := [], alts := [], goes := true, laidByText := true, laidKinds := [.handle], laidTests := true, laidLooks := .later }
def DiskLatchesUptoCardSaid : Prop := Claim7.holds Tryz.pinned (.plain (OpenSpec.upto diskLatchesSpec)) diskLatchesUptoCard

/-- THE SECOND FORM's CARD OF 'granarylaw2.DiskStorms'. -/
def diskStormsUptoCard : Claim7 := { stood := { row := diskStormsUptoRow, standIns := [], harness := (true, "58e1f38a4d28b99aff02e573f4d81191e589544172d7bca057cd455458be3315"), looks := true }, kinds := [], alts := [], goes := true, laidByText := true, laidKinds := [.handle], laidTests := true, laidLooks := .later }
def DiskStormsUptoCardSaid : Prop := Claim7.holds Tryz.pinned (.plain (OpenSpec.upto diskStormsSpec)) diskStormsUptoCard

/-- THE SECOND FORM's CARD OF 'granarylaw2.DiskFlushes'. -/
def diskFlushesUptoCard : Claim7 := { stood := { row := diskFlushesUptoRow, standIns := [], harness := (true, "58e1f38a4d28b99aff02e573f4d81191e589544172d7bca057cd455458be3315"), looks := true }, kinds := [], alts := [], goes := true, laidByText := true, laidKinds := [.handle], laidTests := true, laidLooks := .later }
def DiskFlushesUptoCardSaid : Prop := Claim7.holds Tryz.pinned (.plain (OpenSpec.upto diskFlushesSpec)) diskFlushesUptoCard

/-- THE SECOND FORM's CARD OF 'granarylaw2.DiskWeary'. -/
def diskWearyUptoCard : Claim7 := { stood := { row := diskWearyUptoRow, standIns := [], harness := (true, "58e1f38a4d28b99aff02e573f4d81191e589544172d7bca057cd455458be3315"), looks := true }, kinds := [], alts := [], goes := true, laidByText := true, laidKinds := [.handle], laidTests := true, laidLooks := .later }
def DiskWearyUptoCardSaid : Prop := Claim7.holds Tryz.pinned (.plain (OpenSpec.upto diskWearySpec)) diskWearyUptoCard

/-- THE SECOND FORM's CARD OF 'granarylaw2.DiskSilent'. -/
def diskSilentUptoCard : Claim7 := { stood := { row := diskSilentUptoRow, standIns := [], harness := (true, "58e1f38a4d28b99aff02e573f4d81191e589544172d7bca057cd455458be3315"), looks := true }, kinds := [], alts := [], goes := true, laidByText := true, laidKinds := [.handle], laidTests := true, laidLooks := .later }
def DiskSilentUptoCardSaid : Prop := Claim7.holds Tryz.pinned (.plain (OpenSpec.upto diskSilentSpec)) diskSilentUptoCard
end Rows
end Go.Proofs.YtjlgehmebfkioaaGreatDoor
