/-
  What the call of slices.SortFunc gives where there is nothing to sort; by the library's contract.
-/
import Derived.Test.YtgmobibogoebpafDoorSort
import Derived.Shelf.SlSortCmp.NoneTotal
namespace Go.Proofs.YtgmobibogoebpafDoor
open Go.Shelf Go.RowKit Go.Lib Go.Sort

theorem sort_none (p : Option Addr) (cap : Nat) (fv : Value) (w : World) : Calls Tryd.prog 43 #[.slice p 0 cap, fv] w fun e w' => e = .returned (.tuple #[]) ∧ w' = w :=
  AnyF.slices_SortFunc_none (P := Tryd.prog) (ρ := sortL_ren) { sortL with } p cap fv w
end Go.Proofs.YtgmobibogoebpafDoor
