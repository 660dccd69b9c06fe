/-
  What the calls of sweep.Choose and sweep.Level give: the next block; a block that was worn too little; what is wrong.
-/
import Derived.Test.YtgmobibogoebpagDoorInTurn
import Derived.Test.YtgmobibogoebpagDoorCheck
namespace Go.Proofs.YtgmobibogoebpagDoor
open Go.RowKit
set_option linter.unusedVariables false

theorem inTurn_any (a : Option Addr) (cap : Nat) (l : List Bl) (p : Int) (w : World) (h64 : l.length ≤ 64) (hB : BL w a l) :
    Calls Tryd.prog 11 #[.slice a l.length cap, .int .i64 p] w fun e w' => TurnPost w w' e l p := by
  rcases hB with rfl | ⟨g, off, rfl, hat⟩
  · exact inTurn_none a cap p w
  · by_cases h0 : 0 < l.length
    · exact inTurn_some g off cap l p w h64 h0 hat
    · obtain rfl : l = [] := List.length_eq_zero_iff.1 (by omega)
      exact inTurn_none _ cap p w
end Go.Proofs.YtgmobibogoebpagDoor
