/-
  What lies there between the calls of a law: the blocks, as they came in and as the program has them.
-/
import Derived.Test.YtgmobibogoebpafDoorTold
import Derived.Test.YtgmobibogoebpafDoorBoth
import Derived.Test.YtgmobibogoebpafDoorRef
namespace Go.Proofs.YtgmobibogoebpafDoor
open Go.RowKit
set_option linter.unusedVariables false

structure AS (w : World) (a am : Option Addr) (l : List Bl) (wr : World) : Prop where
  bel : Below w.heap.size w wr
  et : EType wr
  bl : BL wr a l
  bm : BL wr am l
theorem AS.below {w wr w' : World} {a am : Option Addr} {l : List Bl} (h : AS w a am l wr) (hb : Below wr.heap.size wr w') : AS w a am l w' :=
  ⟨h.bel.trans (hb.mono h.bel.size), h.et.below hb h.et.pos, h.bl.below hb, h.bm.below hb⟩
theorem AS.start {w w1 : World} {a am : Option Addr} {l : List Bl} {cm : Nat} (hE : EType w) (hB : BL w a l) (ho : OwnB 88 w1 w.heap.size am cm l) (hb : Below w.heap.size w w1) : AS w a am l w1 := ⟨hb, hE.below hb hE.pos, hB.below hb, ho.bl⟩
theorem AS.fault {w wr : World} {a am : Option Addr} {l : List Bl} (h : AS w a am l wr) (cap : Nat) (p : Int) (b : Bool) (f : Nat) (hf : faultF l p b = f) : Calls Tryd.prog 22 #[.slice a l.length cap, .int .i64 p, .bool b] wr fun e w' => e = .returned (.int .i64 (f : Int)) ∧ Hid (AS w a am l w') :=
  (rfault_any a cap l p b wr h.bl).mono fun e w' ⟨h1, h2⟩ => ⟨by rw [h1, hf], h2 ▸ h⟩
theorem AS.same {w wr : World} {a am : Option Addr} {l : List Bl} (h : AS w a am l wr) (f : Nat) : Calls Tryd.prog 12 #[.iface 33 (.int .i64 (f : Int)), .int .i64 (f : Int)] wr fun e w' => e = .returned (.bool true) ∧ Hid (AS w a am l w') :=
  (error_same f wr h.et).mono fun e w' ⟨h1, h2⟩ => ⟨h1, h.below h2⟩
theorem AS.four {w wr : World} {a am : Option Addr} {l : List Bl} (h : AS w a am l wr) : Calls Tryd.prog 12 #[.iface 33 (.int .i64 4), .int .i64 4] wr fun e w' => e = .returned (.bool true) ∧ Hid (AS w a am l w') := h.same 4
theorem AS.nil {w wr : World} {a am : Option Addr} {l : List Bl} (h : AS w a am l wr) : Calls Tryd.prog 12 #[.nilIface, .int .i64 0] wr fun e w' => e = .returned (.bool true) ∧ Hid (AS w a am l w') :=
  (error_nil 0 wr).mono fun e w' ⟨h1, h2⟩ => ⟨h1, h2 ▸ h⟩
end Go.Proofs.YtgmobibogoebpafDoor
