/-
  What the call of granarylaw1.poolFact gives: true.
-/
import Derived.Test.YtebnjoammfidnadDoorLaw
namespace Go.Proofs.YtebnjoammfidnadDoor
open Go.RowKit
set_option linter.unusedVariables false

set_option maxRecDepth 100000 in
set_option maxHeartbeats 1000000 in
theorem fact_any (w : World) : Calls Tryd.prog 4 #[] w fun e w' => e = .returned (.bool true) ∧ Below w.heap.size w w' := by
  have HN : Hid (Calls Tryd.prog 5 #[.int .i64 ((2 : Nat) : Int), .int .i64 ((0 : Nat) : Int)] w fun e w' => ∃ pb bb, e = .returned (.tuple #[.pointer (some ⟨pb, 0, none⟩), .nilIface]) ∧ PA 2 0 (fun b => b < w.heap.size) w' pb bb fresh ∧ Below w.heap.size w w') := new_yes 2 0 w (by omega) (by omega) (by omega)
  have HT : Hid ((takeF 2 0 fresh).1 = (0, 0) ∧ cnt (takeF 2 0 fresh).2.st 0 2 = 1 ∧ cnt (takeF 2 0 fresh).2.st 1 2 = 1) := ⟨rfl, rfl, rfl⟩
  go_enter Tryd.func4, Tryd.ntmps4
  go_wp2_with fail
  refine HN.out.mono ?_
  rintro e w1 ⟨pb, bb, rfl, h1, hb1⟩
  have H1 : Hid (PA 2 0 (fun b => b < w.heap.size) w1 pb bb fresh ∧ Below w.heap.size w w1) := ⟨h1, hb1⟩
  clear h1 hb1 HN
  have hT := take_any H1.out.1
  rw [show (takeF 2 0 fresh).1.1 = 0 by rw [HT.out.1], show (takeF 2 0 fresh).1.2 = 0 by rw [HT.out.1], errI0] at hT
  generalize hs : (takeF 2 0 fresh).2 = s1 at hT HT
  have HC : Hid (Calls Tryd.prog 8 #[.pointer (some ⟨pb, 0, none⟩)] w1 fun e w' => e = .returned (.tuple #[.int .i64 ((0 : Nat) : Int), .nilIface]) ∧ PA 2 0 (fun b => b < w.heap.size) w' pb bb s1 ∧ Keep (fun b => ¬ b < w.heap.size) w1 w') := hT
  clear hT hs
  go_wp2_with fail
  refine HC.out.mono ?_
  rintro e w2 ⟨rfl, h2, hk2⟩
  have H2 : Hid (PA 2 0 (fun b => b < w.heap.size) w2 pb bb s1 ∧ Below w.heap.size w w2) := ⟨h2, H1.out.2.trans (hk2.base H1.out.2.size (fun b hb => hb))⟩
  clear h2 hk2 HC
  have hC := pa_count H2.out.1
  rw [HT.out.2.1, HT.out.2.2] at hC
  generalize cnt s1.st 2 2 = x2 at hC
  have HC2 : Hid (Calls Tryd.prog 6 #[.pointer (some ⟨pb, 0, none⟩)] w2 fun e w' => e = .returned (.tuple #[.int .i64 ((1 : Nat) : Int), .int .i64 ((1 : Nat) : Int), .int .i64 (x2 : Int)]) ∧ Below w2.heap.size w2 w') := hC
  clear hC HT
  go_wp2_with fail
  refine HC2.out.mono ?_
  rintro e w3 ⟨rfl, hb3⟩
  have HF : Hid (Below w.heap.size w w3) := H2.out.2.trans (hb3.mono H2.out.2.size)
  clear hb3 HC2
  go_wp2
  go_ret
  exact ⟨rfl, HF.out⟩
end Go.Proofs.YtebnjoammfidnadDoor
