/-
  What the call of the list's remove gives: two cells are set.
-/
import Derived.Test.YtphacdnepjpmoafMem
namespace Go.Proofs.Ytphacdnepjpmoaf
open Go.RowKit
set_option linter.unusedVariables false

/-- The cell that leads to what stands behind p. -/
def pa (bb : Nat) : Option Nat → Addr
  | none => ⟨bb, 1, none⟩
  | some y => ⟨y, 4, none⟩
/-- The cell that leads to what stands ahead of n. -/
def na (bb : Nat) : Option Nat → Addr
  | none => ⟨bb, 2, none⟩
  | some z => ⟨z, 3, none⟩
set_option maxRecDepth 100000 in
set_option maxHeartbeats 1000000 in
theorem lrem_nn (w : World) (bb x : Nat) (u1 u2 : Value) (hx : x ≠ bb) (c3 : w.cell? ⟨x, 3, none⟩ = some (.pointer none)) (c4 : w.cell? ⟨x, 4, none⟩ = some (.pointer none)) (b1 : w.cell? ⟨bb, 1, none⟩ = some u1) (b2 : w.cell? ⟨bb, 2, none⟩ = some u2) (f1 : w.frozen? ⟨bb, 1, none⟩ = false) (f2 : w.frozen? ⟨bb, 2, none⟩ = false) :
    Calls Try.prog 25 #[.pointer (some ⟨bb, 1, none⟩), .pointer (some ⟨x, 0, none⟩)] w fun e w' => e = .returned (.tuple #[]) ∧ ∃ q, w' = ((w.setCell ⟨bb, 1, none⟩ (.pointer none)).setCell ⟨bb, 2, none⟩ (.pointer none)).drewN q := by
  have d3 : (w.setCell ⟨bb, 1, none⟩ (.pointer none)).cell? ⟨x, 3, none⟩ = some (.pointer none) := by rw [far _ (by omega)]; exact c3
  have d4 : (w.setCell ⟨bb, 1, none⟩ (.pointer none)).cell? ⟨x, 4, none⟩ = some (.pointer none) := by rw [far _ (by omega)]; exact c4
  have d2 : (w.setCell ⟨bb, 1, none⟩ (.pointer none)).cell? ⟨bb, 2, none⟩ = some u2 := by rw [far _ (by omega)]; exact b2
  go_enter Try.func25, Try.ntmps25
  go_wp2
  go_end0
  exact ⟨rfl, 0, rfl⟩
set_option maxRecDepth 100000 in
set_option maxHeartbeats 1000000 in
theorem lrem_ns (w : World) (bb x z : Nat) (u1 u2 : Value) (hx : x ≠ bb) (hz : x ≠ z) (hbz : bb ≠ z) (c3 : w.cell? ⟨x, 3, none⟩ = some (.pointer none)) (c4 : w.cell? ⟨x, 4, none⟩ = some (.pointer (some ⟨z, 0, none⟩))) (b1 : w.cell? ⟨bb, 1, none⟩ = some u1) (b2 : w.cell? ⟨z, 3, none⟩ = some u2) (f1 : w.frozen? ⟨bb, 1, none⟩ = false) (f2 : w.frozen? ⟨z, 3, none⟩ = false) :
    Calls Try.prog 25 #[.pointer (some ⟨bb, 1, none⟩), .pointer (some ⟨x, 0, none⟩)] w fun e w' => e = .returned (.tuple #[]) ∧ ∃ q, w' = ((w.setCell ⟨bb, 1, none⟩ (.pointer (some ⟨z, 0, none⟩))).setCell ⟨z, 3, none⟩ (.pointer none)).drewN q := by
  have d3 : (w.setCell ⟨bb, 1, none⟩ (.pointer (some ⟨z, 0, none⟩))).cell? ⟨x, 3, none⟩ = some (.pointer none) := by rw [far _ (by omega)]; exact c3
  have d4 : (w.setCell ⟨bb, 1, none⟩ (.pointer (some ⟨z, 0, none⟩))).cell? ⟨x, 4, none⟩ = some (.pointer (some ⟨z, 0, none⟩)) := by rw [far _ (by omega)]; exact c4
  have d2 : (w.setCell ⟨bb, 1, none⟩ (.pointer (some ⟨z, 0, none⟩))).cell? ⟨z, 3, none⟩ = some u2 := by rw [far _ (by omega)]; exact b2
  go_enter Try.func25, Try.ntmps25
  go_wp2
  go_region
  all_goals (try go_wp2)
  all_goals go_end0
  all_goals exact ⟨rfl, _, rfl⟩
set_option maxRecDepth 100000 in
set_option maxHeartbeats 1000000 in
theorem lrem_sn (w : World) (bb x y : Nat) (u1 u2 : Value) (hx : x ≠ bb) (hy : x ≠ y) (hby : bb ≠ y) (c3 : w.cell? ⟨x, 3, none⟩ = some (.pointer (some ⟨y, 0, none⟩))) (c4 : w.cell? ⟨x, 4, none⟩ = some (.pointer none)) (b1 : w.cell? ⟨y, 4, none⟩ = some u1) (b2 : w.cell? ⟨bb, 2, none⟩ = some u2) (f1 : w.frozen? ⟨y, 4, none⟩ = false) (f2 : w.frozen? ⟨bb, 2, none⟩ = false) :
    Calls Try.prog 25 #[.pointer (some ⟨bb, 1, none⟩), .pointer (some ⟨x, 0, none⟩)] w fun e w' => e = .returned (.tuple #[]) ∧ ∃ q, w' = ((w.setCell ⟨y, 4, none⟩ (.pointer none)).setCell ⟨bb, 2, none⟩ (.pointer (some ⟨y, 0, none⟩))).drewN q := by
  have d3 : (w.setCell ⟨y, 4, none⟩ (.pointer none)).cell? ⟨x, 3, none⟩ = some (.pointer (some ⟨y, 0, none⟩)) := by rw [far _ (by omega)]; exact c3
  have d4 : (w.setCell ⟨y, 4, none⟩ (.pointer none)).cell? ⟨x, 4, none⟩ = some (.pointer none) := by rw [far _ (by omega)]; exact c4
  have d2 : (w.setCell ⟨y, 4, none⟩ (.pointer none)).cell? ⟨bb, 2, none⟩ = some u2 := by rw [far _ (by omega)]; exact b2
  go_enter Try.func25, Try.ntmps25
  go_wp2
  go_region
  all_goals (try go_wp2)
  all_goals go_end0
  all_goals exact ⟨rfl, _, rfl⟩
set_option maxRecDepth 100000 in
set_option maxHeartbeats 2000000 in
theorem lrem_ss (w : World) (bb x y z : Nat) (u1 u2 : Value) (hy : x ≠ y) (hz : x ≠ z) (hyz : y ≠ z) (c3 : w.cell? ⟨x, 3, none⟩ = some (.pointer (some ⟨y, 0, none⟩))) (c4 : w.cell? ⟨x, 4, none⟩ = some (.pointer (some ⟨z, 0, none⟩))) (b1 : w.cell? ⟨y, 4, none⟩ = some u1) (b2 : w.cell? ⟨z, 3, none⟩ = some u2) (f1 : w.frozen? ⟨y, 4, none⟩ = false) (f2 : w.frozen? ⟨z, 3, none⟩ = false) :
    Calls Try.prog 25 #[.pointer (some ⟨bb, 1, none⟩), .pointer (some ⟨x, 0, none⟩)] w fun e w' => e = .returned (.tuple #[]) ∧ ∃ q, w' = ((w.setCell ⟨y, 4, none⟩ (.pointer (some ⟨z, 0, none⟩))).setCell ⟨z, 3, none⟩ (.pointer (some ⟨y, 0, none⟩))).drewN q := by
  have d3 : (w.setCell ⟨y, 4, none⟩ (.pointer (some ⟨z, 0, none⟩))).cell? ⟨x, 3, none⟩ = some (.pointer (some ⟨y, 0, none⟩)) := by rw [far _ (by omega)]; exact c3
  have d4 : (w.setCell ⟨y, 4, none⟩ (.pointer (some ⟨z, 0, none⟩))).cell? ⟨x, 4, none⟩ = some (.pointer (some ⟨z, 0, none⟩)) := by rw [far _ (by omega)]; exact c4
  have d2 : (w.setCell ⟨y, 4, none⟩ (.pointer (some ⟨z, 0, none⟩))).cell? ⟨z, 3, none⟩ = some u2 := by rw [far _ (by omega)]; exact b2
  go_enter Try.func25, Try.ntmps25
  go_wp2
  go_region
  all_goals (try go_wp2)
  all_goals go_region
  all_goals (try go_wp2)
  all_goals go_end0
  all_goals exact ⟨rfl, 2, rfl⟩
end Go.Proofs.Ytphacdnepjpmoaf
