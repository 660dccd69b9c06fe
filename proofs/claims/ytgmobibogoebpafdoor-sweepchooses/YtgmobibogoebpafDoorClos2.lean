/-
  What the call of the closure that package sweep sorts by gives: which of two blocks is emptied first; nothing that was there has turned.
-/
import Derived.Test.YtgmobibogoebpafDoorClos
namespace Go.Proofs.YtgmobibogoebpafDoor
open Go.RowKit Go.Sort
set_option linter.unusedVariables false

theorem or_new (W : World) (x y z : Int) : Calls Tryd.prog 45 #[.slice (some ⟨W.heap.size, 0, none⟩) 3 3] (W.alloc (.cells #[.int .i64 x, .int .i64 y, .int .i64 z] 3)).drew fun e w' => e = .returned (.int .i64 (orI [x, y, z])) ∧ w' = (W.alloc (.cells #[.int .i64 x, .int .i64 y, .int .i64 z] 3)).drew := by
  refine or_any W.heap.size 3 [x, y, z] _ (by simp) (fun i hi => ?_)
  have h : i = 0 ∨ i = 1 ∨ i = 2 := by simp at hi; omega
  rcases h with rfl | rfl | rfl <;> simp
set_option maxRecDepth 100000 in
set_option maxHeartbeats 4000000 in
theorem clos_any (bx g off cap n : Nat) (i j : Nat) (bi bj : Bl) (w : World) (hi : i < n) (hj : j < n) (hn : n ≤ 64) (hb : w.cell? ⟨bx, 0, none⟩ = some (.slice (some ⟨g, off, none⟩) n cap)) (h1 : BlAt w g off i bi) (h2 : BlAt w g off j bj) :
    Calls Tryd.prog 44 #[.int .i64 (i : Nat), .int .i64 (j : Nat), .pointer (some ⟨bx, 0, none⟩)] w fun e w' => e = .returned (.int .i64 (orI [cmpI bi.live bj.live, cmpI bi.wear bj.wear, cmpI (i : Int) (j : Int)])) ∧ ∃ q os', w' = grow (w.drewN q) os' := by
  have i0 : (0 : Int) ≤ (i : Int) := by omega
  have i1 : (i : Int) < (n : Int) := by omega
  have j0 : (0 : Int) ≤ (j : Int) := by omega
  have j1 : (j : Int) < (n : Int) := by omega
  obtain ⟨_, l1, r1⟩ := h1
  obtain ⟨_, l2, r2⟩ := h2
  have HE : Hid (∀ o : Obj, ∃ q os', (w.alloc o).drew = grow (w.drewN q) os') := fun o => ⟨1, #[o], by rw [alloc_eq_grow, drew_grow]; rfl⟩
  have n1 := World.new_ne w ⟨bx, 0, none⟩ hb
  have n2 := World.new_ne w ⟨g, off + i * 3 + 1, none⟩ l1
  have HC : Hid (∀ x y W, Calls Tryd.prog 46 #[.int .i64 x, .int .i64 y] W fun e w' => e = .returned (.int .i64 (cmpI x y)) ∧ w' = W) := compare_any
  clear hi hj
  generalize bi.live = bil at *
  generalize bj.live = bjl at *
  generalize bi.wear = biw at *
  generalize bj.wear = bjw at *
  go_enter Tryd.func44, Tryd.ntmps44
  go_wp2
  go_region_held3 (fun w' => w'.cell? ⟨bx, 0, none⟩ = some (.slice (some ⟨g, off, none⟩) n cap) ∧ w'.cell? ⟨g, off + i * 3 + 1, none⟩ = some (.int .i64 bil) ∧ w'.cell? ⟨g, off + i * 3 + 2, none⟩ = some (.int .i64 biw) ∧ w'.cell? ⟨g, off + j * 3 + 1, none⟩ = some (.int .i64 bjl) ∧ w'.cell? ⟨g, off + j * 3 + 2, none⟩ = some (.int .i64 bjw)) (first | assumption | go_keep) (first | (go_at_call 46; refine (HC.out _ _ _).mono ?_; rintro e w' ⟨rfl, rfl⟩) | (go_at_call 45; refine (or_new _ _ _ _).mono ?_; rintro e w' ⟨rfl, rfl⟩))
  go_wp2
  go_ret
  exact ⟨rfl, HE.out _⟩
end Go.Proofs.YtgmobibogoebpafDoor
