/-
  What the calls of plain.Told and granarysame.Error give of an error that is nil or an api.Errno: its number; nothing that was there has turned.
-/
import Derived.Test.YtohngekkbgklfaaDoorAs
namespace Go.Proofs.YtohngekkbgklfaaDoor
open Go.RowKit

theorem EType.pos {w : World} (h : EType w) : 0 < w.heap.size := World.block_lt_of_cell? w _ h
theorem EType.below {w w' : World} {B : Nat} (h : EType w) (hb : Below B w w') (hB : 0 < B) : EType w' := by
  unfold EType at *
  rw [hb.cell (p := ⟨0, 0, none⟩) hB]
  exact h

set_option maxHeartbeats 800000 in
theorem told_nil (w : World) : Calls Tryd.prog 15 #[.nilIface] w fun e w' => e = .returned (.int .i64 0) ∧ w = w' := by
  go_enter Tryd.func15, Tryd.ntmps15
  go_wp2
  go_ret
  exact ⟨rfl, rfl⟩
set_option maxHeartbeats 800000 in
theorem told_errno (n : Int) (w : World) (hg : EType w) : Calls Tryd.prog 15 #[.iface 23 (.int .i64 n)] w fun e w' => e = .returned (.int .i64 n) ∧ Below w.heap.size w w' := by
  have hb : Below w.heap.size w (w.alloc (.cells #[.int .i64 0] 23)) := (Below.refl _ _).alloc (Nat.le_refl _) _
  have ha := as_hit n ⟨w.heap.size, 0, none⟩ (.int .i64 0) (w.alloc (.cells #[.int .i64 0] 23)) (hg.below hb hg.pos) (by simp) (by simp)
  have ha' : Calls Tryd.prog 19 #[.iface 23 (.int .i64 n), .iface 57 (.pointer (some ⟨w.heap.size, 0, none⟩))] (w.alloc (.cells #[.int .i64 0] 23)) fun ev w' => ev = .returned (.bool true) ∧ w'.cell? ⟨w.heap.size, 0, none⟩ = some (.int .i64 n) ∧ Below w.heap.size w w' := by
    refine ha.mono fun e w' ⟨h1, h2⟩ => ⟨h1, ?_, ?_⟩
    · rw [h2]
      refine World.cell?_setCell_same _ _ _ (u := .int .i64 0) ?_
      rw [World.cell?_alloc_lt _ _ _ (by simp; omega), World.cell?_alloc_lt _ _ _ (by simp; omega), World.cell?_alloc_lt _ _ _ (by simp; omega), World.cell?_alloc_lt _ _ _ (by simp)]
      simp
    · rw [h2]
      exact ((((hb.alloc (by simp) _).alloc (by simp; omega) _).alloc (by simp; omega) _).alloc (by simp; omega) _).setCell (Nat.le_refl _) _
  clear ha hb hg
  go_enter Tryd.func15, Tryd.ntmps15
  go_wp2_with (go_at_call 19; refine ha'.mono ?_; rintro e w2 ⟨rfl, hcell, hb2⟩)
  go_ret
  exact ⟨rfl, hb2⟩
set_option maxHeartbeats 800000 in
theorem error_nil (e : Nat) (w : World) : Calls Tryd.prog 8 #[.nilIface, .int .i64 e] w fun ev w' => ev = .returned (.bool (decide (e = 0))) ∧ w = w' := by
  by_cases h : e = 0
  · subst h
    go_enter Tryd.func8, Tryd.ntmps8
    go_wp2_with (go_at_call 15; refine (told_nil _).mono ?_; rintro _ w2 ⟨rfl, rfl⟩)
    go_ret
    exact ⟨rfl, rfl⟩
  · rw [decide_eq_false h]
    have h2 : ((0 : Int) == (e : Int)) = false := by rw [beq_eq_false_iff_ne]; omega
    clear h
    go_enter Tryd.func8, Tryd.ntmps8
    go_wp2_with (go_at_call 15; refine (told_nil _).mono ?_; rintro _ w2 ⟨rfl, rfl⟩)
    go_ret
    exact ⟨rfl, rfl⟩
set_option maxHeartbeats 800000 in
theorem error_same (n : Nat) (w : World) (hg : EType w) : Calls Tryd.prog 8 #[.iface 23 (.int .i64 n), .int .i64 n] w fun ev w' => ev = .returned (.bool true) ∧ Below w.heap.size w w' := by
  have h := told_errno (n : Int) w hg
  go_enter Tryd.func8, Tryd.ntmps8
  go_wp2_with (go_at_call 15; refine h.mono ?_; rintro _ w2 ⟨rfl, hb⟩)
  go_ret
  exact ⟨rfl, hb⟩
end Go.Proofs.YtohngekkbgklfaaDoor
