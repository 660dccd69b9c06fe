/-
  What the calls of package bell give.
-/
import Derived.Test.YtdhidiemchnleaaDoorBase
namespace Go.Proofs.YtdhidiemchnleaaDoor
open Go.RowKit
set_option linter.unusedVariables false

/-- A BELL IN MEMORY. -/
def BE (w : World) (bb L D : Nat) (s : Sb) : Prop := Stc w bb 34 [.int .i64 (L : Nat), .int .i64 (D : Nat), .bool s.m, .int .i64 (s.w : Nat), .int .i64 (s.t : Nat), .int .i64 (s.r : Nat)]
theorem BE.keep {S : Nat → Prop} {w w' : World} {bb L D : Nat} {s : Sb} (h : BE w bb L D s) (hk : Keep S w w') (hs : ¬ S bb) : BE w' bb L D s := Stc.keep h hk hs
theorem BE.below {w w' : World} {bb L D : Nat} {s : Sb} (h : BE w bb L D s) (hb : Below w.heap.size w w') : BE w' bb L D s := Stc.below h hb
/-- Numbers that a bell may have. -/
def GoodB (l d : Int) : Prop := 1 ≤ l ∧ l ≤ 64 ∧ 0 ≤ d ∧ d ≤ 1000
theorem badB {l d : Int} (h : ¬ GoodB l d) : l < 1 ∨ (¬ l < 1 ∧ 64 < l) ∨ (¬ l < 1 ∧ ¬ 64 < l ∧ d < 0) ∨ (¬ l < 1 ∧ ¬ 64 < l ∧ ¬ d < 0 ∧ 1000 < d) := by
  unfold GoodB at h
  omega
set_option maxHeartbeats 1600000 in
theorem new_no (l d : Int) (w : World) (h : ¬ GoodB l d) : Calls Tryd.prog 4 #[.int .i64 l, .int .i64 d] w fun e w' => e = .returned (.tuple #[.pointer none, .iface 29 (.int .i64 1)]) ∧ Below w.heap.size w w' := by
  have hb := badB h
  clear h
  rcases hb with h1 | ⟨h1, h2⟩ | ⟨h1, h2, h3⟩ | ⟨h1, h2, h3, h4⟩
  all_goals
    go_enter Tryd.func4, Tryd.ntmps4
    go_wp2
    refine bodyPost_ret (v := .tuple #[.pointer none, .iface 29 (.int .i64 1)]) (by simp [results, Tryd.results4, go_sem]) rfl ?_
    exact ⟨rfl, Below.refl _ _⟩
set_option maxHeartbeats 1600000 in
theorem new_yes (L D : Nat) (w : World) (h1 : 1 ≤ L) (h2 : L ≤ 64) (h3 : D ≤ 1000) : Calls Tryd.prog 4 #[.int .i64 (L : Nat), .int .i64 (D : Nat)] w fun e w' => ∃ bb, e = .returned (.tuple #[.pointer (some ⟨bb, 0, none⟩), .nilIface]) ∧ BE w' bb L D ⟨false, 0, 0, 0⟩ ∧ Below w.heap.size w w' ∧ w.heap.size ≤ bb := by
  have t1 : ¬ ((L : Int) < 1) := by omega
  have t2 : ¬ (64 < (L : Int)) := by omega
  have t3 : ¬ ((D : Int) < 0) := by omega
  have t4 : ¬ (1000 < (D : Int)) := by omega
  have HS : Hid (BE (w.alloc (.cells #[.int .i64 (L : Nat), .int .i64 (D : Nat), .bool false, .int .i64 0, .int .i64 0, .int .i64 0] 34)) w.heap.size L D ⟨false, 0, 0, 0⟩ ∧ Below w.heap.size w (w.alloc (.cells #[.int .i64 (L : Nat), .int .i64 (D : Nat), .bool false, .int .i64 0, .int .i64 0, .int .i64 0] 34))) := ⟨stc_new _ _ _ _ rfl, alloc_below' w _⟩
  clear h1 h2 h3
  go_enter Tryd.func4, Tryd.ntmps4
  go_wp2
  refine bodyPost_ret (v := .tuple #[.pointer (some ⟨w.heap.size, 0, none⟩), .nilIface]) (by simp [results, Tryd.results4, go_sem]) rfl ?_
  exact ⟨_, rfl, HS.out.1, HS.out.2, Nat.le_refl _⟩
set_option maxHeartbeats 800000 in
theorem rings_any {w : World} {bb L D : Nat} {s : Sb} (h : BE w bb L D s) : Calls Tryd.prog 9 #[.pointer (some ⟨bb, 0, none⟩)] w fun e w' => e = .returned (.int .i64 (s.r : Nat)) ∧ w = w' := by
  have c5 : w.cell? ⟨bb, 5, none⟩ = some (.int .i64 (s.r : Nat)) := h.cell 5
  clear h
  go_enter Tryd.func9, Tryd.ntmps9
  go_wp2
  go_ret
  exact ⟨rfl, rfl⟩
set_option maxHeartbeats 800000 in
theorem waits_any {w : World} {bb L D : Nat} {s : Sb} (h : BE w bb L D s) : Calls Tryd.prog 10 #[.pointer (some ⟨bb, 0, none⟩)] w fun e w' => e = .returned (.int .i64 (s.w : Nat)) ∧ w = w' := by
  have c3 : w.cell? ⟨bb, 3, none⟩ = some (.int .i64 (s.w : Nat)) := h.cell 3
  clear h
  go_enter Tryd.func10, Tryd.ntmps10
  go_wp2
  go_ret
  exact ⟨rfl, rfl⟩
set_option maxHeartbeats 1600000 in
theorem due_any {w : World} {bb L D : Nat} {s : Sb} (h : BE w bb L D s) : Calls Tryd.prog 17 #[.pointer (some ⟨bb, 0, none⟩)] w fun e w' => e = .returned (.bool (dueF L D s)) ∧ Below w.heap.size w w' := by
  obtain ⟨m, ws, t, r⟩ := s
  have c0 : w.cell? ⟨bb, 0, none⟩ = some (.int .i64 (L : Nat)) := h.cell 0
  have c1 : w.cell? ⟨bb, 1, none⟩ = some (.int .i64 (D : Nat)) := h.cell 1
  have c2 : w.cell? ⟨bb, 2, none⟩ = some (.bool m) := h.cell 2
  have c3 : w.cell? ⟨bb, 3, none⟩ = some (.int .i64 (ws : Nat)) := h.cell 3
  have c4 : w.cell? ⟨bb, 4, none⟩ = some (.int .i64 (t : Nat)) := h.cell 4
  clear h
  cases m with
  | true =>
    have hd : dueF L D ⟨true, ws, t, r⟩ = false := by simp [dueF]
    rw [hd]
    go_enter Tryd.func17, Tryd.ntmps17
    go_wp2
    go_ret
    exact ⟨rfl, Below.refl _ _⟩
  | false =>
    by_cases h0 : ws = 0
    · subst h0
      have hd : dueF L D ⟨false, 0, t, r⟩ = false := by simp [dueF]
      rw [hd]
      go_enter Tryd.func17, Tryd.ntmps17
      go_wp2
      go_ret
      exact ⟨rfl, Below.refl _ _⟩
    · have h0' : ¬ ((ws : Int) = 0) := by omega
      by_cases h1 : L ≤ ws
      · have hd : dueF L D ⟨false, ws, t, r⟩ = true := by simp [dueF, h0, h1]
        rw [hd]
        have h1' : (L : Int) ≤ (ws : Int) := by omega
        go_enter Tryd.func17, Tryd.ntmps17
        go_wp2
        go_quiet (fail)
        go_wp2
        go_ret
        exact ⟨rfl, below_drewN (Below.refl _ _) _⟩
      · have h1' : ¬ ((L : Int) ≤ (ws : Int)) := by omega
        have hd : dueF L D ⟨false, ws, t, r⟩ = decide (D ≤ t) := by simp [dueF, h0, h1]
        rw [hd]
        go_enter Tryd.func17, Tryd.ntmps17
        go_wp2
        go_quiet (fail)
        go_wp2
        go_ret
        exact ⟨rfl, below_drewN (Below.refl _ _) _⟩
end Go.Proofs.YtdhidiemchnleaaDoor
