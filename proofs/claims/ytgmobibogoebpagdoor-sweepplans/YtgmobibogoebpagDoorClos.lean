/-
  What the calls of cmp.Compare, cmp.Or and of the closure that package sweep sorts by give: which of two blocks is emptied first.
-/
import Derived.Test.YtgmobibogoebpagDoorBase
import Derived.Sort.Grow
namespace Go.Proofs.YtgmobibogoebpagDoor
open Go.RowKit Go.Sort
set_option linter.unusedVariables false

/-- Which of two numbers is less. -/
def cmpI (x y : Int) : Int := if x < y then -1 else if y < x then 1 else 0
theorem cmpI_lt {x y : Int} (h : x < y) : cmpI x y = -1 := if_pos h
theorem cmpI_gt {x y : Int} (h : y < x) : cmpI x y = 1 := by unfold cmpI; rw [if_neg (by omega), if_pos h]
theorem cmpI_eq {x y : Int} (h : x = y) : cmpI x y = 0 := by unfold cmpI; rw [if_neg (by omega), if_neg (by omega)]
set_option maxHeartbeats 800000 in
theorem isNaN_any (x : Int) (w : World) : Calls Tryd.prog 21 #[.int .i64 x] w fun e w' => e = .returned (.bool false) ∧ w' = w := by
  go_enter Tryd.func21, Tryd.ntmps21
  go_wp2
  go_ret
  exact ⟨by simp, rfl⟩
set_option maxHeartbeats 1600000 in
theorem compare_any (x y : Int) (w : World) : Calls Tryd.prog 17 #[.int .i64 x, .int .i64 y] w fun e w' => e = .returned (.int .i64 (cmpI x y)) ∧ w' = w := by
  by_cases h : x < y
  · rw [cmpI_lt h]
    go_enter Tryd.func17, Tryd.ntmps17
    go_wp2_with (go_at_call 21; refine (isNaN_any _ _).mono ?_; rintro e w' ⟨rfl, rfl⟩)
    go_ret
    exact ⟨rfl, rfl⟩
  · by_cases h2 : y < x
    · rw [cmpI_gt h2]
      go_enter Tryd.func17, Tryd.ntmps17
      go_wp2_with (go_at_call 21; refine (isNaN_any _ _).mono ?_; rintro e w' ⟨rfl, rfl⟩)
      go_ret
      exact ⟨rfl, rfl⟩
    · rw [cmpI_eq (by omega)]
      go_enter Tryd.func17, Tryd.ntmps17
      go_wp2_with (go_at_call 21; refine (isNaN_any _ _).mono ?_; rintro e w' ⟨rfl, rfl⟩)
      go_ret
      exact ⟨rfl, rfl⟩
/-- The first that is not nought. -/
def orI : List Int → Int
  | [] => 0
  | x :: r => if x = 0 then orI r else x
theorem orI_skip : ∀ (vs : List Int) (k : Nat), k ≤ vs.length → (∀ i, i < k → vs[i]?.getD 0 = 0) → orI vs = orI (vs.drop k)
  | vs, 0, _, _ => by simp
  | [], k + 1, h, _ => by simp at h
  | x :: r, k + 1, h, h0 => by
    have hx : x = 0 := by simpa using h0 0 (by omega)
    rw [orI, if_pos hx, List.drop_succ_cons]
    exact orI_skip r k (by simpa using h) (fun i hi => by simpa using h0 (i + 1) (by omega))
theorem orI_hit {vs : List Int} {k : Nat} (h : k < vs.length) (h0 : ∀ i, i < k → vs[i]?.getD 0 = 0) (hn : vs[k]?.getD 0 ≠ 0) : orI vs = vs[k]?.getD 0 := by
  rw [orI_skip vs k (by omega) h0, List.drop_eq_getElem_cons h, orI]
  rw [List.getElem?_eq_getElem h] at hn ⊢
  rw [if_neg (show ¬ vs[k] = 0 from hn)]
  rfl
theorem orI_all {vs : List Int} (h0 : ∀ i, i < vs.length → vs[i]?.getD 0 = 0) : orI vs = 0 := by
  rw [orI_skip vs vs.length (Nat.le_refl _) h0]
  simp [orI]
def OrS (w wr : World) (vs : List Int) (k : Nat) : Prop := wr = w ∧ ∀ i, i < k → vs[i]?.getD 0 = 0
set_option maxHeartbeats 1600000 in
theorem or_any (g cap : Nat) (vs : List Int) (w : World) (hl : vs.length ≤ 64) (hc : ∀ i, i < vs.length → w.cell? ⟨g, i, none⟩ = some (.int .i64 (vs[i]?.getD 0))) :
    Calls Tryd.prog 16 #[.slice (some ⟨g, 0, none⟩) vs.length cap] w fun e w' => e = .returned (.int .i64 (orI vs)) ∧ w' = w := by
  have HC : Hid (∀ i, i < vs.length → w.cell? ⟨g, i, none⟩ = some (.int .i64 (vs[i]?.getD 0))) := hc
  clear hc
  go_enter Tryd.func16, Tryd.ntmps16
  go_wp2
  go_loopw [8] (fun j wr => ∃ k : Nat, k ≤ vs.length ∧ j = .int .i64 k ∧ Hid (OrS w wr vs k)) (fun j _ => vs.length - (intOf j).toNat)
  case atStart => exact ⟨0, Nat.zero_le _, rfl, (⟨rfl, fun i hi => absurd hi (Nat.not_lt_zero _)⟩ : OrS w w vs 0)⟩
  case round =>
    obtain ⟨k, hk, rfl, hR0⟩ := hrel
    obtain ⟨rfl, hR1⟩ := hR0.out
    have hR : Hid (∀ i, i < k → vs[i]?.getD 0 = 0) := hR1
    clear hR0 hR1
    by_cases hlt : k < vs.length
    · have c0 := HC.out k hlt
      have HH : Hid (vs[k]?.getD 0 ≠ 0 → orI vs = vs[k]?.getD 0) := fun h => orI_hit hlt hR.out h
      have HS : Hid (vs[k]?.getD 0 = 0 → ∀ i, i < k + 1 → vs[i]?.getD 0 = 0) := fun h i hi => by
        by_cases e : i = k
        · rw [e]; exact h
        · exact hR.out i (by omega)
      clear hR
      generalize vs[k]?.getD 0 = v at *
      by_cases hv : v = 0
      · subst hv
        go_wp2
        exact ⟨⟨k + 1, by omega, by go_num, (⟨rfl, HS.out rfl⟩ : OrS wr wr vs (k + 1))⟩, by simp [intOf]; omega⟩
      · have hv2 : (v != 0) = true := bne_iff_ne.2 hv
        go_wp2
        go_ret
        exact ⟨by rw [HH.out hv]; rfl, rfl⟩
    · obtain rfl : k = vs.length := by omega
      clear hlt
      have HZ : Hid (orI vs = 0) := orI_all hR.out
      go_wp2
      go_ret
      exact ⟨by rw [HZ.out]; rfl, rfl⟩
/-- THE ORDER, as a closure says it. -/
def cfB (l : List Bl) (i j : Nat) : Int := orI [cmpI (gB l i).live (gB l j).live, cmpI (gB l i).wear (gB l j).wear, cmpI (i : Int) (j : Int)]
theorem cfB_lt (l : List Bl) (i j : Nat) : cfB l i j < 0 ↔ ltB l i j := by
  unfold cfB ltB orI orI orI orI cmpI
  by_cases h1 : (gB l i).live < (gB l j).live
  · simp [h1]
  · by_cases h2 : (gB l j).live < (gB l i).live
    · simp [h1, h2]; omega
    · have h3 : (gB l i).live = (gB l j).live := by omega
      by_cases h4 : (gB l i).wear < (gB l j).wear
      · simp [h3, h4]
      · by_cases h5 : (gB l j).wear < (gB l i).wear
        · simp [h3, h4, h5]; omega
        · have h6 : (gB l i).wear = (gB l j).wear := by omega
          by_cases h7 : i < j
          · simp [h3, h6, h7]
          · by_cases h8 : j < i
            · simp [h3, h6, h7, h8]
            · simp [h3, h6, h7, h8]
end Go.Proofs.YtgmobibogoebpagDoor
