/-
  A write, and a read of its block that begins where it ends.
-/
import Derived.Test.YtohngekkbgklfaaMathOrder
namespace Go.Proofs.Ytohngekkbgklfaa

theorem stale_fault {x b v t : Int} (hx : 0 ≤ x) (hb : 0 ≤ b) (hv : 0 ≤ v) (ht : 0 ≤ t) : faultF [⟨x, x + 1, true, b, v⟩, ⟨x + 1, x + 2, false, b, t⟩] = 0 := by
  refine faultF_all (by simp) (fun i hi => ?_)
  have : i = 0 ∨ i = 1 := by simp at hi; omega
  rcases this with rfl | rfl
  · exact badC_ok hx hb hv (by show x < x + 1; omega)
  · exact badC_ok (by show 0 ≤ x + 1; omega) hb ht (by show x + 1 < x + 2; omega)
/-- Of two calls, of which the second stands behind the first alone. -/
theorem two_find {l : List Cl} (h2 : l.length = 2) (hf : faultF l = 0) (h00 : stR2 l [] 0 = true) (h10 : stR2 l [1] 0 = false) : findL l = if stR2 l [0] 1 = true then (0, [0, 1]) else (4, []) := by
  have h : ∀ o i, i ∈ o → stR2 l o i = false := fun o i hi => by
    cases e : stR2 l o i with
    | false => rfl
    | true => exact absurd hi (stR2_of.1 e).1
  have s00 := h [0] 0 (by simp)
  have s11 := h [1] 1 (by simp)
  have r2 : List.range 2 = [0, 1] := rfl
  unfold findL
  rw [if_pos hf, srch_ref hf, h2]
  cases e1 : stR2 l [] 1 <;> cases e : stR2 l [0] 1 <;> simp [dfs, r2, h00, h10, s00, s11, e, e1]
theorem stale_find {x b v t : Int} (hx : 0 ≤ x) (hb : 0 ≤ b) (hv : 0 ≤ v) (ht : 0 ≤ t) : findL [⟨x, x + 1, true, b, v⟩, ⟨x + 1, x + 2, false, b, t⟩] = if v = t then (0, [0, 1]) else (4, []) := by
  have e : stR2 [⟨x, x + 1, true, b, v⟩, ⟨x + 1, x + 2, false, b, t⟩] [0] 1 = true ↔ v = t := by
    rw [stR2_of]
    simp [gC, lstW]
    omega
  rw [two_find rfl (stale_fault hx hb hv ht) ?_ ?_]
  · by_cases h : v = t
    · rw [if_pos (e.2 h), if_pos h]
    · rw [if_neg (fun q => h (e.1 q)), if_neg h]
  · exact stR2_of.2 ⟨by simp, by simp, Or.inl rfl⟩
  · cases q : stR2 [⟨x, x + 1, true, b, v⟩, ⟨x + 1, x + 2, false, b, t⟩] [1] 0 with
    | false => rfl
    | true => exact absurd (Int.le_refl _) ((stR2_of.1 q).2.1 1 (by simp))
/-- The first fact of OrderSerial: a write and a read of its value at the same time. -/
theorem fact_find : findL [⟨1, 2, true, 0, 7⟩, ⟨1, 2, false, 0, 7⟩] = (0, [0, 1]) := by
  have hf : faultF [⟨1, 2, true, 0, 7⟩, ⟨1, 2, false, 0, 7⟩] = 0 := by decide
  have s : ∀ o i, stR2 [⟨1, 2, true, 0, 7⟩, ⟨1, 2, false, 0, 7⟩] o i = stR2 [⟨1, 2, true, 0, 7⟩, ⟨1, 2, false, 0, 7⟩] o i := fun _ _ => rfl
  have r2 : List.range 2 = [0, 1] := rfl
  have a0 : stR2 [⟨1, 2, true, 0, 7⟩, ⟨1, 2, false, 0, 7⟩] [] 0 = true := by decide
  have a1 : stR2 [⟨1, 2, true, 0, 7⟩, ⟨1, 2, false, 0, 7⟩] [0] 0 = false := by decide
  have a2 : stR2 [⟨1, 2, true, 0, 7⟩, ⟨1, 2, false, 0, 7⟩] [0] 1 = true := by decide
  unfold findL
  rw [if_pos hf, srch_ref hf]
  simp [dfs, r2, a0, a1, a2]
end Go.Proofs.Ytohngekkbgklfaa
