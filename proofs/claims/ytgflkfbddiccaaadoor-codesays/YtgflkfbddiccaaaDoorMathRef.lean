/-
  Plain mathematics: the document's way to mend (each bit is turned on trial) comes to the same as the program's.
-/
import Derived.Test.YtgflkfbddiccaaaDoorRefProtect
namespace Go.Proofs.YtgflkfbddiccaaaDoor

/-- A word's bytes. -/
def bytes8 (x : Nat) : List Nat := (List.range 8).map fun i => x / 2 ^ (8 * i) % 256
theorem bytes8_len (x : Nat) : (bytes8 x).length = 8 := by simp [bytes8]
theorem bytes8_at (x i : Nat) (h : i < 8) : (bytes8 x)[i]?.getD 0 = x / 2 ^ (8 * i) % 256 := range_map_at (fun i => x / 2 ^ (8 * i) % 256) 8 i h
theorem bytes8_word {l : List Nat} (hl : l.length = 8) (h : AllB l) : bytes8 (wordN l 0) = l := by
  apply ext_getD (by rw [bytes8_len, hl])
  intro j hj
  rw [bytes8_len] at hj
  rw [bytes8_at _ _ hj, wordN_byte h 0 j hj, show 8 * 0 + j = j from by omega]
/-- What the document's answer has of the first so many words. -/
def refS : Option (List Nat × Nat) → Option (Nat × Nat) → Option (List Nat × Nat)
  | some (o, n), some (x, c) => some (o ++ bytes8 x, n + c)
  | _, _ => none
theorem refS_some (o : List Nat) (n x c : Nat) : refS (some (o, n)) (some (x, c)) = some (o ++ bytes8 x, n + c) := rfl
theorem refS_none (r : Option (List Nat × Nat)) : refS r none = none := by cases r <;> rfl
def refO (bs cs : List Nat) : Nat → Option (List Nat × Nat)
  | 0 => some ([], 0)
  | k + 1 => refS (refO bs cs k) (mendD (wordN bs k) (chk (wordN bs k) ^^^ cs[k]?.getD 0))
theorem refO_none (bs cs : List Nat) (k : Nat) (h : refO bs cs k = none) : ∀ d, refO bs cs (k + d) = none
  | 0 => h
  | d + 1 => by
    rw [← Nat.add_assoc, refO, refO_none bs cs k h d]
    cases mendD (wordN bs (k + d)) (chk (wordN bs (k + d)) ^^^ cs[k + d]?.getD 0) <;> rfl
theorem put_append (o z : List Nat) (k x r : Nat) (ho : o.length = 8 * k) (hz : z.length = 8 + r) : putK (o ++ z) k x 8 = o ++ bytes8 x ++ z.drop 8 := by
  apply ext_getD
  · rw [putK_len]; simp [bytes8_len]; omega
  · intro j hj
    rw [putK_len] at hj
    rw [putK_at _ _ _ _ hj]
    have hlen : (o ++ z).length = 8 * k + 8 + r := by rw [List.length_append]; omega
    by_cases h1 : j < 8 * k
    · rw [if_neg (by omega), List.getElem?_append_left (by omega), List.append_assoc, List.getElem?_append_left (by omega)]
    · by_cases h2 : j < 8 * k + 8
      · rw [if_pos (by omega), List.append_assoc, List.getElem?_append_right (by omega), List.getElem?_append_left (by rw [bytes8_len]; omega), ho, bytes8_at _ _ (by omega)]
      · rw [if_neg (by omega), List.getElem?_append_right (by omega), List.append_assoc, List.getElem?_append_right (by omega), List.getElem?_append_right (by rw [bytes8_len]; omega), bytes8_len, List.getElem?_drop, ho]
        have e : 8 + (j - 8 * k - 8) = j - 8 * k := by omega
        rw [e]
theorem mend_ref (bs cs : List Nat) (m : Nat) (hl : bs.length = 8 * m) : ∀ k, k ≤ m → (refO bs cs k = none ∧ mendL bs cs k = none) ∨ ∃ o n, refO bs cs k = some (o, n) ∧ o.length = 8 * k ∧ mendL bs cs k = some (o ++ List.replicate (8 * m - 8 * k) 0, n) := by
  intro k
  induction k with
  | zero =>
    intro _
    exact Or.inr ⟨[], 0, rfl, rfl, by rw [mendL, hl]; rfl⟩
  | succ k ih =>
    intro hk
    rcases ih (by omega) with ⟨h1, h2⟩ | ⟨o, n, h1, h2, h3⟩
    · left
      rw [refO, mendL, h1, h2]
      cases mendD (wordN bs k) (chk (wordN bs k) ^^^ cs[k]?.getD 0) <;> exact ⟨rfl, rfl⟩
    · rw [refO, mendL, h1, h3]
      cases hr : mendD (wordN bs k) (chk (wordN bs k) ^^^ cs[k]?.getD 0) with
      | none => left; exact ⟨rfl, rfl⟩
      | some p =>
        obtain ⟨x, c⟩ := p
        right
        refine ⟨o ++ bytes8 x, n + c, rfl, by rw [List.length_append, bytes8_len]; omega, ?_⟩
        rw [mendS_some, put_append o _ k x (8 * m - 8 * k - 8) h2 (by simp; omega), List.drop_replicate]
        rw [show 8 * m - 8 * k - 8 = 8 * m - 8 * (k + 1) from by omega]
theorem mend_ref_end (bs cs : List Nat) (m : Nat) (hl : bs.length = 8 * m) : mendL bs cs m = refO bs cs m := by
  rcases mend_ref bs cs m hl m (Nat.le_refl _) with ⟨h1, h2⟩ | ⟨o, n, h1, _, h3⟩
  · rw [h1, h2]
  · rw [h1, h3, Nat.sub_self]
    simp
/-- The three ways of a word. -/
theorem way_single : ∀ d : Fin 256, d.val ≠ 0 → d.val &&& (d.val - 1) = 0 → pop 8 d.val % 2 = 1 ∧ pop 8 (d.val % 128) ≤ 1 := by decide +kernel
theorem mendD_single (x d : Nat) (hd : d < 256) (h0 : d ≠ 0) (h1 : d &&& (d - 1) = 0) : mendD x d = some (x, 1) := by
  obtain ⟨a, b⟩ := way_single ⟨d, hd⟩ h0 h1
  simp only at a b
  unfold mendD
  rw [if_neg (by omega), if_pos b]
theorem mendD_hit (x j : Nat) (hj : j < 64) : mendD x (sig j) = some (x ^^^ 2 ^ j, 1) := by
  obtain ⟨h1, h2, h3⟩ := sig_odd ⟨j, hj⟩
  simp only at h1 h2 h3
  unfold mendD
  rw [if_neg (by omega), if_neg h2, h3, idxOf_at hj rfl]
theorem way_lost : ∀ d : Fin 256, d.val ≠ 0 → ¬ d.val &&& (d.val - 1) = 0 → (∀ j : Fin 64, ¬ sig j.val = d.val) → (pop 8 d.val % 2 = 0 ∧ ¬ d.val % 128 = 0) ∨ (¬ pop 8 d.val % 2 = 0 ∧ ¬ pop 8 (d.val % 128) ≤ 1 ∧ idxOf (d.val % 128) = none) := by decide +kernel
theorem mendD_lost (x d : Nat) (hd : d < 256) (h0 : d ≠ 0) (h1 : ¬ d &&& (d - 1) = 0) (h2 : ∀ j, j < 64 → sig j ≠ d) : mendD x d = none := by
  unfold mendD
  rcases way_lost ⟨d, hd⟩ h0 h1 (fun j => h2 j.val j.isLt) with ⟨a, b⟩ | ⟨a, b, c⟩
  · simp only at a b
    rw [if_pos a, if_neg b]
  · simp only at a b c
    rw [if_neg a, if_neg b, c]
end Go.Proofs.YtgflkfbddiccaaaDoor
