/-
  The state of a pool as plain data, and what its calls do to it. Plain mathematics.
-/
import Derived.Test.YtebnjoammfidnacDoorMathHeap
namespace Go.Proofs.YtebnjoammfidnacDoor
set_option linter.unusedVariables false

def upd {α : Type} (f : Nat → α) (k : Nat) (v : α) : Nat → α := fun i => if i = k then v else f i
theorem upd_same {α : Type} (f : Nat → α) (k : Nat) (v : α) : upd f k v k = v := if_pos rfl
theorem upd_ne {α : Type} (f : Nat → α) (k i : Nat) (v : α) (h : i ≠ k) : upd f k v i = f i := if_neg h
/-- A pool's state: 0 free, 1 used, 2 bad; and wear. -/
structure St where
  st : Nat → Nat
  wn : Nat → Nat
/-- How many of the first n are in a state. -/
def cnt (st : Nat → Nat) (v : Nat) : Nat → Nat
  | 0 => 0
  | k + 1 => cnt st v k + if st k = v then 1 else 0
theorem cnt_le (st : Nat → Nat) (v : Nat) : ∀ k, cnt st v k ≤ k
  | 0 => Nat.le_refl _
  | k + 1 => by have := cnt_le st v k; unfold cnt; split <;> omega
theorem cnt_sum (st : Nat → Nat) : ∀ n, (∀ i, i < n → st i ≤ 2) → cnt st 0 n + cnt st 1 n + cnt st 2 n = n
  | 0, _ => rfl
  | n + 1, h => by
    have ih := cnt_sum st n (fun i hi => h i (by omega))
    have := h n (by omega)
    unfold cnt
    rcases (by omega : st n = 0 ∨ st n = 1 ∨ st n = 2) with e | e | e <;> simp [e] <;> omega
theorem cnt_zero (st : Nat → Nat) (v : Nat) : ∀ n, (∀ i, i < n → st i ≠ v) → cnt st v n = 0
  | 0, _ => rfl
  | n + 1, h => by unfold cnt; rw [cnt_zero st v n (fun i hi => h i (by omega)), if_neg (h n (by omega))]
/-- The best of the first k: free, and nobody free is less worn. -/
def bestK (s : St) : Nat → Option Nat
  | 0 => none
  | k + 1 => match bestK s k with
    | none => if s.st k = 0 then some k else none
    | some b => if s.st k = 0 ∧ s.wn k < s.wn b then some k else some b
theorem best_none (s : St) : ∀ k, bestK s k = none ↔ ∀ x, x < k → s.st x ≠ 0
  | 0 => by simp [bestK]
  | k + 1 => by
    have ih := best_none s k
    unfold bestK
    cases hb : bestK s k with
    | none =>
      have h := ih.1 hb
      by_cases e : s.st k = 0
      · simp only [e, if_true]
        constructor
        · intro h; cases h
        · intro h; exact absurd e (h k (by omega))
      · simp only [e, if_false]
        refine ⟨fun _ x hx => ?_, fun _ => trivial⟩
        by_cases hx' : x = k
        · subst hx'; exact e
        · exact h x (by omega)
    | some b =>
      have h : ¬ ∀ x, x < k → s.st x ≠ 0 := fun h => by rw [ih.2 h] at hb; cases hb
      constructor
      · intro h2
        simp only at h2
        split at h2 <;> cases h2
      · intro h2; exact absurd (fun x hx => h2 x (by omega)) h
theorem best_some (s : St) : ∀ k b, bestK s k = some b → b < k ∧ s.st b = 0 ∧ ∀ x, x < k → s.st x = 0 → ¬ Lts s.wn x b
  | 0, b, h => by simp [bestK] at h
  | k + 1, b, h => by
    unfold bestK at h
    cases hb : bestK s k with
    | none =>
      rw [hb] at h
      have h0 := (best_none s k).1 hb
      simp only at h
      split at h
      · rename_i e
        obtain rfl := Option.some.inj h
        refine ⟨by omega, e, fun x hx h1 => ?_⟩
        by_cases hx' : x = k
        · subst hx'; unfold Lts; omega
        · exact absurd h1 (h0 x (by omega))
      · cases h
    | some c =>
      rw [hb] at h
      obtain ⟨h1, h2, h3⟩ := best_some s k c hb
      simp only at h
      split at h
      · rename_i e
        obtain rfl := Option.some.inj h
        refine ⟨by omega, e.1, fun x hx h1 => ?_⟩
        by_cases hx' : x = k
        · subst hx'; unfold Lts; omega
        · have := h3 x (by omega) h1
          unfold Lts at *; omega
      · rename_i e
        obtain rfl := Option.some.inj h
        refine ⟨by omega, h2, fun x hx h4 => ?_⟩
        by_cases hx' : x = k
        · subst hx'
          have : ¬ s.wn x < s.wn c := fun g => e ⟨h4, g⟩
          unfold Lts; omega
        · exact h3 x (by omega) h4
theorem best_is (s : St) (n b : Nat) (hb : b < n) (h0 : s.st b = 0) (hm : ∀ x, x < n → s.st x = 0 → ¬ Lts s.wn x b) : bestK s n = some b := by
  cases h : bestK s n with
  | none => exact absurd h0 ((best_none s n).1 h b hb)
  | some c =>
    obtain ⟨h1, h2, h3⟩ := best_some s n c h
    rw [lts_one (hm c h1 h2) (h3 b hb h0)]
/-- What New gives. -/
def fresh : St := ⟨fun _ => 0, fun _ => 0⟩
def latB (n sp : Nat) (s : St) : Bool := decide (sp < cnt s.st 2 n)
/-- What Take does: which block, which error. -/
def takeF (n sp : Nat) (s : St) : (Nat × Nat) × St :=
  if sp < cnt s.st 2 n then ((0, 9), s)
  else match bestK s n with
    | none => ((0, 4), s)
    | some b => ((b, 0), { s with st := upd s.st b 1 })
/-- What Give (v = 0) and Retire (v = 2) do. -/
def putF (n sp : Nat) (s : St) (b : Int) (v : Nat) : Nat × St :=
  if sp < cnt s.st 2 n then (9, s)
  else if ¬ (0 ≤ b ∧ b < n) then (1, s)
  else if s.st b.toNat ≠ 1 then (10, s)
  else (0, { st := upd s.st b.toNat v, wn := if v = 0 then upd s.wn b.toNat (s.wn b.toNat + 1) else s.wn })
/-- What a state may be. -/
def Ok3 (n : Nat) (s : St) : Prop := ∀ i, i < n → s.st i ≤ 2
theorem fresh_ok (n : Nat) : Ok3 n fresh := fun i _ => Nat.zero_le _
theorem takeF_cases (n sp : Nat) (s : St) : ((takeF n sp s).1.2 ≠ 0 ∧ (takeF n sp s).2 = s ∧ (takeF n sp s).1.1 = 0) ∨
    (¬ sp < cnt s.st 2 n ∧ ∃ b, bestK s n = some b ∧ takeF n sp s = ((b, 0), { s with st := upd s.st b 1 })) := by
  unfold takeF
  by_cases h : sp < cnt s.st 2 n
  · rw [if_pos h]; exact Or.inl ⟨by simp, rfl, rfl⟩
  rw [if_neg h]
  cases hb : bestK s n with
  | none => exact Or.inl ⟨by simp, rfl, rfl⟩
  | some b => exact Or.inr ⟨h, b, rfl, rfl⟩
theorem putF_cases (n sp : Nat) (s : St) (b : Int) (v : Nat) : ((putF n sp s b v).1 ≠ 0 ∧ (putF n sp s b v).2 = s) ∨
    (¬ sp < cnt s.st 2 n ∧ ∃ k : Nat, b = k ∧ k < n ∧ s.st k = 1 ∧ putF n sp s b v = (0, { st := upd s.st k v, wn := if v = 0 then upd s.wn k (s.wn k + 1) else s.wn })) := by
  unfold putF
  by_cases h : sp < cnt s.st 2 n
  · rw [if_pos h]; exact Or.inl ⟨by simp, rfl⟩
  rw [if_neg h]
  by_cases h1 : ¬ (0 ≤ b ∧ b < n)
  · rw [if_pos h1]; exact Or.inl ⟨by simp, rfl⟩
  rw [if_neg h1]
  by_cases h2 : s.st b.toNat ≠ 1
  · rw [if_pos h2]; exact Or.inl ⟨by simp, rfl⟩
  rw [if_neg h2]
  exact Or.inr ⟨h, b.toNat, by omega, by omega, by omega, rfl⟩
theorem upd_le {n : Nat} {f : Nat → Nat} {b v : Nat} (h : ∀ i, i < n → f i ≤ 2) (hv : v ≤ 2) : ∀ i, i < n → upd f b v i ≤ 2 := fun i hi => by
  by_cases e : i = b
  · rw [e, upd_same]; exact hv
  · rw [upd_ne _ _ _ _ e]; exact h i hi
theorem takeF_ok {n sp : Nat} {s : St} (h : Ok3 n s) : Ok3 n (takeF n sp s).2 := by
  rcases takeF_cases n sp s with ⟨_, e, _⟩ | ⟨_, b, _, e⟩
  · rw [e]; exact h
  · rw [e]; exact upd_le h (by omega)
theorem putF_ok {n sp : Nat} {s : St} {b : Int} {v : Nat} (h : Ok3 n s) (hv : v ≤ 2) : Ok3 n (putF n sp s b v).2 := by
  rcases putF_cases n sp s b v with ⟨_, e⟩ | ⟨_, k, _, _, _, e⟩
  · rw [e]; exact h
  · rw [e]; exact upd_le h hv
theorem takeF_wn (n sp : Nat) (s : St) : (takeF n sp s).2.wn = s.wn := by
  rcases takeF_cases n sp s with ⟨_, e, _⟩ | ⟨_, b, _, e⟩ <;> rw [e]
theorem putF_wn (n sp : Nat) (s : St) (b : Int) (v m : Nat) (h : ∀ k, s.wn k ≤ m) : ∀ k, (putF n sp s b v).2.wn k ≤ m + 1 := by
  intro k
  have hk := h k
  rcases putF_cases n sp s b v with ⟨_, e⟩ | ⟨_, j, _, _, _, e⟩
  · rw [e]; omega
  · rw [e]
    simp only
    split
    · by_cases ek : k = j
      · rw [ek, upd_same]; have := h j; omega
      · rw [upd_ne _ _ _ _ ek]; omega
    · omega
end Go.Proofs.YtebnjoammfidnacDoor
