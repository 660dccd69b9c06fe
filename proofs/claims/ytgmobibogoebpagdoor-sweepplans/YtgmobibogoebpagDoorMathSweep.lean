/-
  Blocks as plain data: which can be emptied, in which order; what a plan takes; which was worn too little. Plain mathematics.
-/
namespace Go.Proofs.YtgmobibogoebpagDoor
set_option linter.unusedVariables false

/-- A block of which something is told. -/
structure Bl where
  used : Bool
  live : Int
  wear : Int
def bl0 : Bl := ⟨false, 0, 0⟩
def gB (l : List Bl) (i : Nat) : Bl := l[i]?.getD bl0
/-- Its numbers are some that may be. -/
def Good (p : Int) (b : Bl) : Prop := 0 ≤ b.live ∧ b.live ≤ p ∧ 0 ≤ b.wear ∧ b.wear ≤ 1000000000
abbrev goodB (p : Int) (b : Bl) : Bool := decide (0 ≤ b.live) && decide (b.live ≤ p) && decide (0 ≤ b.wear) && decide (b.wear ≤ 1000000000)
theorem goodB_iff (p : Int) (b : Bl) : goodB p b = true ↔ Good p b := by
  unfold goodB Good
  simp [and_assoc]
def allG (l : List Bl) (p : Int) : Prop := ∀ i, i < l.length → Good p (gB l i)
theorem allG_iff (l : List Bl) (p : Int) : l.all (goodB p) = true ↔ allG l p := by
  rw [List.all_eq_true]
  constructor
  · intro h i hi
    have := h l[i] (List.getElem_mem hi)
    rw [goodB_iff] at this
    unfold gB
    rw [List.getElem?_eq_getElem hi]
    exact this
  · intro h x hx
    obtain ⟨i, hi, rfl⟩ := List.getElem_of_mem hx
    have := h i hi
    unfold gB at this
    rw [List.getElem?_eq_getElem hi] at this
    rw [goodB_iff]
    exact this
/-- WHAT IS WRONG. -/
def faultF (l : List Bl) (p : Int) (bad : Bool) : Nat := if 64 < l.length then 3 else if p < 1 ∨ 4096 < p ∨ bad = true then 1 else if l.all (goodB p) = true then 0 else 1
theorem fault_full {l : List Bl} {p : Int} {bad : Bool} (h : 64 < l.length) : faultF l p bad = 3 := if_pos h
theorem fault_range {l : List Bl} {p : Int} {bad : Bool} (h : l.length ≤ 64) (h2 : p < 1 ∨ 4096 < p ∨ bad = true) : faultF l p bad = 1 := by
  unfold faultF
  rw [if_neg (by omega), if_pos h2]
theorem fault_bad {l : List Bl} {p : Int} {bad : Bool} (h : l.length ≤ 64) (h2 : ¬ allG l p) : faultF l p bad = 1 := by
  unfold faultF
  rw [if_neg (by omega)]
  by_cases h3 : p < 1 ∨ 4096 < p ∨ bad = true
  · rw [if_pos h3]
  · rw [if_neg h3, if_neg (fun e => h2 ((allG_iff l p).1 e))]
theorem fault_none {l : List Bl} {p : Int} {bad : Bool} (h : l.length ≤ 64) (h2 : ¬ (p < 1 ∨ 4096 < p ∨ bad = true)) (h3 : allG l p) : faultF l p bad = 0 := by
  unfold faultF
  rw [if_neg (by omega), if_neg h2, if_pos ((allG_iff l p).2 h3)]
theorem fault_zero {l : List Bl} {p : Int} {bad : Bool} (h : faultF l p bad = 0) : l.length ≤ 64 ∧ 1 ≤ p ∧ p ≤ 4096 ∧ bad = false ∧ allG l p := by
  unfold faultF at h
  by_cases h1 : 64 < l.length
  · rw [if_pos h1] at h; cases h
  rw [if_neg h1] at h
  by_cases h2 : p < 1 ∨ 4096 < p ∨ bad = true
  · rw [if_pos h2] at h; cases h
  rw [if_neg h2] at h
  by_cases h3 : l.all (goodB p) = true
  · refine ⟨by omega, by omega, by omega, ?_, (allG_iff l p).1 h3⟩
    cases bad with
    | false => rfl
    | true => exact absurd (Or.inr (Or.inr rfl)) h2
  · rw [if_neg h3] at h; cases h
theorem fault_le (l : List Bl) (p : Int) (bad : Bool) : faultF l p bad ≤ 3 := by
  unfold faultF
  split
  · omega
  split
  · omega
  split <;> omega

/-- ONE IS EMPTIED AHEAD OF ANOTHER. -/
def ltB (l : List Bl) (i j : Nat) : Prop := (gB l i).live < (gB l j).live ∨ ((gB l i).live = (gB l j).live ∧ ((gB l i).wear < (gB l j).wear ∨ ((gB l i).wear = (gB l j).wear ∧ i < j)))
/-- It can be emptied. -/
def can (l : List Bl) (p : Int) (i : Nat) : Prop := i < l.length ∧ (gB l i).used = true ∧ (gB l i).live < p
/-- THE ORDER. -/
def IsOrd (l : List Bl) (p : Int) (o : List Nat) : Prop := (∀ i, i ∈ o ↔ can l p i) ∧ o.Pairwise (ltB l)
/-- THE NEXT ONE. -/
def IsMin (l : List Bl) (p : Int) (k : Nat) : Prop := can l p k ∧ ∀ j, can l p j → j = k ∨ ltB l k j
theorem ltB_irrefl (l : List Bl) (i : Nat) : ¬ ltB l i i := by unfold ltB; omega
theorem ltB_asymm {l : List Bl} {i j : Nat} (h : ltB l i j) : ¬ ltB l j i := by unfold ltB at *; omega
theorem IsMin.one {l : List Bl} {p : Int} {k k' : Nat} (h : IsMin l p k) (h' : IsMin l p k') : k = k' := by
  rcases h.2 k' h'.1 with e | e
  · exact e.symm
  · rcases h'.2 k h.1 with e2 | e2
    · exact e2
    · exact absurd e2 (ltB_asymm e)
theorem IsOrd.head {l : List Bl} {p : Int} {k : Nat} {r : List Nat} (h : IsOrd l p (k :: r)) : IsMin l p k := by
  refine ⟨(h.1 k).1 (List.mem_cons_self), fun j hj => ?_⟩
  rcases List.mem_cons.1 ((h.1 j).2 hj) with e | e
  · exact Or.inl e
  · exact Or.inr ((List.pairwise_cons.1 h.2).1 j e)
theorem IsOrd.none {l : List Bl} {p : Int} (h : IsOrd l p []) (i : Nat) : ¬ can l p i := fun e => by simpa using (h.1 i).2 e
/-- Blocks of which one was emptied. -/
def unuse (l : List Bl) (k : Nat) : List Bl := l.set k ⟨false, (gB l k).live, (gB l k).wear⟩
theorem unuse_len (l : List Bl) (k : Nat) : (unuse l k).length = l.length := by unfold unuse; simp
theorem unuse_at (l : List Bl) (k i : Nat) (hk : k < l.length) : gB (unuse l k) i = if i = k then ⟨false, (gB l k).live, (gB l k).wear⟩ else gB l i := by
  unfold gB unuse
  by_cases h : i = k
  · subst h
    rw [if_pos rfl, List.getElem?_set_self hk]
    rfl
  · rw [if_neg h, List.getElem?_set_ne (fun e => h e.symm)]
theorem unuse_live (l : List Bl) (k i : Nat) (hk : k < l.length) : (gB (unuse l k) i).live = (gB l i).live := by
  rw [unuse_at l k i hk]
  by_cases h : i = k
  · rw [if_pos h, h]
  · rw [if_neg h]
theorem unuse_wear (l : List Bl) (k i : Nat) (hk : k < l.length) : (gB (unuse l k) i).wear = (gB l i).wear := by
  rw [unuse_at l k i hk]
  by_cases h : i = k
  · rw [if_pos h, h]
  · rw [if_neg h]
theorem unuse_used (l : List Bl) (k i : Nat) (hk : k < l.length) : (gB (unuse l k) i).used = true ↔ (gB l i).used = true ∧ i ≠ k := by
  rw [unuse_at l k i hk]
  by_cases h : i = k
  · simp [h]
  · simp [h]
theorem unuse_lt (l : List Bl) (k i j : Nat) (hk : k < l.length) : ltB (unuse l k) i j ↔ ltB l i j := by
  unfold ltB
  rw [unuse_live l k i hk, unuse_live l k j hk, unuse_wear l k i hk, unuse_wear l k j hk]
theorem unuse_can (l : List Bl) (p : Int) (k i : Nat) (hk : k < l.length) : can (unuse l k) p i ↔ can l p i ∧ i ≠ k := by
  unfold can
  rw [unuse_len, unuse_used l k i hk, unuse_live l k i hk]
  constructor
  · rintro ⟨a, ⟨b, c⟩, d⟩; exact ⟨⟨a, b, d⟩, c⟩
  · rintro ⟨⟨a, b, d⟩, c⟩; exact ⟨a, ⟨b, c⟩, d⟩
theorem unuse_good {l : List Bl} {p : Int} {k : Nat} (h : allG l p) (hk : k < l.length) : allG (unuse l k) p := fun i hi => by
  have := h i (by rw [unuse_len] at hi; exact hi)
  unfold Good at *
  rw [unuse_live l k i hk, unuse_wear l k i hk]
  exact this
theorem IsOrd.tail {l : List Bl} {p : Int} {k : Nat} {r : List Nat} (h : IsOrd l p (k :: r)) : IsOrd (unuse l k) p r := by
  have hk : k < l.length := ((h.1 k).1 List.mem_cons_self).1
  have hp := List.pairwise_cons.1 h.2
  refine ⟨fun i => ?_, hp.2.imp (fun e => (unuse_lt l k _ _ hk).2 e)⟩
  rw [unuse_can l p k i hk, ← h.1 i]
  constructor
  · intro hi
    refine ⟨List.mem_cons_of_mem _ hi, fun e => ?_⟩
    subst e
    exact ltB_irrefl l i (hp.1 i hi)
  · rintro ⟨hi, hne⟩
    rcases List.mem_cons.1 hi with e | e
    · exact absurd e hne
    · exact e

theorem nodup_len : ∀ (n : Nat) (o : List Nat), o.Nodup → (∀ i ∈ o, i < n) → o.length ≤ n
  | 0, o, _, h => by
    cases o with
    | nil => exact Nat.le_refl _
    | cons x r => exact absurd (h x List.mem_cons_self) (Nat.not_lt_zero _)
  | n + 1, o, hn, h => by
    by_cases hm : n ∈ o
    · have hp := List.perm_cons_erase hm
      have hn2 := List.nodup_cons.1 (hp.nodup_iff.1 hn)
      have := nodup_len n (o.erase n) hn2.2 (fun i hi => by
        have h1 := h i (hp.mem_iff.2 (List.mem_cons_of_mem _ hi))
        have h2 : i ≠ n := fun e => hn2.1 (e ▸ hi)
        omega)
      have hl := hp.length_eq
      rw [List.length_cons] at hl
      omega
    · have := nodup_len n o hn (fun i hi => by
        have h1 := h i hi
        have h2 : i ≠ n := fun e => hm (e ▸ hi)
        omega)
      omega
theorem IsOrd.nodup {l : List Bl} {p : Int} {o : List Nat} (h : IsOrd l p o) : o.Nodup := h.2.imp (fun h e => by subst e; exact ltB_irrefl l _ h)
theorem IsOrd.len {l : List Bl} {p : Int} {o : List Nat} (h : IsOrd l p o) : o.length ≤ l.length := nodup_len _ o h.nodup (fun i hi => ((h.1 i).1 hi).1)
/-- WHAT IS WON. -/
def gain (l : List Bl) (p : Int) (i : Nat) : Int := p - (gB l i).live
def sumG (l : List Bl) (p : Int) : List Nat → Int
  | [] => 0
  | i :: r => gain l p i + sumG l p r
theorem sumG_app (l : List Bl) (p : Int) : ∀ a b, sumG l p (a ++ b) = sumG l p a + sumG l p b
  | [], b => by simp [sumG]
  | i :: r, b => by simp only [List.cons_append, sumG, sumG_app l p r b]; omega
theorem sumG_unuse (l : List Bl) (p : Int) (k : Nat) (hk : k < l.length) : ∀ s, sumG (unuse l k) p s = sumG l p s
  | [] => rfl
  | i :: r => by simp only [sumG, gain, unuse_live l k i hk, sumG_unuse l p k hk r]
theorem sumG_perm (l : List Bl) (p : Int) {a b : List Nat} (h : a.Perm b) : sumG l p a = sumG l p b := by
  induction h with
  | nil => rfl
  | cons x _ ih => simp only [sumG, ih]
  | swap x y r => simp only [sumG]; omega
  | trans _ _ ih1 ih2 => exact ih1.trans ih2
/-- WHAT A PLAN TAKES, so much being won. -/
def takeP (l : List Bl) (p need : Int) : Int → List Nat → List Nat
  | _, [] => []
  | won, i :: r => if need ≤ won then [] else i :: takeP l p need (won + gain l p i) r
theorem takeP_stop {l : List Bl} {p need won : Int} (o : List Nat) (h : need ≤ won) : takeP l p need won o = [] := by
  cases o with
  | nil => rfl
  | cons => unfold takeP; rw [if_pos h]
theorem takeP_more {l : List Bl} {p need won : Int} (i : Nat) (r : List Nat) (h : won < need) : takeP l p need won (i :: r) = i :: takeP l p need (won + gain l p i) r := by
  rw [takeP, if_neg (by omega)]
theorem takeP_unuse (l : List Bl) (p need : Int) (k : Nat) (hk : k < l.length) : ∀ (o : List Nat) (won : Int), takeP (unuse l k) p need won o = takeP l p need won o
  | [], _ => rfl
  | i :: r, won => by
    unfold takeP
    have e : gain (unuse l k) p i = gain l p i := by unfold gain; rw [unuse_live l k i hk]
    rw [e, takeP_unuse l p need k hk r]
/-- Fewer are not enough. -/
theorem takeP_few (l : List Bl) (p need : Int) : ∀ (o : List Nat) (won : Int) (j : Nat), j < (takeP l p need won o).length → won + sumG l p (o.take j) < need
  | [], won, j, h => by simp [takeP] at h
  | i :: r, won, j, h => by
    by_cases hn : need ≤ won
    · rw [takeP_stop _ hn] at h; simp at h
    · rw [takeP_more i r (by omega)] at h
      cases j with
      | zero => simp only [List.take_zero, sumG]; omega
      | succ j =>
        have := takeP_few l p need r (won + gain l p i) j (by simpa using h)
        simp only [List.take_succ_cons, sumG]
        omega
theorem takeP_pre (l : List Bl) (p need : Int) : ∀ (o : List Nat) (won : Int), ∃ r, o = takeP l p need won o ++ r
  | [], won => ⟨[], rfl⟩
  | i :: r, won => by
    by_cases hn : need ≤ won
    · exact ⟨i :: r, by rw [takeP_stop _ hn]; rfl⟩
    · obtain ⟨q, e⟩ := takeP_pre l p need r (won + gain l p i)
      exact ⟨q, by rw [takeP_more i r (by omega), List.cons_append, ← e]⟩
theorem takeP_mem {l : List Bl} {p need won : Int} {o : List Nat} {i : Nat} (h : i ∈ takeP l p need won o) : i ∈ o := by
  obtain ⟨r, e⟩ := takeP_pre l p need o won
  rw [e]
  exact List.mem_append_left _ h
theorem takeP_len (l : List Bl) (p need won : Int) (o : List Nat) : (takeP l p need won o).length ≤ o.length := by
  obtain ⟨r, e⟩ := takeP_pre l p need o won
  have := congrArg List.length e
  rw [List.length_append] at this
  omega
/-- NO OTHER CHOICE OF AS MANY WINS MORE. -/
theorem greedy (p : Int) : ∀ (o : List Nat) (l : List Bl), IsOrd l p o → (∀ i, i < l.length → (gB l i).live ≤ p) → ∀ s : List Nat, s.Nodup → (∀ i ∈ s, i < l.length ∧ (gB l i).used = true) → sumG l p s ≤ sumG l p (o.take s.length)
  | [], l, ho, hg, s, hn, hu => by
    have h0 : ∀ s : List Nat, (∀ i ∈ s, i < l.length ∧ (gB l i).used = true) → sumG l p s ≤ 0 := by
      intro s
      induction s with
      | nil => intro _; exact Int.le_refl _
      | cons x r ih =>
        intro hs
        have h1 := hs x List.mem_cons_self
        have h2 := ih (fun i hi => hs i (List.mem_cons_of_mem _ hi))
        have h3 : ¬ (gB l x).live < p := fun e => ho.none x ⟨h1.1, h1.2, e⟩
        simp only [sumG, gain]
        omega
    simpa [sumG] using h0 s hu
  | k :: r, l, ho, hg, [], hn, hu => by simp [sumG]
  | k :: r, l, ho, hg, x :: s, hn, hu => by
    have hk := ho.head
    have hkl : k < l.length := hk.1.1
    have ih := greedy p r (unuse l k) ho.tail (fun i hi => by rw [unuse_live l k i hkl]; exact hg i (by rw [unuse_len] at hi; exact hi))
    by_cases hm : k ∈ x :: s
    · have hp := List.perm_cons_erase hm
      have hl := hp.length_eq
      have hn2 := hp.nodup_iff.1 hn
      have hn3 := List.nodup_cons.1 hn2
      have := ih ((x :: s).erase k) hn3.2 (fun i hi => by
        have h1 := hu i (hp.mem_iff.2 (List.mem_cons_of_mem _ hi))
        refine ⟨by rw [unuse_len]; exact h1.1, (unuse_used l k i hkl).2 ⟨h1.2, fun e => hn3.1 (e ▸ hi)⟩⟩)
      rw [sumG_unuse l p k hkl, sumG_unuse l p k hkl] at this
      rw [sumG_perm l p hp, hl]
      simp only [List.length_cons, List.take_succ_cons, sumG]
      omega
    · have hn3 := List.nodup_cons.1 hn
      have := ih s hn3.2 (fun i hi => by
        have h1 := hu i (List.mem_cons_of_mem _ hi)
        refine ⟨by rw [unuse_len]; exact h1.1, (unuse_used l k i hkl).2 ⟨h1.2, fun e => hm (e ▸ List.mem_cons_of_mem _ hi)⟩⟩)
      rw [sumG_unuse l p k hkl, sumG_unuse l p k hkl] at this
      have h1 := hu x List.mem_cons_self
      have hx : gain l p x ≤ gain l p k := by
        unfold gain
        by_cases hc : (gB l x).live < p
        · rcases hk.2 x ⟨h1.1, h1.2, hc⟩ with e | e
          · rw [e]; exact Int.le_refl _
          · unfold ltB at e; omega
        · have := hk.1.2.2; omega
      simp only [List.length_cons, List.take_succ_cons, sumG]
      omega

/-- THE LEAST WORN OF THOSE THAT ARE USED. -/
def IsLow (l : List Bl) (k : Nat) : Prop := k < l.length ∧ (gB l k).used = true ∧ ∀ j, j < l.length → (gB l j).used = true → (gB l k).wear < (gB l j).wear ∨ ((gB l k).wear = (gB l j).wear ∧ k ≤ j)
/-- WHICH WAS WORN TOO LITTLE. -/
def IsLev (l : List Bl) (gap : Int) (k : Nat) : Prop := IsLow l k ∧ ∃ j, j < l.length ∧ gap < (gB l j).wear - (gB l k).wear
theorem IsLow.one {l : List Bl} {k k' : Nat} (h : IsLow l k) (h' : IsLow l k') : k = k' := by
  have h1 := h.2.2 k' h'.1 h'.2.1
  have h2 := h'.2.2 k h.1 h.2.1
  omega
theorem IsLev.one {l : List Bl} {gap : Int} {k k' : Nat} (h : IsLev l gap k) (h' : IsLev l gap k') : k = k' := h.1.one h'.1
/-- Of the first n. -/
def LowN (l : List Bl) (n : Nat) (k : Int) : Prop := (k = -1 ∧ ∀ j, j < n → (gB l j).used = false) ∨ ∃ i : Nat, k = i ∧ i < n ∧ (gB l i).used = true ∧ ∀ j, j < n → (gB l j).used = true → (gB l i).wear < (gB l j).wear ∨ ((gB l i).wear = (gB l j).wear ∧ i ≤ j)
def TopN (l : List Bl) (n : Nat) (m : Int) : Prop := 0 ≤ m ∧ (∀ j, j < n → (gB l j).wear ≤ m) ∧ (m = 0 ∨ ∃ j, j < n ∧ (gB l j).wear = m)
theorem LowN.zero (l : List Bl) : LowN l 0 (-1) := Or.inl ⟨rfl, fun j hj => absurd hj (Nat.not_lt_zero _)⟩
theorem TopN.zero (l : List Bl) : TopN l 0 0 := ⟨Int.le_refl _, fun j hj => absurd hj (Nat.not_lt_zero _), Or.inl rfl⟩
theorem TopN.step {l : List Bl} {n : Nat} {m : Int} (h : TopN l n m) : TopN l (n + 1) (max m (gB l n).wear) := by
  refine ⟨by have := h.1; omega, fun j hj => ?_, ?_⟩
  · by_cases e : j = n
    · subst e; omega
    · have := h.2.1 j (by omega); omega
  · by_cases hm : m ≤ (gB l n).wear
    · exact Or.inr ⟨n, by omega, by omega⟩
    · rcases h.2.2 with e | ⟨j, hj, e⟩
      · exact Or.inl (by omega)
      · exact Or.inr ⟨j, by omega, by omega⟩
theorem LowN.skip {l : List Bl} {n : Nat} {k : Int} (h : LowN l n k) (hu : (gB l n).used = false) : LowN l (n + 1) k := by
  rcases h with ⟨e, h⟩ | ⟨i, e, h1, h2, h3⟩
  · refine Or.inl ⟨e, fun j hj => ?_⟩
    by_cases e : j = n
    · rw [e]; exact hu
    · exact h j (by omega)
  · refine Or.inr ⟨i, e, by omega, h2, fun j hj hju => ?_⟩
    by_cases e : j = n
    · rw [e, hu] at hju; cases hju
    · exact h3 j (by omega) hju
theorem LowN.stay {l : List Bl} {n i : Nat} (h : LowN l n (i : Int)) (hw : (gB l i).wear ≤ (gB l n).wear) : LowN l (n + 1) (i : Int) := by
  rcases h with ⟨e, h⟩ | ⟨i', e, h1, h2, h3⟩
  · omega
  · obtain rfl : i = i' := by omega
    refine Or.inr ⟨i, rfl, by omega, h2, fun j hj hju => ?_⟩
    by_cases e : j = n
    · subst e; omega
    · exact h3 j (by omega) hju
theorem LowN.turn {l : List Bl} {n : Nat} {k : Int} (h : LowN l n k) (hu : (gB l n).used = true) (hw : k < 0 ∨ (gB l n).wear < (gB l k.toNat).wear) : LowN l (n + 1) (n : Int) := by
  refine Or.inr ⟨n, rfl, by omega, hu, fun j hj hju => ?_⟩
  by_cases e : j = n
  · subst e; omega
  rcases h with ⟨e, h⟩ | ⟨i, e, h1, h2, h3⟩
  · have := h j (by omega); rw [hju] at this; cases this
  · subst e
    have := h3 j (by omega) hju
    rw [Int.toNat_natCast] at hw
    omega
theorem LowN.lev {l : List Bl} {i : Nat} {m gap : Int} (h : LowN l l.length (i : Int)) (ht : TopN l l.length m) (hw : 0 ≤ (gB l i).wear) (hg : 0 ≤ gap) (hd : gap < m - (gB l i).wear) : IsLev l gap i := by
  rcases h with ⟨e, h⟩ | ⟨i', e, h1, h2, h3⟩
  · omega
  · obtain rfl : i = i' := by omega
    refine ⟨⟨h1, h2, h3⟩, ?_⟩
    rcases ht.2.2 with e | ⟨j, hj, e⟩
    · omega
    · exact ⟨j, hj, by omega⟩
theorem LowN.not {l : List Bl} {k m gap : Int} (h : LowN l l.length k) (ht : TopN l l.length m) (hd : k < 0 ∨ m - (gB l k.toNat).wear ≤ gap) (q : Nat) : ¬ IsLev l gap q := by
  rintro ⟨hl, j, hj, hg⟩
  rcases h with ⟨e, h⟩ | ⟨i, e, h1, h2, h3⟩
  · have := h q hl.1; rw [hl.2.1] at this; cases this
  · subst e
    have hq : i = q := IsLow.one ⟨h1, h2, h3⟩ hl
    subst hq
    rw [Int.toNat_natCast] at hd
    have := ht.2.1 j hj
    omega
/-- AS MUCH MORE WEAR OF EACH. -/
def shift (l : List Bl) (d : Int) : List Bl := l.map fun b => ⟨b.used, b.live, b.wear + d⟩
theorem shift_len (l : List Bl) (d : Int) : (shift l d).length = l.length := by unfold shift; simp
theorem shift_at (l : List Bl) (d : Int) (i : Nat) (hi : i < l.length) : gB (shift l d) i = ⟨(gB l i).used, (gB l i).live, (gB l i).wear + d⟩ := by
  unfold gB shift
  rw [List.getElem?_map, List.getElem?_eq_getElem hi]
  rfl
theorem shift_can (l : List Bl) (d p : Int) (i : Nat) : can (shift l d) p i ↔ can l p i := by
  unfold can
  rw [shift_len]
  constructor
  · rintro ⟨a, b⟩; rw [shift_at l d i a] at b; exact ⟨a, b⟩
  · rintro ⟨a, b⟩; rw [shift_at l d i a]; exact ⟨a, b⟩
theorem shift_min {l : List Bl} {p : Int} {k : Nat} (d : Int) (h : IsMin l p k) : IsMin (shift l d) p k := by
  refine ⟨(shift_can l d p k).2 h.1, fun j hj => ?_⟩
  have hj' := (shift_can l d p j).1 hj
  rcases h.2 j hj' with e | e
  · exact Or.inl e
  · right
    unfold ltB at *
    rw [shift_at l d k h.1.1, shift_at l d j hj'.1]
    show (gB l k).live < (gB l j).live ∨ ((gB l k).live = (gB l j).live ∧ ((gB l k).wear + d < (gB l j).wear + d ∨ ((gB l k).wear + d = (gB l j).wear + d ∧ k < j)))
    omega
theorem shift_lev (l : List Bl) (d gap : Int) (k : Nat) : IsLev (shift l d) gap k ↔ IsLev l gap k := by
  unfold IsLev IsLow
  rw [shift_len]
  constructor
  · rintro ⟨⟨h1, h2, h3⟩, j, h4, h5⟩
    rw [shift_at l d k h1] at h2 h5
    rw [shift_at l d j h4] at h5
    refine ⟨⟨h1, h2, fun q hq hu => ?_⟩, j, h4, ?_⟩
    · have := h3 q hq (by rw [shift_at l d q hq]; exact hu)
      rw [shift_at l d k h1, shift_at l d q hq] at this
      change (gB l k).wear + d < (gB l q).wear + d ∨ ((gB l k).wear + d = (gB l q).wear + d ∧ k ≤ q) at this
      omega
    · change gap < (gB l j).wear + d - ((gB l k).wear + d) at h5
      omega
  · rintro ⟨⟨h1, h2, h3⟩, j, h4, h5⟩
    refine ⟨⟨h1, by rw [shift_at l d k h1]; exact h2, fun q hq hu => ?_⟩, j, h4, ?_⟩
    · rw [shift_at l d q hq] at hu
      have := h3 q hq hu
      rw [shift_at l d k h1, shift_at l d q hq]
      show (gB l k).wear + d < (gB l q).wear + d ∨ ((gB l k).wear + d = (gB l q).wear + d ∧ k ≤ q)
      omega
    · rw [shift_at l d k h1, shift_at l d j h4]
      show gap < (gB l j).wear + d - ((gB l k).wear + d)
      omega
end Go.Proofs.YtgmobibogoebpagDoor
