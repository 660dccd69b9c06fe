/-
  Heaps as lists of blocks' numbers: what goes up, what goes down, what is taken off, what is laid on. Plain mathematics.
-/
namespace Go.Proofs.YtebnjoammfidnacDoor

/-- The k-th of a list. -/
def nth (L : List Nat) (k : Nat) : Nat := L[k]?.getD 0
/-- A place's parent. -/
def par (k : Nat) : Nat := (k - 1) / 2
/-- Two are exchanged. -/
def sw (L : List Nat) (i j : Nat) : List Nat := (L.set i (nth L j)).set j (nth L i)
/-- Which of two is taken first. -/
def Lts (wn : Nat → Nat) (a b : Nat) : Prop := wn a < wn b ∨ (wn a = wn b ∧ a < b)
def ltsB (wn : Nat → Nat) (a b : Nat) : Bool := decide (wn a < wn b ∨ (wn a = wn b ∧ a < b))
theorem ltsB_iff (wn : Nat → Nat) (a b : Nat) : ltsB wn a b = true ↔ Lts wn a b := by simp [ltsB, Lts]
theorem ltsB_not (wn : Nat → Nat) (a b : Nat) : ltsB wn a b = false ↔ ¬ Lts wn a b := by simp [ltsB, Lts]

theorem nth_at {L : List Nat} {k : Nat} (h : k < L.length) : nth L k = L[k] := by unfold nth; rw [List.getElem?_eq_getElem h]; rfl
theorem nth_mem {L : List Nat} {k : Nat} (h : k < L.length) : nth L k ∈ L := by rw [nth_at h]; exact List.getElem_mem _
theorem sw_len (L : List Nat) (i j : Nat) : (sw L i j).length = L.length := by simp [sw]
theorem sw_at {L : List Nat} {i j : Nat} (hi : i < L.length) (hj : j < L.length) (k : Nat) : nth (sw L i j) k = if k = j then nth L i else if k = i then nth L j else nth L k := by
  unfold sw
  show ((L.set i (nth L j)).set j (nth L i))[k]?.getD 0 = _
  rw [List.getElem?_set, List.getElem?_set]
  by_cases h1 : k = j
  · subst h1; simp [hj]
  · rw [if_neg (fun e => h1 e.symm), if_neg h1]
    by_cases h2 : k = i
    · subst h2; simp [hi]
    · rw [if_neg (fun e => h2 e.symm), if_neg h2]; rfl
theorem sw_perm {L : List Nat} {i j : Nat} (hi : i < L.length) (hj : j < L.length) : (sw L i j).Perm L := by
  unfold sw
  rw [nth_at hi, nth_at hj]
  exact List.set_set_perm hi hj

/-- A heap. -/
def Heap (wn : Nat → Nat) (L : List Nat) (m : Nat) : Prop := ∀ k, 0 < k → k < m → ¬ Lts wn (nth L k) (nth L (par k))
/-- A heap, but for one that may go up. -/
def UpOk (wn : Nat → Nat) (L : List Nat) (j : Nat) : Prop :=
  ∀ k, 0 < k → k < L.length → (k ≠ j → ¬ Lts wn (nth L k) (nth L (par k))) ∧ (par k = j → 0 < j → ¬ Lts wn (nth L k) (nth L (par j)))
/-- A heap, but for one that may go down. -/
def DnOk (wn : Nat → Nat) (L : List Nat) (m i : Nat) : Prop :=
  ∀ k, 0 < k → k < m → (par k ≠ i → ¬ Lts wn (nth L k) (nth L (par k))) ∧ (par k = i → 0 < i → ¬ Lts wn (nth L k) (nth L (par i)))

theorem Lts.asym {wn : Nat → Nat} {a b : Nat} (h : Lts wn a b) : ¬ Lts wn b a := by unfold Lts at *; omega
theorem lts_tr1 {wn : Nat → Nat} {a b c : Nat} (h : ¬ Lts wn a c) (h2 : Lts wn b c) : ¬ Lts wn a b := by unfold Lts at *; omega
theorem lts_tr2 {wn : Nat → Nat} {a b c : Nat} (h : ¬ Lts wn a b) (h2 : ¬ Lts wn b c) : ¬ Lts wn a c := by unfold Lts at *; omega
theorem lts_one {wn : Nat → Nat} {a b : Nat} (h : ¬ Lts wn a b) (h2 : ¬ Lts wn b a) : a = b := by unfold Lts at *; omega

theorem up_step {wn : Nat → Nat} {L : List Nat} {j : Nat} (h : UpOk wn L j) (h0 : 0 < j) (hj : j < L.length) (hl : Lts wn (nth L j) (nth L (par j))) : UpOk wn (sw L (par j) j) (par j) := by
  have hp : par j < j := by unfold par; omega
  intro k hk hkl
  rw [sw_len] at hkl
  have hi : par j < L.length := by omega
  have hpk : par k < k := by unfold par; omega
  obtain ⟨f1, f2⟩ := h k hk hkl
  refine ⟨fun hne => ?_, fun e hp0 => ?_⟩
  · by_cases hkj : k = j
    · subst hkj
      rw [sw_at hi hj, sw_at hi hj, if_pos rfl, if_neg (by omega), if_pos rfl]
      exact hl.asym
    · rw [sw_at hi hj k, if_neg hkj, if_neg hne, sw_at hi hj]
      by_cases e1 : par k = j
      · rw [if_pos e1]; exact f2 e1 h0
      · rw [if_neg e1]
        by_cases e2 : par k = par j
        · rw [if_pos e2]
          have := f1 hkj
          rw [e2] at this
          exact lts_tr1 this hl
        · rw [if_neg e2]; exact f1 hkj
  · have hpp : par (par j) < par j := by unfold par at hp0 ⊢; omega
    rw [sw_at hi hj (par (par j)), if_neg (by omega), if_neg (by omega)]
    have g := (h (par j) hp0 hi).1 (by omega)
    by_cases hkj : k = j
    · subst hkj
      rw [sw_at hi hj, if_pos rfl]; exact g
    · rw [sw_at hi hj k, if_neg hkj, if_neg (by omega)]
      have := f1 hkj
      rw [e] at this
      exact lts_tr2 this g
theorem up_done {wn : Nat → Nat} {L : List Nat} {j : Nat} (h : UpOk wn L j) (hd : j = 0 ∨ ¬ Lts wn (nth L j) (nth L (par j))) : Heap wn L L.length := by
  intro k hk hkl
  by_cases e : k = j
  · subst e
    rcases hd with hd | hd
    · omega
    · exact hd
  · exact (h k hk hkl).1 e
theorem dn_step {wn : Nat → Nat} {L : List Nat} {m i j : Nat} (h : DnOk wn L m i) (hm : m ≤ L.length) (h0 : 0 < j) (hj : j < m) (hp : par j = i) (hl : Lts wn (nth L j) (nth L i)) (hb : ∀ k, 0 < k → k < m → par k = i → ¬ Lts wn (nth L k) (nth L j)) : DnOk wn (sw L i j) m j := by
  have hij : i < j := by unfold par at hp; omega
  have hi' : i < L.length := by omega
  have hj' : j < L.length := by omega
  intro k hk hkl
  have hpk : par k < k := by unfold par; omega
  obtain ⟨f1, f2⟩ := h k hk hkl
  refine ⟨fun hne => ?_, fun e hp0 => ?_⟩
  · by_cases e1 : par k = i
    · rw [e1, sw_at hi' hj' i, if_neg (by omega), if_pos rfl]
      by_cases e2 : k = j
      · subst e2
        rw [sw_at hi' hj', if_pos rfl]; exact hl.asym
      · rw [sw_at hi' hj' k, if_neg e2, if_neg (by omega)]
        exact hb k hk hkl e1
    · rw [sw_at hi' hj' (par k), if_neg hne, if_neg e1]
      by_cases e2 : k = i
      · subst e2
        rw [sw_at hi' hj', if_neg (by omega), if_pos rfl]
        exact (h j h0 hj).2 hp hk
      · rw [sw_at hi' hj' k, if_neg (fun e => e1 (by rw [e]; exact hp)), if_neg e2]
        exact f1 e1
  · rw [hp, sw_at hi' hj' i, if_neg (by omega), if_pos rfl, sw_at hi' hj' k, if_neg (by omega), if_neg (by omega)]
    have := f1 (by omega)
    rw [e] at this
    exact this
theorem dn_done {wn : Nat → Nat} {L : List Nat} {m i : Nat} (h : DnOk wn L m i) (hb : ∀ k, 0 < k → k < m → par k = i → ¬ Lts wn (nth L k) (nth L i)) : Heap wn L m := by
  intro k hk hkl
  by_cases e : par k = i
  · rw [e]; exact hb k hk hkl e
  · exact (h k hk hkl).1 e
theorem heap_min {wn : Nat → Nat} {L : List Nat} {m : Nat} (h : Heap wn L m) : ∀ k, k < m → ¬ Lts wn (nth L k) (nth L 0) := by
  intro k
  induction k using Nat.strongRecOn with
  | _ k ih =>
    intro hk
    by_cases h0 : k = 0
    · subst h0; unfold Lts; omega
    · have hp : par k < k := by unfold par; omega
      exact lts_tr2 (h k (by omega) hk) (ih (par k) hp (by omega))
theorem nth_app {L : List Nat} {b k : Nat} (h : k < L.length) : nth (L ++ [b]) k = nth L k := by
  unfold nth; rw [List.getElem?_append_left h]
theorem nth_last (L : List Nat) (b : Nat) : nth (L ++ [b]) L.length = b := by
  unfold nth; simp
/-- One is laid on. -/
theorem up_start {wn : Nat → Nat} {L : List Nat} (b : Nat) (h : Heap wn L L.length) : UpOk wn (L ++ [b]) L.length := by
  intro k hk hkl
  simp at hkl
  have hpk : par k < k := by unfold par; omega
  refine ⟨fun hne => ?_, fun e hp0 => ?_⟩
  · rw [nth_app (by omega), nth_app (by omega)]
    exact h k hk (by omega)
  · omega
/-- The first is taken off. -/
theorem dn_start {wn : Nat → Nat} {L : List Nat} {m : Nat} (hm : L.length = m + 1) (h : Heap wn L L.length) : DnOk wn (sw L 0 m) m 0 := by
  intro k hk hkl
  have hpk : par k < k := by unfold par; omega
  refine ⟨fun hne => ?_, fun e hp0 => by omega⟩
  rw [sw_at (by omega) (by omega) k, if_neg (by omega), if_neg (by omega), sw_at (by omega) (by omega), if_neg (by omega), if_neg hne]
  exact h k hk (by omega)
theorem nth_take {L : List Nat} {m k : Nat} (h : k < m) : nth (L.take m) k = nth L k := by
  unfold nth; rw [List.getElem?_take, if_pos h]
theorem heap_take {wn : Nat → Nat} {L : List Nat} {m : Nat} (h : Heap wn L m) : Heap wn (L.take m) m := by
  intro k hk hkl
  have hpk : par k < k := by unfold par; omega
  rw [nth_take hkl, nth_take (by omega)]
  exact h k hk hkl
theorem heap_wn {wn wn' : Nat → Nat} {L : List Nat} (h : Heap wn L L.length) (he : ∀ x ∈ L, wn' x = wn x) : Heap wn' L L.length := by
  intro k hk hkl
  have hpk : par k < k := by unfold par; omega
  have := h k hk hkl
  unfold Lts at *
  rw [he _ (nth_mem hkl), he _ (nth_mem (by omega))]
  exact this
theorem last_split {L : List Nat} {m : Nat} (h : L.length = m + 1) : L = L.take m ++ [nth L m] := by
  apply List.ext_getElem (by simp; omega)
  intro i h1 h2
  rw [List.getElem_append]
  split
  · simp
  · have : i = m := by simp at *; omega
    subst this
    simp [nth_at h1]
/-- THE FREE ONES, as a heap. -/
structure HInv (n : Nat) (st wn : Nat → Nat) (L : List Nat) : Prop where
  nodup : L.Nodup
  mem : ∀ x, x ∈ L ↔ x < n ∧ st x = 0
  heap : Heap wn L L.length
theorem HInv.len {n : Nat} {st wn : Nat → Nat} {L : List Nat} (h : HInv n st wn L) : L.length ≤ n := by
  have := h.nodup.length_le_of_subset (l₂ := List.range n) (fun x hx => List.mem_range.2 ((h.mem x).1 hx).1)
  simpa using this
theorem HInv.push {n : Nat} {st wn st' wn' : Nat → Nat} {L L' : List Nat} {b : Nat} (h : HInv n st wn L) (hb : b < n) (hu : st b ≠ 0) (h0 : st' b = 0) (hs : ∀ x, x ≠ b → st' x = st x) (hp : L'.Perm (L ++ [b])) (hh : Heap wn' L' L'.length) : HInv n st' wn' L' := by
  have hnb : b ∉ L := fun e => hu ((h.mem b).1 e).2
  refine ⟨?_, fun x => ?_, hh⟩
  · rw [hp.nodup_iff]
    have : (L ++ [b]).Perm (b :: L) := List.perm_append_comm
    rw [this.nodup_iff, List.nodup_cons]
    exact ⟨hnb, h.nodup⟩
  · rw [hp.mem_iff, List.mem_append, List.mem_singleton, h.mem]
    by_cases e : x = b
    · subst e; simp [hb, h0]
    · rw [hs x e]; simp [e]
theorem HInv.pop {n : Nat} {st wn st' : Nat → Nat} {L L' : List Nat} {m b : Nat} (h : HInv n st wn L) (hl : L'.length = m + 1) (hb : nth L' m = b) (hu : st' b ≠ 0) (hs : ∀ x, x ≠ b → st' x = st x) (hp : L'.Perm L) (hh : Heap wn L' m) : HInv n st' wn (L'.take m) := by
  have e := last_split hl
  rw [hb] at e
  have hnd : (b :: L'.take m).Nodup := by
    have p1 : (b :: L'.take m).Perm L' := by
      have : (L'.take m ++ [b]).Perm (b :: L'.take m) := List.perm_append_comm
      rw [← e] at this
      exact this.symm
    rw [p1.nodup_iff, hp.nodup_iff]
    exact h.nodup
  rw [List.nodup_cons] at hnd
  refine ⟨hnd.2, fun x => ?_, by rw [List.length_take, hl, Nat.min_eq_left (by omega)]; exact heap_take hh⟩
  have hx : x ∈ L ↔ x ∈ L'.take m ∨ x = b := by
    rw [← hp.mem_iff]
    conv => lhs; rw [e]
    simp
  by_cases exb : x = b
  · subst exb
    exact ⟨fun g => absurd g hnd.1, fun g => absurd g.2 hu⟩
  · rw [hs x exb, ← h.mem, hx]
    simp [exb]
end Go.Proofs.YtebnjoammfidnacDoor
