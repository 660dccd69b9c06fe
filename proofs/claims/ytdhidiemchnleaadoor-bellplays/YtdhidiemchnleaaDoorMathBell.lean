/-
  The plain mathematics of a bell: what it is behind a post, a tick, a mask.
-/
import Derived.Test.YtdhidiemchnleaaDoorProg
namespace Go.Proofs.YtdhidiemchnleaaDoor
set_option linter.unusedVariables false

def gI (L : List Int) (i : Nat) : Int := L[i]?.getD 0
/-- A bell as plain data: masked, how many wait, how long, how often it rang. -/
structure Sb where
  m : Bool
  w : Nat
  t : Nat
  r : Nat
/-- It is due. -/
def dueF (L D : Nat) (s : Sb) : Bool := !s.m && !(decide (s.w = 0)) && (decide (L ≤ s.w) || decide (D ≤ s.t))
def rungF (L D : Nat) (s : Sb) : Sb := if dueF L D s = true then ⟨s.m, 0, 0, s.r + 1⟩ else s
def postF (L D : Nat) (s : Sb) : Sb := rungF L D ⟨s.m, s.w + 1, s.t, s.r⟩
def tickedF (s : Sb) : Sb := if s.w = 0 then s else ⟨s.m, s.w, s.t + 1, s.r⟩
def tickF (L D : Nat) (s : Sb) : Sb := rungF L D (tickedF s)
def maskF (L D : Nat) (s : Sb) (b : Bool) : Sb := rungF L D ⟨b, s.w, s.t, s.r⟩
/-- Nothing is greater than so many. -/
structure Bd (i : Nat) (s : Sb) : Prop where
  rw : s.r + s.w ≤ i
  t : s.t ≤ i
theorem Bd.rung {i : Nat} {s : Sb} (L D : Nat) (h : Bd i s) : Bd i (rungF L D s) := by
  unfold rungF
  split
  · rename_i hd
    have h0 : ¬ s.w = 0 := by
      intro e
      simp [dueF, e] at hd
    exact ⟨by have := h.rw; show s.r + 1 + 0 ≤ i; omega, Nat.zero_le _⟩
  · exact h
theorem Bd.post {i : Nat} {s : Sb} (L D : Nat) (h : Bd i s) : Bd (i + 1) (postF L D s) :=
  Bd.rung L D ⟨by have := h.rw; show s.r + (s.w + 1) ≤ i + 1; omega, by have := h.t; show s.t ≤ i + 1; omega⟩
theorem Bd.mono {i j : Nat} {s : Sb} (h : Bd i s) (hj : i ≤ j) : Bd j s := ⟨Nat.le_trans h.rw hj, Nat.le_trans h.t hj⟩
theorem Bd.tick {i : Nat} {s : Sb} (L D : Nat) (h : Bd i s) : Bd (i + 1) (tickF L D s) := by
  refine Bd.rung L D ?_
  unfold tickedF
  split
  · exact h.mono (by omega)
  · exact ⟨by have := h.rw; show s.r + s.w ≤ i + 1; omega, by have := h.t; show s.t + 1 ≤ i + 1; omega⟩
theorem Bd.mask {i : Nat} {s : Sb} (L D : Nat) (b : Bool) (h : Bd i s) : Bd i (maskF L D s b) := Bd.rung L D ⟨h.rw, h.t⟩
/-- While nothing waits nothing has waited. -/
def Idle (s : Sb) : Prop := s.w = 0 → s.t = 0
theorem Idle.rung {s : Sb} (L D : Nat) (h : Idle s) : Idle (rungF L D s) := by
  unfold rungF
  split
  · exact fun _ => rfl
  · exact h
theorem Idle.post {s : Sb} (L D : Nat) : Idle (postF L D s) := Idle.rung L D (fun e => by simp at e)
theorem Idle.tick {s : Sb} (L D : Nat) (h : Idle s) : Idle (tickF L D s) := by
  refine Idle.rung L D ?_
  unfold tickedF
  split
  · exact h
  · rename_i e
    exact fun e2 => (e e2).elim
theorem Idle.mask {s : Sb} (L D : Nat) (b : Bool) (h : Idle s) : Idle (maskF L D s b) := Idle.rung L D h
/-- Not masked, and not due. -/
structure Calm (L D : Nat) (s : Sb) : Prop where
  m : s.m = false
  c : s.w = 0 ∨ (s.w < L ∧ s.t < D)
theorem rung_calm {L D : Nat} {s : Sb} (h : s.m = false) : Calm L D (rungF L D s) := by
  unfold rungF
  split
  · exact ⟨h, Or.inl rfl⟩
  · rename_i hd
    refine ⟨h, ?_⟩
    by_cases h0 : s.w = 0
    · exact Or.inl h0
    · refine Or.inr ?_
      simp [dueF, h, h0] at hd
      omega
/-- BEHIND i TICKS, NOT MASKED: all that waited was rung for, or it has not waited long enough yet. -/
def TkI (L D : Nat) (p : Nat) (r0 : Nat) (ws : Nat) (i : Nat) (s : Sb) : Prop :=
  s.m = false ∧ s.r ≤ p ∧ ((s.w = 0 ∧ s.r = r0 + (if ws = 0 then 0 else 1)) ∨ (¬ s.w = 0 ∧ ¬ ws = 0 ∧ i ≤ s.t ∧ s.t < D ∧ s.w < L ∧ s.r = r0 ∧ s.r < p))
theorem TkI.start {L D p : Nat} {s : Sb} (h : s.r + s.w ≤ p) : TkI L D p s.r s.w 0 (maskF L D s false) := by
  unfold TkI maskF rungF
  by_cases h0 : s.w = 0
  · have hd : dueF L D ⟨false, s.w, s.t, s.r⟩ = false := by simp [dueF, h0]
    rw [hd]
    simp [h0]
    omega
  · by_cases hd : dueF L D ⟨false, s.w, s.t, s.r⟩ = true
    · rw [if_pos hd]
      simp [h0]
      omega
    · rw [if_neg hd]
      simp [dueF, h0] at hd
      simp [h0]
      omega
theorem TkI.step {L D p r0 ws i : Nat} {s : Sb} (h : TkI L D p r0 ws i s) : TkI L D p r0 ws (i + 1) (tickF L D s) := by
  obtain ⟨hm, hp, h⟩ := h
  obtain ⟨m, w, t, r⟩ := s
  simp only at hm hp h
  subst hm
  unfold TkI tickF tickedF rungF
  rcases h with ⟨h1, h2⟩ | ⟨h1, h2, h3, h4, h5, h6, h7⟩
  · subst h1
    simp [dueF]
    exact ⟨hp, h2⟩
  · simp only [h1, if_false]
    by_cases hd : D ≤ t + 1
    · have he : dueF L D ⟨false, w, t + 1, r⟩ = true := by simp [dueF, h1, hd]
      rw [if_pos he]
      simp [h2]
      omega
    · have he : ¬ dueF L D ⟨false, w, t + 1, r⟩ = true := by simp [dueF, h1, hd]; omega
      rw [if_neg he]
      simp [h1, h2]
      omega
theorem TkI.done {L D p r0 ws : Nat} {s : Sb} (h : TkI L D p r0 ws D s) : s.w = 0 ∧ s.r ≤ p ∧ s.r = r0 + (if ws = 0 then 0 else 1) := by
  obtain ⟨hm, hp, ⟨h1, h2⟩ | ⟨h1, h2, h3, h4, _⟩⟩ := h
  · exact ⟨h1, hp, h2⟩
  · omega
/-- BEHIND i POSTS. -/
def grpF (L D i : Nat) : Sb := if D = 0 then ⟨false, 0, 0, i⟩ else ⟨false, i % L, 0, i / L⟩
theorem grp_zero {L D : Nat} : grpF L D 0 = ⟨false, 0, 0, 0⟩ := by
  unfold grpF
  split <;> simp
theorem grp_post {L D i : Nat} (hL : 1 ≤ L) : postF L D (grpF L D i) = grpF L D (i + 1) := by
  unfold grpF postF rungF
  by_cases hD : D = 0
  · subst hD
    simp [dueF]
  · rw [if_neg hD, if_neg hD]
    have hlt : i % L < L := Nat.mod_lt _ hL
    have hs : i = L * (i / L) + i % L := (Nat.div_add_mod i L).symm
    generalize i % L = x at *
    generalize i / L = q at *
    subst hs
    by_cases hd : L ≤ x + 1
    · have he : dueF L D ⟨false, x + 1, 0, q⟩ = true := by simp [dueF, hd]
      have e : L * q + x + 1 = L * (q + 1) := by rw [Nat.mul_add]; omega
      simp only
      rw [if_pos he, e, Nat.mul_mod_right, Nat.mul_div_cancel_left _ hL]
    · have he : ¬ dueF L D ⟨false, x + 1, 0, q⟩ = true := by simp [dueF, hd, hD]
      simp only
      rw [if_neg he, Nat.add_assoc, Nat.mul_add_mod, Nat.mul_add_div hL, Nat.mod_eq_of_lt (by omega), Nat.div_eq_of_lt (by omega)]
      rfl
/-- THE AGES OF ALL THAT WAITS. -/
structure Ag (i : Nat) (l : List Int) (s : Sb) : Prop where
  n : l.length = s.w
  b : ∀ k, k < l.length → 0 ≤ gI l k ∧ gI l k ≤ i
  f : ¬ s.w = 0 → gI l 0 = s.t
theorem Ag.post {i : Nat} {l : List Int} {s : Sb} (h : Ag i l s) (hi : Idle s) : Ag (i + 1) (l ++ [0]) ⟨s.m, s.w + 1, s.t, s.r⟩ := by
  refine ⟨by simp [h.n], fun k hk => ?_, fun _ => ?_⟩
  · rw [List.length_append] at hk
    simp at hk
    by_cases e : k < l.length
    · have := h.b k e
      have e2 : gI (l ++ [0]) k = gI l k := by unfold gI; rw [List.getElem?_append_left e]
      rw [e2]; omega
    · obtain rfl : k = l.length := by omega
      have e2 : gI (l ++ [0]) l.length = 0 := by unfold gI; simp
      rw [e2]; omega
  · by_cases e : s.w = 0
    · have e1 : l = [] := List.eq_nil_of_length_eq_zero (by rw [h.n]; exact e)
      subst e1
      have := hi e
      simp [gI, this]
    · have e2 : gI (l ++ [0]) 0 = gI l 0 := by unfold gI; rw [List.getElem?_append_left (by have := h.n; omega)]
      rw [e2]
      exact h.f e
/-- The first k are one older. -/
def older (l : List Int) (k : Nat) : List Int := (l.take k).map (· + 1) ++ l.drop k
theorem older_zero {l : List Int} : older l 0 = l := by simp [older]
theorem older_len {l : List Int} {k : Nat} : (older l k).length = l.length := by simp [older]; omega
theorem older_at {l : List Int} {k : Nat} (h : k < l.length) : gI (older l k) k = gI l k := by
  unfold gI older
  rw [List.getElem?_append_right (by simp; omega)]
  simp
  rw [show k + (k - min k l.length) = k by omega]
theorem older_succ {l : List Int} {k : Nat} (h : k < l.length) : (older l k).set k (gI l k + 1) = older l (k + 1) := by
  apply List.ext_getElem?
  intro j
  unfold older gI
  rw [List.getElem?_set]
  simp only [List.getElem?_append, List.length_map, List.length_take, List.getElem?_map, List.getElem?_take, List.getElem?_drop, List.length_append, List.length_drop]
  rw [Nat.min_eq_left (by omega), Nat.min_eq_left (by omega)]
  rcases Nat.lt_trichotomy j k with e | e | e
  · simp [show ¬ k = j by omega, e, show j < k + 1 by omega]
  · subst e
    simp [h, show j + (l.length - j) = l.length by omega]
  · simp [show ¬ k = j by omega, show ¬ j < k by omega, show ¬ j < k + 1 by omega, show k + (j - k) = j by omega, show k + 1 + (j - (k + 1)) = j by omega]
theorem older_all {l : List Int} : older l l.length = l.map (· + 1) := by simp [older]
theorem Ag.tick {i : Nat} {l : List Int} {s : Sb} (h : Ag i l s) : Ag (i + 1) (older l l.length) (tickedF s) := by
  rw [older_all]
  have hg : ∀ k, k < l.length → gI (l.map (· + 1)) k = gI l k + 1 := fun k hk => by
    unfold gI
    rw [List.getElem?_map, List.getElem?_eq_getElem hk]
    rfl
  unfold tickedF
  split
  · rename_i e
    refine ⟨by simp [h.n], fun k hk => ?_, fun e2 => (e2 e).elim⟩
    rw [List.length_map, h.n] at hk
    omega
  · rename_i e
    refine ⟨by simp [h.n], fun k hk => ?_, fun _ => ?_⟩
    · rw [List.length_map] at hk
      have := h.b k hk
      rw [hg k hk]; omega
    · rw [hg 0 (by have := h.n; omega), h.f e]
      rfl
theorem Ag.mask {i : Nat} {l : List Int} {s : Sb} (h : Ag i l s) (b : Bool) : Ag (i + 1) l ⟨b, s.w, s.t, s.r⟩ :=
  ⟨h.n, fun k hk => by have := h.b k hk; omega, h.f⟩
theorem Ag.rung {i : Nat} {l : List Int} {s : Sb} (L D : Nat) (hd : dueF L D s = true) : Ag i [] (rungF L D s) := by
  unfold rungF
  rw [if_pos hd]
  exact ⟨rfl, fun k hk => by simp at hk, fun e => (e rfl).elim⟩
theorem Ag.not {i : Nat} {l : List Int} {s : Sb} (L D : Nat) (h : Ag i l s) (hd : dueF L D s = false) : Ag i l (rungF L D s) := by
  unfold rungF
  rw [hd]
  exact h
end Go.Proofs.YtdhidiemchnleaaDoor
