/-
  Items in the order in which they came, as plain lists: what a put leaves, what is told of an lba.
-/
import Derived.WalkKit
namespace Go.Proofs.Ytphacdnepjpmoaf
set_option linter.unusedVariables false

/-- One item. -/
structure It where
  lba : Int
  gone : Bool
  data : List Nat
def has (L : List It) (k : Int) : Bool := L.any (fun x => decide (x.lba = k))
def drp (L : List It) (k : Int) : List It := L.filter (fun x => decide (x.lba ≠ k))
def fnd (L : List It) (k : Int) : Option It := L.find? (fun x => decide (x.lba = k))
/-- What is wrong with a put: 1, 3 or nothing. -/
def putE (most : Nat) (L : List It) (k : Int) : Nat := if k < 0 then 1 else if has L k = false ∧ L.length = most then 3 else 0
/-- What it leaves. -/
def putL (most : Nat) (L : List It) (x : It) : List It := if putE most L x.lba = 0 then drp L x.lba ++ [x] else L
/-- WHAT A BUFFER MAY HOLD. -/
structure Ok (most : Nat) (L : List It) : Prop where
  nd : (L.map (·.lba)).Nodup
  rg : ∀ x ∈ L, 0 ≤ x.lba ∧ x.lba ≤ 9223372036854775807
  ln : L.length ≤ most
  dl : ∀ x ∈ L, x.data.length ≤ 140737488355328
theorem ok_nil (most : Nat) : Ok most [] := ⟨by simp, fun x h => by simp at h, Nat.zero_le _, fun x h => by simp at h⟩
theorem drp_len (L : List It) (k : Int) : (drp L k).length ≤ L.length := List.length_filter_le _ _
theorem drp_no (L : List It) (k : Int) (h : has L k = false) : drp L k = L := by
  unfold drp
  rw [List.filter_eq_self]
  intro a ha
  unfold has at h
  rw [List.any_eq_false] at h
  simpa using h a ha
theorem has_mem {L : List It} {k : Int} (h : has L k = true) : ∃ x ∈ L, x.lba = k := by
  unfold has at h
  rw [List.any_eq_true] at h
  obtain ⟨x, h1, h2⟩ := h
  exact ⟨x, h1, by simpa using h2⟩
theorem drp_lt {L : List It} {k : Int} (h : has L k = true) : (drp L k).length < L.length := by
  obtain ⟨x, h1, h2⟩ := has_mem h
  unfold drp
  rw [List.length_filter_lt_length_iff_exists]
  exact ⟨x, h1, by simp [h2]⟩
theorem drp_mem {L : List It} {k : Int} {x : It} (h : x ∈ drp L k) : x ∈ L ∧ x.lba ≠ k := by
  unfold drp at h
  rw [List.mem_filter] at h
  exact ⟨h.1, by simpa using h.2⟩
theorem drp_nodup {L : List It} (k : Int) (h : (L.map (·.lba)).Nodup) : ((drp L k).map (·.lba)).Nodup := by
  unfold drp
  exact h.sublist (List.Sublist.map _ List.filter_sublist)
/-- Taken out where it stands. -/
theorem drp_mid (A C : List It) (x : It) (h : ((A ++ x :: C).map (·.lba)).Nodup) : drp (A ++ x :: C) x.lba = A ++ C := by
  rw [List.map_append, List.map_cons, List.nodup_append] at h
  obtain ⟨h1, h2, h3⟩ := h
  rw [List.nodup_cons] at h2
  unfold drp
  rw [List.filter_append, List.filter_cons_of_neg (by simp)]
  congr 1
  · rw [List.filter_eq_self]
    intro a ha
    have := h3 _ (List.mem_map.2 ⟨a, ha, rfl⟩) x.lba (by simp)
    simpa using this
  · rw [List.filter_eq_self]
    intro a ha
    have : a.lba ≠ x.lba := fun e => h2.1 (by rw [← e]; exact List.mem_map.2 ⟨a, ha, rfl⟩)
    simpa using this
theorem putE_cases (most : Nat) (L : List It) (k : Int) : (k < 0 ∧ putE most L k = 1) ∨ (0 ≤ k ∧ has L k = false ∧ L.length = most ∧ putE most L k = 3) ∨ (0 ≤ k ∧ has L k = false ∧ L.length ≠ most ∧ putE most L k = 0) ∨ (0 ≤ k ∧ has L k = true ∧ putE most L k = 0) := by
  unfold putE
  by_cases h0 : k < 0
  · exact Or.inl ⟨h0, if_pos h0⟩
  · rw [if_neg h0]
    cases hh : has L k with
    | true => exact Or.inr (Or.inr (Or.inr ⟨by omega, rfl, by simp⟩))
    | false =>
      by_cases hl : L.length = most
      · exact Or.inr (Or.inl ⟨by omega, rfl, hl, by simp [hl]⟩)
      · exact Or.inr (Or.inr (Or.inl ⟨by omega, rfl, hl, by simp [hl]⟩))
theorem ok_put {most : Nat} {L : List It} {x : It} (h : Ok most L) (hx : x.lba ≤ 9223372036854775807) (hd : x.data.length ≤ 140737488355328) (h0 : putE most L x.lba = 0) : Ok most (drp L x.lba ++ [x]) := by
  have hn : 0 ≤ x.lba := by rcases putE_cases most L x.lba with ⟨_, e⟩ | ⟨_, _, _, e⟩ | ⟨e, _⟩ | ⟨e, _⟩ <;> omega
  refine ⟨?_, ?_, ?_, ?_⟩
  · rw [List.map_append, List.nodup_append]
    refine ⟨drp_nodup _ h.nd, by simp, ?_⟩
    intro a ha b hb
    simp at hb
    subst hb
    obtain ⟨y, hy, rfl⟩ := List.mem_map.1 ha
    exact (drp_mem hy).2
  · intro y hy
    rw [List.mem_append] at hy
    rcases hy with hy | hy
    · exact h.rg y (drp_mem hy).1
    · simp at hy; subst hy; exact ⟨hn, hx⟩
  · rw [List.length_append, List.length_singleton]
    have hl := h.ln
    rcases putE_cases most L x.lba with ⟨_, e⟩ | ⟨_, _, _, e⟩ | ⟨_, e, e2, _⟩ | ⟨_, e, _⟩
    · omega
    · omega
    · rw [drp_no _ _ e]; omega
    · have := drp_lt e; omega
  · intro y hy
    rw [List.mem_append] at hy
    rcases hy with hy | hy
    · exact h.dl y (drp_mem hy).1
    · simp at hy; subst hy; exact hd
theorem ok_putL {most : Nat} {L : List It} {x : It} (h : Ok most L) (hx : x.lba ≤ 9223372036854775807) (hd : x.data.length ≤ 140737488355328) : Ok most (putL most L x) := by
  unfold putL
  split
  next h0 => exact ok_put h hx hd h0
  · exact h
theorem ok_drop {most : Nat} {L : List It} (n : Nat) (h : Ok most L) : Ok most (L.drop n) :=
  ⟨by rw [List.map_drop]; exact h.nd.sublist (List.drop_sublist _ _), fun x hx => h.rg x (List.mem_of_mem_drop hx), by rw [List.length_drop]; have := h.ln; omega, fun x hx => h.dl x (List.mem_of_mem_drop hx)⟩
theorem fnd_some {L : List It} {k : Int} {x : It} (h : fnd L k = some x) : x ∈ L ∧ x.lba = k := by
  unfold fnd at h
  exact ⟨List.mem_of_find?_eq_some h, by simpa using List.find?_some h⟩
theorem fnd_none {L : List It} {k : Int} (h : fnd L k = none) : has L k = false := by
  unfold fnd at h
  rw [List.find?_eq_none] at h
  unfold has
  rw [List.any_eq_false]
  exact h
theorem has_fnd (L : List It) (k : Int) : has L k = (fnd L k).isSome := by
  cases h : fnd L k with
  | none => rw [fnd_none h]; rfl
  | some x =>
    unfold has
    rw [List.any_eq_true.2 ⟨x, (fnd_some h).1, by simp [(fnd_some h).2]⟩]
    rfl
theorem fnd_last (L : List It) (x : It) : fnd (drp L x.lba ++ [x]) x.lba = some x := by
  unfold fnd
  rw [List.find?_append]
  have : (drp L x.lba).find? (fun y => decide (y.lba = x.lba)) = none := by
    rw [List.find?_eq_none]
    intro y hy
    simpa using (drp_mem hy).2
  rw [this]
  simp
/-- Split where it is found. -/
theorem fnd_split {L : List It} {k : Int} {x : It} (h : fnd L k = some x) : ∃ A C, L = A ++ x :: C ∧ x.lba = k := by
  obtain ⟨h1, h2⟩ := fnd_some h
  obtain ⟨A, C, e⟩ := List.append_of_mem h1
  exact ⟨A, C, e, h2⟩
end Go.Proofs.Ytphacdnepjpmoaf
