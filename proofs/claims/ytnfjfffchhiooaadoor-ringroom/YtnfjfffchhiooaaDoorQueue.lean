/-
  A ring as a queue: what New, Push, Pop, Len and Ends give.
-/
import Derived.Test.YtnfjfffchhiooaaDoorRing3
namespace Go.Proofs.YtnfjfffchhiooaaDoor
open Go.RowKit
set_option linter.unusedVariables false

/-- THE NUMBERS l WAIT IN A RING, of which p were popped. -/
structure RQ (w : World) (n rb sb p : Nat) (l : List Int) : Prop where
  ro : ∃ sl, RO w n rb sb (p % n) ((p + l.length) % n) sl ∧ ∀ i, i < l.length → gI sl ((p + i) % n) = gI l i
  le : l.length ≤ n - 1
  n2 : 2 ≤ n
  nm : n ≤ 16
theorem RQ.keep {S : Nat → Prop} {w w' : World} {n rb sb p : Nat} {l : List Int} (r : RQ w n rb sb p l) (hk : Keep S w w') (h1 : ¬ S rb) (h2 : ¬ S sb) : RQ w' n rb sb p l := by
  obtain ⟨⟨sl, h3, h4⟩, h5, h6, h7⟩ := r
  exact ⟨⟨sl, h3.keep hk h1 h2, h4⟩, h5, h6, h7⟩
theorem RQ.below {w w' : World} {n rb sb p : Nat} {l : List Int} (r : RQ w n rb sb p l) (hb : Below w.heap.size w w') : RQ w' n rb sb p l :=
  r.keep (S := fun _ => False) (Keep.of_below hb) (fun e => e) (fun e => e)
theorem RQ.lt {w : World} {n rb sb p : Nat} {l : List Int} (r : RQ w n rb sb p l) : rb < w.heap.size ∧ sb < w.heap.size := by
  obtain ⟨⟨sl, h3, h4⟩, _⟩ := r
  exact ⟨heap_lt h3.st, heap_lt h3.sr⟩
theorem q_full {w : World} {n rb sb p : Nat} {l : List Int} (r : RQ w n rb sb p l) (x : Int) (hl : l.length = n - 1) :
    Calls Tryd.prog 9 #[.pointer (some ⟨rb, 0, none⟩), .int .i64 x] w fun e w' => e = .returned (.iface 29 (.int .i64 3)) ∧ RQ w' n rb sb p l ∧ Keep (RB rb sb) w w' := by
  have r0 := r
  obtain ⟨⟨sl, h3, h4⟩, h5, h6, h7⟩ := r
  refine (Push_full h3 x ?_).mono ?_
  · rw [nx_mod]
    exact (full_iff h6 (by omega)).2 hl
  · rintro e w' ⟨he, hb⟩
    exact ⟨he, r0.below hb, Keep.of_below hb⟩
theorem q_push {w : World} {n rb sb p : Nat} {l : List Int} (r : RQ w n rb sb p l) (x : Int) (hl : ¬ l.length = n - 1) :
    Calls Tryd.prog 9 #[.pointer (some ⟨rb, 0, none⟩), .int .i64 x] w fun e w' => e = .returned .nilIface ∧ RQ w' n rb sb p (l ++ [x]) ∧ Keep (RB rb sb) w w' := by
  obtain ⟨⟨sl, h3, h4⟩, h5, h6, h7⟩ := r
  refine (Push_room h3 x ?_).mono ?_
  · rw [nx_mod]
    exact fun e => hl ((full_iff h6 (by omega)).1 e)
  · rintro e w' ⟨he, hr, hk⟩
    rw [nx_mod] at hr
    refine ⟨he, ⟨⟨_, by rw [List.length_append]; exact hr, fun i hi => ?_⟩, by rw [List.length_append]; show l.length + 1 ≤ _; omega, h6, h7⟩, hk⟩
    rw [List.length_append] at hi
    have hi' : i < l.length + 1 := hi
    rw [gI_set (by rw [h3.ln]; exact h3.ht)]
    by_cases h : i = l.length
    · subst h
      rw [if_pos rfl]
      simp [gI]
    · rw [if_neg (fun e => h (mod_inj (n := n) (p := p) (by omega) (by omega) e)), h4 i (by omega)]
      unfold gI
      rw [List.getElem?_append_left (by omega)]
theorem q_none {w : World} {n rb sb p : Nat} (r : RQ w n rb sb p []) :
    Calls Tryd.prog 10 #[.pointer (some ⟨rb, 0, none⟩)] w fun e w' => e = .returned (.tuple #[.int .i64 0, .iface 29 (.int .i64 4)]) ∧ RQ w' n rb sb p [] ∧ Keep (RB rb sb) w w' := by
  have r0 := r
  obtain ⟨⟨sl, h3, h4⟩, h5, h6, h7⟩ := r
  exact (Pop_none h3).mono fun e w' ⟨he, hb⟩ => ⟨he, r0.below hb, Keep.of_below hb⟩
theorem q_pop {w : World} {n rb sb p : Nat} {x : Int} {l : List Int} (r : RQ w n rb sb p (x :: l)) :
    Calls Tryd.prog 10 #[.pointer (some ⟨rb, 0, none⟩)] w fun e w' => e = .returned (.tuple #[.int .i64 x, .nilIface]) ∧ RQ w' n rb sb (p + 1) l ∧ Keep (RB rb sb) w w' := by
  obtain ⟨⟨sl, h3, h4⟩, h5, h6, h7⟩ := r
  simp only [List.length_cons] at h3 h4 h5
  refine (Pop_some h3 ?_).mono ?_
  · exact fun e => by have := (empty_iff (n := n) (p := p) (k := l.length + 1) (by omega)).1 e; omega
  · rintro e w' ⟨he, hr, hk⟩
    rw [nx_mod] at hr
    have e0 : gI sl (p % n) = x := by have := h4 0 (by omega); simpa [gI] using this
    rw [e0] at he
    refine ⟨he, ⟨⟨_, by rw [show p + 1 + l.length = p + (l.length + 1) by omega]; exact hr, fun i hi => ?_⟩, by omega, h6, h7⟩, hk⟩
    rw [gI_set (by rw [h3.ln]; exact h3.hh), if_neg (fun e => by have := mod_inj (n := n) (p := p) (a := i + 1) (b := 0) (by omega) (by omega) (by simpa [Nat.add_assoc, Nat.add_comm 1 i] using e); omega), show p + 1 + i = p + (i + 1) by omega, h4 (i + 1) (by omega)]
    simp [gI]
theorem q_len {w : World} {n rb sb p : Nat} {l : List Int} (r : RQ w n rb sb p l) :
    Calls Tryd.prog 11 #[.pointer (some ⟨rb, 0, none⟩)] w fun e w' => e = .returned (.int .i64 (l.length : Nat)) ∧ RQ w' n rb sb p l ∧ Keep (RB rb sb) w w' := by
  have r0 := r
  obtain ⟨⟨sl, h3, h4⟩, h5, h6, h7⟩ := r
  refine (Len_any h3).mono ?_
  rintro e w' ⟨he, hb⟩
  rw [count_eq h6 (by omega)] at he
  exact ⟨he, r0.below hb, Keep.of_below hb⟩
theorem q_ends {w : World} {n rb sb p : Nat} {l : List Int} (r : RQ w n rb sb p l) :
    Calls Tryd.prog 12 #[.pointer (some ⟨rb, 0, none⟩)] w fun e w' => e = .returned (.tuple #[.int .i64 (p % n : Nat), .int .i64 ((p + l.length) % n : Nat)]) ∧ RQ w' n rb sb p l ∧ Keep (RB rb sb) w w' := by
  have r0 := r
  obtain ⟨⟨sl, h3, h4⟩, h5, h6, h7⟩ := r
  exact (Ends_any h3).mono fun e w' ⟨he, hb⟩ => ⟨he, r0.below hb, Keep.of_below hb⟩
/-- What a ring's number may be. -/
def GoodN (n : Int) : Prop := 2 ≤ n ∧ n ≤ 16
end Go.Proofs.YtnfjfffchhiooaaDoor
