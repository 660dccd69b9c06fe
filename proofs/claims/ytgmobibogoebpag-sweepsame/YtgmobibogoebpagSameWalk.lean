/-
  What the call of SweepSame gives: true.
-/
import Derived.Test.YtgmobibogoebpagFore
import Derived.Test.YtgmobibogoebpagLevel
namespace Go.Proofs.Ytgmobibogoebpag
open Go.RowKit
set_option linter.unusedVariables false

theorem wrapEq (x : Int) : IntKind.i64.wrap x = wrap64 x := by rw [IntKind.wrap_i64]; unfold wrap64; omega
/-- More wear, as a number of 64 bits. -/
def more (b : Bl) (d : Int) : Bl := ⟨b.used, b.live, IntKind.i64.wrap (b.wear + d)⟩
def bump (l : List Bl) (d : Int) : Nat → List Bl
  | 0 => l
  | k + 1 => (bump l d k).set k (more (gB l k) d)
theorem bump_len (l : List Bl) (d : Int) : ∀ k, (bump l d k).length = l.length
  | 0 => rfl
  | k + 1 => by rw [bump, List.length_set, bump_len l d k]
theorem gB_set {l : List Bl} {k i : Nat} {b : Bl} (hk : k < l.length) : gB (l.set k b) i = if i = k then b else gB l i := by
  unfold gB
  by_cases h : i = k
  · subst h
    rw [if_pos rfl, List.getElem?_set_self hk]
    rfl
  · rw [if_neg h, List.getElem?_set_ne (fun e => h e.symm)]
theorem bump_at (l : List Bl) (d : Int) : ∀ (k i : Nat), k ≤ l.length → gB (bump l d k) i = if i < k then more (gB l i) d else gB l i
  | 0, i, _ => by simp [bump]
  | k + 1, i, h => by
    rw [bump, gB_set (by rw [bump_len]; omega), bump_at l d k i (by omega)]
    by_cases h1 : i = k
    · subst h1
      rw [if_pos rfl, if_pos (by omega)]
    · rw [if_neg h1]
      by_cases h2 : i < k
      · rw [if_pos h2, if_pos (by omega)]
      · rw [if_neg h2, if_neg (by omega)]
theorem gB_ext {l m : List Bl} (h : l.length = m.length) (h2 : ∀ i, i < l.length → gB l i = gB m i) : l = m := by
  apply List.ext_getElem h
  intro i h3 h4
  have := h2 i h3
  unfold gB at this
  rw [List.getElem?_eq_getElem h3, List.getElem?_eq_getElem h4] at this
  exact this
theorem bump_shift {l : List Bl} {d : Int} (hd0 : 0 ≤ d) (hd : d ≤ 1000) (h : ∀ i, i < l.length → 0 ≤ (gB l i).wear ∧ (gB l i).wear ≤ 1000000000) : bump l d l.length = shift l d := by
  apply gB_ext
  · rw [bump_len, shift_len]
  · intro i hi
    rw [bump_len] at hi
    rw [bump_at l d l.length i (Nat.le_refl _), if_pos hi, shift_at l d i hi]
    have hw := h i hi
    unfold more
    have e : IntKind.i64.wrap ((gB l i).wear + d) = (gB l i).wear + d := by unfold IntKind.wrap; simp [IntKind.bits, IntKind.signed]; omega
    rw [e]
/-- All are worn so little that more still may be. -/
def okW (l : List Bl) (d : Int) (k : Nat) : Prop := ∀ i, i < k → 0 ≤ (gB l i).wear ∧ (gB l i).wear ≤ 1000000000 - d
theorem allG_shift {l : List Bl} {d p : Int} (hd0 : 0 ≤ d) (h : okW l d l.length) : allG (shift l d) p ↔ allG l p := by
  constructor
  · intro ha i hi
    have h1 := ha i (by rw [shift_len]; exact hi)
    rw [shift_at l d i hi] at h1
    have h2 := h i hi
    exact ⟨h1.1, h1.2.1, by omega, by omega⟩
  · intro ha i hi
    rw [shift_len] at hi
    have h1 := ha i hi
    have h2 := h i hi
    rw [shift_at l d i hi]
    exact ⟨h1.1, h1.2.1, by show 0 ≤ (gB l i).wear + d; omega, by show (gB l i).wear + d ≤ _; omega⟩
theorem fault_shift {l : List Bl} {d p : Int} {b : Bool} (hd0 : 0 ≤ d) (h : okW l d l.length) : faultF (shift l d) p b = faultF l p b := by
  have e : ((shift l d).all (goodB p) = true) = (l.all (goodB p) = true) := propext (by rw [allG_iff, allG_iff]; exact allG_shift hd0 h)
  unfold faultF
  rw [shift_len]
  simp only [e]
theorem good_shift {l : List Bl} {d p : Int} (hd0 : 0 ≤ d) (h : okW l d l.length) : good (shift l d) p ↔ good l p := by
  unfold good
  rw [fault_shift hd0 h]
  constructor
  · rintro ⟨h1, k, h2⟩
    refine ⟨h1, k, (shift_can l d p k).1 h2.1, fun j hj => ?_⟩
    rcases h2.2 j ((shift_can l d p j).2 hj) with e | e
    · exact Or.inl e
    · right
      have hk : k < l.length := ((shift_can l d p k).1 h2.1).1
      unfold ltB at *
      rw [shift_at l d k hk, shift_at l d j hj.1] at e
      change (gB l k).live < (gB l j).live ∨ ((gB l k).live = (gB l j).live ∧ ((gB l k).wear + d < (gB l j).wear + d ∨ ((gB l k).wear + d = (gB l j).wear + d ∧ k < j))) at e
      omega
  · rintro ⟨h1, k, h2⟩
    exact ⟨h1, k, shift_min d h2⟩
theorem bump_okW {l : List Bl} {d : Int} (hd0 : 0 ≤ d) (hd : d ≤ 1000) (h : okW l d l.length) : bump l d l.length = shift l d := bump_shift hd0 hd (fun i hi => by have := h i hi; omega)
theorem good_allG {l : List Bl} {p : Int} (h : good l p) : l.length ≤ 64 ∧ allG l p ∧ p ≤ 4096 := by
  obtain ⟨h1, _, h3, _, h5⟩ := fault_zero h.1
  exact ⟨h1, h5, h3⟩
theorem allG_mono {l : List Bl} {p q : Int} (h : allG l p) (hq : p ≤ q) : allG l q := fun i hi => by
  have := h i hi
  exact ⟨this.1, Int.le_trans this.2.1 hq, this.2.2⟩
/-- Both may be asked: then both tell the same. -/
theorem both_good {l : List Bl} {d p : Int} (hd0 : 0 ≤ d) (hd : d ≤ 1000) (h1 : good l p) (h2 : good (bump l d l.length) p) : bump l d l.length = shift l d ∧ faultF l 4096 false = 0 ∧ faultF (shift l d) 4096 false = 0 := by
  obtain ⟨a1, a2, a3⟩ := good_allG h1
  have e := bump_shift (l := l) hd0 hd (fun i hi => (a2 i hi).2.2)
  obtain ⟨b1, b2, b3⟩ := good_allG h2
  rw [e] at b1 b2
  exact ⟨e, fault_none a1 (by simp) (allG_mono a2 a3), fault_none b1 (by simp) (allG_mono b2 a3)⟩
/-- One may not be asked, and all are worn little enough: then the other may not either. -/
theorem both_bad {l : List Bl} {d p : Int} (hd0 : 0 ≤ d) (hd : d ≤ 1000) (h : okW l d l.length) : good (bump l d l.length) p ↔ good l p := by
  rw [bump_okW hd0 hd h]
  exact good_shift hd0 h
theorem cellsB_wear : ∀ (l : List Bl) (k : Nat) (b : Bl), k < l.length → b.used = (gB l k).used → b.live = (gB l k).live → cellsB (l.set k b) = (cellsB l).set (k * 3 + 2) (.int .i64 b.wear)
  | [], k, b, h, _, _ => by simp at h
  | x :: r, 0, b, _, h1, h2 => by
    have e1 : b.used = x.used := h1
    have e2 : b.live = x.live := h2
    simp [cellsB, e1, e2]
  | x :: r, k + 1, b, h, h1, h2 => by
    have ih := cellsB_wear r k b (by simpa using h) h1 h2
    have e : (k + 1) * 3 + 2 = k * 3 + 2 + 1 + 1 + 1 := by omega
    rw [List.set_cons_succ, cellsB, ih, e]
    rfl
theorem OwnB.wear {T : TypeId} {w : World} {base cap g k : Nat} {l : List Bl} (h : OwnB T w base (some ⟨g, 0, none⟩) cap l) (hk : k < l.length) (b : Bl) (h1 : b.used = (gB l k).used) (h2 : b.live = (gB l k).live) : OwnB T (w.setCell ⟨g, k * 3 + 2, none⟩ (.int .i64 b.wear)) base (some ⟨g, 0, none⟩) cap (l.set k b) := by
  rcases h.parts with ⟨e, _⟩ | ⟨g', cur, e, q1, q2, q3, q4, q5, q6⟩
  · cases e
  · cases e
    have hh : (w.setCell ⟨g, k * 3 + 2, none⟩ (.int .i64 b.wear)).heap[g]? = some (.cells (cur.setIfInBounds (k * 3 + 2) (.int .i64 b.wear)) T (0, 0)) := by
      simp [World.setCell, Array.getElem?_modify, q2]
    refine ⟨by rw [cellsB_len], Or.inr ⟨g, cap, _, by rw [List.length_set], q1, hh, by rw [List.length_set]; exact q3, q4, by rw [Array.size_setIfInBounds]; exact q5, ?_⟩⟩
    rw [List.length_set, cellsB_wear l k b hk h1 h2, ← q6, Array.toList_setIfInBounds, List.take_set]
/-- What lies there while the one is worn more. -/
structure NS (w wr : World) (l : List Bl) (d : Int) (am : Option Addr) (cm gn cn k : Nat) : Prop where
  bel : Below w.heap.size w wr
  m : OwnB 29 wr w.heap.size am cm l
  n : OwnB 29 wr w.heap.size (some ⟨gn, 0, none⟩) cn (bump l d k)
  ne : ∀ b, blk am b → ¬ b = gn
theorem NS.below {w wr w' : World} {l : List Bl} {d : Int} {am : Option Addr} {cm gn cn k : Nat} (h : NS w wr l d am cm gn cn k) (hb : Below wr.heap.size wr w') : NS w w' l d am cm gn cn k :=
  ⟨h.bel.trans (hb.mono h.bel.size), h.m.below hb, h.n.below hb, h.ne⟩
theorem NS.step {w wr : World} {l : List Bl} {d : Int} {am : Option Addr} {cm gn cn k : Nat} (h : NS w wr l d am cm gn cn k) (hk : k < l.length) : NS w (wr.setCell ⟨gn, k * 3 + 2, none⟩ (.int .i64 (wrap64 ((gB l k).wear + d)))) l d am cm gn cn (k + 1) := by
  rw [← wrapEq]
  have hge : w.heap.size ≤ gn := (h.n.blk ⟨_, rfl, rfl⟩).1
  have e : gB (bump l d k) k = gB l k := by rw [bump_at l d k k (by omega), if_neg (by omega)]
  refine ⟨h.bel.trans ((Below.refl _ _).setCell hge _), h.m.keep ((Keep.refl (fun b => b = gn) wr).set1 _ _) (fun b hb => h.ne b hb), ?_, h.ne⟩
  rw [bump]
  exact h.n.wear (by rw [bump_len]; exact hk) (more (gB l k) d) (by rw [e]; rfl) (by rw [e]; rfl)
theorem NS.at {w wr : World} {l : List Bl} {d : Int} {am : Option Addr} {cm gn cn k : Nat} (h : NS w wr l d am cm gn cn k) (hk : k < l.length) : wr.cell? ⟨gn, k * 3 + 2, none⟩ = some (.int .i64 (gB l k).wear) ∧ wr.frozen? ⟨gn, k * 3 + 2, none⟩ = false := by
  have e : gB (bump l d k) k = gB l k := by rw [bump_at l d k k (by omega), if_neg (by omega)]
  have hl : k < (bump l d k).length := by rw [bump_len]; exact hk
  obtain ⟨g, off, e1, hat⟩ := h.n.bl.some_of hl
  cases e1
  have := (hat k hl).r
  rw [e, Nat.zero_add] at this
  exact ⟨this, h.n.free _⟩
theorem NS.choose1 {w wr : World} {l : List Bl} {d p : Int} {am : Option Addr} {cm gn cn k : Nat} (h : NS w wr l d am cm gn cn k) : Calls Try.prog 5 #[.slice am l.length cm, .int .i64 p] wr fun e w' => ((¬ good l p ∧ ∃ f : Nat, e = .returned (.tuple #[.int .i64 0, .iface 40 (.int .i64 (f : Int))])) ∨ (good l p ∧ ∃ k : Nat, IsMin l p k ∧ e = .returned (.tuple #[.int .i64 (k : Int), .nilIface]))) ∧ Hid (NS w w' l d am cm gn cn k) :=
  (choose_any am cm l p wr h.m.bl).mono fun e w' ⟨h1, h2⟩ => ⟨choose_two h1, h.below h2⟩
theorem NS.choose2 {w wr : World} {l : List Bl} {d p : Int} {am : Option Addr} {cm gn cn : Nat} (h : NS w wr l d am cm gn cn l.length) : Calls Try.prog 5 #[.slice (some ⟨gn, 0, none⟩) l.length cn, .int .i64 p] wr fun e w' => ((¬ good (bump l d l.length) p ∧ ∃ f : Nat, e = .returned (.tuple #[.int .i64 0, .iface 40 (.int .i64 (f : Int))])) ∨ (good (bump l d l.length) p ∧ ∃ k : Nat, IsMin (bump l d l.length) p k ∧ e = .returned (.tuple #[.int .i64 (k : Int), .nilIface]))) ∧ Hid (NS w w' l d am cm gn cn l.length) := by
  have := choose_any (some ⟨gn, 0, none⟩) cn (bump l d l.length) p wr h.n.bl
  rw [bump_len] at this
  exact this.mono fun e w' ⟨h1, h2⟩ => ⟨choose_two h1, h.below h2⟩
theorem level_two {e : Ending} {l : List Bl} {gap : Int} (hg : 0 ≤ gap) (h0 : faultF l 4096 false = 0) (h : LevelPost e l gap) : ((∀ k, ¬ IsLev l gap k) ∧ e = .returned (.tuple #[.int .i64 0, .iface 40 (.int .i64 4)])) ∨ ∃ k : Nat, IsLev l gap k ∧ e = .returned (.tuple #[.int .i64 (k : Int), .nilIface]) := by
  have hd : decide (gap < 0) = false := decide_eq_false (by omega)
  unfold LevelPost at h
  rw [hd] at h
  rcases h with ⟨f, h1, h2, h3⟩ | ⟨h1, h2, h3⟩ | ⟨k, h1, h2, h3⟩
  · exact absurd (h1.trans h0) h2
  · refine Or.inl ⟨h2, ?_⟩
    rw [h3, errI_ne (by decide)]
    rfl
  · exact Or.inr ⟨k, h2, h3⟩
theorem NS.level1 {w wr : World} {l : List Bl} {d : Int} {am : Option Addr} {cm gn cn k : Nat} (h : NS w wr l d am cm gn cn k) (h0 : faultF l 4096 false = 0) : Calls Try.prog 9 #[.slice am l.length cm, .int .i64 3] wr fun e w' => (((∀ k, ¬ IsLev l 3 k) ∧ e = .returned (.tuple #[.int .i64 0, .iface 40 (.int .i64 4)])) ∨ ∃ k : Nat, IsLev l 3 k ∧ e = .returned (.tuple #[.int .i64 (k : Int), .nilIface])) ∧ Hid (NS w w' l d am cm gn cn k) :=
  (level_any am cm l 3 wr h.m.bl).mono fun e w' ⟨h1, h2⟩ => ⟨level_two (by omega) h0 h1, h.below h2⟩
theorem NS.level2 {w wr : World} {l : List Bl} {d : Int} {am : Option Addr} {cm gn cn : Nat} (h : NS w wr l d am cm gn cn l.length) (he : bump l d l.length = shift l d) (h0 : faultF (shift l d) 4096 false = 0) : Calls Try.prog 9 #[.slice (some ⟨gn, 0, none⟩) l.length cn, .int .i64 3] wr fun e w' => (((∀ k, ¬ IsLev l 3 k) ∧ e = .returned (.tuple #[.int .i64 0, .iface 40 (.int .i64 4)])) ∨ ∃ k : Nat, IsLev l 3 k ∧ e = .returned (.tuple #[.int .i64 (k : Int), .nilIface])) ∧ Hid (Below w.heap.size w w') := by
  have := level_any (some ⟨gn, 0, none⟩) cn (bump l d l.length) 3 wr h.n.bl
  rw [bump_len, he] at this
  refine this.mono fun e w' ⟨h1, h2⟩ => ⟨?_, h.bel.trans (h2.mono h.bel.size)⟩
  rcases level_two (by omega) h0 h1 with ⟨h3, h4⟩ | ⟨k, h3, h4⟩
  · exact Or.inl ⟨fun k hk => h3 k ((shift_lev l d 3 k).2 hk), h4⟩
  · exact Or.inr ⟨k, (shift_lev l d 3 k).1 h3, h4⟩
end Go.Proofs.Ytgmobibogoebpag
