/-
  The document's chip: how its state lies in memory, and what one store makes of it.
-/
import Derived.Test.YtjeelaaimhckhabDoorAids
namespace Go.Proofs.YtjeelaaimhckhabDoor
open Go.RowKit
set_option linter.unusedVariables false

/-- How the document's chip lies: all bytes in one list, and for each block what is next, its wear, is it bad. -/
structure RH (D B P Y : Nat) (w : World) (rb ab nb wb db cap : Nat) (s : St) : Prop where
  c0 : w.cell? ⟨rb, 0, none⟩ = some (.int .i64 (D : Int))
  c1 : w.cell? ⟨rb, 1, none⟩ = some (.int .i64 (B : Int))
  c2 : w.cell? ⟨rb, 2, none⟩ = some (.int .i64 (P : Int))
  c3 : w.cell? ⟨rb, 3, none⟩ = some (.int .i64 (Y : Int))
  c4 : w.cell? ⟨rb, 4, none⟩ = some (.slice (some ⟨ab, 0, none⟩) (D * B * (P * Y)) cap)
  c5 : w.cell? ⟨rb, 5, none⟩ = some (.slice (some ⟨nb, 0, none⟩) (D * B) (D * B))
  c6 : w.cell? ⟨rb, 6, none⟩ = some (.slice (some ⟨wb, 0, none⟩) (D * B) (D * B))
  c7 : w.cell? ⟨rb, 7, none⟩ = some (.slice (some ⟨db, 0, none⟩) (D * B) (D * B))
  c8 : w.cell? ⟨rb, 8, none⟩ = some (.bool s.off)
  fr : ∀ b o, (b = rb ∨ b = ab ∨ b = nb ∨ b = wb ∨ b = db) → w.frozen? ⟨b, o, none⟩ = false
  hb : ∀ k j, k < D * B → j < P * Y → w.cell? ⟨ab, k * (P * Y) + j, none⟩ = some (.int .u8 (((s.bytes k)[j]?.getD 0 : Nat) : Int))
  r1 : ∀ k, k < D * B → w.cell? ⟨nb, k, none⟩ = some (.int .i64 (s.next k : Int))
  r2 : ∀ k, k < D * B → w.cell? ⟨wb, k, none⟩ = some (.int .i64 (s.wear k : Int))
  r3 : ∀ k, k < D * B → w.cell? ⟨db, k, none⟩ = some (.bool (s.bad k))
  n0 : ab ≠ rb ∧ nb ≠ rb ∧ wb ≠ rb ∧ db ≠ rb ∧ nb ≠ ab ∧ wb ≠ ab ∧ db ≠ ab ∧ wb ≠ nb ∧ db ≠ nb ∧ db ≠ wb
  hl : ∀ k, k < D * B → (s.bytes k).length = P * Y
  hn : ∀ k, s.next k ≤ P
  hc : D * B * (P * Y) ≤ cap
def RMine (rb ab nb wb db : Nat) (b : Nat) : Prop := b = rb ∨ b = ab ∨ b = nb ∨ b = wb ∨ b = db
theorem RH.lt {D B P Y rb ab nb wb db cap : Nat} {w : World} {s : St} (h : RH D B P Y w rb ab nb wb db cap s) (hG : Geo D B P Y) : ∀ b, RMine rb ab nb wb db b → b < w.heap.size := by
  rintro b (rfl | rfl | rfl | rfl | rfl)
  · exact World.block_lt_of_cell? w _ h.c0
  · exact World.block_lt_of_cell? w _ (h.hb 0 0 hG.n.1 (by have := hG.l.1; omega))
  · exact World.block_lt_of_cell? w _ (h.r1 0 hG.n.1)
  · exact World.block_lt_of_cell? w _ (h.r2 0 hG.n.1)
  · exact World.block_lt_of_cell? w _ (h.r3 0 hG.n.1)
theorem RH.keep {D B P Y rb ab nb wb db cap : Nat} {w w' : World} {s : St} {S : Nat → Prop} (h : RH D B P Y w rb ab nb wb db cap s) (hG : Geo D B P Y) (hk : Keep S w w') (hs : ∀ b, RMine rb ab nb wb db b → ¬ S b) : RH D B P Y w' rb ab nb wb db cap s := by
  have hc : ∀ b o, RMine rb ab nb wb db b → w'.cell? ⟨b, o, none⟩ = w.cell? ⟨b, o, none⟩ := fun b o hb => hk.cell (h.lt hG b hb) (hs b hb)
  have m0 : RMine rb ab nb wb db rb := Or.inl rfl
  have m1 : RMine rb ab nb wb db ab := Or.inr (Or.inl rfl)
  have m2 : RMine rb ab nb wb db nb := Or.inr (Or.inr (Or.inl rfl))
  have m3 : RMine rb ab nb wb db wb := Or.inr (Or.inr (Or.inr (Or.inl rfl)))
  have m4 : RMine rb ab nb wb db db := Or.inr (Or.inr (Or.inr (Or.inr rfl)))
  exact { h with
    c0 := by rw [hc _ _ m0]; exact h.c0
    c1 := by rw [hc _ _ m0]; exact h.c1
    c2 := by rw [hc _ _ m0]; exact h.c2
    c3 := by rw [hc _ _ m0]; exact h.c3
    c4 := by rw [hc _ _ m0]; exact h.c4
    c5 := by rw [hc _ _ m0]; exact h.c5
    c6 := by rw [hc _ _ m0]; exact h.c6
    c7 := by rw [hc _ _ m0]; exact h.c7
    c8 := by rw [hc _ _ m0]; exact h.c8
    fr := fun b o hb => by rw [hk.frozen (h.lt hG b hb) (hs b hb)]; exact h.fr b o hb
    hb := fun k j h1 h2 => by rw [hc _ _ m1]; exact h.hb k j h1 h2
    r1 := fun k h1 => by rw [hc _ _ m2]; exact h.r1 k h1
    r2 := fun k h1 => by rw [hc _ _ m3]; exact h.r2 k h1
    r3 := fun k h1 => by rw [hc _ _ m4]; exact h.r3 k h1 }
theorem RH.below {D B P Y rb ab nb wb db cap : Nat} {w w' : World} {s : St} (h : RH D B P Y w rb ab nb wb db cap s) (hG : Geo D B P Y) (hb : Below w.heap.size w w') : RH D B P Y w' rb ab nb wb db cap s :=
  h.keep (S := fun _ => False) hG (Keep.of_below hb) (fun _ _ e => e)
theorem RH.setOff {D B P Y rb ab nb wb db cap : Nat} {w : World} {s : St} (h : RH D B P Y w rb ab nb wb db cap s) (v : Bool)  :
    RH D B P Y (w.setCell ⟨rb, 8, none⟩ (.bool v)) rb ab nb wb db cap { s with off := v } := by
  obtain ⟨e1, e2, e3, e4, e5, e6, e7, e8, e9, e10⟩ := h.n0
  exact { h with
    c0 := by rw [far _ (by omega)]; exact h.c0
    c1 := by rw [far _ (by omega)]; exact h.c1
    c2 := by rw [far _ (by omega)]; exact h.c2
    c3 := by rw [far _ (by omega)]; exact h.c3
    c4 := by rw [far _ (by omega)]; exact h.c4
    c5 := by rw [far _ (by omega)]; exact h.c5
    c6 := by rw [far _ (by omega)]; exact h.c6
    c7 := by rw [far _ (by omega)]; exact h.c7
    c8 := World.cell?_setCell_same _ _ _ h.c8
    fr := fun b o hb => by rw [World.frozen?_setCell]; exact h.fr b o hb
    hb := fun i j h1 h2 => by rw [far _ (by omega)]; exact h.hb i j h1 h2
    r1 := fun i h1 => by rw [far _ (by omega)]; exact h.r1 i h1
    r2 := fun i h1 => by rw [far _ (by omega)]; exact h.r2 i h1
    r3 := fun i h1 => by rw [far _ (by omega)]; exact h.r3 i h1 }
theorem RH.setNext {D B P Y rb ab nb wb db cap : Nat} {w : World} {s : St} (h : RH D B P Y w rb ab nb wb db cap s) (k v : Nat) (hk : k < D * B) (hv : v ≤ P) :
    RH D B P Y (w.setCell ⟨nb, k, none⟩ (.int .i64 (v : Int))) rb ab nb wb db cap { s with next := upd s.next k v } := by
  obtain ⟨e1, e2, e3, e4, e5, e6, e7, e8, e9, e10⟩ := h.n0
  exact { h with
    c0 := by rw [far _ (by omega)]; exact h.c0
    c1 := by rw [far _ (by omega)]; exact h.c1
    c2 := by rw [far _ (by omega)]; exact h.c2
    c3 := by rw [far _ (by omega)]; exact h.c3
    c4 := by rw [far _ (by omega)]; exact h.c4
    c5 := by rw [far _ (by omega)]; exact h.c5
    c6 := by rw [far _ (by omega)]; exact h.c6
    c7 := by rw [far _ (by omega)]; exact h.c7
    c8 := by rw [far _ (by omega)]; exact h.c8
    fr := fun b o hb => by rw [World.frozen?_setCell]; exact h.fr b o hb
    hb := fun i j h1 h2 => by rw [far _ (by omega)]; exact h.hb i j h1 h2
    r1 := fun i h1 => by
      by_cases e : i = k
      · subst e; dsimp only; rw [World.cell?_setCell_same _ _ _ (h.r1 i h1), upd_same]
      · dsimp only; rw [far _ (by omega), upd_ne _ _ _ _ e]; exact h.r1 i h1
    r2 := fun i h1 => by rw [far _ (by omega)]; exact h.r2 i h1
    r3 := fun i h1 => by rw [far _ (by omega)]; exact h.r3 i h1
    hn := fun i => by
      by_cases e : i = k
      · subst e; dsimp only; rw [upd_same]; exact hv
      · dsimp only; rw [upd_ne _ _ _ _ e]; exact h.hn i }
theorem RH.setWear {D B P Y rb ab nb wb db cap : Nat} {w : World} {s : St} (h : RH D B P Y w rb ab nb wb db cap s) (k v : Nat) (hk : k < D * B) :
    RH D B P Y (w.setCell ⟨wb, k, none⟩ (.int .i64 (v : Int))) rb ab nb wb db cap { s with wear := upd s.wear k v } := by
  obtain ⟨e1, e2, e3, e4, e5, e6, e7, e8, e9, e10⟩ := h.n0
  exact { h with
    c0 := by rw [far _ (by omega)]; exact h.c0
    c1 := by rw [far _ (by omega)]; exact h.c1
    c2 := by rw [far _ (by omega)]; exact h.c2
    c3 := by rw [far _ (by omega)]; exact h.c3
    c4 := by rw [far _ (by omega)]; exact h.c4
    c5 := by rw [far _ (by omega)]; exact h.c5
    c6 := by rw [far _ (by omega)]; exact h.c6
    c7 := by rw [far _ (by omega)]; exact h.c7
    c8 := by rw [far _ (by omega)]; exact h.c8
    fr := fun b o hb => by rw [World.frozen?_setCell]; exact h.fr b o hb
    hb := fun i j h1 h2 => by rw [far _ (by omega)]; exact h.hb i j h1 h2
    r1 := fun i h1 => by rw [far _ (by omega)]; exact h.r1 i h1
    r2 := fun i h1 => by
      by_cases e : i = k
      · subst e; dsimp only; rw [World.cell?_setCell_same _ _ _ (h.r2 i h1), upd_same]
      · dsimp only; rw [far _ (by omega), upd_ne _ _ _ _ e]; exact h.r2 i h1
    r3 := fun i h1 => by rw [far _ (by omega)]; exact h.r3 i h1 }
theorem RH.setBad {D B P Y rb ab nb wb db cap : Nat} {w : World} {s : St} (h : RH D B P Y w rb ab nb wb db cap s) (k : Nat) (v : Bool) (hk : k < D * B) :
    RH D B P Y (w.setCell ⟨db, k, none⟩ (.bool v)) rb ab nb wb db cap { s with bad := upd s.bad k v } := by
  obtain ⟨e1, e2, e3, e4, e5, e6, e7, e8, e9, e10⟩ := h.n0
  exact { h with
    c0 := by rw [far _ (by omega)]; exact h.c0
    c1 := by rw [far _ (by omega)]; exact h.c1
    c2 := by rw [far _ (by omega)]; exact h.c2
    c3 := by rw [far _ (by omega)]; exact h.c3
    c4 := by rw [far _ (by omega)]; exact h.c4
    c5 := by rw [far _ (by omega)]; exact h.c5
    c6 := by rw [far _ (by omega)]; exact h.c6
    c7 := by rw [far _ (by omega)]; exact h.c7
    c8 := by rw [far _ (by omega)]; exact h.c8
    fr := fun b o hb => by rw [World.frozen?_setCell]; exact h.fr b o hb
    hb := fun i j h1 h2 => by rw [far _ (by omega)]; exact h.hb i j h1 h2
    r1 := fun i h1 => by rw [far _ (by omega)]; exact h.r1 i h1
    r2 := fun i h1 => by rw [far _ (by omega)]; exact h.r2 i h1
    r3 := fun i h1 => by
      by_cases e : i = k
      · subst e; dsimp only; rw [World.cell?_setCell_same _ _ _ (h.r3 i h1), upd_same]
      · dsimp only; rw [far _ (by omega), upd_ne _ _ _ _ e]; exact h.r3 i h1 }
theorem place_inj {L k j k' j' : Nat} (h : j < L) (h' : j' < L) (e : k * L + j = k' * L + j') : k = k' ∧ j = j' := by
  have a1 : (k * L + j) / L = k := by rw [Nat.mul_comm, Nat.mul_add_div (by omega), Nat.div_eq_of_lt h, Nat.add_zero]
  have a2 : (k' * L + j') / L = k' := by rw [Nat.mul_comm, Nat.mul_add_div (by omega), Nat.div_eq_of_lt h', Nat.add_zero]
  have hk : k = k' := by rw [← a1, ← a2, e]
  subst hk
  exact ⟨rfl, by omega⟩
theorem RH.setByte {D B P Y rb ab nb wb db cap : Nat} {w : World} {s : St} (h : RH D B P Y w rb ab nb wb db cap s) (k q v : Nat) (hk : k < D * B) (hq : q < P * Y) :
    RH D B P Y (w.setCell ⟨ab, k * (P * Y) + q, none⟩ (.int .u8 (v : Int))) rb ab nb wb db cap { s with bytes := upd s.bytes k ((s.bytes k).set q v) } := by
  obtain ⟨e1, e2, e3, e4, e5, e6, e7, e8, e9, e10⟩ := h.n0
  exact { h with
    c0 := by rw [far _ (by omega)]; exact h.c0
    c1 := by rw [far _ (by omega)]; exact h.c1
    c2 := by rw [far _ (by omega)]; exact h.c2
    c3 := by rw [far _ (by omega)]; exact h.c3
    c4 := by rw [far _ (by omega)]; exact h.c4
    c5 := by rw [far _ (by omega)]; exact h.c5
    c6 := by rw [far _ (by omega)]; exact h.c6
    c7 := by rw [far _ (by omega)]; exact h.c7
    c8 := by rw [far _ (by omega)]; exact h.c8
    fr := fun b o hb => by rw [World.frozen?_setCell]; exact h.fr b o hb
    hb := fun i j h1 h2 => by
      dsimp only
      by_cases e : i = k
      · subst e
        rw [upd_same, List.getElem?_set]
        by_cases e2 : q = j
        · subst e2
          rw [World.cell?_setCell_same _ _ _ (h.hb i q h1 h2), if_pos rfl, if_pos (by rw [h.hl i h1]; exact h2)]
          rfl
        · rw [far _ (by omega), if_neg e2]; exact h.hb i j h1 h2
      · rw [far _ (fun e3 => e (place_inj hq h2 e3.2).1.symm), upd_ne _ _ _ _ e]; exact h.hb i j h1 h2
    r1 := fun i h1 => by rw [far _ (by omega)]; exact h.r1 i h1
    r2 := fun i h1 => by rw [far _ (by omega)]; exact h.r2 i h1
    r3 := fun i h1 => by rw [far _ (by omega)]; exact h.r3 i h1
    hl := fun i h1 => by
      dsimp only
      by_cases e : i = k
      · subst e; rw [upd_same, List.length_set]; exact h.hl i h1
      · rw [upd_ne _ _ _ _ e]; exact h.hl i h1 }
/-- Bytes put one by one. -/
def putL (l : List Nat) (X : Nat) (ys : List Nat) : Nat → List Nat
  | 0 => l
  | i + 1 => (putL l X ys i).set (X + i) (ys[i]?.getD 0)
theorem putL_len (l : List Nat) (X : Nat) (ys : List Nat) : ∀ i, (putL l X ys i).length = l.length
  | 0 => rfl
  | i + 1 => by rw [putL, List.length_set, putL_len l X ys i]
theorem putL_at (l : List Nat) (X : Nat) (ys : List Nat) : ∀ i j, j < l.length → (putL l X ys i)[j]?.getD 0 = if X ≤ j ∧ j < X + i then ys[j - X]?.getD 0 else l[j]?.getD 0
  | 0, j, h => by rw [putL, if_neg (by omega)]
  | i + 1, j, h => by
    rw [putL, List.getElem?_set]
    by_cases e : X + i = j
    · rw [if_pos e, if_pos (by rw [putL_len]; omega), if_pos (by omega), show j - X = i by omega]
      rfl
    · rw [if_neg e, putL_at l X ys i j h]
      by_cases h2 : X ≤ j ∧ j < X + i
      · rw [if_pos h2, if_pos (by omega)]
      · rw [if_neg h2, if_neg (by omega)]
theorem putL_splice (l : List Nat) (X : Nat) (ys : List Nat) (m : Nat) (hm : m ≤ ys.length) (hX : X + m ≤ l.length) : putL l X ys m = splice l X (ys.take m) := by
  have hlen : (ys.take m).length = m := by rw [List.length_take]; omega
  apply ext_getD
  · rw [putL_len, length_splice _ _ _ (by omega)]
  · intro j hj
    rw [putL_len] at hj
    rw [putL_at l X ys m j hj]
    unfold splice
    by_cases h1 : j < X
    · rw [if_neg (by omega), List.getElem?_append_left (by rw [List.length_take]; omega), List.getElem?_take, if_pos h1]
    · have hX2 : (l.take X).length = X := by rw [List.length_take]; omega
      rw [List.getElem?_append_right (by omega), hX2]
      by_cases h2 : j < X + m
      · rw [if_pos (by omega), List.getElem?_append_left (by omega), List.getElem?_take, if_pos (by omega)]
      · rw [if_neg (by omega), List.getElem?_append_right (by omega), List.getElem?_drop, hlen, show X + m + (j - X - m) = j by omega]
end Go.Proofs.YtjeelaaimhckhabDoor
