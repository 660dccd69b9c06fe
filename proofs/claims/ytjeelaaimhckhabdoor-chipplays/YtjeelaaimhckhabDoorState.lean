/-
  The state of a chip as plain data, and how it lies in memory: one block for the chip, one for its blocks' rows, one for the bytes of each.
-/
import Derived.Test.YtjeelaaimhckhabDoorBase
import Derived.Laws.CopyOwn
namespace Go.Proofs.YtjeelaaimhckhabDoor
open Go.RowKit

def bv (y : Nat) : Value := .int .u8 (y : Int)
def upd {α : Type} (f : Nat → α) (k : Nat) (v : α) : Nat → α := fun i => if i = k then v else f i
theorem upd_same {α : Type} (f : Nat → α) (k : Nat) (v : α) : upd f k v k = v := if_pos rfl
theorem upd_ne {α : Type} (f : Nat → α) (k i : Nat) (v : α) (h : i ≠ k) : upd f k v i = f i := if_neg h
/-- A chip's state. -/
structure St where
  off : Bool
  bytes : Nat → List Nat
  next : Nat → Nat
  wear : Nat → Nat
  bad : Nat → Bool
/-- What a geometry may be. -/
structure Geo (D B P Y : Nat) : Prop where
  d0 : 1 ≤ D
  d1 : D ≤ 4
  b0 : 1 ≤ B
  b1 : B ≤ 16
  p0 : 1 ≤ P
  p1 : P ≤ 16
  y0 : 8 ≤ Y
  y1 : Y ≤ 256
  y8 : Y % 8 = 0
theorem Geo.n {D B P Y : Nat} (h : Geo D B P Y) : 1 ≤ D * B ∧ D * B ≤ 64 := by
  have h1 : D * B ≤ 4 * 16 := Nat.mul_le_mul h.d1 h.b1
  have h2 : 1 * 1 ≤ D * B := Nat.mul_le_mul h.d0 h.b0
  omega
theorem Geo.l {D B P Y : Nat} (h : Geo D B P Y) : 8 ≤ P * Y ∧ P * Y ≤ 4096 := by
  have h1 : P * Y ≤ 16 * 256 := Nat.mul_le_mul h.p1 h.y1
  have h2 : 1 * 8 ≤ P * Y := Nat.mul_le_mul h.p0 h.y0
  omega
/-- How it lies. -/
structure CH (D B P Y : Nat) (w : World) (cb bb : Nat) (pb : Nat → Nat) (s : St) : Prop where
  c0 : w.cell? ⟨cb, 0, none⟩ = some (.bool s.off)
  c1 : w.cell? ⟨cb, 1, none⟩ = some (.int .i64 (D : Int))
  c2 : w.cell? ⟨cb, 2, none⟩ = some (.int .i64 (B : Int))
  c3 : w.cell? ⟨cb, 3, none⟩ = some (.int .i64 (P : Int))
  c4 : w.cell? ⟨cb, 4, none⟩ = some (.int .i64 (Y : Int))
  c5 : w.cell? ⟨cb, 5, none⟩ = some (.slice (some ⟨bb, 0, none⟩) (D * B) (D * B))
  fc : ∀ o, w.frozen? ⟨cb, o, none⟩ = false
  fb : ∀ o, w.frozen? ⟨bb, o, none⟩ = false
  r0 : ∀ k, k < D * B → w.cell? ⟨bb, k * 4, none⟩ = some (.slice (some ⟨pb k, 0, none⟩) (P * Y) (P * Y))
  r1 : ∀ k, k < D * B → w.cell? ⟨bb, k * 4 + 1, none⟩ = some (.int .i64 (s.next k : Int))
  r2 : ∀ k, k < D * B → w.cell? ⟨bb, k * 4 + 2, none⟩ = some (.int .i64 (s.wear k : Int))
  r3 : ∀ k, k < D * B → w.cell? ⟨bb, k * 4 + 3, none⟩ = some (.bool (s.bad k))
  hp : ∀ k, k < D * B → w.heap[pb k]? = some (.cells ((s.bytes k).map bv).toArray 5 (0, 0))
  hl : ∀ k, k < D * B → (s.bytes k).length = P * Y
  n0 : cb ≠ bb
  n1 : ∀ k, k < D * B → pb k ≠ cb ∧ pb k ≠ bb
  n2 : ∀ i k, i < D * B → k < D * B → pb i = pb k → i = k
  hn : ∀ k, s.next k ≤ P
  ha : ∀ k, k < D * B → AllB (s.bytes k)
/-- The blocks that are its own. -/
def Mine (n cb bb : Nat) (pb : Nat → Nat) (b : Nat) : Prop := b = cb ∨ b = bb ∨ ∃ k, k < n ∧ b = pb k

theorem heap_lt {w : World} {k : Nat} {o : Obj} (h : w.heap[k]? = some o) : k < w.heap.size := (Array.getElem?_eq_some_iff.1 h).1
theorem CH.lt {D B P Y cb bb : Nat} {pb : Nat → Nat} {w : World} {s : St} (h : CH D B P Y w cb bb pb s) (hn : 1 ≤ D * B) : ∀ b, Mine (D * B) cb bb pb b → b < w.heap.size := by
  rintro b (rfl | rfl | ⟨k, hk, rfl⟩)
  · exact World.block_lt_of_cell? w _ h.c0
  · exact World.block_lt_of_cell? w _ (h.r0 0 hn)
  · exact heap_lt (h.hp k hk)
theorem CH.keep {D B P Y cb bb : Nat} {pb : Nat → Nat} {w w' : World} {s : St} {S : Nat → Prop} (h : CH D B P Y w cb bb pb s) (hn : 1 ≤ D * B) (hk : Keep S w w') (hs : ∀ b, Mine (D * B) cb bb pb b → ¬ S b) : CH D B P Y w' cb bb pb s := by
  have hc : ∀ o, w'.cell? ⟨cb, o, none⟩ = w.cell? ⟨cb, o, none⟩ := fun o => hk.cell (h.lt hn _ (Or.inl rfl)) (hs _ (Or.inl rfl))
  have hb : ∀ o, w'.cell? ⟨bb, o, none⟩ = w.cell? ⟨bb, o, none⟩ := fun o => hk.cell (h.lt hn _ (Or.inr (Or.inl rfl))) (hs _ (Or.inr (Or.inl rfl)))
  exact { h with
    c0 := by rw [hc]; exact h.c0
    c1 := by rw [hc]; exact h.c1
    c2 := by rw [hc]; exact h.c2
    c3 := by rw [hc]; exact h.c3
    c4 := by rw [hc]; exact h.c4
    c5 := by rw [hc]; exact h.c5
    fc := fun o => by rw [hk.frozen (h.lt hn _ (Or.inl rfl)) (hs _ (Or.inl rfl))]; exact h.fc o
    fb := fun o => by rw [hk.frozen (h.lt hn _ (Or.inr (Or.inl rfl))) (hs _ (Or.inr (Or.inl rfl)))]; exact h.fb o
    r0 := fun k hk' => by rw [hb]; exact h.r0 k hk'
    r1 := fun k hk' => by rw [hb]; exact h.r1 k hk'
    r2 := fun k hk' => by rw [hb]; exact h.r2 k hk'
    r3 := fun k hk' => by rw [hb]; exact h.r3 k hk'
    hp := fun k hk' => by rw [hk.block _ (heap_lt (h.hp k hk')) (hs _ (Or.inr (Or.inr ⟨k, hk', rfl⟩)))]; exact h.hp k hk' }
theorem CH.below {D B P Y cb bb : Nat} {pb : Nat → Nat} {w w' : World} {s : St} (h : CH D B P Y w cb bb pb s) (hn : 1 ≤ D * B) (hb : Below w.heap.size w w') : CH D B P Y w' cb bb pb s :=
  h.keep (S := fun _ => False) hn (Keep.of_below hb) (fun _ _ e => e)

theorem far {w : World} {b o b' o' : Nat} (u : Value) (h : ¬ (b = b' ∧ o = o')) : (w.setCell ⟨b, o, none⟩ u).cell? ⟨b', o', none⟩ = w.cell? ⟨b', o', none⟩ :=
  World.cell?_setCell_other w _ _ u (fun e => h (by cases e; exact ⟨rfl, rfl⟩))
theorem CH.setOff {D B P Y cb bb : Nat} {pb : Nat → Nat} {w : World} {s : St} (h : CH D B P Y w cb bb pb s) (v : Bool) : CH D B P Y (w.setCell ⟨cb, 0, none⟩ (.bool v)) cb bb pb { s with off := v } := by
  have hne := h.n0
  exact { h with
    c0 := World.cell?_setCell_same _ _ _ h.c0
    c1 := by rw [far _ (by omega)]; exact h.c1
    c2 := by rw [far _ (by omega)]; exact h.c2
    c3 := by rw [far _ (by omega)]; exact h.c3
    c4 := by rw [far _ (by omega)]; exact h.c4
    c5 := by rw [far _ (by omega)]; exact h.c5
    fc := fun o => by rw [World.frozen?_setCell]; exact h.fc o
    fb := fun o => by rw [World.frozen?_setCell]; exact h.fb o
    r0 := fun k hk => by rw [far _ (by omega)]; exact h.r0 k hk
    r1 := fun k hk => by rw [far _ (by omega)]; exact h.r1 k hk
    r2 := fun k hk => by rw [far _ (by omega)]; exact h.r2 k hk
    r3 := fun k hk => by rw [far _ (by omega)]; exact h.r3 k hk
    hp := fun k hk => by rw [Below.heap_setCell _ _ _ _ (h.n1 k hk).1]; exact h.hp k hk }
theorem CH.setNext {D B P Y cb bb : Nat} {pb : Nat → Nat} {w : World} {s : St} (h : CH D B P Y w cb bb pb s) (k v : Nat) (hk : k < D * B) (hv : v ≤ P) :
    CH D B P Y (w.setCell ⟨bb, k * 4 + 1, none⟩ (.int .i64 (v : Int))) cb bb pb { s with next := upd s.next k v } := by
  have hne := h.n0
  exact { h with
    c0 := by rw [far _ (by omega)]; exact h.c0
    c1 := by rw [far _ (by omega)]; exact h.c1
    c2 := by rw [far _ (by omega)]; exact h.c2
    c3 := by rw [far _ (by omega)]; exact h.c3
    c4 := by rw [far _ (by omega)]; exact h.c4
    c5 := by rw [far _ (by omega)]; exact h.c5
    fc := fun o => by rw [World.frozen?_setCell]; exact h.fc o
    fb := fun o => by rw [World.frozen?_setCell]; exact h.fb o
    r0 := fun i hi => by rw [far _ (by omega)]; exact h.r0 i hi
    r1 := fun i hi => by
      by_cases e : i = k
      · subst e; dsimp only; rw [World.cell?_setCell_same _ _ _ (h.r1 i hi), upd_same]
      · dsimp only; rw [far _ (by omega), upd_ne _ _ _ _ e]; exact h.r1 i hi
    r2 := fun i hi => by rw [far _ (by omega)]; exact h.r2 i hi
    r3 := fun i hi => by rw [far _ (by omega)]; exact h.r3 i hi
    hp := fun i hi => by rw [Below.heap_setCell _ _ _ _ (h.n1 i hi).2]; exact h.hp i hi
    hn := fun i => by
      by_cases e : i = k
      · subst e; dsimp only; rw [upd_same]; exact hv
      · dsimp only; rw [upd_ne _ _ _ _ e]; exact h.hn i }
theorem CH.setWear {D B P Y cb bb : Nat} {pb : Nat → Nat} {w : World} {s : St} (h : CH D B P Y w cb bb pb s) (k v : Nat) (hk : k < D * B) :
    CH D B P Y (w.setCell ⟨bb, k * 4 + 2, none⟩ (.int .i64 (v : Int))) cb bb pb { s with wear := upd s.wear k v } := by
  have hne := h.n0
  exact { h with
    c0 := by rw [far _ (by omega)]; exact h.c0
    c1 := by rw [far _ (by omega)]; exact h.c1
    c2 := by rw [far _ (by omega)]; exact h.c2
    c3 := by rw [far _ (by omega)]; exact h.c3
    c4 := by rw [far _ (by omega)]; exact h.c4
    c5 := by rw [far _ (by omega)]; exact h.c5
    fc := fun o => by rw [World.frozen?_setCell]; exact h.fc o
    fb := fun o => by rw [World.frozen?_setCell]; exact h.fb o
    r0 := fun i hi => by rw [far _ (by omega)]; exact h.r0 i hi
    r1 := fun i hi => by rw [far _ (by omega)]; exact h.r1 i hi
    r2 := fun i hi => by
      by_cases e : i = k
      · subst e; dsimp only; rw [World.cell?_setCell_same _ _ _ (h.r2 i hi), upd_same]
      · dsimp only; rw [far _ (by omega), upd_ne _ _ _ _ e]; exact h.r2 i hi
    r3 := fun i hi => by rw [far _ (by omega)]; exact h.r3 i hi
    hp := fun i hi => by rw [Below.heap_setCell _ _ _ _ (h.n1 i hi).2]; exact h.hp i hi }
theorem CH.setBad {D B P Y cb bb : Nat} {pb : Nat → Nat} {w : World} {s : St} (h : CH D B P Y w cb bb pb s) (k : Nat) (v : Bool) (hk : k < D * B) :
    CH D B P Y (w.setCell ⟨bb, k * 4 + 3, none⟩ (.bool v)) cb bb pb { s with bad := upd s.bad k v } := by
  have hne := h.n0
  exact { h with
    c0 := by rw [far _ (by omega)]; exact h.c0
    c1 := by rw [far _ (by omega)]; exact h.c1
    c2 := by rw [far _ (by omega)]; exact h.c2
    c3 := by rw [far _ (by omega)]; exact h.c3
    c4 := by rw [far _ (by omega)]; exact h.c4
    c5 := by rw [far _ (by omega)]; exact h.c5
    fc := fun o => by rw [World.frozen?_setCell]; exact h.fc o
    fb := fun o => by rw [World.frozen?_setCell]; exact h.fb o
    r0 := fun i hi => by rw [far _ (by omega)]; exact h.r0 i hi
    r1 := fun i hi => by rw [far _ (by omega)]; exact h.r1 i hi
    r2 := fun i hi => by rw [far _ (by omega)]; exact h.r2 i hi
    r3 := fun i hi => by
      by_cases e : i = k
      · subst e; dsimp only; rw [World.cell?_setCell_same _ _ _ (h.r3 i hi), upd_same]
      · dsimp only; rw [far _ (by omega), upd_ne _ _ _ _ e]; exact h.r3 i hi
    hp := fun i hi => by rw [Below.heap_setCell _ _ _ _ (h.n1 i hi).2]; exact h.hp i hi }
/-- The bytes of one block turn, and nothing else. -/
theorem CH.setBytes {D B P Y cb bb : Nat} {pb : Nat → Nat} {w w' : World} {s : St} (h : CH D B P Y w cb bb pb s) (hn : 1 ≤ D * B) (k : Nat) (hk : k < D * B) (l : List Nat) (hl : l.length = P * Y) (hA : AllB l)
    (hw : Keep (fun b => b = pb k) w w') (hh : w'.heap[pb k]? = some (.cells (l.map bv).toArray 5 (0, 0))) : CH D B P Y w' cb bb pb { s with bytes := upd s.bytes k l } := by
  have g1 := (h.n1 k hk).1
  have g2 := (h.n1 k hk).2
  have hc : ∀ o, w'.cell? ⟨cb, o, none⟩ = w.cell? ⟨cb, o, none⟩ := fun o => hw.cell (h.lt hn _ (Or.inl rfl)) (fun e => g1 e.symm)
  have hb : ∀ o, w'.cell? ⟨bb, o, none⟩ = w.cell? ⟨bb, o, none⟩ := fun o => hw.cell (h.lt hn _ (Or.inr (Or.inl rfl))) (fun e => g2 e.symm)
  exact { h with
    c0 := by rw [hc]; exact h.c0
    c1 := by rw [hc]; exact h.c1
    c2 := by rw [hc]; exact h.c2
    c3 := by rw [hc]; exact h.c3
    c4 := by rw [hc]; exact h.c4
    c5 := by rw [hc]; exact h.c5
    fc := fun o => by rw [hw.frozen (h.lt hn _ (Or.inl rfl)) (fun e => g1 e.symm)]; exact h.fc o
    fb := fun o => by rw [hw.frozen (h.lt hn _ (Or.inr (Or.inl rfl))) (fun e => g2 e.symm)]; exact h.fb o
    r0 := fun k hk' => by rw [hb]; exact h.r0 k hk'
    r1 := fun k hk' => by rw [hb]; exact h.r1 k hk'
    r2 := fun k hk' => by rw [hb]; exact h.r2 k hk'
    r3 := fun k hk' => by rw [hb]; exact h.r3 k hk'
    hp := fun i hi => by
      by_cases e : i = k
      · subst e; dsimp only; rw [upd_same]; exact hh
      · dsimp only; rw [upd_ne _ _ _ _ e, hw.block _ (heap_lt (h.hp i hi)) (fun e' => e (h.n2 i k hi hk e'))]; exact h.hp i hi
    hl := fun i hi => by
      by_cases e : i = k
      · subst e; dsimp only; rw [upd_same]; exact hl
      · dsimp only; rw [upd_ne _ _ _ _ e]; exact h.hl i hi
    ha := fun i hi => by
      by_cases e : i = k
      · subst e; dsimp only; rw [upd_same]; exact hA
      · dsimp only; rw [upd_ne _ _ _ _ e]; exact h.ha i hi }
theorem row_cell {w : World} {g : Nat} {l : List Nat} {t : TypeId} (h : w.heap[g]? = some (.cells (l.map bv).toArray t (0, 0))) (j : Nat) (hj : j < l.length) : w.cell? ⟨g, j, none⟩ = some (.int .u8 ((l[j]?.getD 0 : Nat) : Int)) := by
  simp [World.cell?, h, List.getElem?_eq_getElem hj, bv]
theorem row_free {w : World} {g : Nat} {cs : Array Value} {t : TypeId} (h : w.heap[g]? = some (.cells cs t (0, 0))) (j : Nat) : w.frozen? ⟨g, j, none⟩ = false := by
  simp [World.frozen?, h]
theorem row_lies {w : World} {g : Nat} {l : List Nat} {t : TypeId} (h : w.heap[g]? = some (.cells (l.map bv).toArray t (0, 0))) : Lies w (some ⟨g, 0, none⟩) l :=
  Or.inr ⟨g, 0, rfl, fun i hi => by rw [Nat.zero_add]; exact row_cell h i hi⟩
theorem row_set {w : World} {g : Nat} {l : List Nat} {t : TypeId} (h : w.heap[g]? = some (.cells (l.map bv).toArray t (0, 0))) (j v : Nat) : (w.setCell ⟨g, j, none⟩ (.int .u8 (v : Int))).heap[g]? = some (.cells ((l.set j v).map bv).toArray t (0, 0)) := by
  simp [World.setCell, Array.getElem?_modify, h, List.map_set, bv]
end Go.Proofs.YtjeelaaimhckhabDoor
