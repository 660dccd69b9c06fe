/-
  The fields of a command and of a completion as package cmd lays them: a row of places, each with a pointer to the number itself.
-/
import Derived.Test.YteklankhffebaaaDoorPlace
import Derived.BigRegion
namespace Go.Proofs.YteklankhffebaaaDoor
open Go.RowKit
set_option linter.unusedVariables false

/-- A field lies at a place. -/
structure FAt (w : World) (g off i cb a k m : Nat) : Prop where
  c0 : w.cell? ⟨g, off + i * 4, none⟩ = some (.int .i64 (a : Nat))
  c1 : w.cell? ⟨g, off + i * 4 + 1, none⟩ = some (.int .i64 (k : Nat))
  c2 : w.cell? ⟨g, off + i * 4 + 2, none⟩ = some (.int .i64 (m : Nat))
  c3 : w.cell? ⟨g, off + i * 4 + 3, none⟩ = some (.pointer (some ⟨cb, i, none⟩))
theorem FAt.lt {w : World} {g off i cb a k m : Nat} (h : FAt w g off i cb a k m) : g < w.heap.size := World.block_lt_of_cell? w _ h.c0
theorem FAt.keep {S : Nat → Prop} {w w' : World} {g off i cb a k m : Nat} (h : FAt w g off i cb a k m) (hk : Keep S w w') (hs : ¬ S g) : FAt w' g off i cb a k m :=
  ⟨(hk.cell (p := ⟨g, off + i * 4, none⟩) h.lt hs).trans h.c0, (hk.cell (p := ⟨g, off + i * 4 + 1, none⟩) h.lt hs).trans h.c1, (hk.cell (p := ⟨g, off + i * 4 + 2, none⟩) h.lt hs).trans h.c2, (hk.cell (p := ⟨g, off + i * 4 + 3, none⟩) h.lt hs).trans h.c3⟩
/-- Where the number of a field stands, how long it is, how great it may be. -/
structure Fld where
  a : Nat
  k : Nat
  m : Nat
def gF (l : List Fld) (i : Nat) : Fld := l[i]?.getD ⟨0, 0, 0⟩
/-- FIELDS LIE AT ⟨g, off⟩, the i-th leads to cell i of block cb. -/
def FL (w : World) (g off cb : Nat) (l : List Fld) : Prop := ∀ i, i < l.length → FAt w g off i cb (gF l i).a (gF l i).k (gF l i).m
theorem FL.keep {S : Nat → Prop} {w w' : World} {g off cb : Nat} {l : List Fld} (h : FL w g off cb l) (hk : Keep S w w') (hs : ¬ S g) : FL w' g off cb l := fun i hi => (h i hi).keep hk hs
def fcells (cb : Nat) : Nat → List Fld → List Value
  | _, [] => []
  | i, f :: r => .int .i64 (f.a : Nat) :: .int .i64 (f.k : Nat) :: .int .i64 (f.m : Nat) :: .pointer (some ⟨cb, i, none⟩) :: fcells cb (i + 1) r
theorem fcells_at (cb : Nat) : ∀ (l : List Fld) (j i : Nat), i < l.length → (fcells cb j l)[i * 4]? = some (.int .i64 ((gF l i).a : Nat)) ∧ (fcells cb j l)[i * 4 + 1]? = some (.int .i64 ((gF l i).k : Nat)) ∧ (fcells cb j l)[i * 4 + 2]? = some (.int .i64 ((gF l i).m : Nat)) ∧ (fcells cb j l)[i * 4 + 3]? = some (.pointer (some ⟨cb, j + i, none⟩))
  | [], j, i, h => by simp at h
  | f :: r, j, 0, _ => ⟨rfl, rfl, rfl, rfl⟩
  | f :: r, j, i + 1, h => by
    have ih := fcells_at cb r (j + 1) i (by simpa using h)
    rw [show j + 1 + i = j + (i + 1) by omega] at ih
    have e1 : (i + 1) * 4 = i * 4 + 1 + 1 + 1 + 1 := by omega
    rw [e1]
    exact ih
theorem fl_of {w : World} {g cb : Nat} {l : List Fld} {t : TypeId} {z : Nat × Nat} (h : w.heap[g]? = some (.cells (fcells cb 0 l).toArray t z)) : FL w g 0 cb l := fun i hi => by
  have e := fcells_at cb l 0 i hi
  simp only [Nat.zero_add] at e
  refine ⟨?_, ?_, ?_, ?_⟩
  · rw [Nat.zero_add]; simp only [World.cell?, h]; simpa using e.1
  · rw [Nat.zero_add]; simp only [World.cell?, h]; simpa using e.2.1
  · rw [Nat.zero_add]; simp only [World.cell?, h]; simpa using e.2.2.1
  · rw [Nat.zero_add]; simp only [World.cell?, h]; simpa using e.2.2.2
/-- The fields of a command. -/
def CF : List Fld := [⟨0, 1, 255⟩, ⟨2, 2, 65535⟩, ⟨8, 8, 4611686018427387904⟩, ⟨16, 4, 4294967295⟩, ⟨24, 8, 4611686018427387904⟩, ⟨32, 8, 4611686018427387904⟩]
/-- The fields of a completion. -/
def DF : List Fld := [⟨0, 2, 65535⟩, ⟨2, 2, 65535⟩, ⟨4, 2, 65535⟩, ⟨6, 1, 255⟩]
set_option maxRecDepth 20000 in
set_option maxHeartbeats 1600000 in
theorem cfields_any (cb : Nat) (w : World) : Calls Tryd.prog 18 #[.pointer (some ⟨cb, 0, none⟩)] w fun e w' => e = .returned (.slice (some ⟨w.heap.size, 0, none⟩) 6 6) ∧ FL w' w.heap.size 0 cb CF ∧ Below w.heap.size w w' := by
  have HF : Hid (∀ t q, FL ((w.alloc (.cells (fcells cb 0 CF).toArray t)).drewN q) w.heap.size 0 cb CF ∧ Below w.heap.size w ((w.alloc (.cells (fcells cb 0 CF).toArray t)).drewN q)) := fun t q => ⟨(fl_of (heap_alloc_new w _)).keep (S := fun _ => False) ((Keep.refl _ _).drewN q) (fun e => e), below_drewN (alloc_below' w _) q⟩
  go_enter Tryd.func18, Tryd.ntmps18
  go_wp2
  go_region
  go_wp2
  go_ret
  exact ⟨rfl, HF.out _ _⟩
set_option maxRecDepth 20000 in
set_option maxHeartbeats 1600000 in
theorem dfields_any (cb : Nat) (w : World) : Calls Tryd.prog 21 #[.pointer (some ⟨cb, 0, none⟩)] w fun e w' => e = .returned (.slice (some ⟨w.heap.size, 0, none⟩) 4 4) ∧ FL w' w.heap.size 0 cb DF ∧ Below w.heap.size w w' := by
  have HF : Hid (∀ t q, FL ((w.alloc (.cells (fcells cb 0 DF).toArray t)).drewN q) w.heap.size 0 cb DF ∧ Below w.heap.size w ((w.alloc (.cells (fcells cb 0 DF).toArray t)).drewN q)) := fun t q => ⟨(fl_of (heap_alloc_new w _)).keep (S := fun _ => False) ((Keep.refl _ _).drewN q) (fun e => e), below_drewN (alloc_below' w _) q⟩
  go_enter Tryd.func21, Tryd.ntmps21
  go_wp2
  go_region
  go_wp2
  go_ret
  exact ⟨rfl, HF.out _ _⟩
end Go.Proofs.YteklankhffebaaaDoor
