/-
  Words of my own for memory: worlds of which all but some blocks are as they were; a block's cells as a list; rows of numbers.
-/
import Derived.Test.YtohngekkbgklfaaProg
import Derived.Test.YtohngekkbgklfaaMathOrder
import Derived.WalkKit
import Derived.WalkSpells
import Derived.WalkLawsBesides
import Derived.Deep.QuietTactic
import Derived.BigQuiet
import Derived.Laws.AppendOwnNone
import Derived.Deep.AppendLies
import Derived.Deep.RegionWith
import Derived.Deep.CutRange
import Derived.Deep.DeepCutAuto
import Derived.Deep.RegionHeld3
import Derived.Deep.RegionLaw
namespace Go.Proofs.Ytohngekkbgklfaa
open Go.RowKit
set_option linter.unusedVariables false

theorem val_int {k : IntKind} {a b : Int} (h : a = b) : Value.int k a = Value.int k b := by rw [h]
theorem ret_int {k : IntKind} {a b : Int} (h : a = b) : Ending.returned (.int k a) = .returned (.int k b) := by rw [h]
/-- ALL BUT THE BLOCKS OF S IS AS IT WAS. -/
structure Keep (S : Nat → Prop) (w w' : World) : Prop where
  os : w'.os = w.os
  tape : w'.tape = w.tape
  output : w'.output = w.output
  size : w.heap.size ≤ w'.heap.size
  block : ∀ k, k < w.heap.size → ¬ S k → w'.heap[k]? = w.heap[k]?
theorem Keep.refl (S : Nat → Prop) (w : World) : Keep S w w := ⟨rfl, rfl, rfl, Nat.le_refl _, fun _ _ _ => rfl⟩
theorem Keep.trans {S : Nat → Prop} {a b c : World} (h : Keep S a b) (k : Keep S b c) : Keep S a c :=
  ⟨k.os.trans h.os, k.tape.trans h.tape, k.output.trans h.output, Nat.le_trans h.size k.size, fun i hi hs => (k.block i (Nat.lt_of_lt_of_le hi h.size) hs).trans (h.block i hi hs)⟩
theorem Keep.of_below {S : Nat → Prop} {w w' : World} (h : Below w.heap.size w w') : Keep S w w' := ⟨h.os, h.tape, h.output, h.size, fun k hk _ => h.block k hk⟩
theorem Keep.mono {S T : Nat → Prop} {w w' : World} (h : Keep S w w') (hs : ∀ k, S k → T k) : Keep T w w' := ⟨h.os, h.tape, h.output, h.size, fun k hk ht => h.block k hk (fun e => ht (hs k e))⟩
theorem Keep.below {S : Nat → Prop} {w w' : World} {B : Nat} (h : Keep S w w') (hB : B ≤ w.heap.size) (hs : ∀ k, S k → B ≤ k) : Below B w w' :=
  ⟨h.os, h.tape, h.output, h.size, fun k hk => h.block k (by omega) (fun e => by have := hs k e; omega)⟩
theorem Keep.cell {S : Nat → Prop} {w w' : World} (h : Keep S w w') {p : Addr} (hp : p.block < w.heap.size) (hs : ¬ S p.block) : w'.cell? p = w.cell? p := World.cell?_of_block (w := w) (h.block p.block hp hs)
theorem Keep.frozen {S : Nat → Prop} {w w' : World} (h : Keep S w w') {p : Addr} (hp : p.block < w.heap.size) (hs : ¬ S p.block) : w'.frozen? p = w.frozen? p := World.frozen?_of_block (w := w) (h.block p.block hp hs)
theorem Keep.set {S : Nat → Prop} {a w : World} (h : Keep S a w) {p : Addr} (hp : S p.block) (u : Value) : Keep S a (w.setCell p u) := by
  have hb : Below 0 w (w.setCell p u) := (Below.refl _ _).setCell (Nat.zero_le _) u
  exact ⟨hb.os.trans h.os, hb.tape.trans h.tape, hb.output.trans h.output, Nat.le_trans h.size hb.size, fun k hk hs => by
    rw [Below.heap_setCell _ _ _ _ (fun e => hs (by rw [e]; exact hp))]; exact h.block k hk hs⟩
theorem Keep.set1 {g : Nat} {a w : World} (h : Keep (fun b => b = g) a w) (o : Nat) (u : Value) : Keep (fun b => b = g) a (w.setCell ⟨g, o, none⟩ u) := Keep.set (p := ⟨g, o, none⟩) h rfl u
/-- .. of two steps. -/
theorem Keep.thru {S T : Nat → Prop} {a b c : World} (h : Keep S a b) (k : Keep T b c) (hs : ∀ i, i < a.heap.size → T i → S i) : Keep S a c :=
  ⟨k.os.trans h.os, k.tape.trans h.tape, k.output.trans h.output, Nat.le_trans h.size k.size, fun i hi hn => (k.block i (Nat.lt_of_lt_of_le hi h.size) (fun e => hn (hs i hi e))).trans (h.block i hi hn)⟩
theorem heap_lt {w : World} {k : Nat} {o : Obj} (h : w.heap[k]? = some o) : k < w.heap.size := (Array.getElem?_eq_some_iff.1 h).1
theorem row_free {w : World} {g : Nat} {cs : Array Value} {t : TypeId} (h : w.heap[g]? = some (.cells cs t (0, 0))) (j : Nat) : w.frozen? ⟨g, j, none⟩ = false := by
  simp [World.frozen?, h]
theorem Keep.mono' {S T : Nat → Prop} {w w' : World} (h : Keep S w w') (hs : ∀ k, k < w.heap.size → S k → T k) : Keep T w w' := ⟨h.os, h.tape, h.output, h.size, fun k hk ht => h.block k hk (fun e => ht (hs k hk e))⟩
theorem Keep.drewN {S : Nat → Prop} {a w : World} (h : Keep S a w) (q : Nat) : Keep S a (w.drewN q) :=
  h.trans (Keep.of_below (below_drewN (Below.refl _ _) q))
theorem Keep.drew {S : Nat → Prop} {a w : World} (h : Keep S a w) : Keep S a w.drew :=
  h.trans (Keep.of_below ((Below.refl _ _).drew))
theorem Keep.alloc {S : Nat → Prop} {a w : World} (h : Keep S a w) (o : Obj) : Keep S a (w.alloc o) :=
  h.trans (Keep.of_below ((Below.refl _ _).alloc (Nat.le_refl _) _))
theorem far {w : World} {b o b' o' : Nat} (u : Value) (h : ¬ (b = b' ∧ o = o')) : (w.setCell ⟨b, o, none⟩ u).cell? ⟨b', o', none⟩ = w.cell? ⟨b', o', none⟩ :=
  World.cell?_setCell_other w _ _ u (fun e => h (by cases e; exact ⟨rfl, rfl⟩))
/-- The blocks that an address names. -/
def blk (a : Option Addr) (b : Nat) : Prop := ∃ x, a = some x ∧ x.block = b
theorem keep_grown {w w' : World} {a : Option Addr} {n c : Nat} (h : w.grownBy w' (Value.slice a n c).ownBlock) : Keep (blk a) w w' :=
  ⟨h.os, h.tape, h.output, h.size, fun k hk hs => h.block k hk (fun e => hs (by
    cases a with
    | none => cases e
    | some x => exact ⟨x, rfl, by simp [Value.ownBlock] at e; exact e.symm⟩))⟩
theorem Keep.blk_below {w w' : World} {a : Option Addr} {B : Nat} (h : Keep (blk a) w w') (hB : B ≤ w.heap.size) (hs : ∀ b, blk a b → B ≤ b) : Below B w w' := h.below hB hs
theorem alloc_below' (w : World) (o : Obj) : Below w.heap.size w (w.alloc o) := (Below.refl _ _).alloc (Nat.le_refl _) o
theorem wrap_ok {z : Int} (h : -9223372036854775808 ≤ z) (h2 : z ≤ 9223372036854775807) : IntKind.i64.wrap z = z := by
  rw [IntKind.wrap_i64]; omega
/-- A block's cells are these. -/
def Stc (w : World) (cb : Nat) (t : TypeId) (cs : List Value) : Prop := w.heap[cb]? = some (.cells cs.toArray t (0, 0))
theorem Stc.keep {S : Nat → Prop} {w w' : World} {g : Nat} {t : TypeId} {l : List Value} (h : Stc w g t l) (hk : Keep S w w') (hs : ¬ S g) : Stc w' g t l := (hk.block g (heap_lt h) hs).trans h
theorem Stc.below {w w' : World} {g : Nat} {t : TypeId} {l : List Value} (h : Stc w g t l) (hb : Below w.heap.size w w') : Stc w' g t l := (hb.block g (heap_lt h)).trans h
theorem Stc.cell {w : World} {g : Nat} {t : TypeId} {l : List Value} (h : Stc w g t l) (i : Nat) : w.cell? ⟨g, i, none⟩ = l[i]? := by
  unfold Stc at h
  simp [World.cell?, h]
theorem Stc.free {w : World} {g : Nat} {t : TypeId} {l : List Value} (h : Stc w g t l) (j : Nat) : w.frozen? ⟨g, j, none⟩ = false := row_free h j
theorem Stc.set {w : World} {g : Nat} {t : TypeId} {l : List Value} (h : Stc w g t l) (i : Nat) (u : Value) : Stc (w.setCell ⟨g, i, none⟩ u) g t (l.set i u) := by
  unfold Stc at *
  simp [World.setCell, Array.getElem?_modify, h]
theorem Stc.set_other {w : World} {g g' : Nat} {t : TypeId} {l : List Value} (h : Stc w g t l) (hg : ¬ g' = g) (i : Nat) (u : Value) : Stc (w.setCell ⟨g', i, none⟩ u) g t l := by
  unfold Stc at *
  simp [World.setCell, Array.getElem?_modify, h, hg]
theorem Stc.drewN {w : World} {g : Nat} {t : TypeId} {l : List Value} (h : Stc w g t l) (q : Nat) : Stc (w.drewN q) g t l := h.keep ((Keep.refl (fun _ => False) w).drewN q) (fun e => e)
theorem Stc.drew {w : World} {g : Nat} {t : TypeId} {l : List Value} (h : Stc w g t l) : Stc w.drew g t l := h
theorem stc_new (w : World) (t : TypeId) (cs : List Value) (a : Array Value) (h : a = cs.toArray) : Stc (w.alloc (.cells a t)) w.heap.size t cs := by subst h; exact heap_alloc_new w _
def ivI (x : Int) : Value := .int .i64 x
theorem gI_set {l : List Int} {i j : Nat} {x : Int} (hi : i < l.length) : gI (l.set i x) j = if j = i then x else gI l j := by
  unfold gI
  by_cases h : j = i
  · subst h; simp [hi]
  · rw [if_neg h, List.getElem?_set_ne (fun e => h e.symm)]
theorem stc_int {w : World} {g : Nat} {t : TypeId} {l : List Int} (h : Stc w g t (l.map ivI)) {i : Nat} (hi : i < l.length) : w.cell? ⟨g, i, none⟩ = some (.int .i64 (gI l i)) := by
  rw [h.cell, List.getElem?_map, List.getElem?_eq_getElem hi]
  unfold gI
  rw [List.getElem?_eq_getElem hi]
  rfl
theorem stc_int_set {w : World} {g : Nat} {t : TypeId} {l : List Int} (h : Stc w g t (l.map ivI)) (i : Nat) (x : Int) : Stc (w.setCell ⟨g, i, none⟩ (.int .i64 x)) g t ((l.set i x).map ivI) := by
  have e := h.set i (.int .i64 x)
  rw [List.map_set]
  exact e
end Go.Proofs.Ytohngekkbgklfaa
