/-
  Words of my own for memory: worlds of which all but some blocks are as they were; rows of pointers; how a heap's memory lies.
-/
import Derived.Test.YtebnjoammfidnacDoorProg
import Derived.Test.YtebnjoammfidnacDoorMathPool
import Derived.WalkKit
import Derived.WalkSpells
import Derived.WalkLawsBesides
import Derived.Deep.QuietTactic
import Derived.BigQuiet
import Derived.Deep.AppendLies
namespace Go.Proofs.YtebnjoammfidnacDoor
open Go.RowKit
set_option linter.unusedVariables false

theorem val_int {k : IntKind} {a b : Int} (h : a = b) : Value.int k a = Value.int k b := by rw [h]
theorem ret_int {k : IntKind} {a b : Int} (h : a = b) : Ending.returned (.int k a) = .returned (.int k b) := by rw [h]
theorem heap_lt {w : World} {k : Nat} {o : Obj} (h : w.heap[k]? = some o) : k < w.heap.size := (Array.getElem?_eq_some_iff.1 h).1
/-- ALL BUT THE BLOCKS OF S IS AS IT WAS. -/
structure Keep (S : Nat → Prop) (w w' : World) : Prop where
  os : w'.os = w.os
  tape : w'.tape = w.tape
  output : w'.output = w.output
  size : w.heap.size ≤ w'.heap.size
  block : ∀ k, k < w.heap.size → ¬ S k → w'.heap[k]? = w.heap[k]?
theorem Keep.refl (S : Nat → Prop) (w : World) : Keep S w w := ⟨rfl, rfl, rfl, Nat.le_refl _, fun _ _ _ => rfl⟩
theorem Keep.trans {S : Nat → Prop} {a b c : World} (h : Keep S a b) (k : Keep S b c) : Keep S a c :=
  ⟨k.os.trans h.os, k.tape.trans h.tape, k.output.trans h.output, Nat.le_trans h.size k.size, fun i hi hs => (k.block i (Nat.lt_of_lt_of_le hi h.size) hs).trans (h.block i hi hs)⟩
theorem Keep.of_below {S : Nat → Prop} {w w' : World} (h : Below w.heap.size w w') : Keep S w w' := ⟨h.os, h.tape, h.output, h.size, fun k hk _ => h.block k hk⟩
theorem Keep.mono {S T : Nat → Prop} {w w' : World} (h : Keep S w w') (hs : ∀ k, S k → T k) : Keep T w w' := ⟨h.os, h.tape, h.output, h.size, fun k hk ht => h.block k hk (fun e => ht (hs k e))⟩
/-- .. what it turned may be told of the old blocks alone. -/
theorem Keep.mono' {S T : Nat → Prop} {w w' : World} (h : Keep S w w') (hs : ∀ k, k < w.heap.size → S k → T k) : Keep T w w' := ⟨h.os, h.tape, h.output, h.size, fun k hk ht => h.block k hk (fun e => ht (hs k hk e))⟩
theorem Keep.below {S : Nat → Prop} {w w' : World} {B : Nat} (h : Keep S w w') (hB : B ≤ w.heap.size) (hs : ∀ k, S k → B ≤ k) : Below B w w' :=
  ⟨h.os, h.tape, h.output, h.size, fun k hk => h.block k (by omega) (fun e => by have := hs k e; omega)⟩
theorem Keep.cell {S : Nat → Prop} {w w' : World} (h : Keep S w w') {p : Addr} (hp : p.block < w.heap.size) (hs : ¬ S p.block) : w'.cell? p = w.cell? p := World.cell?_of_block (w := w) (h.block p.block hp hs)
theorem Keep.frozen {S : Nat → Prop} {w w' : World} (h : Keep S w w') {p : Addr} (hp : p.block < w.heap.size) (hs : ¬ S p.block) : w'.frozen? p = w.frozen? p := World.frozen?_of_block (w := w) (h.block p.block hp hs)
theorem Keep.set {S : Nat → Prop} {a w : World} (h : Keep S a w) {p : Addr} (hp : S p.block) (u : Value) : Keep S a (w.setCell p u) := by
  have hb : Below 0 w (w.setCell p u) := (Below.refl _ _).setCell (Nat.zero_le _) u
  exact ⟨hb.os.trans h.os, hb.tape.trans h.tape, hb.output.trans h.output, Nat.le_trans h.size hb.size, fun k hk hs => by
    rw [Below.heap_setCell _ _ _ _ (fun e => hs (by rw [e]; exact hp))]; exact h.block k hk hs⟩
theorem Keep.set1 {g : Nat} {a w : World} (h : Keep (fun b => b = g) a w) (o : Nat) (u : Value) : Keep (fun b => b = g) a (w.setCell ⟨g, o, none⟩ u) := Keep.set (p := ⟨g, o, none⟩) h rfl u
theorem Keep.drewN {S : Nat → Prop} {a w : World} (h : Keep S a w) (q : Nat) : Keep S a (w.drewN q) :=
  h.trans (Keep.of_below (below_drewN (Below.refl _ _) q))
theorem Keep.drew {S : Nat → Prop} {a w : World} (h : Keep S a w) : Keep S a w.drew :=
  h.trans (Keep.of_below ((Below.refl _ _).drew))
theorem Keep.alloc {S : Nat → Prop} {a w : World} (h : Keep S a w) (o : Obj) : Keep S a (w.alloc o) :=
  h.trans (Keep.of_below ((Below.refl _ _).alloc (Nat.le_refl _) _))
theorem far {w : World} {b o b' o' : Nat} (u : Value) (h : ¬ (b = b' ∧ o = o')) : (w.setCell ⟨b, o, none⟩ u).cell? ⟨b', o', none⟩ = w.cell? ⟨b', o', none⟩ :=
  World.cell?_setCell_other w _ _ u (fun e => h (by cases e; exact ⟨rfl, rfl⟩))
/-- The blocks that an address names. -/
def blk (a : Option Addr) (b : Nat) : Prop := ∃ x, a = some x ∧ x.block = b
theorem blk_some {g o : Nat} {b : Nat} (h : blk (some ⟨g, o, none⟩) b) : b = g := by obtain ⟨x, e, rfl⟩ := h; cases e; rfl
/-- A pointer to a block of a pool. -/
def pv (bb x : Nat) : Value := .pointer (some ⟨bb, x * 3, none⟩)
/-- THE POINTERS TO THE BLOCKS L ARE A ROW at a (nil: there are none). -/
def OwnP (w : World) (a : Option Addr) (cap bb : Nat) (L : List Nat) : Prop := w.ownsRow 0 57 1 (.slice a L.length cap) L.length (L.map (pv bb))
theorem OwnP.parts {w : World} {cap bb : Nat} {a : Option Addr} {L : List Nat} (h : OwnP w a cap bb L) :
    (a = none ∧ cap = 0 ∧ L = []) ∨ ∃ g cur, a = some ⟨g, 0, none⟩ ∧ w.heap[g]? = some (.cells cur 57 (0, 0)) ∧ L.length ≤ cap ∧ cap ≤ maxLen ∧ cur.size = cap ∧ cur.toList.take L.length = L.map (pv bb) := by
  rcases h.2 with ⟨h2, h3⟩ | ⟨g, cap', cur, hv, r1, r2, r3, r4, r5, r6⟩
  · simp at h2
    exact Or.inl ⟨h2.1, h2.2.2, h2.2.1⟩
  · simp at hv
    obtain ⟨rfl, rfl⟩ := hv
    exact Or.inr ⟨g, cur, rfl, r2, r3, r4, by simpa using r5, by simpa using r6⟩
theorem OwnP.mk {w : World} {cap bb g : Nat} {L : List Nat} {cur : Array Value} (h1 : w.heap[g]? = some (.cells cur 57 (0, 0))) (h2 : L.length ≤ cap) (h3 : cap ≤ maxLen) (h4 : cur.size = cap) (h5 : cur.toList.take L.length = L.map (pv bb)) : OwnP w (some ⟨g, 0, none⟩) cap bb L :=
  ⟨by simp, Or.inr ⟨g, cap, cur, rfl, Nat.zero_le _, h1, h2, h3, by simpa using h4, by simpa using h5⟩⟩
theorem OwnP.some' {w : World} {cap bb : Nat} {a : Option Addr} {L : List Nat} (h : OwnP w a cap bb L) (hl : 0 < L.length) : ∃ g, a = some ⟨g, 0, none⟩ ∧ L.length ≤ cap ∧ cap ≤ maxLen := by
  rcases h.parts with ⟨_, _, h⟩ | ⟨g, cur, h1, _, h3, h4, _⟩
  · rw [h] at hl; exact absurd hl (by simp)
  · exact ⟨g, h1, h3, h4⟩
theorem OwnP.cell {w : World} {cap bb g : Nat} {L : List Nat} (h : OwnP w (some ⟨g, 0, none⟩) cap bb L) {k : Nat} (hk : k < L.length) : w.cell? ⟨g, k, none⟩ = some (pv bb (nth L k)) := by
  rcases h.parts with ⟨e, _, _⟩ | ⟨g', cur, e, h2, h3, h4, h5, h6⟩
  · cases e
  · cases e
    have e : (cur.toList.take L.length)[k]? = (L.map (pv bb))[k]? := by rw [h6]
    rw [List.getElem?_take, if_pos hk, List.getElem?_map, List.getElem?_eq_getElem hk] at e
    simp only [World.cell?, h2]
    rw [← Array.getElem?_toList, nth_at hk]
    simpa using e
theorem OwnP.free {w : World} {cap bb g : Nat} {L : List Nat} (h : OwnP w (some ⟨g, 0, none⟩) cap bb L) (k : Nat) : w.frozen? ⟨g, k, none⟩ = false := by
  rcases h.parts with ⟨e, _, _⟩ | ⟨g', cur, e, h2, _⟩
  · cases e
  · cases e
    simp [World.frozen?, h2]
theorem OwnP.lt {w : World} {cap bb : Nat} {a : Option Addr} {L : List Nat} (h : OwnP w a cap bb L) {b : Nat} (hb : blk a b) : b < w.heap.size := by
  obtain ⟨x, rfl, rfl⟩ := hb
  rcases h.parts with ⟨e, _, _⟩ | ⟨g, cur, e, h2, _⟩
  · cases e
  · cases e
    exact heap_lt h2
theorem OwnP.keep {S : Nat → Prop} {w w' : World} {cap bb : Nat} {a : Option Addr} {L : List Nat} (h : OwnP w a cap bb L) (hk : Keep S w w') (hs : ∀ b, blk a b → ¬ S b) : OwnP w' a cap bb L := by
  refine ⟨h.1, ?_⟩
  rcases h.2 with h2 | ⟨g, cap', cur, hv, r1, r2, r3⟩
  · exact Or.inl h2
  · have e : a = some ⟨g, 0, none⟩ := by simp at hv; exact hv.1
    exact Or.inr ⟨g, cap', cur, hv, r1, by rw [hk.block g (heap_lt r2) (hs g ⟨_, e, rfl⟩)]; exact r2, r3⟩
/-- Two are exchanged. -/
theorem OwnP.swap {w : World} {cap bb g : Nat} {L : List Nat} (h : OwnP w (some ⟨g, 0, none⟩) cap bb L) {i j : Nat} (hi : i < L.length) (hj : j < L.length) :
    OwnP ((w.setCell ⟨g, i, none⟩ (pv bb (nth L j))).setCell ⟨g, j, none⟩ (pv bb (nth L i))) (some ⟨g, 0, none⟩) cap bb (sw L i j) := by
  rcases h.parts with ⟨e, _, _⟩ | ⟨g', cur, e, h2, h3, h4, h5, h6⟩
  · cases e
  · cases e
    refine OwnP.mk (cur := (cur.setIfInBounds i (pv bb (nth L j))).setIfInBounds j (pv bb (nth L i))) ?_ (by rw [sw_len]; exact h3) h4 (by simp [h5]) ?_
    · simp [World.setCell, Array.getElem?_modify, h2]
    · rw [sw_len]
      unfold sw
      rw [List.map_set, List.map_set, ← h6]
      simp [List.take_set]
/-- The last is cut off. -/
theorem OwnP.cut {w : World} {cap bb g m : Nat} {L : List Nat} (h : OwnP w (some ⟨g, 0, none⟩) cap bb L) (hm : m ≤ L.length) : OwnP w (some ⟨g, 0, none⟩) cap bb (L.take m) := by
  rcases h.parts with ⟨e, _, _⟩ | ⟨g', cur, e, h2, h3, h4, h5, h6⟩
  · cases e
  · cases e
    have hl : (L.take m).length = m := by rw [List.length_take]; omega
    refine OwnP.mk h2 (by rw [hl]; omega) h4 h5 ?_
    rw [hl, List.map_take, ← h6, List.take_take, Nat.min_eq_left hm]
/-- HOW A HEAP LIES: the slice behind the pointer ⟨pb, 2⟩, its row, and what is asked of the blocks. -/
structure HP (w : World) (pb bb : Nat) (a : Option Addr) (cap : Nat) (wn : Nat → Nat) (L : List Nat) : Prop where
  c2 : w.cell? ⟨pb, 2, none⟩ = some (.slice a L.length cap)
  fp : w.frozen? ⟨pb, 2, none⟩ = false
  own : OwnP w a cap bb L
  nw : ∀ x, x ∈ L → w.cell? ⟨bb, x * 3, none⟩ = some (.int .i64 (x : Int)) ∧ w.cell? ⟨bb, x * 3 + 1, none⟩ = some (.int .i64 (wn x : Int))
  ne : ∀ b, blk a b → b ≠ pb ∧ b ≠ bb
  n0 : pb ≠ bb
theorem HP.lt {w : World} {pb bb cap : Nat} {a : Option Addr} {wn : Nat → Nat} {L : List Nat} (h : HP w pb bb a cap wn L) : pb < w.heap.size := World.block_lt_of_cell? w _ h.c2
theorem HP.keep {S : Nat → Prop} {w w' : World} {pb bb cap : Nat} {a : Option Addr} {wn : Nat → Nat} {L : List Nat} (h : HP w pb bb a cap wn L) (hk : Keep S w w') (hs : ∀ b, b = pb ∨ b = bb ∨ blk a b → ¬ S b) : HP w' pb bb a cap wn L where
  c2 := by rw [hk.cell (p := ⟨pb, 2, none⟩) h.lt (hs _ (Or.inl rfl))]; exact h.c2
  fp := by rw [hk.frozen (p := ⟨pb, 2, none⟩) h.lt (hs _ (Or.inl rfl))]; exact h.fp
  own := h.own.keep hk (fun b hb => hs b (Or.inr (Or.inr hb)))
  nw := fun x hx => by
    have h1 := h.nw x hx
    rw [hk.cell (p := ⟨bb, x * 3, none⟩) (World.block_lt_of_cell? w _ h1.1) (hs _ (Or.inr (Or.inl rfl))), hk.cell (p := ⟨bb, x * 3 + 1, none⟩) (World.block_lt_of_cell? w _ h1.2) (hs _ (Or.inr (Or.inl rfl)))]
    exact h1
  ne := h.ne
  n0 := h.n0
theorem HP.below {w w' : World} {pb bb cap : Nat} {a : Option Addr} {wn : Nat → Nat} {L : List Nat} (h : HP w pb bb a cap wn L) (hb : Below w.heap.size w w') : HP w' pb bb a cap wn L := h.keep (S := fun _ => False) (Keep.of_below hb) (fun _ _ e => e)
/-- Only the row has turned. -/
theorem HP.row {w w' : World} {pb bb cap g : Nat} {wn : Nat → Nat} {L L' : List Nat} (h : HP w pb bb (some ⟨g, 0, none⟩) cap wn L) (hk : Keep (fun b => b = g) w w') (ho : OwnP w' (some ⟨g, 0, none⟩) cap bb L') (hl : L'.length = L.length) (hp : ∀ x, x ∈ L' → x ∈ L) : HP w' pb bb (some ⟨g, 0, none⟩) cap wn L' where
  c2 := by rw [hk.cell (p := ⟨pb, 2, none⟩) h.lt (fun e => (h.ne g ⟨_, rfl, rfl⟩).1 e.symm), hl]; exact h.c2
  fp := by rw [hk.frozen (p := ⟨pb, 2, none⟩) h.lt (fun e => (h.ne g ⟨_, rfl, rfl⟩).1 e.symm)]; exact h.fp
  own := ho
  nw := fun x hx => by
    have h1 := h.nw x (hp x hx)
    have hn := (h.ne g ⟨_, rfl, rfl⟩).2
    rw [hk.cell (p := ⟨bb, x * 3, none⟩) (World.block_lt_of_cell? w _ h1.1) (fun e => hn e.symm), hk.cell (p := ⟨bb, x * 3 + 1, none⟩) (World.block_lt_of_cell? w _ h1.2) (fun e => hn e.symm)]
    exact h1
  ne := h.ne
  n0 := h.n0
end Go.Proofs.YtebnjoammfidnacDoor
