/-
  Words of my own for memory: worlds of which all but some blocks are as they were; rows of numbers; how a book lies.
-/
import Derived.Test.YtcppokafgohkgadDoorProg
import Derived.Test.YtcppokafgohkgadDoorMathBook
import Derived.WalkKit
import Derived.WalkSpells
import Derived.WalkLawsBesides
import Derived.Deep.QuietTactic
import Derived.BigQuiet
import Derived.Deep.AppendLies
namespace Go.Proofs.YtcppokafgohkgadDoor
open Go.RowKit
set_option linter.unusedVariables false

theorem val_int {k : IntKind} {a b : Int} (h : a = b) : Value.int k a = Value.int k b := by rw [h]
theorem ret_int {k : IntKind} {a b : Int} (h : a = b) : Ending.returned (.int k a) = .returned (.int k b) := by rw [h]
theorem heap_lt {w : World} {k : Nat} {o : Obj} (h : w.heap[k]? = some o) : k < w.heap.size := (Array.getElem?_eq_some_iff.1 h).1
/-- ALL BUT THE BLOCKS OF S IS AS IT WAS. -/
structure Keep (S : Nat → Prop) (w w' : World) : Prop where
  os : w'.os = w.os
  tape : w'.tape = w.tape
  output : w'.output = w.output
  size : w.heap.size ≤ w'.heap.size
  block : ∀ k, k < w.heap.size → ¬ S k → w'.heap[k]? = w.heap[k]?
theorem Keep.refl (S : Nat → Prop) (w : World) : Keep S w w := ⟨rfl, rfl, rfl, Nat.le_refl _, fun _ _ _ => rfl⟩
theorem Keep.trans {S : Nat → Prop} {a b c : World} (h : Keep S a b) (k : Keep S b c) : Keep S a c :=
  ⟨k.os.trans h.os, k.tape.trans h.tape, k.output.trans h.output, Nat.le_trans h.size k.size, fun i hi hs => (k.block i (Nat.lt_of_lt_of_le hi h.size) hs).trans (h.block i hi hs)⟩
theorem Keep.of_below {S : Nat → Prop} {w w' : World} (h : Below w.heap.size w w') : Keep S w w' := ⟨h.os, h.tape, h.output, h.size, fun k hk _ => h.block k hk⟩
theorem Keep.mono {S T : Nat → Prop} {w w' : World} (h : Keep S w w') (hs : ∀ k, S k → T k) : Keep T w w' := ⟨h.os, h.tape, h.output, h.size, fun k hk ht => h.block k hk (fun e => ht (hs k e))⟩
/-- .. what it turned may be told of the old blocks alone. -/
theorem Keep.mono' {S T : Nat → Prop} {w w' : World} (h : Keep S w w') (hs : ∀ k, k < w.heap.size → S k → T k) : Keep T w w' := ⟨h.os, h.tape, h.output, h.size, fun k hk ht => h.block k hk (fun e => ht (hs k hk e))⟩
theorem Keep.below {S : Nat → Prop} {w w' : World} {B : Nat} (h : Keep S w w') (hB : B ≤ w.heap.size) (hs : ∀ k, S k → B ≤ k) : Below B w w' :=
  ⟨h.os, h.tape, h.output, h.size, fun k hk => h.block k (by omega) (fun e => by have := hs k e; omega)⟩
theorem Keep.cell {S : Nat → Prop} {w w' : World} (h : Keep S w w') {p : Addr} (hp : p.block < w.heap.size) (hs : ¬ S p.block) : w'.cell? p = w.cell? p := World.cell?_of_block (w := w) (h.block p.block hp hs)
theorem Keep.frozen {S : Nat → Prop} {w w' : World} (h : Keep S w w') {p : Addr} (hp : p.block < w.heap.size) (hs : ¬ S p.block) : w'.frozen? p = w.frozen? p := World.frozen?_of_block (w := w) (h.block p.block hp hs)
theorem Keep.set {S : Nat → Prop} {a w : World} (h : Keep S a w) {p : Addr} (hp : S p.block) (u : Value) : Keep S a (w.setCell p u) := by
  have hb : Below 0 w (w.setCell p u) := (Below.refl _ _).setCell (Nat.zero_le _) u
  exact ⟨hb.os.trans h.os, hb.tape.trans h.tape, hb.output.trans h.output, Nat.le_trans h.size hb.size, fun k hk hs => by
    rw [Below.heap_setCell _ _ _ _ (fun e => hs (by rw [e]; exact hp))]; exact h.block k hk hs⟩
theorem Keep.set1 {g : Nat} {a w : World} (h : Keep (fun b => b = g) a w) (o : Nat) (u : Value) : Keep (fun b => b = g) a (w.setCell ⟨g, o, none⟩ u) := Keep.set (p := ⟨g, o, none⟩) h rfl u
theorem Keep.drewN {S : Nat → Prop} {a w : World} (h : Keep S a w) (q : Nat) : Keep S a (w.drewN q) :=
  h.trans (Keep.of_below (below_drewN (Below.refl _ _) q))
theorem Keep.drew {S : Nat → Prop} {a w : World} (h : Keep S a w) : Keep S a w.drew :=
  h.trans (Keep.of_below ((Below.refl _ _).drew))
theorem Keep.alloc {S : Nat → Prop} {a w : World} (h : Keep S a w) (o : Obj) : Keep S a (w.alloc o) :=
  h.trans (Keep.of_below ((Below.refl _ _).alloc (Nat.le_refl _) _))
theorem far {w : World} {b o b' o' : Nat} (u : Value) (h : ¬ (b = b' ∧ o = o')) : (w.setCell ⟨b, o, none⟩ u).cell? ⟨b', o', none⟩ = w.cell? ⟨b', o', none⟩ :=
  World.cell?_setCell_other w _ _ u (fun e => h (by cases e; exact ⟨rfl, rfl⟩))
/-- The blocks that an address names. -/
def blk (a : Option Addr) (b : Nat) : Prop := ∃ x, a = some x ∧ x.block = b
theorem blk_some {g o : Nat} {b : Nat} (h : blk (some ⟨g, o, none⟩) b) : b = g := by obtain ⟨x, e, rfl⟩ := h; cases e; rfl
/-- A ROW OF n NUMBERS at the head of block g. -/
structure IR (w : World) (g n : Nat) (f : Nat → Int) : Prop where
  cell : ∀ k, k < n → w.cell? ⟨g, k, none⟩ = some (.int .i64 (f k))
  free : ∀ o, w.frozen? ⟨g, o, none⟩ = false
theorem IR.lt {w : World} {g n : Nat} {f : Nat → Int} (h : IR w g n f) (hn : 1 ≤ n) : g < w.heap.size := World.block_lt_of_cell? w _ (h.cell 0 hn)
theorem IR.keep {S : Nat → Prop} {w w' : World} {g n : Nat} {f : Nat → Int} (h : IR w g n f) (hn : 1 ≤ n) (hk : Keep S w w') (hs : ¬ S g) : IR w' g n f :=
  ⟨fun k hk' => by rw [hk.cell (p := ⟨g, k, none⟩) (h.lt hn) hs]; exact h.cell k hk', fun o => by rw [hk.frozen (p := ⟨g, o, none⟩) (h.lt hn) hs]; exact h.free o⟩
theorem IR.set {w : World} {g n : Nat} {f : Nat → Int} (h : IR w g n f) (k : Nat) (v : Int) (hk : k < n) : IR (w.setCell ⟨g, k, none⟩ (.int .i64 v)) g n (upd f k v) := by
  refine ⟨fun i hi => ?_, fun o => by rw [World.frozen?_setCell]; exact h.free o⟩
  by_cases e : i = k
  · subst e
    rw [upd_same]
    exact World.cell?_setCell_same _ _ _ (h.cell i hi)
  · rw [upd_ne _ _ _ _ e, far _ (by omega)]
    exact h.cell i hi
theorem IR.far {w : World} {g n b o : Nat} {f : Nat → Int} (h : IR w g n f) (v : Value) (hb : b ≠ g) : IR (w.setCell ⟨b, o, none⟩ v) g n f :=
  ⟨fun i hi => by rw [YtcppokafgohkgadDoor.far _ (by omega)]; exact h.cell i hi, fun q => by rw [World.frozen?_setCell]; exact h.free q⟩
/-- HOW A BOOK LIES, whatever stands in it. -/
structure BW (L P : Nat) (w : World) (bb ab ob : Nat) (s : Bk) : Prop where
  c0 : w.cell? ⟨bb, 0, none⟩ = some (.slice (some ⟨ab, 0, none⟩) L L)
  c1 : w.cell? ⟨bb, 1, none⟩ = some (.slice (some ⟨ob, 0, none⟩) P P)
  ra : IR w ab L s.pa
  ro : IR w ob P s.lb
  ne : bb ≠ ab ∧ bb ≠ ob ∧ ab ≠ ob
  l1 : 1 ≤ L
  l2 : L ≤ 256
  p1 : 1 ≤ P
  p2 : P ≤ 4096
/-- Its tables' blocks. -/
def BT (ab ob b : Nat) : Prop := b = ab ∨ b = ob
/-- All its blocks. -/
def BM (bb ab ob b : Nat) : Prop := b = bb ∨ b = ab ∨ b = ob
theorem BW.lt {L P : Nat} {w : World} {bb ab ob : Nat} {s : Bk} (h : BW L P w bb ab ob s) : bb < w.heap.size ∧ ab < w.heap.size ∧ ob < w.heap.size :=
  ⟨World.block_lt_of_cell? w _ h.c0, h.ra.lt h.l1, h.ro.lt h.p1⟩
theorem BW.keep {S : Nat → Prop} {L P : Nat} {w w' : World} {bb ab ob : Nat} {s : Bk} (h : BW L P w bb ab ob s) (hk : Keep S w w') (hs : ∀ b, BM bb ab ob b → ¬ S b) : BW L P w' bb ab ob s := by
  have h1 : ∀ o, w'.cell? ⟨bb, o, none⟩ = w.cell? ⟨bb, o, none⟩ := fun o => hk.cell (p := ⟨bb, o, none⟩) h.lt.1 (hs _ (Or.inl rfl))
  exact { h with
    c0 := by rw [h1]; exact h.c0
    c1 := by rw [h1]; exact h.c1
    ra := h.ra.keep h.l1 hk (hs _ (Or.inr (Or.inl rfl)))
    ro := h.ro.keep h.p1 hk (hs _ (Or.inr (Or.inr rfl))) }
theorem BW.below {L P : Nat} {w w' : World} {bb ab ob : Nat} {s : Bk} (h : BW L P w bb ab ob s) (hb : Below w.heap.size w w') : BW L P w' bb ab ob s := h.keep (S := fun _ => False) (Keep.of_below hb) (fun _ _ e => e)
/-- An entry of the one table is set. -/
theorem BW.setA {L P : Nat} {w : World} {bb ab ob : Nat} {s : Bk} (h : BW L P w bb ab ob s) (k : Nat) (v : Int) (hk : k < L) : BW L P (w.setCell ⟨ab, k, none⟩ (.int .i64 v)) bb ab ob ⟨upd s.pa k v, s.lb⟩ := by
  have hn := h.ne
  exact ⟨by rw [far _ (by omega)]; exact h.c0, by rw [far _ (by omega)]; exact h.c1, h.ra.set k v hk, h.ro.far _ hn.2.2, hn, h.l1, h.l2, h.p1, h.p2⟩
/-- .. of the other. -/
theorem BW.setO {L P : Nat} {w : World} {bb ab ob : Nat} {s : Bk} (h : BW L P w bb ab ob s) (k : Nat) (v : Int) (hk : k < P) : BW L P (w.setCell ⟨ob, k, none⟩ (.int .i64 v)) bb ab ob ⟨s.pa, upd s.lb k v⟩ := by
  have hn := h.ne
  exact ⟨by rw [far _ (by omega)]; exact h.c0, by rw [far _ (by omega)]; exact h.c1, h.ra.far _ (fun e => hn.2.2 e.symm), h.ro.set k v hk, hn, h.l1, h.l2, h.p1, h.p2⟩
/-- A BOOK, whose tables lead back to one another. -/
structure BO (L P : Nat) (w : World) (bb ab ob : Nat) (s : Bk) : Prop where
  bw : BW L P w bb ab ob s
  inv : Inv L P s
theorem BO.keep {S : Nat → Prop} {L P : Nat} {w w' : World} {bb ab ob : Nat} {s : Bk} (h : BO L P w bb ab ob s) (hk : Keep S w w') (hs : ∀ b, BM bb ab ob b → ¬ S b) : BO L P w' bb ab ob s := ⟨h.bw.keep hk hs, h.inv⟩
theorem BO.below {L P : Nat} {w w' : World} {bb ab ob : Nat} {s : Bk} (h : BO L P w bb ab ob s) (hb : Below w.heap.size w w') : BO L P w' bb ab ob s := h.keep (S := fun _ => False) (Keep.of_below hb) (fun _ _ e => e)
end Go.Proofs.YtcppokafgohkgadDoor
