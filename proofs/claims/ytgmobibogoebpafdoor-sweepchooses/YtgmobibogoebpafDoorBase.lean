/-
  Words of my own for memory: worlds of which all but some blocks are as they were; rows of blocks that lie anywhere, or are the call's own; rows of numbers of the call's own, to which is appended.
-/
import Derived.Test.YtgmobibogoebpafDoorProg
import Derived.Test.YtgmobibogoebpafDoorMathSweep
import Derived.WalkKit
import Derived.WalkSpells
import Derived.WalkLawsBesides
import Derived.Deep.QuietTactic
import Derived.BigQuiet
import Derived.Laws.AppendOwnNone
import Derived.Deep.AppendLies
import Derived.Deep.RegionWith
import Derived.Deep.CutRange
import Derived.Deep.DeepCutAuto
import Derived.Deep.RegionHeld3
import Derived.Deep.RegionLaw
namespace Go.Proofs.YtgmobibogoebpafDoor
open Go.RowKit
set_option linter.unusedVariables false

theorem heap_lt {w : World} {k : Nat} {o : Obj} (h : w.heap[k]? = some o) : k < w.heap.size := (Array.getElem?_eq_some_iff.1 h).1
/-- ALL BUT THE BLOCKS OF S IS AS IT WAS. -/
structure Keep (S : Nat → Prop) (w w' : World) : Prop where
  os : w'.os = w.os
  tape : w'.tape = w.tape
  output : w'.output = w.output
  size : w.heap.size ≤ w'.heap.size
  block : ∀ k, k < w.heap.size → ¬ S k → w'.heap[k]? = w.heap[k]?
theorem Keep.refl (S : Nat → Prop) (w : World) : Keep S w w := ⟨rfl, rfl, rfl, Nat.le_refl _, fun _ _ _ => rfl⟩
theorem Keep.trans {S : Nat → Prop} {a b c : World} (h : Keep S a b) (k : Keep S b c) : Keep S a c :=
  ⟨k.os.trans h.os, k.tape.trans h.tape, k.output.trans h.output, Nat.le_trans h.size k.size, fun i hi hs => (k.block i (Nat.lt_of_lt_of_le hi h.size) hs).trans (h.block i hi hs)⟩
theorem Keep.of_below {S : Nat → Prop} {w w' : World} (h : Below w.heap.size w w') : Keep S w w' := ⟨h.os, h.tape, h.output, h.size, fun k hk _ => h.block k hk⟩
theorem Keep.mono {S T : Nat → Prop} {w w' : World} (h : Keep S w w') (hs : ∀ k, S k → T k) : Keep T w w' := ⟨h.os, h.tape, h.output, h.size, fun k hk ht => h.block k hk (fun e => ht (hs k e))⟩
theorem Keep.below {S : Nat → Prop} {w w' : World} {B : Nat} (h : Keep S w w') (hB : B ≤ w.heap.size) (hs : ∀ k, S k → B ≤ k) : Below B w w' :=
  ⟨h.os, h.tape, h.output, h.size, fun k hk => h.block k (by omega) (fun e => by have := hs k e; omega)⟩
theorem Keep.cell {S : Nat → Prop} {w w' : World} (h : Keep S w w') {p : Addr} (hp : p.block < w.heap.size) (hs : ¬ S p.block) : w'.cell? p = w.cell? p := World.cell?_of_block (w := w) (h.block p.block hp hs)
theorem Keep.frozen {S : Nat → Prop} {w w' : World} (h : Keep S w w') {p : Addr} (hp : p.block < w.heap.size) (hs : ¬ S p.block) : w'.frozen? p = w.frozen? p := World.frozen?_of_block (w := w) (h.block p.block hp hs)
theorem Keep.set {S : Nat → Prop} {a w : World} (h : Keep S a w) {p : Addr} (hp : S p.block) (u : Value) : Keep S a (w.setCell p u) := by
  have hb : Below 0 w (w.setCell p u) := (Below.refl _ _).setCell (Nat.zero_le _) u
  exact ⟨hb.os.trans h.os, hb.tape.trans h.tape, hb.output.trans h.output, Nat.le_trans h.size hb.size, fun k hk hs => by
    rw [Below.heap_setCell _ _ _ _ (fun e => hs (by rw [e]; exact hp))]; exact h.block k hk hs⟩
theorem Keep.set1 {g : Nat} {a w : World} (h : Keep (fun b => b = g) a w) (o : Nat) (u : Value) : Keep (fun b => b = g) a (w.setCell ⟨g, o, none⟩ u) := Keep.set (p := ⟨g, o, none⟩) h rfl u
/-- .. of two steps. -/
theorem Keep.thru {S T : Nat → Prop} {a b c : World} (h : Keep S a b) (k : Keep T b c) (hs : ∀ i, i < a.heap.size → T i → S i) : Keep S a c :=
  ⟨k.os.trans h.os, k.tape.trans h.tape, k.output.trans h.output, Nat.le_trans h.size k.size, fun i hi hn => (k.block i (Nat.lt_of_lt_of_le hi h.size) (fun e => hn (hs i hi e))).trans (h.block i hi hn)⟩
theorem Keep.mono' {S T : Nat → Prop} {w w' : World} (h : Keep S w w') (hs : ∀ k, k < w.heap.size → S k → T k) : Keep T w w' := ⟨h.os, h.tape, h.output, h.size, fun k hk ht => h.block k hk (fun e => ht (hs k hk e))⟩
theorem Keep.drewN {S : Nat → Prop} {a w : World} (h : Keep S a w) (q : Nat) : Keep S a (w.drewN q) :=
  h.trans (Keep.of_below (below_drewN (Below.refl _ _) q))
theorem Keep.drew {S : Nat → Prop} {a w : World} (h : Keep S a w) : Keep S a w.drew :=
  h.trans (Keep.of_below ((Below.refl _ _).drew))
theorem Keep.alloc {S : Nat → Prop} {a w : World} (h : Keep S a w) (o : Obj) : Keep S a (w.alloc o) :=
  h.trans (Keep.of_below ((Below.refl _ _).alloc (Nat.le_refl _) _))
theorem far {w : World} {b o b' o' : Nat} (u : Value) (h : ¬ (b = b' ∧ o = o')) : (w.setCell ⟨b, o, none⟩ u).cell? ⟨b', o', none⟩ = w.cell? ⟨b', o', none⟩ :=
  World.cell?_setCell_other w _ _ u (fun e => h (by cases e; exact ⟨rfl, rfl⟩))
theorem alloc_below' (w : World) (o : Obj) : Below w.heap.size w (w.alloc o) := (Below.refl _ _).alloc (Nat.le_refl _) o
/-- The blocks that an address names. -/
def blk (a : Option Addr) (b : Nat) : Prop := ∃ x, a = some x ∧ x.block = b
theorem keep_grown {w w' : World} {a : Option Addr} {n c : Nat} (h : w.grownBy w' (Value.slice a n c).ownBlock) : Keep (blk a) w w' :=
  ⟨h.os, h.tape, h.output, h.size, fun k hk hs => h.block k hk (fun e => hs (by
    cases a with
    | none => cases e
    | some x => exact ⟨x, rfl, by simp [Value.ownBlock] at e; exact e.symm⟩))⟩
theorem Keep.blk_below {w w' : World} {a : Option Addr} {B : Nat} (h : Keep (blk a) w w') (hB : B ≤ w.heap.size) (hs : ∀ b, blk a b → B ≤ b) : Below B w w' := h.below hB hs
/-- What an error's number is as a value. -/
def errI (n : Nat) : Value := if n = 0 then .nilIface else .iface 33 (.int .i64 (n : Int))
theorem errI_ne {n : Nat} (h : n ≠ 0) : errI n = .iface 33 (.int .i64 (n : Int)) := if_neg h
theorem errI_zero : errI 0 = .nilIface := rfl

/-! ### Blocks -/
def cellsB : List Bl → List Value
  | [] => []
  | e :: r => .bool e.used :: .int .i64 e.live :: .int .i64 e.wear :: cellsB r
theorem cellsB_len : ∀ es, (cellsB es).length = es.length * 3
  | [] => rfl
  | e :: r => by simp only [cellsB, List.length_cons, cellsB_len r]; omega
theorem cellsB_app : ∀ es fs, cellsB (es ++ fs) = cellsB es ++ cellsB fs
  | [], fs => rfl
  | e :: r, fs => by simp only [List.cons_append, cellsB, cellsB_app r]
theorem cellsB_at : ∀ (es : List Bl) (i : Nat), i < es.length → (cellsB es)[i * 3]? = some (.bool (gB es i).used) ∧ (cellsB es)[i * 3 + 1]? = some (.int .i64 (gB es i).live) ∧ (cellsB es)[i * 3 + 2]? = some (.int .i64 (gB es i).wear)
  | [], i, h => by simp at h
  | e :: r, 0, _ => ⟨rfl, rfl, rfl⟩
  | e :: r, i + 1, h => by
    have ih := cellsB_at r i (by simpa using h)
    have e1 : (i + 1) * 3 = i * 3 + 1 + 1 + 1 := by omega
    rw [e1]
    exact ih
theorem one_cellsB : ∀ es : List Bl, ∀ u ∈ cellsB es, u.oneCell' = true
  | [], u, h => by simp [cellsB] at h
  | e :: r, u, h => by
    simp only [cellsB, List.mem_cons] at h
    rcases h with rfl | rfl | rfl | h
    · rfl
    · rfl
    · rfl
    · exact one_cellsB r u h
/-- A BLOCK LIES at a place. -/
structure BlAt (w : World) (g off i : Nat) (b : Bl) : Prop where
  u : w.cell? ⟨g, off + i * 3, none⟩ = some (.bool b.used)
  l : w.cell? ⟨g, off + i * 3 + 1, none⟩ = some (.int .i64 b.live)
  r : w.cell? ⟨g, off + i * 3 + 2, none⟩ = some (.int .i64 b.wear)
theorem BlAt.lt {w : World} {g off i : Nat} {b : Bl} (h : BlAt w g off i b) : g < w.heap.size := World.block_lt_of_cell? w _ h.u
theorem BlAt.keep {S : Nat → Prop} {w w' : World} {g off i : Nat} {b : Bl} (h : BlAt w g off i b) (hk : Keep S w w') (hs : ¬ S g) : BlAt w' g off i b :=
  ⟨(hk.cell (p := ⟨g, off + i * 3, none⟩) h.lt hs).trans h.u, (hk.cell (p := ⟨g, off + i * 3 + 1, none⟩) h.lt hs).trans h.l, (hk.cell (p := ⟨g, off + i * 3 + 2, none⟩) h.lt hs).trans h.r⟩
/-- BLOCKS LIE AT a. -/
def BL (w : World) (a : Option Addr) (l : List Bl) : Prop := l = [] ∨ ∃ g off, a = some ⟨g, off, none⟩ ∧ ∀ i, i < l.length → BlAt w g off i (gB l i)
theorem BL.some_of {w : World} {a : Option Addr} {l : List Bl} (h : BL w a l) {i : Nat} (hi : i < l.length) : ∃ g off, a = some ⟨g, off, none⟩ ∧ ∀ i, i < l.length → BlAt w g off i (gB l i) := by
  rcases h with h | h
  · rw [h] at hi; simp at hi
  · exact h
theorem BL.keep {S : Nat → Prop} {w w' : World} {a : Option Addr} {l : List Bl} (h : BL w a l) (hk : Keep S w w') (hs : ∀ b, blk a b → ¬ S b) : BL w' a l := by
  rcases h with h | ⟨g, off, rfl, h⟩
  · exact Or.inl h
  · exact Or.inr ⟨g, off, rfl, fun i hi => (h i hi).keep hk (hs g ⟨_, rfl, rfl⟩)⟩
theorem BL.below {w w' : World} {a : Option Addr} {l : List Bl} (h : BL w a l) (hb : Below w.heap.size w w') : BL w' a l := h.keep (S := fun _ => False) (Keep.of_below hb) (fun _ _ e => e)
theorem BL.lt {w : World} {a : Option Addr} {l : List Bl} (h : BL w a l) (hl : 0 < l.length) {b : Nat} (hb : blk a b) : b < w.heap.size := by
  obtain ⟨g, off, rfl, h'⟩ := h.some_of hl
  obtain ⟨x, e, rfl⟩ := hb
  cases e
  exact (h' 0 hl).lt
/-- THE SAME, THE CALL's OWN. -/
def OwnB (T : TypeId) (w : World) (base : Nat) (a : Option Addr) (cap : Nat) (l : List Bl) : Prop := w.ownsRow base T 3 (.slice a l.length cap) l.length (cellsB l)
theorem OwnB.nil (T : TypeId) (w : World) (base : Nat) : OwnB T w base none 0 [] := ⟨rfl, Or.inl ⟨rfl, rfl⟩⟩
theorem OwnB.new (T : TypeId) (w : World) (base : Nat) (hb : base ≤ w.heap.size) (l : List Bl) (hl : l.length ≤ 64) (cs : Array Value) (hcs : cs = (cellsB l).toArray) : OwnB T (w.alloc (.cells cs T)) base (some ⟨w.heap.size, 0, none⟩) l.length l := by
  subst hcs
  exact ⟨cellsB_len l, Or.inr ⟨w.heap.size, l.length, (cellsB l).toArray, rfl, hb, heap_alloc_new w _, Nat.le_refl _, by unfold maxLen; omega, by simp [cellsB_len], by rw [← cellsB_len l]; exact List.take_of_length_le (by simp)⟩⟩
theorem OwnB.parts {T : TypeId} {w : World} {base cap : Nat} {a : Option Addr} {l : List Bl} (h : OwnB T w base a cap l) :
    (a = none ∧ cap = 0 ∧ l = []) ∨ ∃ g cur, a = some ⟨g, 0, none⟩ ∧ base ≤ g ∧ w.heap[g]? = some (.cells cur T (0, 0)) ∧ l.length ≤ cap ∧ cap ≤ maxLen ∧ cur.size = cap * 3 ∧ cur.toList.take (l.length * 3) = cellsB l := by
  rcases h.2 with ⟨h2, h3⟩ | ⟨g, cap', cur, hv, r1, r2, r3, r4, r5, r6⟩
  · simp at h2
    exact Or.inl ⟨h2.1, h2.2.2, h2.2.1⟩
  · simp at hv
    obtain ⟨rfl, rfl⟩ := hv
    exact Or.inr ⟨g, cur, rfl, r1, r2, r3, r4, r5, r6⟩
theorem OwnB.bl {T : TypeId} {w : World} {base cap : Nat} {a : Option Addr} {l : List Bl} (h : OwnB T w base a cap l) : BL w a l := by
  rcases h.parts with ⟨_, _, h⟩ | ⟨g, cur, rfl, _, h2, _, _, _, h6⟩
  · exact Or.inl h
  · refine Or.inr ⟨g, 0, rfl, fun i hi => ?_⟩
    have e : ∀ j, j < l.length * 3 → cur[j]? = (cellsB l)[j]? := fun j hj => by
      rw [← h6, List.getElem?_take, if_pos hj, Array.getElem?_toList]
    obtain ⟨q0, q1, q2⟩ := cellsB_at l i hi
    refine ⟨?_, ?_, ?_⟩
    · simp only [World.cell?, h2, Nat.zero_add]; rw [e _ (by omega)]; exact q0
    · simp only [World.cell?, h2, Nat.zero_add]; rw [e _ (by omega)]; exact q1
    · simp only [World.cell?, h2, Nat.zero_add]; rw [e _ (by omega)]; exact q2
theorem OwnB.blk {T : TypeId} {w : World} {base cap : Nat} {a : Option Addr} {l : List Bl} (h : OwnB T w base a cap l) {b : Nat} (hb : YtgmobibogoebpafDoor.blk a b) : base ≤ b ∧ b < w.heap.size := by
  obtain ⟨x, rfl, rfl⟩ := hb
  rcases h.parts with ⟨e, _, _⟩ | ⟨g, cur, e, h1, h2, _⟩
  · cases e
  · cases e
    exact ⟨h1, heap_lt h2⟩
theorem OwnB.free {T : TypeId} {w : World} {base cap g : Nat} {l : List Bl} (h : OwnB T w base (some ⟨g, 0, none⟩) cap l) (o : Nat) : w.frozen? ⟨g, o, none⟩ = false := by
  rcases h.parts with ⟨e, _⟩ | ⟨g', cur, e, h1, h2, _⟩
  · cases e
  · cases e
    simp [World.frozen?, h2]
theorem OwnB.keep {S : Nat → Prop} {T : TypeId} {w w' : World} {base cap : Nat} {a : Option Addr} {l : List Bl} (h : OwnB T w base a cap l) (hk : Keep S w w') (hs : ∀ b, YtgmobibogoebpafDoor.blk a b → ¬ S b) : OwnB T w' base a cap l := by
  refine ⟨h.1, ?_⟩
  rcases h.2 with h2 | ⟨g, cap', cur, hv, r1, r2, r3⟩
  · exact Or.inl h2
  · have e : a = some ⟨g, 0, none⟩ := by simp at hv; exact hv.1
    exact Or.inr ⟨g, cap', cur, hv, r1, by rw [hk.block g (heap_lt r2) (hs g ⟨_, e, rfl⟩)]; exact r2, r3⟩
theorem OwnB.below {T : TypeId} {w w' : World} {base cap : Nat} {a : Option Addr} {l : List Bl} (h : OwnB T w base a cap l) (hb : Below w.heap.size w w') : OwnB T w' base a cap l := h.keep (S := fun _ => False) (Keep.of_below hb) (fun _ _ e => e)
theorem OwnB.base {T : TypeId} {w : World} {base base' cap : Nat} {a : Option Addr} {l : List Bl} (h : OwnB T w base a cap l) (hb : base' ≤ base) : OwnB T w base' a cap l := by
  refine ⟨h.1, ?_⟩
  rcases h.2 with h2 | ⟨g, cap', cur, hv, r1, r2⟩
  · exact Or.inl h2
  · exact Or.inr ⟨g, cap', cur, hv, by omega, r2⟩
theorem OwnB.some_of {T : TypeId} {w : World} {base cap : Nat} {a : Option Addr} {l : List Bl} (h : OwnB T w base a cap l) {i : Nat} (hi : i < l.length) : ∃ g, a = some ⟨g, 0, none⟩ := by
  rcases h.parts with ⟨_, _, e⟩ | ⟨g, cur, e, _⟩
  · rw [e] at hi; simp at hi
  · exact ⟨g, e⟩
theorem infoS : (Tryd.prog.info? 88).map (fun i => (i.zero, i.size, i.bytes)) = some (some (.agg #[.bool false, .int .i64 0, .int .i64 0]), 3, 24) := by kernel_rfl
/-- ONE BLOCK MORE IS APPENDED, in a region that draws its order. -/
theorem stepB {ops : Array Oper} {o : Oper} {a : Act} {W : World} {K : Act → World → Prop} {Q : Exit → Act → World → Prop} {E : Prop} (hgd : o.guard = none) (s x : Operand)
    (ho : o.op = .call { callee := .builtin .append, args := #[s, x], argTypes := #[58, 58] }) (base cap0 B : Nat) (a0 : Option Addr) (es : List Bl) (e : Bl)
    (hs : a.eval s = .slice a0 es.length cap0) (hx : a.eval x = .slice (some ⟨B, 0, none⟩) 1 1) (h : OwnB 88 W base a0 cap0 es) (hB : W.heap[B]? = some (.cells #[.bool e.used, .int .i64 e.live, .int .i64 e.wear] 88 (0, 0))) (hk : (es.length + 1) * 24 ≤ 140737488355328) (hb : base ≤ W.heap.size)
    (hc : ∀ g cap1 w', OwnB 88 w' base (some ⟨g, 0, none⟩) cap1 (es ++ [e]) → Keep (blk a0) W w' → K (a.put o.dst (.slice (some ⟨g, 0, none⟩) (es.length + 1) cap1)) w') :
    if Region.wanted o (yielded ops a.tmps) = true then Oper.wp Tryd.prog o a W K Q else E := by
  obtain ⟨i0, hi, hz0, hz1, hz2⟩ := info_parts infoS
  refine step_append_lies W hgd s x 58 ho base 88 i0 _ 3 24 Tryd.underlying58 hi hz0 hz1 hz2 rfl (by decide) (.slice a0 es.length cap0) es.length (cellsB es) hs h ⟨B, 0, none⟩ 1 1 (cellsB [e]) hx rfl (World.news_of_block hB) (one_cellsB [e]) (by decide) (by unfold maxLen; omega) (by omega) hb W.heap.size rfl ?_
  intro g cap1 w' h1 h2 h3 h4
  refine hc g cap1 w' ?_ (keep_grown h2)
  unfold OwnB
  rw [cellsB_app, List.length_append]
  exact h1

/-! ### Numbers -/
def iv (n : Nat) : Value := .int .i64 (n : Int)
theorem infoInt : (Tryd.prog.info? 3).map (fun i => (i.zero, i.size, i.bytes)) = some (some (.int .i64 0), 1, 8) := by kernel_rfl
/-- NUMBERS ARE THE CALL's OWN, at a (nil: there are none). -/
def OwnI (w : World) (base : Nat) (a : Option Addr) (cap : Nat) (o : List Nat) : Prop := w.ownsRow base 3 1 (.slice a o.length cap) o.length (o.map iv)
theorem OwnI.nil (w : World) (base : Nat) : OwnI w base none 0 [] := ⟨rfl, Or.inl ⟨rfl, rfl⟩⟩
theorem OwnI.parts {w : World} {base cap : Nat} {a : Option Addr} {o : List Nat} (h : OwnI w base a cap o) :
    (a = none ∧ cap = 0 ∧ o = []) ∨ ∃ g cur, a = some ⟨g, 0, none⟩ ∧ base ≤ g ∧ w.heap[g]? = some (.cells cur 3 (0, 0)) ∧ o.length ≤ cap ∧ cap ≤ maxLen ∧ cur.size = cap ∧ cur.toList.take o.length = o.map iv := by
  rcases h.2 with ⟨h2, h3⟩ | ⟨g, cap', cur, hv, r1, r2, r3, r4, r5, r6⟩
  · simp at h2
    exact Or.inl ⟨h2.1, h2.2.2, h2.2.1⟩
  · simp at hv
    obtain ⟨rfl, rfl⟩ := hv
    exact Or.inr ⟨g, cur, rfl, r1, r2, r3, r4, by simpa using r5, by simpa using r6⟩
theorem OwnI.some_of {w : World} {base cap : Nat} {a : Option Addr} {o : List Nat} (h : OwnI w base a cap o) {i : Nat} (hi : i < o.length) : ∃ g, a = some ⟨g, 0, none⟩ := by
  rcases h.parts with ⟨_, _, e⟩ | ⟨g, cur, e, _⟩
  · rw [e] at hi; simp at hi
  · exact ⟨g, e⟩
theorem OwnI.blk {w : World} {base cap : Nat} {a : Option Addr} {o : List Nat} (h : OwnI w base a cap o) {b : Nat} (hb : YtgmobibogoebpafDoor.blk a b) : base ≤ b ∧ b < w.heap.size := by
  obtain ⟨x, rfl, rfl⟩ := hb
  rcases h.parts with ⟨e, _, _⟩ | ⟨g, cur, e, h1, h2, _⟩
  · cases e
  · cases e
    exact ⟨h1, heap_lt h2⟩
theorem OwnI.cell {w : World} {base cap g : Nat} {o : List Nat} (h : OwnI w base (some ⟨g, 0, none⟩) cap o) {i : Nat} (hi : i < o.length) : w.cell? ⟨g, i, none⟩ = some (.int .i64 ((o[i]?.getD 0 : Nat) : Int)) := by
  rcases h.parts with ⟨e, _⟩ | ⟨g', cur, e, h1, h2, h3, h4, h5, h6⟩
  · cases e
  · cases e
    have e : (cur.toList.take o.length)[i]? = (o.map iv)[i]? := by rw [h6]
    rw [List.getElem?_take, if_pos hi, List.getElem?_map, List.getElem?_eq_getElem hi] at e
    rw [List.getElem?_eq_getElem hi]
    simp only [World.cell?, h2]
    rw [← Array.getElem?_toList]
    simpa [iv] using e
theorem OwnI.free {w : World} {base cap g : Nat} {o : List Nat} (h : OwnI w base (some ⟨g, 0, none⟩) cap o) (j : Nat) : w.frozen? ⟨g, j, none⟩ = false := by
  rcases h.parts with ⟨e, _⟩ | ⟨g', cur, e, h1, h2, _⟩
  · cases e
  · cases e
    simp [World.frozen?, h2]
theorem OwnI.keep {S : Nat → Prop} {w w' : World} {base cap : Nat} {a : Option Addr} {o : List Nat} (h : OwnI w base a cap o) (hk : Keep S w w') (hs : ∀ b, YtgmobibogoebpafDoor.blk a b → ¬ S b) : OwnI w' base a cap o := by
  refine ⟨h.1, ?_⟩
  rcases h.2 with h2 | ⟨g, cap', cur, hv, r1, r2, r3⟩
  · exact Or.inl h2
  · have e : a = some ⟨g, 0, none⟩ := by simp at hv; exact hv.1
    exact Or.inr ⟨g, cap', cur, hv, r1, by rw [hk.block g (heap_lt r2) (hs g ⟨_, e, rfl⟩)]; exact r2, r3⟩
theorem OwnI.below {w w' : World} {base cap : Nat} {a : Option Addr} {o : List Nat} (h : OwnI w base a cap o) (hb : Below w.heap.size w w') : OwnI w' base a cap o := h.keep (S := fun _ => False) (Keep.of_below hb) (fun _ _ e => e)
theorem OwnI.base {w : World} {base base' cap : Nat} {a : Option Addr} {o : List Nat} (h : OwnI w base a cap o) (hb : base' ≤ base) : OwnI w base' a cap o := by
  refine ⟨h.1, ?_⟩
  rcases h.2 with h2 | ⟨g, cap', cur, hv, r1, r2⟩
  · exact Or.inl h2
  · exact Or.inr ⟨g, cap', cur, hv, by omega, r2⟩
/-- ONE NUMBER MORE IS APPENDED. -/
theorem app_stepI {ops : Array Oper} {rest : List Oper} {o : Oper} {a : Act} {Q : Exit → Act → World → Prop} (hgd : o.guard = none) (s x : Operand)
    (ho : o.op = .call { callee := .builtin .append, args := #[s, x], argTypes := #[90, 90] }) (w : World) (base cap0 : Nat) (a0 : Option Addr) (l : List Nat) (v : Nat)
    (hs : a.eval s = .slice a0 l.length cap0) (hx : a.eval x = .slice (some ⟨w.heap.size, 0, none⟩) 1 1) (h : OwnI w base a0 cap0 l) (hk : l.length ≤ 4096) (hb : base ≤ w.heap.size)
    (hc : ∀ g cap1 w', OwnI w' base (some ⟨g, 0, none⟩) cap1 (l ++ [v]) → Keep (blk a0) w w' → wpList Tryd.prog ops Q rest (a.put o.dst (.slice (some ⟨g, 0, none⟩) (l.length + 1) cap1)) w') :
    wpList Tryd.prog ops Q (o :: rest) a (w.alloc (.cells #[.int .i64 (v : Int)] 3)) := by
  obtain ⟨i0, hi, hz0, hz1, hz2⟩ := info_parts infoInt
  have hbl : Below w.heap.size w (w.alloc (.cells #[.int .i64 (v : Int)] 3)) := (Below.refl _ _).alloc (Nat.le_refl _) _
  have ho' : OwnI (w.alloc (.cells #[.int .i64 (v : Int)] 3)) base a0 cap0 l := h.keep (S := fun _ => False) (Keep.of_below hbl) (fun _ _ e => e)
  refine wpList_append_lies (w.alloc (.cells #[.int .i64 (v : Int)] 3)) hgd s x 90 ho base 3 i0 (.int .i64 0) 1 8 Tryd.underlying90 hi hz0 hz1 hz2 rfl (by decide) (.slice a0 l.length cap0) l.length _ hs ho' ⟨w.heap.size, 0, none⟩ 1 1 [.int .i64 (v : Int)] hx rfl (World.news_of_block (heap_alloc_new w _)) (fun u hu => by simp at hu; subst hu; rfl) (by decide) (by unfold maxLen; omega) (by omega) (Nat.le_trans hb hbl.size) _ rfl ?_
  intro g cap1 w' h2 h3 _ _
  refine hc g cap1 w' ?_ ((Keep.of_below hbl).trans (keep_grown h3))
  unfold OwnI
  rw [List.map_append, List.length_append]
  exact h2
end Go.Proofs.YtgmobibogoebpafDoor
