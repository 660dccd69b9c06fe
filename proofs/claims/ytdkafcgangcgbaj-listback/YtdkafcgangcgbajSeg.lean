/-
  Rows of segments, of two cells each, and of numbers: as they lie; of the call's own, to which is appended.
-/
import Derived.Test.YtdkafcgangcgbajBase
import Derived.Test.YtdkafcgangcgbajMathList
namespace Go.Proofs.Ytdkafcgangcgbaj
open Go.RowKit
set_option linter.unusedVariables false

def cellsS : List Sg → List Value
  | [] => []
  | e :: r => .int .i64 e.p :: .int .i64 e.n :: cellsS r
theorem cellsS_len : ∀ es, (cellsS es).length = es.length * 2
  | [] => rfl
  | e :: r => by simp only [cellsS, List.length_cons, cellsS_len r]; omega
theorem cellsS_app : ∀ es fs, cellsS (es ++ fs) = cellsS es ++ cellsS fs
  | [], fs => rfl
  | e :: r, fs => by simp only [List.cons_append, cellsS, cellsS_app r]
theorem cellsS_at : ∀ (es : List Sg) (i : Nat), i < es.length → (cellsS es)[i * 2]? = some (.int .i64 (gS es i).p) ∧ (cellsS es)[i * 2 + 1]? = some (.int .i64 (gS es i).n)
  | [], i, h => by simp at h
  | e :: r, 0, _ => ⟨rfl, rfl⟩
  | e :: r, i + 1, h => by
    have ih := cellsS_at r i (by simpa using h)
    have e1 : (i + 1) * 2 = i * 2 + 1 + 1 := by omega
    rw [e1]
    exact ih
theorem one_cellsS : ∀ es : List Sg, ∀ u ∈ cellsS es, u.oneCell' = true
  | [], u, h => by simp [cellsS] at h
  | e :: r, u, h => by
    simp only [cellsS, List.mem_cons] at h
    rcases h with rfl | rfl | h
    · rfl
    · rfl
    · exact one_cellsS r u h
/-- A SEGMENT LIES at a place. -/
structure SgAt (w : World) (g off i : Nat) (b : Sg) : Prop where
  p : w.cell? ⟨g, off + i * 2, none⟩ = some (.int .i64 b.p)
  n : w.cell? ⟨g, off + i * 2 + 1, none⟩ = some (.int .i64 b.n)
theorem SgAt.lt {w : World} {g off i : Nat} {b : Sg} (h : SgAt w g off i b) : g < w.heap.size := World.block_lt_of_cell? w _ h.p
theorem SgAt.keep {S : Nat → Prop} {w w' : World} {g off i : Nat} {b : Sg} (h : SgAt w g off i b) (hk : Keep S w w') (hs : ¬ S g) : SgAt w' g off i b :=
  ⟨(hk.cell (p := ⟨g, off + i * 2, none⟩) h.lt hs).trans h.p, (hk.cell (p := ⟨g, off + i * 2 + 1, none⟩) h.lt hs).trans h.n⟩
/-- SEGMENTS LIE AT a. -/
def SL (w : World) (a : Option Addr) (l : List Sg) : Prop := l = [] ∨ ∃ g off, a = some ⟨g, off, none⟩ ∧ ∀ i, i < l.length → SgAt w g off i (gS l i)
theorem SL.some_of {w : World} {a : Option Addr} {l : List Sg} (h : SL w a l) {i : Nat} (hi : i < l.length) : ∃ g off, a = some ⟨g, off, none⟩ ∧ ∀ i, i < l.length → SgAt w g off i (gS l i) := by
  rcases h with h | h
  · rw [h] at hi; simp at hi
  · exact h
theorem SL.keep {S : Nat → Prop} {w w' : World} {a : Option Addr} {l : List Sg} (h : SL w a l) (hk : Keep S w w') (hs : ∀ b, blk a b → b < w.heap.size → ¬ S b) : SL w' a l := by
  rcases h with h | ⟨g, off, rfl, h⟩
  · exact Or.inl h
  · exact Or.inr ⟨g, off, rfl, fun i hi => (h i hi).keep hk (hs g ⟨_, rfl, rfl⟩ (h i hi).lt)⟩
theorem SL.below {w w' : World} {a : Option Addr} {l : List Sg} (h : SL w a l) (hb : Below w.heap.size w w') : SL w' a l := h.keep (S := fun _ => False) (Keep.of_below hb) (fun _ _ _ e => e)
/-- THE SAME, THE CALL's OWN. -/
def OwnS (w : World) (base : Nat) (a : Option Addr) (cap : Nat) (l : List Sg) : Prop := w.ownsRow base 35 2 (.slice a l.length cap) l.length (cellsS l)
theorem OwnS.nil (w : World) (base : Nat) : OwnS w base none 0 [] := ⟨rfl, Or.inl ⟨rfl, rfl⟩⟩
theorem OwnS.new (w : World) (base : Nat) (hb : base ≤ w.heap.size) (l : List Sg) (hl : l.length ≤ 64) (cs : Array Value) (hcs : cs = (cellsS l).toArray) : OwnS (w.alloc (.cells cs 35)) base (some ⟨w.heap.size, 0, none⟩) l.length l := by
  subst hcs
  exact ⟨cellsS_len l, Or.inr ⟨w.heap.size, l.length, (cellsS l).toArray, rfl, hb, heap_alloc_new w _, Nat.le_refl _, by unfold maxLen; omega, by simp [cellsS_len], by rw [← cellsS_len l]; exact List.take_of_length_le (by simp)⟩⟩
theorem OwnS.parts {w : World} {base cap : Nat} {a : Option Addr} {l : List Sg} (h : OwnS w base a cap l) :
    (a = none ∧ cap = 0 ∧ l = []) ∨ ∃ g cur, a = some ⟨g, 0, none⟩ ∧ base ≤ g ∧ w.heap[g]? = some (.cells cur 35 (0, 0)) ∧ l.length ≤ cap ∧ cap ≤ maxLen ∧ cur.size = cap * 2 ∧ cur.toList.take (l.length * 2) = cellsS l := by
  rcases h.2 with ⟨h2, h3⟩ | ⟨g, cap', cur, hv, r1, r2, r3, r4, r5, r6⟩
  · simp at h2
    exact Or.inl ⟨h2.1, h2.2.2, h2.2.1⟩
  · simp at hv
    obtain ⟨rfl, rfl⟩ := hv
    exact Or.inr ⟨g, cur, rfl, r1, r2, r3, r4, r5, r6⟩
theorem OwnS.sl {w : World} {base cap : Nat} {a : Option Addr} {l : List Sg} (h : OwnS w base a cap l) : SL w a l := by
  rcases h.parts with ⟨_, _, h⟩ | ⟨g, cur, rfl, _, h2, _, _, _, h6⟩
  · exact Or.inl h
  · refine Or.inr ⟨g, 0, rfl, fun i hi => ?_⟩
    have e : ∀ j, j < l.length * 2 → cur[j]? = (cellsS l)[j]? := fun j hj => by
      rw [← h6, List.getElem?_take, if_pos hj, Array.getElem?_toList]
    obtain ⟨q0, q1⟩ := cellsS_at l i hi
    refine ⟨?_, ?_⟩
    · simp only [World.cell?, h2, Nat.zero_add]; rw [e _ (by omega)]; exact q0
    · simp only [World.cell?, h2, Nat.zero_add]; rw [e _ (by omega)]; exact q1
theorem OwnS.blk {w : World} {base cap : Nat} {a : Option Addr} {l : List Sg} (h : OwnS w base a cap l) {b : Nat} (hb : Ytdkafcgangcgbaj.blk a b) : base ≤ b ∧ b < w.heap.size := by
  obtain ⟨x, rfl, rfl⟩ := hb
  rcases h.parts with ⟨e, _, _⟩ | ⟨g, cur, e, h1, h2, _⟩
  · cases e
  · cases e
    exact ⟨h1, heap_lt h2⟩
theorem OwnS.keep {S : Nat → Prop} {w w' : World} {base cap : Nat} {a : Option Addr} {l : List Sg} (h : OwnS w base a cap l) (hk : Keep S w w') (hs : ∀ b, Ytdkafcgangcgbaj.blk a b → ¬ S b) : OwnS w' base a cap l := by
  refine ⟨h.1, ?_⟩
  rcases h.2 with h2 | ⟨g, cap', cur, hv, r1, r2, r3⟩
  · exact Or.inl h2
  · have e : a = some ⟨g, 0, none⟩ := by simp at hv; exact hv.1
    exact Or.inr ⟨g, cap', cur, hv, r1, by rw [hk.block g (heap_lt r2) (hs g ⟨_, e, rfl⟩)]; exact r2, r3⟩
theorem OwnS.below {w w' : World} {base cap : Nat} {a : Option Addr} {l : List Sg} (h : OwnS w base a cap l) (hb : Below w.heap.size w w') : OwnS w' base a cap l := h.keep (S := fun _ => False) (Keep.of_below hb) (fun _ _ e => e)
theorem OwnS.base {w : World} {b b' cap : Nat} {a : Option Addr} {l : List Sg} (h : OwnS w b a cap l) (hb : b' ≤ b) : OwnS w b' a cap l := by
  refine ⟨h.1, ?_⟩
  rcases h.2 with h2 | ⟨g, cap', cur, hv, r1, r2⟩
  · exact Or.inl h2
  · exact Or.inr ⟨g, cap', cur, hv, by omega, r2⟩
theorem infoSg : (Try.prog.info? 35).map (fun i => (i.zero, i.size, i.bytes)) = some (some (.agg #[.int .i64 0, .int .i64 0]), 2, 16) := by kernel_rfl
theorem blk_of {a : Option Addr} {n c g : Nat} (h : (Value.slice a n c).ownBlock = some g) : blk a g := by
  cases a with
  | none => cases h
  | some z => exact ⟨z, rfl, by simp [Value.ownBlock] at h; exact h⟩
/-- ONE SEGMENT MORE IS APPENDED, in a region that draws its order. -/
theorem stepS {ops : Array Oper} {o : Oper} {a : Act} {W : World} {K : Act → World → Prop} {Q : Exit → Act → World → Prop} {E : Prop} (hgd : o.guard = none) (s x : Operand)
    (ho : o.op = .call { callee := .builtin .append, args := #[s, x], argTypes := #[31, 31] }) (base cap0 B : Nat) (a0 : Option Addr) (es : List Sg) (e : Sg)
    (hs : a.eval s = .slice a0 es.length cap0) (hx : a.eval x = .slice (some ⟨B, 0, none⟩) 1 1) (h : OwnS W base a0 cap0 es) (hB : W.heap[B]? = some (.cells #[.int .i64 e.p, .int .i64 e.n] 35 (0, 0))) (hk : (es.length + 1) * 16 ≤ 140737488355328) (hb : base ≤ W.heap.size)
    (hc : ∀ g cap1 w', OwnS w' base (some ⟨g, 0, none⟩) cap1 (es ++ [e]) → Keep (blk a0) W w' → (blk a0 g ∨ g = W.heap.size) → K (a.put o.dst (.slice (some ⟨g, 0, none⟩) (es.length + 1) cap1)) w') :
    if Region.wanted o (yielded ops a.tmps) = true then Oper.wp Try.prog o a W K Q else E := by
  obtain ⟨i0, hi, hz0, hz1, hz2⟩ := info_parts infoSg
  refine step_append_lies W hgd s x 31 ho base 35 i0 _ 2 16 Try.underlying31 hi hz0 hz1 hz2 rfl (by decide) (.slice a0 es.length cap0) es.length (cellsS es) hs h ⟨B, 0, none⟩ 1 1 (cellsS [e]) hx rfl (World.news_of_block hB) (one_cellsS [e]) (by decide) (by unfold maxLen; omega) (by omega) hb W.heap.size rfl ?_
  intro g cap1 w' h1 h2 h3 h4
  refine hc g cap1 w' ?_ (keep_grown h2) (h3.imp blk_of id)
  unfold OwnS
  rw [cellsS_app, List.length_append]
  exact h1
/-- .. in one that does not. -/
theorem app_stepS {ops : Array Oper} {rest : List Oper} {o : Oper} {a : Act} {Q : Exit → Act → World → Prop} (hgd : o.guard = none) (s x : Operand)
    (ho : o.op = .call { callee := .builtin .append, args := #[s, x], argTypes := #[31, 31] }) (w : World) (base cap0 : Nat) (a0 : Option Addr) (es : List Sg) (e : Sg)
    (hs : a.eval s = .slice a0 es.length cap0) (hx : a.eval x = .slice (some ⟨w.heap.size, 0, none⟩) 1 1) (h : OwnS w base a0 cap0 es) (hk : (es.length + 1) * 16 ≤ 140737488355328) (hb : base ≤ w.heap.size)
    (hc : ∀ a1 cap1 w', OwnS w' base a1 cap1 (es ++ [e]) → Keep (blk a0) w w' → wpList Try.prog ops Q rest (a.put o.dst (.slice a1 (es.length + 1) cap1)) w') :
    wpList Try.prog ops Q (o :: rest) a (w.alloc (.cells #[.int .i64 e.p, .int .i64 e.n] 35)) := by
  obtain ⟨i0, hi, hz0, hz1, hz2⟩ := info_parts infoSg
  have hbl : Below w.heap.size w (w.alloc (.cells #[.int .i64 e.p, .int .i64 e.n] 35)) := (Below.refl _ _).alloc (Nat.le_refl _) _
  have ho' : (w.alloc (.cells #[.int .i64 e.p, .int .i64 e.n] 35)).ownsRow base 35 2 (.slice a0 es.length cap0) es.length (cellsS es) := h.below hbl
  refine wpList_append_lies (w.alloc (.cells #[.int .i64 e.p, .int .i64 e.n] 35)) hgd s x 31 ho base 35 i0 _ 2 16 Try.underlying31 hi hz0 hz1 hz2 rfl (by decide) (.slice a0 es.length cap0) es.length _ hs ho' ⟨w.heap.size, 0, none⟩ 1 1 (cellsS [e]) hx rfl (World.news_of_block (heap_alloc_new w _)) (one_cellsS [e]) (by decide) (by unfold maxLen; omega) (by omega) (Nat.le_trans hb hbl.size) _ rfl ?_
  intro g cap1 w' h2 h3 _ _
  refine hc (some ⟨g, 0, none⟩) cap1 w' ?_ ((Keep.of_below hbl).trans (keep_grown h3))
  unfold OwnS
  rw [cellsS_app, List.length_append]
  exact h2
end Go.Proofs.Ytdkafcgangcgbaj
