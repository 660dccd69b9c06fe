/-
  Rows of items, of three cells each: as they lie; of the call's own, to which is appended.
-/
import Derived.Test.YtphacdnepjpmoafKeep2
namespace Go.Proofs.Ytphacdnepjpmoaf
open Go.RowKit
set_option linter.unusedVariables false

/-- An item as a struct says it. -/
structure RN where
  it : It
  a : Option Addr
  cap : Nat
def rn0 : RN := ⟨⟨0, false, []⟩, none, 0⟩
def cellsR : List RN → List Value
  | [] => []
  | e :: r => .int .i64 e.it.lba :: .bool e.it.gone :: .slice e.a e.it.data.length e.cap :: cellsR r
theorem cellsR_len : ∀ es, (cellsR es).length = es.length * 3
  | [] => rfl
  | e :: r => by simp only [cellsR, List.length_cons, cellsR_len r]; omega
theorem cellsR_app : ∀ es fs, cellsR (es ++ fs) = cellsR es ++ cellsR fs
  | [], fs => rfl
  | e :: r, fs => by simp only [List.cons_append, cellsR, cellsR_app r]
theorem cellsR_at : ∀ (es : List RN) (i : Nat), i < es.length → (cellsR es)[i * 3]? = some (.int .i64 (es[i]?.getD rn0).it.lba) ∧ (cellsR es)[i * 3 + 1]? = some (.bool (es[i]?.getD rn0).it.gone) ∧ (cellsR es)[i * 3 + 2]? = some (.slice (es[i]?.getD rn0).a (es[i]?.getD rn0).it.data.length (es[i]?.getD rn0).cap)
  | [], i, h => by simp at h
  | e :: r, 0, _ => ⟨rfl, rfl, rfl⟩
  | e :: r, i + 1, h => by
    have ih := cellsR_at r i (by simpa using h)
    have e1 : (i + 1) * 3 = i * 3 + 1 + 1 + 1 := by omega
    rw [e1]
    exact ih
theorem one_cellsR : ∀ es : List RN, ∀ u ∈ cellsR es, u.oneCell' = true
  | [], u, h => by simp [cellsR] at h
  | e :: r, u, h => by
    simp only [cellsR, List.mem_cons] at h
    rcases h with rfl | rfl | rfl | h
    · rfl
    · rfl
    · rfl
    · exact one_cellsR r u h
/-- ITEMS LIE AT a, in a block of type T. -/
def RowAt (T : TypeId) (w : World) (a : Option Addr) (M : List RN) : Prop :=
  M = [] ∨ ∃ (g off : Nat) (cur : Array Value) (f : Nat × Nat), a = some ⟨g, off, none⟩ ∧ w.heap[g]? = some (.cells cur T f) ∧ ∀ i, i < M.length → cur[off + i * 3]? = some (.int .i64 (M[i]?.getD rn0).it.lba) ∧ cur[off + i * 3 + 1]? = some (.bool (M[i]?.getD rn0).it.gone) ∧ cur[off + i * 3 + 2]? = some (.slice (M[i]?.getD rn0).a (M[i]?.getD rn0).it.data.length (M[i]?.getD rn0).cap)
theorem RowAt.keep {S : Nat → Prop} {T : TypeId} {w w' : World} {a : Option Addr} {M : List RN} (h : RowAt T w a M) (hk : Keep S w w') (hs : ∀ b cs f, w.heap[b]? = some (.cells cs T f) → ¬ S b) : RowAt T w' a M := by
  rcases h with h | ⟨g, off, cur, f, e, h1, h2⟩
  · exact Or.inl h
  · exact Or.inr ⟨g, off, cur, f, e, (hk.block g (heap_lt h1) (hs g cur f h1)).trans h1, h2⟩
theorem RowAt.below {T : TypeId} {w w' : World} {a : Option Addr} {M : List RN} (h : RowAt T w a M) (hb : Below w.heap.size w w') : RowAt T w' a M := h.keep (S := fun _ => False) (Keep.of_below hb) (fun _ _ _ _ e => e)
theorem RowAt.apart {T : TypeId} {B : Nat} {w w' : World} {a : Option Addr} {M : List RN} (h : RowAt T w a M) (hk : Apart B w w') (h1 : T ≠ 69) (h2 : T ≠ 60) : RowAt T w' a M := by
  rcases h with h | ⟨g, off, cur, f, e, h3, h4⟩
  · exact Or.inl h
  · exact Or.inr ⟨g, off, cur, f, e, (hk.oth g _ _ _ h3 h1 h2).trans h3, h4⟩
theorem RowAt.at {T : TypeId} {w : World} {a : Option Addr} {M : List RN} (h : RowAt T w a M) {i : Nat} (hi : i < M.length) : ∃ g off, a = some ⟨g, off, none⟩ ∧ w.cell? ⟨g, off + i * 3, none⟩ = some (.int .i64 (M[i]?.getD rn0).it.lba) ∧ w.cell? ⟨g, off + i * 3 + 1, none⟩ = some (.bool (M[i]?.getD rn0).it.gone) ∧ w.cell? ⟨g, off + i * 3 + 2, none⟩ = some (.slice (M[i]?.getD rn0).a (M[i]?.getD rn0).it.data.length (M[i]?.getD rn0).cap) := by
  rcases h with h | ⟨g, off, cur, f, e, h3, h4⟩
  · rw [h] at hi; simp at hi
  · obtain ⟨q0, q1, q2⟩ := h4 i hi
    refine ⟨g, off, e, ?_⟩
    simp only [World.cell?, h3]
    exact ⟨q0, q1, q2⟩
/-- THE SAME, THE CALL's OWN. -/
def OwnR (T : TypeId) (w : World) (base : Nat) (a : Option Addr) (cap : Nat) (M : List RN) : Prop := w.ownsRow base T 3 (.slice a M.length cap) M.length (cellsR M)
theorem OwnR.nil (T : TypeId) (w : World) (base : Nat) : OwnR T w base none 0 [] := ⟨rfl, Or.inl ⟨rfl, rfl⟩⟩
theorem OwnR.new (T : TypeId) (w : World) (base : Nat) (hb : base ≤ w.heap.size) (cs : Array Value) (hcs : cs = #[]) : OwnR T (w.alloc (.cells cs T)) base (some ⟨w.heap.size, 0, none⟩) 0 [] := by
  subst hcs
  exact ⟨rfl, Or.inr ⟨w.heap.size, 0, #[], rfl, hb, heap_alloc_new w _, Nat.le_refl _, by unfold maxLen; omega, rfl, rfl⟩⟩
theorem OwnR.parts {T : TypeId} {w : World} {base cap : Nat} {a : Option Addr} {M : List RN} (h : OwnR T w base a cap M) :
    (a = none ∧ cap = 0 ∧ M = []) ∨ ∃ g cur, a = some ⟨g, 0, none⟩ ∧ base ≤ g ∧ w.heap[g]? = some (.cells cur T (0, 0)) ∧ M.length ≤ cap ∧ cap ≤ maxLen ∧ cur.size = cap * 3 ∧ cur.toList.take (M.length * 3) = cellsR M := by
  rcases h.2 with ⟨h2, h3⟩ | ⟨g, cap', cur, hv, r1, r2, r3, r4, r5, r6⟩
  · simp at h2
    exact Or.inl ⟨h2.1, h2.2.2, h2.2.1⟩
  · simp at hv
    obtain ⟨rfl, rfl⟩ := hv
    exact Or.inr ⟨g, cur, rfl, r1, r2, r3, r4, r5, r6⟩
theorem OwnR.at {T : TypeId} {w : World} {base cap : Nat} {a : Option Addr} {M : List RN} (h : OwnR T w base a cap M) : RowAt T w a M := by
  rcases h.parts with ⟨_, _, h⟩ | ⟨g, cur, rfl, _, h2, _, _, _, h6⟩
  · exact Or.inl h
  · refine Or.inr ⟨g, 0, cur, (0, 0), rfl, h2, fun i hi => ?_⟩
    have e : ∀ j, j < M.length * 3 → cur[j]? = (cellsR M)[j]? := fun j hj => by
      rw [← h6, List.getElem?_take, if_pos hj, Array.getElem?_toList]
    obtain ⟨q0, q1, q2⟩ := cellsR_at M i hi
    rw [Nat.zero_add]
    exact ⟨by rw [e _ (by omega)]; exact q0, by rw [e _ (by omega)]; exact q1, by rw [e _ (by omega)]; exact q2⟩
theorem OwnR.ty {T : TypeId} {w : World} {base cap : Nat} {a : Option Addr} {M : List RN} (h : OwnR T w base a cap M) {b : Nat} (hb : blk a b) : base ≤ b ∧ ∃ cur, w.heap[b]? = some (.cells cur T (0, 0)) := by
  obtain ⟨x, rfl, rfl⟩ := hb
  rcases h.parts with ⟨e, _, _⟩ | ⟨g, cur, e, h1, h2, _⟩
  · cases e
  · cases e
    exact ⟨h1, cur, h2⟩
theorem OwnR.keep {S : Nat → Prop} {T : TypeId} {w w' : World} {base cap : Nat} {a : Option Addr} {M : List RN} (h : OwnR T w base a cap M) (hk : Keep S w w') (hs : ∀ b, blk a b → ¬ S b) : OwnR T w' base a cap M := by
  refine ⟨h.1, ?_⟩
  rcases h.2 with h2 | ⟨g, cap', cur, hv, r1, r2, r3⟩
  · exact Or.inl h2
  · have e : a = some ⟨g, 0, none⟩ := by simp at hv; exact hv.1
    exact Or.inr ⟨g, cap', cur, hv, r1, by rw [hk.block g (heap_lt r2) (hs g ⟨_, e, rfl⟩)]; exact r2, r3⟩
theorem OwnR.below {T : TypeId} {w w' : World} {base cap : Nat} {a : Option Addr} {M : List RN} (h : OwnR T w base a cap M) (hb : Below w.heap.size w w') : OwnR T w' base a cap M := h.keep (S := fun _ => False) (Keep.of_below hb) (fun _ _ e => e)
theorem OwnR.apart {T : TypeId} {B : Nat} {w w' : World} {base cap : Nat} {a : Option Addr} {M : List RN} (h : OwnR T w base a cap M) (hk : Apart B w w') (h1 : T ≠ 69) (h2 : T ≠ 60) : OwnR T w' base a cap M := by
  refine ⟨h.1, ?_⟩
  rcases h.2 with h3 | ⟨g, cap', cur, hv, r1, r2, r3⟩
  · exact Or.inl h3
  · exact Or.inr ⟨g, cap', cur, hv, r1, (hk.oth g _ _ _ r2 h1 h2).trans r2, r3⟩
theorem infoB : (Try.prog.info? 45).map (fun i => (i.zero, i.size, i.bytes)) = some (some (.agg #[.int .i64 0, .bool false, .slice none 0 0]), 3, 40) := by kernel_rfl
theorem infoR : (Try.prog.info? 41).map (fun i => (i.zero, i.size, i.bytes)) = some (some (.agg #[.int .i64 0, .bool false, .slice none 0 0]), 3, 40) := by kernel_rfl
/-- ONE ITEM MORE IS APPENDED. -/
theorem app_stepR {ops : Array Oper} {rest : List Oper} {o : Oper} {a : Act} {Q : Exit → Act → World → Prop} (T S : TypeId) (hu : Try.prog.underlying S = some (.slice T)) (hinf : (Try.prog.info? T).map (fun i => (i.zero, i.size, i.bytes)) = some (some (.agg #[.int .i64 0, .bool false, .slice none 0 0]), 3, 40)) (hgd : o.guard = none) (s x : Operand)
    (ho : o.op = .call { callee := .builtin .append, args := #[s, x], argTypes := #[S, S] }) (w : World) (base cap0 : Nat) (a0 : Option Addr) (es : List RN) (e : RN)
    (hs : a.eval s = .slice a0 es.length cap0) (hx : a.eval x = .slice (some ⟨w.heap.size, 0, none⟩) 1 1) (h : OwnR T w base a0 cap0 es) (hk : (es.length + 1) * 40 ≤ 140737488355328) (hb : base ≤ w.heap.size)
    (hc : ∀ a1 cap1 w', OwnR T w' base a1 cap1 (es ++ [e]) → Keep (blk a0) w w' → wpList Try.prog ops Q rest (a.put o.dst (.slice a1 (es.length + 1) cap1)) w') :
    wpList Try.prog ops Q (o :: rest) a (w.alloc (.cells #[.int .i64 e.it.lba, .bool e.it.gone, .slice e.a e.it.data.length e.cap] T)) := by
  obtain ⟨i0, hi, hz0, hz1, hz2⟩ := info_parts hinf
  have hbl : Below w.heap.size w (w.alloc (.cells #[.int .i64 e.it.lba, .bool e.it.gone, .slice e.a e.it.data.length e.cap] T)) := (Below.refl _ _).alloc (Nat.le_refl _) _
  have ho' : (w.alloc (.cells #[.int .i64 e.it.lba, .bool e.it.gone, .slice e.a e.it.data.length e.cap] T)).ownsRow base T 3 (.slice a0 es.length cap0) es.length (cellsR es) := h.below hbl
  refine wpList_append_lies (w.alloc (.cells #[.int .i64 e.it.lba, .bool e.it.gone, .slice e.a e.it.data.length e.cap] T)) hgd s x S ho base T i0 _ 3 40 hu hi hz0 hz1 hz2 rfl (by decide) (.slice a0 es.length cap0) es.length _ hs ho' ⟨w.heap.size, 0, none⟩ 1 1 (cellsR [e]) hx rfl (World.news_of_block (heap_alloc_new w _)) (one_cellsR [e]) (by decide) (by unfold maxLen; omega) (by omega) (Nat.le_trans hb hbl.size) _ rfl ?_
  intro g cap1 w' h2 h3 _ _
  refine hc (some ⟨g, 0, none⟩) cap1 w' ?_ ((Keep.of_below hbl).trans (keep_grown h3))
  unfold OwnR
  rw [cellsR_app, List.length_append]
  exact h2
end Go.Proofs.Ytphacdnepjpmoaf
