/-
  Rows of calls, of five cells each: as they lie; of the call's own, to which is appended.
-/
import Derived.Test.YtohngekkbgklfaaInts
namespace Go.Proofs.Ytohngekkbgklfaa
open Go.RowKit
set_option linter.unusedVariables false

/-- What an error's number is as a value. -/
def errI (n : Nat) : Value := if n = 0 then .nilIface else .iface 40 (.int .i64 (n : Int))
theorem errI_ne {n : Nat} (h : n ≠ 0) : errI n = .iface 40 (.int .i64 (n : Int)) := if_neg h
theorem errI_zero : errI 0 = .nilIface := rfl
def clV (c : Cl) : List Value := [.int .i64 c.f, .int .i64 c.t, .bool c.w, .int .i64 c.b, .int .i64 c.v]
def cellsC : List Cl → List Value
  | [] => []
  | e :: r => .int .i64 e.f :: .int .i64 e.t :: .bool e.w :: .int .i64 e.b :: .int .i64 e.v :: cellsC r
theorem cellsC_len : ∀ es, (cellsC es).length = es.length * 5
  | [] => rfl
  | e :: r => by simp only [cellsC, List.length_cons, cellsC_len r]; omega
theorem cellsC_app : ∀ es fs, cellsC (es ++ fs) = cellsC es ++ cellsC fs
  | [], fs => rfl
  | e :: r, fs => by simp only [List.cons_append, cellsC, cellsC_app r]
theorem cellsC_at : ∀ (es : List Cl) (i : Nat), i < es.length → (cellsC es)[i * 5]? = some (.int .i64 (gC es i).f) ∧ (cellsC es)[i * 5 + 1]? = some (.int .i64 (gC es i).t) ∧ (cellsC es)[i * 5 + 2]? = some (.bool (gC es i).w) ∧ (cellsC es)[i * 5 + 3]? = some (.int .i64 (gC es i).b) ∧ (cellsC es)[i * 5 + 4]? = some (.int .i64 (gC es i).v)
  | [], i, h => by simp at h
  | e :: r, 0, _ => ⟨rfl, rfl, rfl, rfl, rfl⟩
  | e :: r, i + 1, h => by
    have ih := cellsC_at r i (by simpa using h)
    have e1 : (i + 1) * 5 = i * 5 + 1 + 1 + 1 + 1 + 1 := by omega
    rw [e1]
    exact ih
theorem one_cellsC : ∀ es : List Cl, ∀ u ∈ cellsC es, u.oneCell' = true
  | [], u, h => by simp [cellsC] at h
  | e :: r, u, h => by
    simp only [cellsC, List.mem_cons] at h
    rcases h with rfl | rfl | rfl | rfl | rfl | h
    · rfl
    · rfl
    · rfl
    · rfl
    · rfl
    · exact one_cellsC r u h
/-- A CALL LIES at a place. -/
structure ClAt (w : World) (g off i : Nat) (c : Cl) : Prop where
  f : w.cell? ⟨g, off + i * 5, none⟩ = some (.int .i64 c.f)
  t : w.cell? ⟨g, off + i * 5 + 1, none⟩ = some (.int .i64 c.t)
  k : w.cell? ⟨g, off + i * 5 + 2, none⟩ = some (.bool c.w)
  b : w.cell? ⟨g, off + i * 5 + 3, none⟩ = some (.int .i64 c.b)
  v : w.cell? ⟨g, off + i * 5 + 4, none⟩ = some (.int .i64 c.v)
theorem ClAt.lt {w : World} {g off i : Nat} {c : Cl} (h : ClAt w g off i c) : g < w.heap.size := World.block_lt_of_cell? w _ h.f
theorem ClAt.keep {S : Nat → Prop} {w w' : World} {g off i : Nat} {c : Cl} (h : ClAt w g off i c) (hk : Keep S w w') (hs : ¬ S g) : ClAt w' g off i c :=
  ⟨(hk.cell (p := ⟨g, off + i * 5, none⟩) h.lt hs).trans h.f, (hk.cell (p := ⟨g, off + i * 5 + 1, none⟩) h.lt hs).trans h.t, (hk.cell (p := ⟨g, off + i * 5 + 2, none⟩) h.lt hs).trans h.k, (hk.cell (p := ⟨g, off + i * 5 + 3, none⟩) h.lt hs).trans h.b, (hk.cell (p := ⟨g, off + i * 5 + 4, none⟩) h.lt hs).trans h.v⟩
/-- CALLS LIE AT a. -/
def CL (w : World) (a : Option Addr) (l : List Cl) : Prop := l = [] ∨ ∃ g off, a = some ⟨g, off, none⟩ ∧ ∀ i, i < l.length → ClAt w g off i (gC l i)
theorem CL.some_of {w : World} {a : Option Addr} {l : List Cl} (h : CL w a l) {i : Nat} (hi : i < l.length) : ∃ g off, a = some ⟨g, off, none⟩ ∧ ∀ i, i < l.length → ClAt w g off i (gC l i) := by
  rcases h with h | h
  · rw [h] at hi; simp at hi
  · exact h
theorem CL.keep {S : Nat → Prop} {w w' : World} {a : Option Addr} {l : List Cl} (h : CL w a l) (hk : Keep S w w') (hs : ∀ b, blk a b → b < w.heap.size → ¬ S b) : CL w' a l := by
  rcases h with h | ⟨g, off, rfl, h⟩
  · exact Or.inl h
  · exact Or.inr ⟨g, off, rfl, fun i hi => (h i hi).keep hk (hs g ⟨_, rfl, rfl⟩ (h i hi).lt)⟩
theorem CL.below {w w' : World} {a : Option Addr} {l : List Cl} (h : CL w a l) (hb : Below w.heap.size w w') : CL w' a l := h.keep (S := fun _ => False) (Keep.of_below hb) (fun _ _ _ e => e)
theorem CL.lt {w : World} {a : Option Addr} {l : List Cl} (h : CL w a l) (hl : 0 < l.length) {b : Nat} (hb : blk a b) : b < w.heap.size := by
  obtain ⟨g, off, rfl, h'⟩ := h.some_of hl
  obtain ⟨x, e, rfl⟩ := hb
  cases e
  exact (h' 0 hl).lt
theorem gC_take {l : List Cl} {k i : Nat} (h : i < k) : gC (l.take k) i = gC l i := by unfold gC; rw [List.getElem?_take, if_pos h]
theorem gC_drop {l : List Cl} {k i : Nat} : gC (l.drop k) i = gC l (k + i) := by unfold gC; rw [List.getElem?_drop]
/-- THE SAME, THE CALL's OWN. -/
def OwnC (w : World) (base : Nat) (a : Option Addr) (cap : Nat) (l : List Cl) : Prop := w.ownsRow base 29 5 (.slice a l.length cap) l.length (cellsC l)
theorem OwnC.nil (w : World) (base : Nat) : OwnC w base none 0 [] := ⟨rfl, Or.inl ⟨rfl, rfl⟩⟩
theorem OwnC.new (w : World) (base : Nat) (hb : base ≤ w.heap.size) (l : List Cl) (hl : l.length ≤ 64) (cs : Array Value) (hcs : cs = (cellsC l).toArray) : OwnC (w.alloc (.cells cs 29)) base (some ⟨w.heap.size, 0, none⟩) l.length l := by
  subst hcs
  exact ⟨cellsC_len l, Or.inr ⟨w.heap.size, l.length, (cellsC l).toArray, rfl, hb, heap_alloc_new w _, Nat.le_refl _, by unfold maxLen; omega, by simp [cellsC_len], by rw [← cellsC_len l]; exact List.take_of_length_le (by simp)⟩⟩
theorem OwnC.parts {w : World} {base cap : Nat} {a : Option Addr} {l : List Cl} (h : OwnC w base a cap l) :
    (a = none ∧ cap = 0 ∧ l = []) ∨ ∃ g cur, a = some ⟨g, 0, none⟩ ∧ base ≤ g ∧ w.heap[g]? = some (.cells cur 29 (0, 0)) ∧ l.length ≤ cap ∧ cap ≤ maxLen ∧ cur.size = cap * 5 ∧ cur.toList.take (l.length * 5) = cellsC l := by
  rcases h.2 with ⟨h2, h3⟩ | ⟨g, cap', cur, hv, r1, r2, r3, r4, r5, r6⟩
  · simp at h2
    exact Or.inl ⟨h2.1, h2.2.2, h2.2.1⟩
  · simp at hv
    obtain ⟨rfl, rfl⟩ := hv
    exact Or.inr ⟨g, cur, rfl, r1, r2, r3, r4, r5, r6⟩
theorem OwnC.cl {w : World} {base cap : Nat} {a : Option Addr} {l : List Cl} (h : OwnC w base a cap l) : CL w a l := by
  rcases h.parts with ⟨_, _, h⟩ | ⟨g, cur, rfl, _, h2, _, _, _, h6⟩
  · exact Or.inl h
  · refine Or.inr ⟨g, 0, rfl, fun i hi => ?_⟩
    have e : ∀ j, j < l.length * 5 → cur[j]? = (cellsC l)[j]? := fun j hj => by
      rw [← h6, List.getElem?_take, if_pos hj, Array.getElem?_toList]
    obtain ⟨q0, q1, q2, q3, q4⟩ := cellsC_at l i hi
    refine ⟨?_, ?_, ?_, ?_, ?_⟩
    · simp only [World.cell?, h2, Nat.zero_add]; rw [e _ (by omega)]; exact q0
    · simp only [World.cell?, h2, Nat.zero_add]; rw [e _ (by omega)]; exact q1
    · simp only [World.cell?, h2, Nat.zero_add]; rw [e _ (by omega)]; exact q2
    · simp only [World.cell?, h2, Nat.zero_add]; rw [e _ (by omega)]; exact q3
    · simp only [World.cell?, h2, Nat.zero_add]; rw [e _ (by omega)]; exact q4
theorem OwnC.blk {w : World} {base cap : Nat} {a : Option Addr} {l : List Cl} (h : OwnC w base a cap l) {b : Nat} (hb : Ytohngekkbgklfaa.blk a b) : base ≤ b ∧ b < w.heap.size := by
  obtain ⟨x, rfl, rfl⟩ := hb
  rcases h.parts with ⟨e, _, _⟩ | ⟨g, cur, e, h1, h2, _⟩
  · cases e
  · cases e
    exact ⟨h1, heap_lt h2⟩
theorem OwnC.keep {S : Nat → Prop} {w w' : World} {base cap : Nat} {a : Option Addr} {l : List Cl} (h : OwnC w base a cap l) (hk : Keep S w w') (hs : ∀ b, Ytohngekkbgklfaa.blk a b → ¬ S b) : OwnC w' base a cap l := by
  refine ⟨h.1, ?_⟩
  rcases h.2 with h2 | ⟨g, cap', cur, hv, r1, r2, r3⟩
  · exact Or.inl h2
  · have e : a = some ⟨g, 0, none⟩ := by simp at hv; exact hv.1
    exact Or.inr ⟨g, cap', cur, hv, r1, by rw [hk.block g (heap_lt r2) (hs g ⟨_, e, rfl⟩)]; exact r2, r3⟩
theorem OwnC.below {w w' : World} {base cap : Nat} {a : Option Addr} {l : List Cl} (h : OwnC w base a cap l) (hb : Below w.heap.size w w') : OwnC w' base a cap l := h.keep (S := fun _ => False) (Keep.of_below hb) (fun _ _ e => e)
theorem OwnC.base {w : World} {b b' cap : Nat} {a : Option Addr} {l : List Cl} (h : OwnC w b a cap l) (hb : b' ≤ b) : OwnC w b' a cap l := by
  refine ⟨h.1, ?_⟩
  rcases h.2 with h2 | ⟨g, cap', cur, hv, r1, r2⟩
  · exact Or.inl h2
  · exact Or.inr ⟨g, cap', cur, hv, by omega, r2⟩
theorem infoCl : (Try.prog.info? 29).map (fun i => (i.zero, i.size, i.bytes)) = some (some (.agg #[.int .i64 0, .int .i64 0, .bool false, .int .i64 0, .int .i64 0]), 5, 40) := by kernel_rfl
theorem newsC {w : World} {b off : Nat} {l : List Cl} (hc : ∀ i, i < l.length → ClAt w b off i (gC l i)) : ∀ j u, (cellsC l)[j]? = some u → w.cell? ((⟨b, off, none⟩ : Addr).add j) = some u := by
  intro j u hj
  have hl : j < l.length * 5 := by
    have := (List.getElem?_eq_some_iff.1 hj).1
    rwa [cellsC_len] at this
  have hadd : (⟨b, off, none⟩ : Addr).add j = ⟨b, off + j, none⟩ := by unfold Addr.add; split <;> simp_all
  rw [hadd]
  obtain ⟨i, r, hr, rfl⟩ : ∃ i r, r < 5 ∧ j = i * 5 + r := ⟨j / 5, j % 5, Nat.mod_lt _ (by omega), by omega⟩
  have hi : i < l.length := by omega
  obtain ⟨q0, q1, q2, q3, q4⟩ := cellsC_at l i hi
  obtain ⟨p0, p1, p2, p3, p4⟩ := hc i hi
  have h5 : r = 0 ∨ r = 1 ∨ r = 2 ∨ r = 3 ∨ r = 4 := by omega
  rcases h5 with rfl | rfl | rfl | rfl | rfl
  · rw [Nat.add_zero] at hj ⊢; rw [q0] at hj; rw [p0, hj]
  · rw [q1] at hj; rw [← Nat.add_assoc, p1, hj]
  · rw [q2] at hj; rw [← Nat.add_assoc, p2, hj]
  · rw [q3] at hj; rw [← Nat.add_assoc, p3, hj]
  · rw [q4] at hj; rw [← Nat.add_assoc, p4, hj]
/-- APPEND to calls of the call's own, from calls that lie anywhere. -/
theorem app_stepC {ops : Array Oper} {rest : List Oper} {o : Oper} {a : Act} {w : World} {Q : Exit → Act → World → Prop} (hgd : o.guard = none) (s x : Operand)
    (ho : o.op = .call { callee := .builtin .append, args := #[s, x], argTypes := #[22, 22] }) (base : Nat) (a0 : Option Addr) (cap0 : Nat) (ys : List Cl) (hs : a.eval s = .slice a0 ys.length cap0) (hown : OwnC w base a0 cap0 ys)
    (sa : Option Addr) (n c : Nat) (zs : List Cl) (hn : zs.length = n) (hx : a.eval x = .slice sa n c) (hnil : sa = none → c = 0) (hL : CL w sa zs) (rs : List Cl) (hrs : rs = ys ++ zs) (hb : rs.length * 40 ≤ 140737488355328) (hbase : base ≤ w.heap.size)
    (h : ∀ a1 cap1 w', OwnC w' base a1 cap1 rs → Keep (blk a0) w w' → wpList Try.prog ops Q rest (a.put o.dst (.slice a1 rs.length cap1)) w') : wpList Try.prog ops Q (o :: rest) a w := by
  obtain ⟨i0, hi, hz0, hz1, hz2⟩ := info_parts infoCl
  subst hrs hn
  rw [List.length_append] at hb
  have fin : ∀ v' w', w'.ownsRow base 29 5 v' (ys.length + zs.length) (cellsC ys ++ cellsC zs) → w.grownBy w' (Value.slice a0 ys.length cap0).ownBlock → wpList Try.prog ops Q rest (a.put o.dst v') w' := by
    intro v' w' h1 h2
    have hv : ∃ a1 cap1, v' = .slice a1 (ys ++ zs).length cap1 := by
      rcases h1.2 with ⟨e, e2⟩ | ⟨g, cap', cur, e, _⟩
      · exact ⟨none, 0, by rw [e, List.length_append, e2]⟩
      · exact ⟨_, cap', by rw [e, List.length_append]⟩
    obtain ⟨a1, cap1, rfl⟩ := hv
    refine h a1 cap1 w' ?_ (keep_grown h2)
    unfold OwnC
    rw [cellsC_app, List.length_append]
    rw [List.length_append] at h1
    exact h1
  have own' : w.ownsRow base 29 5 (.slice a0 ys.length cap0) ys.length (cellsC ys) := hown
  cases hsa : sa with
  | none =>
    subst hsa
    have hz : zs = [] := by
      rcases hL with h | ⟨b, off, e, _⟩
      · exact h
      · cases e
    subst hz
    have hc0 := hnil rfl
    subst hc0
    refine wpList_append_own_none hgd s x 22 ho base 29 i0 5 Try.underlying22 hi _ _ _ hs own' hx ?_
    exact fin _ w (by simpa [cellsC] using own') ⟨rfl, rfl, rfl, Nat.le_refl _, fun _ _ _ => rfl⟩
  | some ad =>
    subst hsa
    refine wpList_append_own _ hgd s x 22 ho base 29 i0 _ 5 40 Try.underlying22 hi hz0 hz1 hz2 rfl (by decide) _ _ _ hs own' ad zs.length c (cellsC zs) hx (cellsC_len zs) ?_ (one_cellsC zs) (by unfold maxLen; omega) (by omega) hbase (fun v' w' h1 h2 _ => fin v' w' h1 h2)
    rcases hL with h | ⟨b, off, e, hc⟩
    · subst h
      intro j u hj
      simp [cellsC] at hj
    · cases e
      exact newsC hc
/-- One call that was just laid. -/
theorem cl_one (w : World) (c : Cl) : CL (w.alloc (.cells #[.int .i64 c.f, .int .i64 c.t, .bool c.w, .int .i64 c.b, .int .i64 c.v] 29)) (some ⟨w.heap.size, 0, none⟩) [c] := by
  refine Or.inr ⟨w.heap.size, 0, rfl, fun i hi => ?_⟩
  obtain rfl : i = 0 := by simpa using hi
  refine ⟨?_, ?_, ?_, ?_, ?_⟩ <;> simp [gC]
end Go.Proofs.Ytohngekkbgklfaa
