/-
  Rows of numbers: as they lie; of the call's own, to which is appended; slices of them.
-/
import Derived.Test.YtohngekkbgklfaaBase
namespace Go.Proofs.Ytohngekkbgklfaa
open Go.RowKit
set_option linter.unusedVariables false

def dropA (a : Option Addr) (cap l : Nat) : Option Addr := if cap = l then a else a.map (·.add l)
theorem infoInt : (Try.prog.info? 3).map (fun i => (i.zero, i.size, i.bytes)) = some (some (.int .i64 0), 1, 8) := by kernel_rfl
/-- NUMBERS LIE AT a. -/
def IL (w : World) (a : Option Addr) (l : List Int) : Prop := l = [] ∨ ∃ g off, a = some ⟨g, off, none⟩ ∧ ∀ i, i < l.length → w.cell? ⟨g, off + i, none⟩ = some (.int .i64 (gI l i))
theorem IL.some_of {w : World} {a : Option Addr} {l : List Int} (h : IL w a l) {i : Nat} (hi : i < l.length) : ∃ g off, a = some ⟨g, off, none⟩ ∧ ∀ i, i < l.length → w.cell? ⟨g, off + i, none⟩ = some (.int .i64 (gI l i)) := by
  rcases h with h | h
  · rw [h] at hi; simp at hi
  · exact h
theorem IL.keep {S : Nat → Prop} {w w' : World} {a : Option Addr} {l : List Int} (h : IL w a l) (hk : Keep S w w') (hs : ∀ b, blk a b → b < w.heap.size → ¬ S b) : IL w' a l := by
  rcases h with h | ⟨g, off, rfl, h⟩
  · exact Or.inl h
  · exact Or.inr ⟨g, off, rfl, fun i hi => (hk.cell (p := ⟨g, off + i, none⟩) (World.block_lt_of_cell? w _ (h i hi)) (hs g ⟨_, rfl, rfl⟩ (World.block_lt_of_cell? w _ (h i hi)))).trans (h i hi)⟩
theorem IL.below {w w' : World} {a : Option Addr} {l : List Int} (h : IL w a l) (hb : Below w.heap.size w w') : IL w' a l := h.keep (S := fun _ => False) (Keep.of_below hb) (fun _ _ _ e => e)
theorem gI_take {l : List Int} {k i : Nat} (h : i < k) : gI (l.take k) i = gI l i := by unfold gI; rw [List.getElem?_take, if_pos h]
theorem gI_drop {l : List Int} {k i : Nat} : gI (l.drop k) i = gI l (k + i) := by unfold gI; rw [List.getElem?_drop]
theorem IL.take {w : World} {a : Option Addr} {l : List Int} (h : IL w a l) (k : Nat) : IL w a (l.take k) := by
  rcases h with h | ⟨g, off, rfl, h⟩
  · exact Or.inl (by rw [h, List.take_nil])
  · refine Or.inr ⟨g, off, rfl, fun i hi => ?_⟩
    rw [List.length_take] at hi
    rw [gI_take (by omega)]
    exact h i (by omega)
theorem IL.drop {w : World} {a : Option Addr} {l : List Int} {cap : Nat} (h : IL w a l) (k : Nat) (hc : l.length ≤ cap) : IL w (dropA a cap k) (l.drop k) := by
  by_cases hk : k < l.length
  · rcases h with h | ⟨g, off, rfl, h⟩
    · rw [h] at hk; simp at hk
    · refine Or.inr ⟨g, off + k, ?_, fun i hi => ?_⟩
      · unfold dropA
        rw [if_neg (by omega)]
        simp [Go.WideShapes.add_plain]
      · rw [List.length_drop] at hi
        rw [gI_drop, Nat.add_assoc]
        exact h (k + i) (by omega)
  · exact Or.inl (List.drop_eq_nil_of_le (by omega))
/-- THE SAME, THE CALL's OWN. -/
def OwnI (w : World) (base : Nat) (a : Option Addr) (cap : Nat) (l : List Int) : Prop := w.ownsRow base 3 1 (.slice a l.length cap) l.length (l.map ivI)
theorem OwnI.nil (w : World) (base : Nat) : OwnI w base none 0 [] := ⟨rfl, Or.inl ⟨rfl, rfl⟩⟩
theorem OwnI.parts {w : World} {base cap : Nat} {a : Option Addr} {l : List Int} (h : OwnI w base a cap l) :
    (a = none ∧ cap = 0 ∧ l = []) ∨ ∃ g cur, a = some ⟨g, 0, none⟩ ∧ base ≤ g ∧ w.heap[g]? = some (.cells cur 3 (0, 0)) ∧ l.length ≤ cap ∧ cap ≤ maxLen ∧ cur.size = cap ∧ cur.toList.take l.length = l.map ivI := by
  rcases h.2 with ⟨h2, h3⟩ | ⟨g, cap', cur, hv, r1, r2, r3, r4, r5, r6⟩
  · simp at h2
    exact Or.inl ⟨h2.1, h2.2.2, h2.2.1⟩
  · simp at hv
    obtain ⟨rfl, rfl⟩ := hv
    exact Or.inr ⟨g, cur, rfl, r1, r2, r3, r4, by simpa using r5, by simpa using r6⟩
theorem OwnI.il {w : World} {base cap : Nat} {a : Option Addr} {l : List Int} (h : OwnI w base a cap l) : IL w a l := by
  rcases h.parts with ⟨_, _, h⟩ | ⟨g, cur, rfl, h1, h2, h3, h4, h5, h6⟩
  · exact Or.inl h
  · refine Or.inr ⟨g, 0, rfl, fun i hi => ?_⟩
    have e : (cur.toList.take l.length)[i]? = (l.map ivI)[i]? := by rw [h6]
    rw [List.getElem?_take, if_pos hi, List.getElem?_map, List.getElem?_eq_getElem hi] at e
    unfold gI
    rw [List.getElem?_eq_getElem hi, Nat.zero_add]
    simp only [World.cell?, h2]
    rw [← Array.getElem?_toList]
    simpa [ivI] using e
theorem OwnI.blk {w : World} {base cap : Nat} {a : Option Addr} {l : List Int} (h : OwnI w base a cap l) {b : Nat} (hb : Ytohngekkbgklfaa.blk a b) : base ≤ b ∧ b < w.heap.size := by
  obtain ⟨x, rfl, rfl⟩ := hb
  rcases h.parts with ⟨e, _, _⟩ | ⟨g, cur, e, h1, h2, _⟩
  · cases e
  · cases e
    exact ⟨h1, heap_lt h2⟩
theorem OwnI.keep {S : Nat → Prop} {w w' : World} {base cap : Nat} {a : Option Addr} {l : List Int} (h : OwnI w base a cap l) (hk : Keep S w w') (hs : ∀ b, Ytohngekkbgklfaa.blk a b → ¬ S b) : OwnI w' base a cap l := by
  refine ⟨h.1, ?_⟩
  rcases h.2 with h2 | ⟨g, cap', cur, hv, r1, r2, r3⟩
  · exact Or.inl h2
  · have e : a = some ⟨g, 0, none⟩ := by simp at hv; exact hv.1
    exact Or.inr ⟨g, cap', cur, hv, r1, by rw [hk.block g (heap_lt r2) (hs g ⟨_, e, rfl⟩)]; exact r2, r3⟩
theorem OwnI.below {w w' : World} {base cap : Nat} {a : Option Addr} {l : List Int} (h : OwnI w base a cap l) (hb : Below w.heap.size w w') : OwnI w' base a cap l := h.keep (S := fun _ => False) (Keep.of_below hb) (fun _ _ e => e)
theorem one_ivI (l : List Int) : ∀ u ∈ l.map ivI, u.oneCell' = true := by
  intro u hu
  obtain ⟨x, _, rfl⟩ := List.mem_map.1 hu
  rfl
theorem newsI {w : World} {b off : Nat} {l : List Int} (hc : ∀ i, i < l.length → w.cell? ⟨b, off + i, none⟩ = some (.int .i64 (gI l i))) : ∀ j u, (l.map ivI)[j]? = some u → w.cell? ((⟨b, off, none⟩ : Addr).add j) = some u := by
  intro j u hj
  have hl : j < l.length := by
    have := (List.getElem?_eq_some_iff.1 hj).1
    simpa using this
  rw [List.getElem?_map, List.getElem?_eq_getElem hl] at hj
  have e := hc j hl
  unfold gI at e
  rw [List.getElem?_eq_getElem hl] at e
  simp only [Option.map_some, Option.some.injEq] at hj
  subst hj
  have hadd : (⟨b, off, none⟩ : Addr).add j = ⟨b, off + j, none⟩ := by unfold Addr.add; split <;> simp_all
  rw [hadd, e]
  rfl
/-- APPEND to numbers of the call's own, from numbers that lie anywhere. -/
theorem app_stepI {ops : Array Oper} {rest : List Oper} {o : Oper} {a : Act} {w : World} {Q : Exit → Act → World → Prop} (hgd : o.guard = none) (s x : Operand)
    (ho : o.op = .call { callee := .builtin .append, args := #[s, x], argTypes := #[23, 23] }) (base : Nat) (a0 : Option Addr) (cap0 : Nat) (ys : List Int) (hs : a.eval s = .slice a0 ys.length cap0) (hown : OwnI w base a0 cap0 ys)
    (sa : Option Addr) (n c : Nat) (zs : List Int) (hn : zs.length = n) (hx : a.eval x = .slice sa n c) (hnil : sa = none → c = 0) (hL : IL w sa zs) (rs : List Int) (hrs : rs = ys ++ zs) (hb : rs.length * 8 ≤ 140737488355328) (hbase : base ≤ w.heap.size)
    (h : ∀ a1 cap1 w', OwnI w' base a1 cap1 rs → Keep (blk a0) w w' → wpList Try.prog ops Q rest (a.put o.dst (.slice a1 rs.length cap1)) w') : wpList Try.prog ops Q (o :: rest) a w := by
  obtain ⟨i0, hi, hz0, hz1, hz2⟩ := info_parts infoInt
  subst hrs hn
  rw [List.length_append] at hb
  have fin : ∀ v' w', w'.ownsRow base 3 1 v' (ys.length + zs.length) (ys.map ivI ++ zs.map ivI) → w.grownBy w' (Value.slice a0 ys.length cap0).ownBlock → wpList Try.prog ops Q rest (a.put o.dst v') w' := by
    intro v' w' h1 h2
    have hv : ∃ a1 cap1, v' = .slice a1 (ys ++ zs).length cap1 := by
      rcases h1.2 with ⟨e, e2⟩ | ⟨g, cap', cur, e, _⟩
      · exact ⟨none, 0, by rw [e, List.length_append, e2]⟩
      · exact ⟨_, cap', by rw [e, List.length_append]⟩
    obtain ⟨a1, cap1, rfl⟩ := hv
    refine h a1 cap1 w' ?_ (keep_grown h2)
    unfold OwnI
    rw [List.map_append, List.length_append]
    rw [List.length_append] at h1
    exact h1
  have own' : w.ownsRow base 3 1 (.slice a0 ys.length cap0) ys.length (ys.map ivI) := hown
  cases hsa : sa with
  | none =>
    subst hsa
    have hz : zs = [] := by
      rcases hL with h | ⟨b, off, e, _⟩
      · exact h
      · cases e
    subst hz
    have hc0 := hnil rfl
    subst hc0
    refine wpList_append_own_none hgd s x 23 ho base 3 i0 1 Try.underlying23 hi _ _ _ hs own' hx ?_
    exact fin _ w (by simpa using own') ⟨rfl, rfl, rfl, Nat.le_refl _, fun _ _ _ => rfl⟩
  | some ad =>
    subst hsa
    refine wpList_append_own _ hgd s x 23 ho base 3 i0 (.int .i64 0) 1 8 Try.underlying23 hi hz0 hz1 hz2 rfl (by decide) _ _ _ hs own' ad zs.length c (zs.map ivI) hx (by simp) ?_ (one_ivI zs) (by unfold maxLen; omega) (by omega) hbase (fun v' w' h1 h2 _ => fin v' w' h1 h2)
    rcases hL with h | ⟨b, off, e, hc⟩
    · subst h
      intro j u hj
      simp at hj
    · cases e
      exact newsI hc
theorem il_one (w : World) (x : Int) : IL (w.alloc (.cells #[.int .i64 x] 3)) (some ⟨w.heap.size, 0, none⟩) [x] := by
  refine Or.inr ⟨w.heap.size, 0, rfl, fun i hi => ?_⟩
  obtain rfl : i = 0 := by simpa using hi
  simp [gI]
theorem sliceI_to (a : Option Addr) (n cap p : Nat) (h : p ≤ cap) (w : World) : (Instr.slice 23 (.slice a n cap) none (some (.int .i64 (p : Nat))) none).run Try.prog w = .ok (.slice a p cap) w := by
  have hu : Try.prog.underlying 23 = some (.slice (Try.prog.elem 23)) := by kernel_rfl
  have hs : (sizeOf (Try.prog.elem 23)).run Try.prog w = .ok 1 w := by kernel_rfl
  rw [run_slice_h w 23 _ n cap hu .i64 (p : Int) (by omega) (by omega), hs]
  have e : a.map (·.add 0) = a := by
    cases a with
    | none => rfl
    | some x => cases x; simp [Addr.add]
  simp [Result.andThen, sliced, e]
theorem sliceI_from (a : Option Addr) (n cap l : Nat) (h : l ≤ n) (hc : n ≤ cap) (w : World) : (Instr.slice 23 (.slice a n cap) (some (.int .i64 (l : Nat))) none none).run Try.prog w = .ok (.slice (dropA a cap l) (n - l) (cap - l)) w := by
  have hu : Try.prog.underlying 23 = some (.slice (Try.prog.elem 23)) := by kernel_rfl
  have hs : (sizeOf (Try.prog.elem 23)).run Try.prog w = .ok 1 w := by kernel_rfl
  rw [run_slice_l w 23 _ n cap hu .i64 (l : Int) (by omega) (by omega), hs]
  simp [Result.andThen, sliced, dropA]
end Go.Proofs.Ytohngekkbgklfaa
