/-
  What the call of put0 gives: an item in the place of the one of its lba, in a row of its own.
-/
import Derived.Test.YtphacdnepjpmoafLaw
import Derived.Test.YtphacdnepjpmoafMathPt
namespace Go.Proofs.Ytphacdnepjpmoaf
open Go.RowKit
set_option linter.unusedVariables false

def lbaR (M : List RN) (i : Nat) : Int := (M[i]?.getD rn0).it.lba
def ptR : List RN → RN → List RN
  | [], x => [x]
  | y :: r, x => if y.it.lba = x.it.lba then x :: r else y :: ptR r x
theorem ptR_it : ∀ (M : List RN) (x : RN), (ptR M x).map (·.it) = pt (M.map (·.it)) x.it
  | [], x => rfl
  | y :: r, x => by
    unfold ptR
    rw [List.map_cons]
    unfold pt
    split
    · rw [List.map_cons]
    · rw [List.map_cons, ptR_it r x]
theorem ptR_at : ∀ (M : List RN) (x : RN) (k : Nat), k < M.length → (∀ j, j < k → lbaR M j ≠ x.it.lba) → lbaR M k = x.it.lba → ptR M x = M.set k x
  | [], x, k, hk, _, _ => by simp at hk
  | y :: r, x, 0, _, _, h => by
    have : y.it.lba = x.it.lba := h
    unfold ptR
    rw [if_pos this]
    rfl
  | y :: r, x, k + 1, hk, hn, h => by
    have hy : y.it.lba ≠ x.it.lba := hn 0 (by omega)
    unfold ptR
    rw [if_neg hy, List.set_cons_succ, ptR_at r x k (by simpa using hk) (fun j hj => hn (j + 1) (by omega)) h]
theorem ptR_no : ∀ (M : List RN) (x : RN), (∀ j, j < M.length → lbaR M j ≠ x.it.lba) → ptR M x = M ++ [x]
  | [], x, _ => rfl
  | y :: r, x, hn => by
    have hy : y.it.lba ≠ x.it.lba := hn 0 (by simp)
    unfold ptR
    rw [if_neg hy, ptR_no r x (fun j hj => hn (j + 1) (by simpa using hj))]
    rfl
theorem ptR_mem : ∀ (M : List RN) (x y : RN), y ∈ ptR M x → y ∈ M ∨ y = x
  | [], x, y, h => by unfold ptR at h; simp at h; exact Or.inr h
  | z :: r, x, y, h => by
    unfold ptR at h
    split at h
    · rcases List.mem_cons.1 h with e | e
      · exact Or.inr e
      · exact Or.inl (by simp [e])
    · rcases List.mem_cons.1 h with e | e
      · exact Or.inl (by simp [e])
      · rcases ptR_mem r x y e with e | e
        · exact Or.inl (by simp [e])
        · exact Or.inr e
theorem has_lbaR {M : List RN} {l : Int} (h : ∀ j, j < M.length → lbaR M j ≠ l) : has (M.map (·.it)) l = false := by
  unfold has
  rw [List.any_eq_false]
  intro x hx
  obtain ⟨y, hy, rfl⟩ := List.mem_map.1 hx
  obtain ⟨j, hj, rfl⟩ := List.getElem_of_mem hy
  have := h j hj
  unfold lbaR at this
  rw [List.getElem?_eq_getElem hj] at this
  simpa using this
/-- The cells of a row. -/
theorem row_cells {M : List RN} {cur : Array Value} {off : Nat} (h : ∀ i, i < M.length → cur[off + i * 3]? = some (.int .i64 (M[i]?.getD rn0).it.lba) ∧ cur[off + i * 3 + 1]? = some (.bool (M[i]?.getD rn0).it.gone) ∧ cur[off + i * 3 + 2]? = some (.slice (M[i]?.getD rn0).a (M[i]?.getD rn0).it.data.length (M[i]?.getD rn0).cap)) (j : Nat) (hj : j < M.length * 3) : (cellsR M)[j]? = cur[off + j]? := by
  obtain ⟨q0, q1, q2⟩ := cellsR_at M (j / 3) (by omega)
  obtain ⟨p0, p1, p2⟩ := h (j / 3) (by omega)
  have e : j = j / 3 * 3 ∨ j = j / 3 * 3 + 1 ∨ j = j / 3 * 3 + 2 := by omega
  rcases e with e | e | e
  · rw [e, q0, p0]
  · rw [e, q1, ← Nat.add_assoc, p1]
  · rw [e, q2, ← Nat.add_assoc, p2]
/-- A row is copied. -/
theorem app_stepC {ops : Array Oper} {rest : List Oper} {o : Oper} {a : Act} {w : World} {Q : Exit → Act → World → Prop} (hgd : o.guard = none) (s x : Operand)
    (ho : o.op = .call { callee := .builtin .append, args := #[s, x], argTypes := #[34, 34] }) (base : Nat) (a0 : Option Addr) (cap0 : Nat) (hs : a.eval s = .slice a0 0 cap0) (hown : OwnR 41 w base a0 cap0 [])
    (sa : Option Addr) (c : Nat) (M : List RN) (hx : a.eval x = .slice sa M.length c) (hnil : sa = none → c = 0) (hL : RowAt 41 w sa M) (hb : M.length * 40 ≤ 140737488355328) (hbase : base ≤ w.heap.size)
    (h : ∀ a1 cap1 w', OwnR 41 w' base a1 cap1 M → Keep (blk a0) w w' → wpList Try.prog ops Q rest (a.put o.dst (.slice a1 M.length cap1)) w') : wpList Try.prog ops Q (o :: rest) a w := by
  obtain ⟨i0, hi, hz0, hz1, hz2⟩ := info_parts infoR
  have fin : ∀ v' w', w'.ownsRow base 41 3 v' (0 + M.length) ([] ++ cellsR M) → w.grownBy w' (Value.slice a0 0 cap0).ownBlock → wpList Try.prog ops Q rest (a.put o.dst v') w' := by
    intro v' w' h1 h2
    rw [Nat.zero_add, List.nil_append] at h1
    have hv : ∃ a1 cap1, v' = .slice a1 M.length cap1 := by
      rcases h1.2 with ⟨e, e2⟩ | ⟨g, cap', cur, e, _⟩
      · exact ⟨none, 0, by rw [e, e2]⟩
      · exact ⟨_, cap', e⟩
    obtain ⟨a1, cap1, rfl⟩ := hv
    exact h a1 cap1 w' h1 (keep_grown h2)
  have own' : w.ownsRow base 41 3 (.slice a0 0 cap0) 0 [] := hown
  cases hsa : sa with
  | none =>
    subst hsa
    have hz : M = [] := by
      rcases hL with h | ⟨b, off, cur, f, e, _⟩
      · exact h
      · cases e
    subst hz
    have hc0 := hnil rfl
    subst hc0
    refine wpList_append_own_none hgd s x 34 ho base 41 i0 3 Try.underlying34 hi _ _ _ hs own' hx ?_
    exact fin _ w (by simpa [cellsR] using own') ⟨rfl, rfl, rfl, Nat.le_refl _, fun _ _ _ => rfl⟩
  | some ad =>
    subst hsa
    refine wpList_append_own _ hgd s x 34 ho base 41 i0 _ 3 40 Try.underlying34 hi hz0 hz1 hz2 rfl (by decide) _ _ _ hs own' ad M.length c (cellsR M) hx (cellsR_len M) ?_ (one_cellsR M) (by unfold maxLen; omega) (by omega) hbase (fun v' w' h1 h2 _ => fin v' w' h1 h2)
    intro j u hj
    have hjl : j < M.length * 3 := by
      have := (List.getElem?_eq_some_iff.1 hj).1
      rw [cellsR_len] at this
      exact this
    rcases hL with h | ⟨g, off, cur, f, e, h1, h2⟩
    · rw [h] at hjl; simp at hjl
    · cases e
      have hadd : (⟨g, off, none⟩ : Addr).add j = ⟨g, off + j, none⟩ := by unfold Addr.add; split <;> simp_all
      rw [hadd]
      simp only [World.cell?, h1]
      rw [← row_cells h2 j hjl]
      exact hj
/-- One of them is set. -/
theorem OwnR.set {T : TypeId} {w : World} {base cap g k : Nat} {M : List RN} (h : OwnR T w base (some ⟨g, 0, none⟩) cap M) (hk : k < M.length) (x : RN) : RowAt T (((w.setCell ⟨g, k * 3, none⟩ (.int .i64 x.it.lba)).setCell ⟨g, k * 3 + 1, none⟩ (.bool x.it.gone)).setCell ⟨g, k * 3 + 2, none⟩ (.slice x.a x.it.data.length x.cap)) (some ⟨g, 0, none⟩) (M.set k x) := by
  rcases h.parts with ⟨e, _, _⟩ | ⟨g', cur, e, h1, h2, h3, h4, h5, h6⟩
  · cases e
  · cases e
    have hat := h.at
    rcases hat with e | ⟨g'', off, cur', f, e, q1, q2⟩
    · rw [e] at hk; simp at hk
    · cases e
      rw [h2] at q1
      cases q1
      refine Or.inr ⟨g, 0, _, _, rfl, set_blk (set_blk (set_blk h2 _) _) _, fun i hi => ?_⟩
      rw [List.length_set] at hi
      obtain ⟨p0, p1, p2⟩ := q2 i hi
      rw [Nat.zero_add] at p0 p1 p2 ⊢
      by_cases hik : i = k
      · subst hik
        have hs : i * 3 + 2 < cur.size := by omega
        rw [List.getElem?_set_self hk]
        simp only [Option.getD_some]
        refine ⟨?_, ?_, ?_⟩
        · rw [Array.getElem?_setIfInBounds_ne (by omega), Array.getElem?_setIfInBounds_ne (by omega), Array.getElem?_setIfInBounds_self_of_lt (by omega)]
        · rw [Array.getElem?_setIfInBounds_ne (by omega), Array.getElem?_setIfInBounds_self_of_lt (by rw [Array.size_setIfInBounds]; omega)]
        · rw [Array.getElem?_setIfInBounds_self_of_lt (by rw [Array.size_setIfInBounds, Array.size_setIfInBounds]; omega)]
      · rw [List.getElem?_set_ne (fun e => hik e.symm)]
        refine ⟨?_, ?_, ?_⟩
        · rw [Array.getElem?_setIfInBounds_ne (by omega), Array.getElem?_setIfInBounds_ne (by omega), Array.getElem?_setIfInBounds_ne (by omega)]; exact p0
        · rw [Array.getElem?_setIfInBounds_ne (by omega), Array.getElem?_setIfInBounds_ne (by omega), Array.getElem?_setIfInBounds_ne (by omega)]; exact p1
        · rw [Array.getElem?_setIfInBounds_ne (by omega), Array.getElem?_setIfInBounds_ne (by omega), Array.getElem?_setIfInBounds_ne (by omega)]; exact p2
theorem map0_any (w : World) : Calls Try.prog 9 #[] w fun e w' => e = .returned (.slice none 0 0) ∧ w' = w := by
  go_enter Try.func9, Try.ntmps9
  go_wp2
  go_ret
  exact ⟨rfl, rfl⟩
/-- What put0 gives. -/
def P0 (w w' : World) (e : Ending) (M : List RN) (x : RN) : Prop := ∃ a cap, e = .returned (.slice a (ptR M x).length cap) ∧ (a = none → cap = 0) ∧ RowAt 41 w' a (ptR M x) ∧ Below w.heap.size w w'
/-- Between two rounds. -/
structure PL (w wr : World) (M : List RN) (x : RN) (a : Option Addr) (cap : Nat) : Prop where
  own : OwnR 41 wr (w.heap.size + 1) a cap M
  bel : Below w.heap.size w wr
  box : wr.heap[w.heap.size]? = some (.cells #[.int .i64 x.it.lba, .bool x.it.gone, .slice x.a x.it.data.length x.cap] 41)
theorem PL.below {w wr w' : World} {M : List RN} {x : RN} {a : Option Addr} {cap : Nat} (h : PL w wr M x a cap) (hb : Below wr.heap.size wr w') : PL w w' M x a cap :=
  ⟨h.own.below hb, h.bel.trans (hb.mono h.bel.size), (hb.block _ (heap_lt h.box)).trans h.box⟩
end Go.Proofs.Ytphacdnepjpmoaf
