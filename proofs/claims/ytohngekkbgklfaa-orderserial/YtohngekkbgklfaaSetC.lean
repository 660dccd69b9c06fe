/-
  One field of one call of a row is set.
-/
import Derived.Test.YtohngekkbgklfaaCalls
namespace Go.Proofs.Ytohngekkbgklfaa
open Go.RowKit
set_option linter.unusedVariables false

def setF (c : Cl) (x : Int) : Cl := ⟨x, c.t, c.w, c.b, c.v⟩
def setT (c : Cl) (x : Int) : Cl := ⟨c.f, x, c.w, c.b, c.v⟩
theorem cells_setF : ∀ (l : List Cl) (i : Nat) (x : Int), i < l.length → cellsC (l.set i (setF (gC l i) x)) = (cellsC l).set (i * 5) (.int .i64 x)
  | [], i, x, h => by simp at h
  | c :: r, 0, x, _ => rfl
  | c :: r, i + 1, x, h => by
    have e : (i + 1) * 5 = i * 5 + 1 + 1 + 1 + 1 + 1 := by omega
    have ih := cells_setF r i x (by simpa using h)
    rw [e]
    simp only [List.set_cons_succ, cellsC, gC_cons, ih]
theorem cells_setT : ∀ (l : List Cl) (i : Nat) (x : Int), i < l.length → cellsC (l.set i (setT (gC l i) x)) = (cellsC l).set (i * 5 + 1) (.int .i64 x)
  | [], i, x, h => by simp at h
  | c :: r, 0, x, _ => rfl
  | c :: r, i + 1, x, h => by
    have e : (i + 1) * 5 + 1 = i * 5 + 1 + 1 + 1 + 1 + 1 + 1 := by omega
    have ih := cells_setT r i x (by simpa using h)
    rw [e]
    simp only [List.set_cons_succ, cellsC, gC_cons, ih]
theorem take_set {α : Type} (L : List α) (k j : Nat) (u : α) (h : j < k) : (L.set j u).take k = (L.take k).set j u := by
  apply List.ext_getElem?
  intro i
  rw [List.getElem?_take, List.getElem?_set, List.getElem?_set, List.length_take, List.getElem?_take]
  by_cases hi : i < k
  · by_cases hj : j = i
    · subst hj
      by_cases hl : j < L.length
      · simp [h, hl]
        omega
      · simp [h, hl]
        omega
    · simp [hi, hj]
  · simp [hi]
    intro e
    omega
theorem OwnC.setCell {w : World} {base cap : Nat} {g : Nat} {l l' : List Cl} (h : OwnC w base (some ⟨g, 0, none⟩) cap l) (j : Nat) (u : Value) (hl : l'.length = l.length) (hj : j < l.length * 5) (he : cellsC l' = (cellsC l).set j u) : OwnC (w.setCell ⟨g, j, none⟩ u) base (some ⟨g, 0, none⟩) cap l' := by
  rcases h.parts with ⟨e, _, _⟩ | ⟨g', cur, e, h1, h2, h3, h4, h5, h6⟩
  · cases e
  · cases e
    have hb : (w.setCell ⟨g, j, none⟩ u).heap[g]? = some (.cells (cur.toList.set j u).toArray 29 (0, 0)) := by
      have hs : Stc w g 29 cur.toList := by unfold Stc; simpa using h2
      exact hs.set j u
    refine ⟨by rw [hl]; exact cellsC_len l' |>.trans (by rw [hl]), Or.inr ⟨g, cap, _, by rw [hl], h1, hb, by omega, h4, by simp [h5], ?_⟩⟩
    rw [hl]
    show ((cur.toList.set j u).toArray.toList.take (l.length * 5)) = _
    rw [List.toList_toArray, take_set _ _ _ _ hj, h6, he]
theorem OwnC.at {w : World} {base cap : Nat} {g : Nat} {l : List Cl} (h : OwnC w base (some ⟨g, 0, none⟩) cap l) {i : Nat} (hi : i < l.length) : ClAt w g 0 i (gC l i) := by
  obtain ⟨g', off, e, h'⟩ := h.cl.some_of hi
  cases e
  exact h' i hi
theorem OwnC.free {w : World} {base cap : Nat} {g : Nat} {l : List Cl} (h : OwnC w base (some ⟨g, 0, none⟩) cap l) (j : Nat) : w.frozen? ⟨g, j, none⟩ = false := by
  rcases h.parts with ⟨e, _, _⟩ | ⟨g', cur, e, h1, h2, _⟩
  · cases e
  · cases e
    exact row_free h2 j
theorem OwnC.some_of {w : World} {base cap : Nat} {a : Option Addr} {l : List Cl} (h : OwnC w base a cap l) (hl : 0 < l.length) : ∃ g, a = some ⟨g, 0, none⟩ := by
  rcases h.parts with ⟨_, _, e⟩ | ⟨g, _, e, _⟩
  · rw [e] at hl; simp at hl
  · exact ⟨g, e⟩
theorem app_stepCq {ops : Array Oper} {rest : List Oper} {o : Oper} {a : Act} {w : World} {Q : Exit → Act → World → Prop} (hgd : o.guard = none) (s x : Operand)
    (ho : o.op = .call { callee := .builtin .append, args := #[s, x], argTypes := #[22, 22] }) (base : Nat) (a0 : Option Addr) (cap0 q0 : Nat) (ys : List Cl) (hq0 : ys.length = q0) (hs : a.eval s = .slice a0 q0 cap0) (hown : OwnC w base a0 cap0 ys)
    (sa : Option Addr) (n c : Nat) (zs : List Cl) (hn : zs.length = n) (hx : a.eval x = .slice sa n c) (hnil : sa = none → c = 0) (hL : CL w sa zs) (q : Nat) (hq : (ys ++ zs).length = q) (hb : q * 40 ≤ 140737488355328) (hbase : base ≤ w.heap.size)
    (h : ∀ a1 cap1 w', OwnC w' base a1 cap1 (ys ++ zs) → Keep (blk a0) w w' → wpList Try.prog ops Q rest (a.put o.dst (.slice a1 q cap1)) w') : wpList Try.prog ops Q (o :: rest) a w := by
  subst hq hq0
  exact app_stepC hgd s x ho base a0 cap0 ys hs hown sa n c zs hn hx hnil hL _ rfl hb hbase h
end Go.Proofs.Ytohngekkbgklfaa
