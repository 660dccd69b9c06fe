/-
  A list of numbers of the call's own that slides: one is appended at its end, one is cut off at its beginning.
-/
import Derived.Test.YtnfjfffchhiooaaDoorInts
import Derived.ArgAppend
namespace Go.Proofs.YtnfjfffchhiooaaDoor
open Go.RowKit
set_option linter.unusedVariables false

/-- THE NUMBERS l ARE THE CALL's OWN, at a, wherever in a block they begin. -/
def OwnO (w : World) (base : Nat) (a : Option Addr) (cap : Nat) (l : List Int) : Prop :=
  l.length ≤ cap ∧ ((a = none ∧ cap = 0) ∨ ∃ g off cur, a = some ⟨g, off, none⟩ ∧ base ≤ g ∧ w.heap[g]? = some (.cells cur 3 (0, 0)) ∧ off + cap ≤ cur.size ∧ ∀ i, i < l.length → w.cell? ⟨g, off + i, none⟩ = some (.int .i64 (gI l i)))
theorem OwnO.nil (w : World) (base : Nat) : OwnO w base none 0 [] := ⟨Nat.le_refl _, Or.inl ⟨rfl, rfl⟩⟩
theorem OwnO.blk {w : World} {base cap : Nat} {a : Option Addr} {l : List Int} (h : OwnO w base a cap l) {b : Nat} (hb : YtnfjfffchhiooaaDoor.blk a b) : base ≤ b ∧ b < w.heap.size := by
  obtain ⟨x, rfl, rfl⟩ := hb
  rcases h.2 with ⟨e, _⟩ | ⟨g, off, cur, e, h1, h2, _⟩
  · cases e
  · cases e
    exact ⟨h1, heap_lt h2⟩
theorem OwnO.keep {S : Nat → Prop} {w w' : World} {base cap : Nat} {a : Option Addr} {l : List Int} (h : OwnO w base a cap l) (hk : Keep S w w') (hs : ∀ b, YtnfjfffchhiooaaDoor.blk a b → ¬ S b) : OwnO w' base a cap l := by
  refine ⟨h.1, ?_⟩
  rcases h.2 with h2 | ⟨g, off, cur, e, h1, h2, h3, h4⟩
  · exact Or.inl h2
  · have hn := hs g ⟨_, e, rfl⟩
    exact Or.inr ⟨g, off, cur, e, h1, (hk.block g (heap_lt h2) hn).trans h2, h3, fun i hi => (hk.cell (p := ⟨g, off + i, none⟩) (heap_lt h2) hn).trans (h4 i hi)⟩
theorem OwnO.below {w w' : World} {base cap : Nat} {a : Option Addr} {l : List Int} (h : OwnO w base a cap l) (hb : Below w.heap.size w w') : OwnO w' base a cap l := h.keep (S := fun _ => False) (Keep.of_below hb) (fun _ _ e => e)
theorem OwnO.first {w : World} {base cap : Nat} {a : Option Addr} {x : Int} {l : List Int} (h : OwnO w base a cap (x :: l)) : ∃ g off, a = some ⟨g, off, none⟩ ∧ w.cell? ⟨g, off, none⟩ = some (.int .i64 x) := by
  have h0 := h.1
  simp only [List.length_cons] at h0
  rcases h.2 with ⟨_, e⟩ | ⟨g, off, cur, e, h1, h2, h3, h4⟩
  · omega
  · have := h4 0 (by simp)
    exact ⟨g, off, e, by simpa [gI] using this⟩
theorem OwnO.cut {w : World} {base cap : Nat} {a : Option Addr} {x : Int} {l : List Int} (h : OwnO w base a cap (x :: l)) : OwnO w base (dropA a cap 1) (cap - 1) l := by
  have h0 := h.1
  simp only [List.length_cons] at h0
  refine ⟨by omega, ?_⟩
  rcases h.2 with ⟨_, e⟩ | ⟨g, off, cur, rfl, h1, h2, h3, h4⟩
  · omega
  · right
    unfold dropA
    by_cases hc : cap = 1
    · rw [if_pos hc]
      have hl : l = [] := List.eq_nil_of_length_eq_zero (by omega)
      subst hl
      exact ⟨g, off, cur, rfl, h1, h2, by omega, fun i hi => by simp at hi⟩
    · rw [if_neg hc]
      refine ⟨g, off + 1, cur, by simp [Go.WideShapes.add_plain], h1, h2, by omega, fun i hi => ?_⟩
      have := h4 (i + 1) (by simp; omega)
      rw [show off + 1 + i = off + (i + 1) by omega, this]
      simp [gI]
theorem OwnO.cut_blk {cap b : Nat} {a : Option Addr} (h : YtnfjfffchhiooaaDoor.blk (dropA a cap 1) b) : YtnfjfffchhiooaaDoor.blk a b := by
  unfold dropA at h
  split at h
  · exact h
  · obtain ⟨x, hx, rfl⟩ := h
    cases a with
    | none => simp at hx
    | some y =>
      simp at hx
      exact ⟨y, rfl, by rw [← hx]; simp [Addr.add]⟩
theorem own_of_I {w : World} {base B cap : Nat} {a : Option Addr} {l : List Int} (h : OwnI w B a cap l) (hB : base ≤ B) : OwnO w base a cap l := by
  rcases h.parts with ⟨rfl, rfl, rfl⟩ | ⟨g, cur, rfl, h1, h2, h3, h4, h5, h6⟩
  · exact OwnO.nil _ _
  · refine ⟨h3, Or.inr ⟨g, 0, cur, rfl, by omega, h2, by omega, fun i hi => ?_⟩⟩
    rcases h.il with e | ⟨g', off', e, hc⟩
    · subst e; simp at hi
    · cases e; exact hc i hi
theorem keep_none {w w' : World} (h : w.grownBy w' none) : Keep (fun _ => False) w w' := ⟨h.os, h.tape, h.output, h.size, fun k hk _ => h.block k hk (fun e => by cases e)⟩
/-- ONE MORE IS APPENDED. -/
theorem app_slide {ops : Array Oper} {rest : List Oper} {o : Oper} {a : Act} {Q : Exit → Act → World → Prop} (hgd : o.guard = none) (s x : Operand)
    (ho : o.op = .call { callee := .builtin .append, args := #[s, x], argTypes := #[22, 22] }) (w : World) (base cap0 L : Nat) (a0 : Option Addr) (l : List Int) (v : Int) (hL : l.length = L)
    (hs : a.eval s = .slice a0 L cap0) (hx : a.eval x = .slice (some ⟨w.heap.size, 0, none⟩) 1 1) (h : OwnO w base a0 cap0 l) (hk : L ≤ 4096) (hb : base ≤ w.heap.size)
    (hc : ∀ a1 cap1 w', OwnO w' base a1 cap1 (l ++ [v]) → (∀ b, YtnfjfffchhiooaaDoor.blk a1 b → YtnfjfffchhiooaaDoor.blk a0 b ∨ w.heap.size ≤ b) → Keep (YtnfjfffchhiooaaDoor.blk a0) w w' → wpList Tryd.prog ops Q rest (a.put o.dst (.slice a1 (L + 1) cap1)) w') :
    wpList Tryd.prog ops Q (o :: rest) a (w.alloc (.cells #[.int .i64 v] 3)) := by
  obtain ⟨i0, hi, hz0, hz1, hz2⟩ := info_parts infoInt
  subst hL
  have hbl : Below w.heap.size w (w.alloc (.cells #[.int .i64 v] 3)) := alloc_below' w _
  have h' : OwnO (w.alloc (.cells #[.int .i64 v] 3)) base a0 cap0 l := h.below hbl
  have hsz : (w.alloc (.cells #[.int .i64 v] 3)).heap.size = w.heap.size + 1 := by simp
  have hnews : ∀ j u, [Value.int .i64 v][j]? = some u → (w.alloc (.cells #[.int .i64 v] 3)).cell? ((⟨w.heap.size, 0, none⟩ : Addr).add j) = some u := newsI (l := [v]) (fun i hi => by
    obtain rfl : i = 0 := by simpa using hi
    simp [gI])
  have grown : ∀ v' w', w'.ownsRow (w.alloc (.cells #[.int .i64 v] 3)).heap.size 3 1 v' (l.length + 1) (l.map ivI ++ [Value.int .i64 v]) → (w.alloc (.cells #[.int .i64 v] 3)).grownBy w' none → wpList Tryd.prog ops Q rest (a.put o.dst v') w' := by
    intro v' w' r1 r2
    have hv : ∃ a1 cap1, v' = .slice a1 (l ++ [v]).length cap1 := by
      rcases r1.2 with ⟨e, e2⟩ | ⟨g, cap', cur, e, _⟩
      · omega
      · exact ⟨_, cap', by rw [e, List.length_append]; rfl⟩
    obtain ⟨a1, cap1, rfl⟩ := hv
    have hI : OwnI w' (w.heap.size + 1) a1 cap1 (l ++ [v]) := by
      rw [hsz] at r1
      unfold OwnI
      rw [List.map_append, List.length_append]
      rw [List.length_append] at r1
      exact r1
    have hk2 := keep_none r2
    have e := hc a1 cap1 w' (own_of_I hI (by omega)) (fun b hb => Or.inr (by have := (hI.blk hb).1; omega)) (((Keep.of_below hbl).trans (hk2.mono (fun _ e => e.elim))))
    rw [List.length_append]
    exact e
  have hlo : (l.map ivI).length = l.length * 1 := by simp
  rcases h'.2 with ⟨rfl, rfl⟩ | ⟨g, off, cur, rfl, h1, h2, h3, h4⟩
  · have hl0 : l = [] := List.eq_nil_of_length_eq_zero (by have := h.1; omega)
    subst hl0
    refine wpList_append_grows (w.alloc (.cells #[.int .i64 v] 3)) hgd s x 22 ho 3 i0 (.int .i64 0) 1 8 Tryd.underlying22 hi hz0 hz1 hz2 rfl (by decide) none 0 0 [] hs (fun _ => ⟨rfl, rfl⟩) rfl (fun b e => by cases e) ⟨w.heap.size, 0, none⟩ 1 1 [.int .i64 v] hx rfl hnews (fun u hu => by simp at hu; subst hu; rfl) (by omega) (by unfold maxLen; omega) (by omega) grown
  · refine wpList_append_arg (w.alloc (.cells #[.int .i64 v] 3)) hgd s x 22 ho 3 i0 (.int .i64 0) 1 8 Tryd.underlying22 hi hz0 hz1 hz2 rfl (by decide) g off l.length cap0 (l.map ivI) hs hlo ?_ ⟨w.heap.size, 0, none⟩ 1 1 [.int .i64 v] hx rfl hnews (fun u hu => by simp at hu; subst hu; rfl) ?_ (by unfold maxLen; omega) (by omega) ?_ (fun _ => grown)
    · intro j u hj
      have := newsI (b := g) (off := off) h4 j u hj
      rwa [Go.WideShapes.add_plain] at this
    · intro hr j hj
      simp at hj
      subst hj
      refine ⟨?_, by simp [World.frozen?, h2]⟩
      simp only [World.cell?, h2]
      rw [Array.getElem?_eq_getElem (by omega)]
      rfl
    · intro hr
      rw [Nat.mul_one]
      show wpList _ _ _ _ _ ((w.alloc (.cells #[.int .i64 v] 3)).setCell ⟨g, off + l.length, none⟩ (.int .i64 v))
      have hk3 : Keep (fun b => b = g) (w.alloc (.cells #[.int .i64 v] 3)) ((w.alloc (.cells #[.int .i64 v] 3)).setCell ⟨g, off + l.length, none⟩ (.int .i64 v)) := (Keep.refl _ _).set1 _ _
      have hin : off + l.length < cur.size := by omega
      refine hc (some ⟨g, off, none⟩) cap0 _ ⟨by rw [List.length_append]; exact hr, Or.inr ⟨g, off, cur.set! (off + l.length) (.int .i64 v), rfl, h1, ?_, by simp; omega, fun i hi => ?_⟩⟩ (fun b hb => Or.inl hb) ((Keep.of_below hbl).trans (hk3.mono (fun b e => ⟨_, rfl, e.symm⟩)))
      · simp [World.setCell, Array.getElem?_modify, h2]
      · rw [List.length_append] at hi
        have hi' : i < l.length + 1 := hi
        by_cases e : i = l.length
        · subst e
          rw [World.cell?_setCell_same _ _ _ (by simp only [World.cell?, h2]; rw [Array.getElem?_eq_getElem hin]; rfl)]
          simp [gI]
        · rw [far _ (fun e2 => e (by omega)), h4 i (by omega)]
          unfold gI
          rw [List.getElem?_append_left (by omega)]
end Go.Proofs.YtnfjfffchhiooaaDoor
