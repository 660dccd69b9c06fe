/-
  Words of my own for entries and batches as they lie; a row of batches of the call's own, to which is appended.
-/
import Derived.Test.YtalmcjkaheofpaeDoorBatch
namespace Go.Proofs.YtalmcjkaheofpaeDoor
open Go.RowKit
set_option linter.unusedVariables false

/-- ENTRIES LIE AT a. -/
def EnsAt (w : World) (a : Option Addr) (es : List En) : Prop :=
  es = [] ∨ ∃ b off, a = some ⟨b, off, none⟩ ∧ ∀ i, i < es.length → w.cell? ⟨b, off + i * 3, none⟩ = some (.int .i64 (es[i]?.getD en0).k) ∧ w.cell? ⟨b, off + i * 3 + 1, none⟩ = some (.int .i64 (es[i]?.getD en0).a) ∧ w.cell? ⟨b, off + i * 3 + 2, none⟩ = some (.int .i64 (es[i]?.getD en0).b)
/-- BATCHES LIE AT a. -/
def BatAt (w : World) (a : Option Addr) (l : List (List En)) : Prop :=
  l = [] ∨ ∃ b off, a = some ⟨b, off, none⟩ ∧ ∀ i, i < l.length → ∃ ea ec, w.cell? ⟨b, off + i, none⟩ = some (.slice ea (l[i]?.getD []).length ec) ∧ EnsAt w ea (l[i]?.getD [])
theorem EnsAt.below {w w' : World} {a : Option Addr} {es : List En} (h : EnsAt w a es) (hb : Below w.heap.size w w') : EnsAt w' a es := by
  rcases h with h | ⟨b, off, rfl, h⟩
  · exact Or.inl h
  · refine Or.inr ⟨b, off, rfl, fun i hi => ?_⟩
    obtain ⟨h1, h2, h3⟩ := h i hi
    have hc : ∀ q, w'.cell? ⟨b, q, none⟩ = w.cell? ⟨b, q, none⟩ := fun q => hb.cell (p := ⟨b, q, none⟩) (World.block_lt_of_cell? w ⟨b, off + i * 3, none⟩ h1)
    exact ⟨by rw [hc]; exact h1, by rw [hc]; exact h2, by rw [hc]; exact h3⟩
theorem BatAt.below {w w' : World} {a : Option Addr} {l : List (List En)} (h : BatAt w a l) (hb : Below w.heap.size w w') : BatAt w' a l := by
  rcases h with h | ⟨b, off, rfl, h⟩
  · exact Or.inl h
  · refine Or.inr ⟨b, off, rfl, fun i hi => ?_⟩
    obtain ⟨ea, ec, h1, h2⟩ := h i hi
    exact ⟨ea, ec, by rw [hb.cell (p := ⟨b, off + i, none⟩) (World.block_lt_of_cell? w _ h1)]; exact h1, h2.below hb⟩
theorem BatAt.take {w : World} {a : Option Addr} {l : List (List En)} (h : BatAt w a l) (k : Nat) : BatAt w a (l.take k) := by
  rcases h with h | ⟨b, off, rfl, h⟩
  · exact Or.inl (by rw [h, List.take_nil])
  · refine Or.inr ⟨b, off, rfl, fun i hi => ?_⟩
    rw [List.length_take] at hi
    rw [List.getElem?_take, if_pos (by omega)]
    exact h i (by omega)
/-- ENTRIES IN A BLOCK OF THEIR OWN, in blocks from base on. -/
def EnsOwn (w : World) (base : Nat) (a : Option Addr) (es : List En) : Prop :=
  es = [] ∨ ∃ g cur, a = some ⟨g, 0, none⟩ ∧ base ≤ g ∧ w.heap[g]? = some (.cells cur 45 (0, 0)) ∧ ∀ i, i < es.length → cur[i * 3]? = some (.int .i64 (es[i]?.getD en0).k) ∧ cur[i * 3 + 1]? = some (.int .i64 (es[i]?.getD en0).a) ∧ cur[i * 3 + 2]? = some (.int .i64 (es[i]?.getD en0).b)
theorem EB.own {w : World} {g n base : Nat} {es : List En} (h : EB w g n es) (hg : base ≤ g) : EnsOwn w base (some ⟨g, 0, none⟩) es := by
  obtain ⟨cur, h1, h2, h3⟩ := h
  exact Or.inr ⟨g, cur, rfl, hg, h1, h3⟩
theorem EnsOwn.at {w : World} {base : Nat} {a : Option Addr} {es : List En} (h : EnsOwn w base a es) : EnsAt w a es := by
  rcases h with h | ⟨g, cur, rfl, _, h1, h3⟩
  · exact Or.inl h
  · refine Or.inr ⟨g, 0, rfl, fun i hi => ?_⟩
    obtain ⟨p1, p2, p3⟩ := h3 i hi
    simp only [Nat.zero_add, World.cell?, h1]
    exact ⟨p1, p2, p3⟩
theorem EnsOwn.keep {S : Nat → Prop} {w w' : World} {base : Nat} {a : Option Addr} {es : List En} (h : EnsOwn w base a es) (hk : Keep S w w') (hs : ∀ g cur, w.heap[g]? = some (.cells cur 45 (0, 0)) → ¬ S g) : EnsOwn w' base a es := by
  rcases h with h | ⟨g, cur, rfl, h0, h1, h3⟩
  · exact Or.inl h
  · exact Or.inr ⟨g, cur, rfl, h0, (hk.block g (heap_lt h1) (hs g cur h1)).trans h1, h3⟩
theorem EnsOwn.below {w w' : World} {base : Nat} {a : Option Addr} {es : List En} (h : EnsOwn w base a es) (hb : Below w.heap.size w w') : EnsOwn w' base a es := h.keep (S := fun _ => False) (Keep.of_below hb) (fun _ _ _ e => e)
/-- A ROW OF BATCHES OF THE CALL's OWN at a (nil: there are none), each in a block of its own. -/
def OwnH (w : World) (base : Nat) (a : Option Addr) (cap : Nat) (l : List (List En)) : Prop :=
  ∃ hs : List Value, hs.length = l.length ∧ w.ownsRow base 41 1 (.slice a l.length cap) l.length hs ∧ ∀ i, i < l.length → ∃ ea ec, hs[i]? = some (.slice ea (l[i]?.getD []).length ec) ∧ EnsOwn w base ea (l[i]?.getD [])
theorem OwnH.nil (w : World) (base : Nat) : OwnH w base none 0 [] := ⟨[], rfl, ⟨rfl, Or.inl ⟨rfl, rfl⟩⟩, fun i hi => by simp at hi⟩
theorem OwnH.blk {w : World} {base cap : Nat} {a : Option Addr} {l : List (List En)} (h : OwnH w base a cap l) {b : Nat} (hb : blk a b) : base ≤ b ∧ ∃ cur, w.heap[b]? = some (.cells cur 41 (0, 0)) := by
  obtain ⟨x, rfl, rfl⟩ := hb
  obtain ⟨hs, h1, h2, h3⟩ := h
  rcases h2.2 with ⟨e, _⟩ | ⟨g, cap', cur, hv, r1, r2, r3⟩
  · simp at e
  · simp at hv
    obtain ⟨rfl, _⟩ := hv
    exact ⟨r1, cur, r2⟩
theorem OwnH.keep {S : Nat → Prop} {w w' : World} {base cap : Nat} {a : Option Addr} {l : List (List En)} (h : OwnH w base a cap l) (hk : Keep S w w') (h1 : ∀ b, YtalmcjkaheofpaeDoor.blk a b → ¬ S b) (h2 : ∀ g cur, w.heap[g]? = some (.cells cur 45 (0, 0)) → ¬ S g) : OwnH w' base a cap l := by
  obtain ⟨hs, p1, p2, p3⟩ := h
  refine ⟨hs, p1, ⟨p2.1, ?_⟩, fun i hi => ?_⟩
  · rcases p2.2 with e | ⟨g, cap', cur, hv, r1, r2, r3⟩
    · exact Or.inl e
    · have e : a = some ⟨g, 0, none⟩ := by simp at hv; exact hv.1
      exact Or.inr ⟨g, cap', cur, hv, r1, by rw [hk.block g (heap_lt r2) (h1 g ⟨_, e, rfl⟩)]; exact r2, r3⟩
  · obtain ⟨ea, ec, q1, q2⟩ := p3 i hi
    exact ⟨ea, ec, q1, q2.keep hk h2⟩
theorem OwnH.below {w w' : World} {base cap : Nat} {a : Option Addr} {l : List (List En)} (h : OwnH w base a cap l) (hb : Below w.heap.size w w') : OwnH w' base a cap l := h.keep (S := fun _ => False) (Keep.of_below hb) (fun _ _ e => e) (fun _ _ _ e => e)
theorem OwnH.at {w : World} {base cap : Nat} {a : Option Addr} {l : List (List En)} (h : OwnH w base a cap l) : BatAt w a l := by
  obtain ⟨hs, p1, p2, p3⟩ := h
  rcases p2.2 with ⟨e, e2⟩ | ⟨g, cap', cur, hv, r1, r2, r3, r4, r5, r6⟩
  · exact Or.inl (List.eq_nil_of_length_eq_zero e2)
  · simp at hv
    obtain ⟨rfl, rfl⟩ := hv
    refine Or.inr ⟨g, 0, rfl, fun i hi => ?_⟩
    obtain ⟨ea, ec, q1, q2⟩ := p3 i hi
    refine ⟨ea, ec, ?_, q2.at⟩
    have e : (cur.toList.take (l.length * 1))[i]? = hs[i]? := by rw [r6]
    rw [List.getElem?_take, if_pos (by omega), q1] at e
    rw [Nat.zero_add]
    simp only [World.cell?, r2]
    rw [← Array.getElem?_toList]
    exact e
theorem infoH : (Tryd.prog.info? 41).map (fun i => (i.zero, i.size, i.bytes)) = some (some (.slice none 0 0), 1, 24) := by kernel_rfl
/-- ONE BATCH MORE IS APPENDED. -/
theorem app_stepH {ops : Array Oper} {rest : List Oper} {o : Oper} {a : Act} {Q : Exit → Act → World → Prop} (hgd : o.guard = none) (s x : Operand)
    (ho : o.op = .call { callee := .builtin .append, args := #[s, x], argTypes := #[22, 22] }) (w : World) (base cap0 ec : Nat) (a0 ea : Option Addr) (l : List (List En)) (es : List En)
    (hs : a.eval s = .slice a0 l.length cap0) (hx : a.eval x = .slice (some ⟨w.heap.size, 0, none⟩) 1 1) (h : OwnH w base a0 cap0 l) (he : EnsOwn w base ea es) (hk : l.length ≤ 1073741824) (hb : base ≤ w.heap.size)
    (hc : ∀ a1 cap1 w', OwnH w' base a1 cap1 (l ++ [es]) → Keep (blk a0) w w' → wpList Tryd.prog ops Q rest (a.put o.dst (.slice a1 (l.length + 1) cap1)) w') :
    wpList Tryd.prog ops Q (o :: rest) a (w.alloc (.cells #[.slice ea es.length ec] 41)) := by
  obtain ⟨i0, hi, hz0, hz1, hz2⟩ := info_parts infoH
  have hbl : Below w.heap.size w (w.alloc (.cells #[.slice ea es.length ec] 41)) := (Below.refl _ _).alloc (Nat.le_refl _) _
  have ho' := h.below hbl
  have he' := he.below hbl
  obtain ⟨hs', p1, p2, p3⟩ := ho'
  refine wpList_append_lies (w.alloc (.cells #[.slice ea es.length ec] 41)) hgd s x 22 ho base 41 i0 (.slice none 0 0) 1 24 Tryd.underlying22 hi hz0 hz1 hz2 rfl (by decide) (.slice a0 l.length cap0) l.length _ hs p2 ⟨w.heap.size, 0, none⟩ 1 1 [.slice ea es.length ec] hx rfl (World.news_of_block (heap_alloc_new w _)) (fun u hu => by simp at hu; subst hu; rfl) (by decide) (by unfold maxLen; omega) (by omega) (Nat.le_trans hb hbl.size) _ rfl ?_
  intro g cap1 w' h2 h3 _ _
  have hkk : Keep (YtalmcjkaheofpaeDoor.blk a0) (w.alloc (.cells #[.slice ea es.length ec] 41)) w' := keep_grown h3
  have hty : ∀ g cur, (w.alloc (.cells #[.slice ea es.length ec] 41)).heap[g]? = some (.cells cur 45 (0, 0)) → ¬ YtalmcjkaheofpaeDoor.blk a0 g := by
    intro g cur hg hb2
    obtain ⟨_, cur2, hg2⟩ := (h.below hbl).blk hb2
    rw [hg] at hg2
    cases hg2
  refine hc (some ⟨g, 0, none⟩) cap1 w' ⟨hs' ++ [.slice ea es.length ec], by simp [p1], by rw [List.length_append]; exact h2, fun i hi => ?_⟩ ((Keep.of_below hbl).trans hkk)
  rw [List.length_append, List.length_singleton] at hi
  by_cases hh : i < l.length
  · obtain ⟨ea', ec', q1, q2⟩ := p3 i hh
    rw [List.getElem?_append_left hh, List.getElem?_append_left (by omega)]
    exact ⟨ea', ec', q1, q2.keep hkk hty⟩
  · have e0 : i = l.length := by omega
    subst e0
    rw [List.getElem?_append_right (Nat.le_refl _), List.getElem?_append_right (by omega), p1, Nat.sub_self]
    exact ⟨ea, ec, rfl, he'.keep hkk hty⟩
/-- Where a slice begins that is cut from place l on. -/
def dropA (a : Option Addr) (cap l : Nat) : Option Addr := if cap = l then a else a.map (·.add l)
theorem slice_from (a : Option Addr) (n cap l : Nat) (h : l ≤ n) (w : World) : (Instr.slice 23 (.slice a n cap) (some (.int .i64 (l : Int))) none none).run Tryd.prog w = .ok (.slice (dropA a cap l) (n - l) (cap - l)) w := by
  have hu : Tryd.prog.underlying 23 = some (.slice (Tryd.prog.elem 23)) := by kernel_rfl
  have hs : (sizeOf (Tryd.prog.elem 23)).run Tryd.prog w = .ok 1 w := by kernel_rfl
  rw [run_slice_l w 23 _ n cap hu .i64 (l : Int) (by omega) (by omega), hs]
  simp [Result.andThen, sliced, dropA]
theorem Lies.drop {w : World} {a : Option Addr} {bs : List Nat} {cap : Nat} (h : Lies w a bs) (l : Nat) (hc : bs.length ≤ cap) : Lies w (dropA a cap l) (bs.drop l) := by
  by_cases hl : l < bs.length
  · rcases h with h | ⟨b, off, rfl, h⟩
    · rw [h] at hl; simp at hl
    · refine Or.inr ⟨b, off + l, ?_, fun i hi => ?_⟩
      · unfold dropA
        rw [if_neg (by omega)]
        simp [Go.WideShapes.add_plain]
      · rw [List.length_drop] at hi
        rw [List.getElem?_drop, Nat.add_assoc]
        exact h (l + i) (by omega)
  · exact Or.inl (List.drop_eq_nil_of_le (by omega))
end Go.Proofs.YtalmcjkaheofpaeDoor
