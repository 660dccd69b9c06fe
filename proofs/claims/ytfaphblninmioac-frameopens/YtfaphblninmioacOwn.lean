/-
  Words of my own for slices that a call has made itself, and a law for append to one of them from bytes that lie anywhere.
-/
import Derived.Test.YtfaphblninmioacGood
import Derived.Laws.AppendOwnNone
namespace Go.Proofs.Ytfaphblninmioac
open Go.RowKit
set_option linter.unusedVariables false

/-- THE BYTES ys ARE THE CALL's OWN, at a (nil: there are none). -/
def OwnA (w : World) (base : Nat) (a : Option Addr) (cap : Nat) (ys : List Nat) : Prop := w.ownsRow base 5 1 (.slice a ys.length cap) ys.length (ys.map bv)
theorem OwnA.parts {w : World} {base cap : Nat} {a : Option Addr} {ys : List Nat} (h : OwnA w base a cap ys) :
    (a = none ∧ cap = 0 ∧ ys = []) ∨ ∃ g cur, a = some ⟨g, 0, none⟩ ∧ base ≤ g ∧ w.heap[g]? = some (.cells cur 5 (0, 0)) ∧ ys.length ≤ cap ∧ cap ≤ maxLen ∧ cur.size = cap ∧ cur.toList.take ys.length = ys.map bv := by
  rcases h.2 with ⟨h2, h3⟩ | ⟨g, cap', cur, hv, r1, r2, r3, r4, r5, r6⟩
  · simp at h2
    exact Or.inl ⟨h2.1, h2.2.2, h2.2.1⟩
  · simp at hv
    obtain ⟨rfl, rfl⟩ := hv
    exact Or.inr ⟨g, cur, rfl, r1, r2, r3, r4, by simpa using r5, by simpa using r6⟩
theorem OwnA.lies {w : World} {base cap : Nat} {a : Option Addr} {ys : List Nat} (h : OwnA w base a cap ys) : Lies w a ys := by
  rcases h.parts with ⟨_, _, h⟩ | ⟨g, cur, rfl, h1, h2, h3, h4, h5, h6⟩
  · exact Or.inl h
  · refine Or.inr ⟨g, 0, rfl, fun i hi => ?_⟩
    have e : (cur.toList.take ys.length)[i]? = (ys.map bv)[i]? := by rw [h6]
    rw [List.getElem?_take, if_pos hi, List.getElem?_map, List.getElem?_eq_getElem hi] at e
    rw [List.getElem?_eq_getElem hi, Nat.zero_add]
    simp only [World.cell?, h2]
    rw [← Array.getElem?_toList]
    simpa [bv] using e
theorem OwnA.nil0 {w : World} {base cap : Nat} {a : Option Addr} {ys : List Nat} (h : OwnA w base a cap ys) : a = none → cap = 0 := by
  rcases h.parts with ⟨_, h, _⟩ | ⟨g, cur, rfl, _⟩
  · exact fun _ => h
  · exact fun e => by cases e
/-- The blocks that an address names. -/
def blk (a : Option Addr) (b : Nat) : Prop := ∃ x, a = some x ∧ x.block = b
theorem OwnA.ge {w : World} {base cap : Nat} {a : Option Addr} {ys : List Nat} (h : OwnA w base a cap ys) {b : Nat} (hb : blk a b) : base ≤ b ∧ b < w.heap.size := by
  obtain ⟨x, rfl, rfl⟩ := hb
  rcases h.parts with ⟨e, _, _⟩ | ⟨g, cur, e, h1, h2, _⟩
  · cases e
  · cases e
    exact ⟨h1, heap_lt h2⟩
theorem OwnA.keep {S : Nat → Prop} {w w' : World} {base cap : Nat} {a : Option Addr} {ys : List Nat} (h : OwnA w base a cap ys) (hk : Keep S w w') (hs : ∀ b, blk a b → ¬ S b) : OwnA w' base a cap ys := by
  refine ⟨h.1, ?_⟩
  rcases h.2 with h2 | ⟨g, cap', cur, hv, r1, r2, r3⟩
  · exact Or.inl h2
  · have e : a = some ⟨g, 0, none⟩ := by simp at hv; exact hv.1
    exact Or.inr ⟨g, cap', cur, hv, r1, by rw [hk.block g (heap_lt r2) (hs g ⟨_, e, rfl⟩)]; exact r2, r3⟩
theorem OwnA.below {w w' : World} {base cap : Nat} {a : Option Addr} {ys : List Nat} (h : OwnA w base a cap ys) (hb : Below w.heap.size w w') : OwnA w' base a cap ys := h.keep (S := fun _ => False) (Keep.of_below hb) (fun _ _ e => e)
theorem OwnA.base {w : World} {base base' cap : Nat} {a : Option Addr} {ys : List Nat} (h : OwnA w base a cap ys) (hb : base' ≤ base) : OwnA w base' a cap ys := by
  refine ⟨h.1, ?_⟩
  rcases h.2 with h2 | ⟨g, cap', cur, hv, r1, r2⟩
  · exact Or.inl h2
  · exact Or.inr ⟨g, cap', cur, hv, by omega, r2⟩
theorem own_nil (w : World) (base : Nat) : OwnA w base none 0 [] := ⟨rfl, Or.inl ⟨rfl, rfl⟩⟩
theorem own_new (w : World) (base : Nat) (l : List Nat) (hb : base ≤ w.heap.size) (hl : l.length ≤ 1048576) (cs : Array Value) (hcs : cs = (l.map bv).toArray) : OwnA (w.alloc (.cells cs 5)) base (some ⟨w.heap.size, 0, none⟩) l.length l := by
  subst hcs
  refine ⟨by simp, Or.inr ⟨w.heap.size, l.length, (l.map bv).toArray, rfl, hb, heap_alloc_new w _, Nat.le_refl _, by unfold maxLen; omega, by simp, by rw [Nat.mul_one]; exact List.take_of_length_le (by simp)⟩⟩
theorem one_bv (bs : List Nat) : ∀ u ∈ bs.map bv, u.oneCell' = true := by
  intro u hu
  obtain ⟨x, _, rfl⟩ := List.mem_map.1 hu
  rfl
theorem news_of {w : World} {b off : Nat} {bs : List Nat} (hc : ∀ i, i < bs.length → w.cell? ⟨b, off + i, none⟩ = some (.int .u8 ((bs[i]?.getD 0 : Nat) : Int))) : ∀ j u, (bs.map bv)[j]? = some u → w.cell? ((⟨b, off, none⟩ : Addr).add j) = some u := by
  intro j u hj
  have hl : j < bs.length := by
    have := (List.getElem?_eq_some_iff.1 hj).1
    simpa using this
  rw [List.getElem?_map, List.getElem?_eq_getElem hl] at hj
  have e := hc j hl
  rw [List.getElem?_eq_getElem hl] at e
  simp only [Option.map_some, Option.some.injEq] at hj
  subst hj
  have hadd : (⟨b, off, none⟩ : Addr).add j = ⟨b, off + j, none⟩ := by unfold Addr.add; split <;> simp_all
  rw [hadd, e]
  rfl
theorem keep_grown {w w' : World} {a : Option Addr} {n c : Nat} (h : w.grownBy w' (Value.slice a n c).ownBlock) : Keep (blk a) w w' :=
  ⟨h.os, h.tape, h.output, h.size, fun k hk hs => h.block k hk (fun e => hs (by
    cases a with
    | none => cases e
    | some x => exact ⟨x, rfl, by simp [Value.ownBlock] at e; exact e.symm⟩))⟩
/-- APPEND to a slice of the call's own, from bytes that lie anywhere. -/
theorem app_step {ops : Array Oper} {rest : List Oper} {o : Oper} {a : Act} {w : World} {Q : Exit → Act → World → Prop} (hgd : o.guard = none) (s x : Operand)
    (ho : o.op = .call { callee := .builtin .append, args := #[s, x], argTypes := #[22, 22] }) (base : Nat) (a0 : Option Addr) (cap0 : Nat) (ys : List Nat) (hs : a.eval s = .slice a0 ys.length cap0) (hown : OwnA w base a0 cap0 ys)
    (sa : Option Addr) (c : Nat) (zs : List Nat) (hx : a.eval x = .slice sa zs.length c) (hnil : sa = none → c = 0) (hL : Lies w sa zs) (rs : List Nat) (hrs : rs = ys ++ zs) (hb : rs.length ≤ 1048576) (hbase : base ≤ w.heap.size)
    (h : ∀ a1 cap1 w', OwnA w' base a1 cap1 rs → Keep (blk a0) w w' → wpList Try.prog ops Q rest (a.put o.dst (.slice a1 rs.length cap1)) w') : wpList Try.prog ops Q (o :: rest) a w := by
  obtain ⟨i0, hi, hz0, hz1, hz2⟩ := info_parts info5
  subst hrs
  rw [List.length_append] at hb
  have fin : ∀ v' w', w'.ownsRow base 5 1 v' (ys.length + zs.length) (ys.map bv ++ zs.map bv) → w.grownBy w' (Value.slice a0 ys.length cap0).ownBlock → wpList Try.prog ops Q rest (a.put o.dst v') w' := by
    intro v' w' h1 h2
    have hv : ∃ a1 cap1, v' = .slice a1 (ys ++ zs).length cap1 := by
      rcases h1.2 with ⟨e, e2⟩ | ⟨g, cap', cur, e, _⟩
      · exact ⟨none, 0, by rw [e, List.length_append, e2]⟩
      · exact ⟨_, cap', by rw [e, List.length_append]⟩
    obtain ⟨a1, cap1, rfl⟩ := hv
    refine h a1 cap1 w' ?_ (keep_grown h2)
    unfold OwnA
    rw [List.map_append, List.length_append]
    rw [List.length_append] at h1
    exact h1
  have own' : w.ownsRow base 5 1 (.slice a0 ys.length cap0) ys.length (ys.map bv) := hown
  cases hsa : sa with
  | none =>
    subst hsa
    have hz : zs = [] := by
      rcases hL with h | ⟨b, off, e, _⟩
      · exact h
      · cases e
    subst hz
    have hc0 := hnil rfl
    subst hc0
    refine wpList_append_own_none hgd s x 22 ho base 5 i0 1 Try.underlying22 hi _ _ _ hs own' hx ?_
    exact fin _ w (by simpa using own') ⟨rfl, rfl, rfl, Nat.le_refl _, fun _ _ _ => rfl⟩
  | some ad =>
    subst hsa
    refine wpList_append_own _ hgd s x 22 ho base 5 i0 (.int .u8 0) 1 1 Try.underlying22 hi hz0 hz1 hz2 rfl (by decide) _ _ _ hs own' ad zs.length c (zs.map bv) hx (by simp) ?_ (one_bv zs) (by unfold maxLen; omega) (by omega) hbase (fun v' w' h1 h2 _ => fin v' w' h1 h2)
    rcases hL with h | ⟨b, off, e, hc⟩
    · subst h
      intro j u hj
      simp at hj
    · cases e
      exact news_of hc
theorem Keep.blk_below {w w' : World} {a : Option Addr} {B : Nat} (h : Keep (blk a) w w') (hB : B ≤ w.heap.size) (hs : ∀ b, blk a b → B ≤ b) : Below B w w' := h.below hB hs
end Go.Proofs.Ytfaphblninmioac
