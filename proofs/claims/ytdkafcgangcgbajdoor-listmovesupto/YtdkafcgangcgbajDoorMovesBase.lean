/-
  Words for the law ListMoves: append in a region that draws its order; one byte of a row of the call's own is set; what is wanted, what is left.
-/
import Derived.Test.YtdkafcgangcgbajDoorScatter
import Derived.Test.YtdkafcgangcgbajDoorFilled
import Derived.Test.YtdkafcgangcgbajDoorRFits
import Derived.Maps.AppendAt
namespace Go.Proofs.YtdkafcgangcgbajDoor
open Go.RowKit
set_option linter.unusedVariables false

/-- APPEND to a slice of the call's own, from bytes that lie anywhere, in a region that draws its order. -/
theorem step_app {ops : Array Oper} {o : Oper} {a : Act} {w : World} {K : Act → World → Prop} {Q : Exit → Act → World → Prop} {E : Prop} (hgd : o.guard = none) (s x : Operand)
    (ho : o.op = .call { callee := .builtin .append, args := #[s, x], argTypes := #[22, 22] }) (base : Nat) (a0 : Option Addr) (cap0 : Nat) (ys : List Nat) (hs : a.eval s = .slice a0 ys.length cap0) (hown : OwnA w base a0 cap0 ys)
    (sa : Option Addr) (n c : Nat) (zs : List Nat) (hn : zs.length = n) (hx : a.eval x = .slice sa n c) (hnil : sa = none → c = 0) (hL : Lies w sa zs) (rs : List Nat) (hrs : rs = ys ++ zs) (hb : rs.length ≤ 140737488355328) (hbase : base ≤ w.heap.size)
    (h : ∀ a1 cap1 w', OwnA w' base a1 cap1 rs → Keep (blk a0) w w' → K (a.put o.dst (.slice a1 rs.length cap1)) w') :
    if Region.wanted o (yielded ops a.tmps) = true then Oper.wp Tryd.prog o a w K Q else E := by
  have hwt : Region.wanted o (yielded ops a.tmps) = true := by simp [Region.wanted, hgd]
  rw [if_pos hwt]
  obtain ⟨i0, hi, hz0, hz1, hz2⟩ := info_parts info5
  subst hn hrs
  rw [List.length_append] at hb
  have own' : w.ownsRow base 5 1 (.slice a0 ys.length cap0) ys.length (ys.map bv) := hown
  have fin : ∀ v' w', w'.ownsRow base 5 1 v' (ys.length + zs.length) (ys.map bv ++ zs.map bv) → w.grownBy w' (Value.slice a0 ys.length cap0).ownBlock → K (a.put o.dst v') w' := by
    intro v' w' h1 h2
    have hv : ∃ a1 cap1, v' = .slice a1 (ys ++ zs).length cap1 := by
      rcases h1.2 with ⟨e, e2⟩ | ⟨g, cap', cur, e, _⟩
      · exact ⟨none, 0, by rw [e, List.length_append, e2]⟩
      · exact ⟨_, cap', by rw [e, List.length_append]⟩
    obtain ⟨a1, cap1, rfl⟩ := hv
    refine h a1 cap1 w' ?_ (keep_grown h2)
    unfold OwnA
    rw [List.map_append, List.length_append]
    rw [List.length_append] at h1
    exact h1
  cases hsa : sa with
  | none =>
    subst hsa
    have hz : zs = [] := by
      rcases hL with h | ⟨b, off, e, _⟩
      · exact h
      · cases e
    subst hz
    have hc0 := hnil rfl
    subst hc0
    have hrun := run_append_owned_none (P := Tryd.prog) (w := w) base 22 o.type 5 i0 1 Tryd.underlying22 hi _ _ _ own'
    unfold Oper.wp
    simp [execOp, ho, resolve, invoke, builtin, hs, hx, hrun, Result.andThen]
    exact fin _ w (by simpa using own') ⟨rfl, rfl, rfl, Nat.le_refl _, fun _ _ _ => rfl⟩
  | some ad =>
    subst hsa
    have hnews : ∀ j u, (zs.map bv)[j]? = some u → w.cell? (ad.add j) = some u := by
      rcases hL with h | ⟨b, off, e, hc⟩
      · subst h
        intro j u hj
        simp at hj
      · cases e
        exact news_of hc
    obtain ⟨v', w', hr, h2, h3, _, _⟩ := run_append_own_at (P := Tryd.prog) w base 22 o.type 5 i0 (.int .u8 0) 1 1 Tryd.underlying22 hi hz0 hz1 hz2 rfl (by decide) _ _ _ own' ad zs.length c (zs.map bv) (by simp) hnews (one_bv zs) (by unfold maxLen; omega) (by omega) hbase
    unfold Oper.wp
    simp only [execOp, ho, resolve, invoke, builtin, Sem.run_bind, Sem.run_pure, Result.andThen_ok, List.map_toArray, List.map_cons, List.map_nil, hs, hx, hr]
    exact fin v' w' h2 h3
/-- One byte of a row of the call's own is set. -/
theorem OwnA.set {w : World} {base g cap : Nat} {ys : List Nat} (h : OwnA w base (some ⟨g, 0, none⟩) cap ys) {i : Nat} (v : Nat) (hi : i < ys.length) :
    OwnA (w.setCell ⟨g, i, none⟩ (.int .u8 (v : Nat))) base (some ⟨g, 0, none⟩) cap (ys.set i v) ∧ w.frozen? ⟨g, i, none⟩ = false ∧ w.cell? ⟨g, i, none⟩ = some (.int .u8 ((ys[i]?.getD 0 : Nat) : Int)) := by
  have hl := h.lies
  rcases h.parts with ⟨e, _⟩ | ⟨g', cur, e, h1, h2, h3, h4, h5, h6⟩
  · cases e
  · cases e
    refine ⟨?_, by simp [World.frozen?, h2], ?_⟩
    · refine ⟨by simp, Or.inr ⟨g, cap, cur.setIfInBounds i (.int .u8 (v : Nat)), by simp, h1, ?_, by simpa using h3, h4, by simpa using h5, ?_⟩⟩
      · simp [World.setCell, Array.getElem?_modify, h2]
      · rw [Nat.mul_one, List.length_set, Array.toList_setIfInBounds, List.take_set, h6, List.map_set]
        rfl
    · rcases hl with h | ⟨b, off, e, hc⟩
      · rw [h] at hi; simp at hi
      · cases e
        have := hc i hi
        rw [Nat.zero_add] at this
        exact this
/-- While the law ListMoves reckons what is wanted. -/
structure MI (w wr : World) (b : List Nat) (L : List Sg) (n0 k : Nat) (a : Option Addr) (c : Nat) (ys : List Nat) (en left : Nat) (sh : Bool) : Prop where
  bel : Below w.heap.size w wr
  own : OwnA wr w.heap.size a c ys
  ok : en = 0 → allF b.length (L.take k) = true ∧ ys = gath b (L.take k)
  bad : en ≠ 0 → allF b.length L = false
  f0 : sh = false → fillF L (n0 : Int) = fillF (L.drop k) (left : Int)
  f1 : sh = true → fillF L (n0 : Int) = false
/-- What is left, and whether it does not fit, behind one segment more. -/
theorem fil_step {L : List Sg} {n0 k left : Nat} {sh : Bool} (hk : k < L.length) (f0 : sh = false → fillF L (n0 : Int) = fillF (L.drop k) (left : Int)) (f1 : sh = true → fillF L (n0 : Int) = false) :
    ((left : Int) < (gS L k).n → (true = false → fillF L (n0 : Int) = fillF (L.drop (k + 1)) (left : Int)) ∧ (true = true → fillF L (n0 : Int) = false)) ∧
    (¬ (left : Int) < (gS L k).n → ¬ 0 < (gS L k).n → (sh = false → fillF L (n0 : Int) = fillF (L.drop (k + 1)) (left : Int)) ∧ (sh = true → fillF L (n0 : Int) = false)) ∧
    (¬ (left : Int) < (gS L k).n → ∀ N : Nat, (gS L k).n = (N : Int) → (sh = false → fillF L (n0 : Int) = fillF (L.drop (k + 1)) ((left - N : Nat) : Int)) ∧ (sh = true → fillF L (n0 : Int) = false)) := by
  refine ⟨fun h => ⟨fun e => (by cases e), fun _ => ?_⟩, fun h h2 => ⟨fun e => ?_, f1⟩, fun h N hN => ⟨fun e => ?_, f1⟩⟩
  · cases hs : sh with
    | true => exact f1 hs
    | false => rw [f0 hs, fillF_drop hk, if_pos h]
  · rw [f0 e, fillF_drop hk, if_neg h, Int.max_eq_right (by omega), Int.sub_zero]
  · rw [f0 e, fillF_drop hk, if_neg h, Int.max_eq_left (by omega), hN, show (left : Int) - (N : Int) = ((left - N : Nat) : Int) by omega]
theorem allF_take {N : Nat} {L : List Sg} {k : Nat} (hk : k < L.length) : allF N (L.take (k + 1)) = (allF N (L.take k) && decide (fits N (gS L k).p (gS L k).n)) := by
  rw [take_snocS hk, allF_app]
  simp [allF]
end Go.Proofs.YtdkafcgangcgbajDoor
