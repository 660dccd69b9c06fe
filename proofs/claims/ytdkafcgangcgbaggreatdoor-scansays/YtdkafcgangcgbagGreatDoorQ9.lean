/-
  The document's OpenOf by what a page tells.
-/
import Derived.Test.YtdkafcgangcgbagGreatDoorQRefOpenQ
import Derived.Test.YtdkafcgangcgbagGreatDoorQ3
import Derived.Test.YtdkafcgangcgbagGreatDoorQ1
import Derived.Test.YtdkafcgangcgbagGreatDoorQ7
namespace Go.Proofs.YtdkafcgangcgbagGreatDoorQ
open Go.Proofs.YtdkafcgangcgbagGreatDoorM
open Go.RowKit

theorem ref_sight (a : Option Addr) (p : List Nat) (cap : Nat) (w : World) (hA : AllB p) (hL : Lies w a p) (hcap : p.length ≤ cap) (hm : p.length ≤ 9223372036854775807) :
    Calls (Al.progOf Tryz.prog) 10 #[.slice a p.length cap] w fun e w' => SightPost w w' e p := by
  refine (refOpen_any a p cap w hA hL hcap hm).mono ?_
  rintro e w' (⟨h1, rfl, h2⟩ | ⟨h1, h2, a', c', rfl, _, h3⟩ | ⟨h1, h2, rfl, h3⟩)
  · obtain ⟨e1, e2, e3, e4⟩ := tell_erased h1
    exact ⟨none, 0, 0, by rw [e1, e2, e3, e4]; rfl, h2⟩
  · obtain ⟨e1, e2, e3, e4⟩ := tell_valid h1 h2
    exact ⟨a', _, c', by rw [e1, e2, e3, e4]; rfl, h3⟩
  · obtain ⟨e1, e2, e3, e4⟩ := tell_broken h1 h2
    exact ⟨none, 0, 0, by rw [e1, e2, e3, e4]; rfl, h3⟩
end Go.Proofs.YtdkafcgangcgbagGreatDoorQ
/-
  What the ghost's own plain.Told gives: the number of nil, of an api.Errno; nothing is turned.
-/
namespace Go.Proofs.YtdkafcgangcgbagGreatDoorQ
open Go.Proofs.YtdkafcgangcgbagGreatDoorM
open Go.RowKit

theorem q_assert (v : Value) (w : World) : (Instr.typeAssert (.iface 31 v) 25 31 true).run (Al.progOf Tryz.prog) w = .ok (.tuple #[v, .bool true]) w := by kernel_rfl
theorem q_assert_nil (w : World) : (Instr.typeAssert .nilIface 25 31 true).run (Al.progOf Tryz.prog) w = .ok (.tuple #[.int .i64 0, .bool false]) w := by kernel_rfl
set_option maxHeartbeats 800000 in
theorem toldq_nil (w : World) : Calls (Al.progOf Tryz.prog) 18 #[.nilIface] w fun e w' => e = .returned (.int .i64 0) ∧ w' = w := by
  have h1 := q_assert_nil
  go_enter Al.func18, Al.ntmps18
  unfold Al.toldB
  go_wp2
  go_ret
  exact ⟨rfl, rfl⟩
set_option maxHeartbeats 800000 in
theorem toldq_errno (k : Int) (w : World) : Calls (Al.progOf Tryz.prog) 18 #[.iface 31 (.int .i64 k)] w fun e w' => e = .returned (.int .i64 k) ∧ w' = w := by
  have h1 := q_assert (.int .i64 k)
  go_enter Al.func18, Al.ntmps18
  unfold Al.toldB
  go_wp2
  go_ret
  exact ⟨rfl, rfl⟩
end Go.Proofs.YtdkafcgangcgbagGreatDoorQ
/-
  What is newest, page by page: as the document's own function goes.
-/
namespace Go.Proofs.YtdkafcgangcgbagGreatDoorQ
open Go.Proofs.YtdkafcgangcgbagGreatDoorM
open Go.RowKit Go.Sort
set_option linter.unusedVariables false

theorem jn_nil : ∀ xs : List Fd, jn xs [] = xs
  | [] => rfl
  | x :: xs => by
    show x :: jn xs [] = x :: xs
    rw [jn_nil xs]
theorem jn_head (x y : Fd) (xs : List Fd) : jn (x :: xs) [y] = if x.lb < y.lb then x :: jn xs [y] else if y.lb < x.lb then y :: x :: xs else bst x y :: xs := by
  show ins x (jn xs) [y] = _
  unfold ins
  rw [jn_nil]
  unfold ins
  rw [jn_nil]
/-- All that come ahead of it stay. -/
theorem jn_at (y : Fd) : ∀ (xs : List Fd) (k : Nat), k ≤ xs.length → (∀ i, i < k → (gF xs i).lb < y.lb) → jn xs [y] = xs.take k ++ jn (xs.drop k) [y]
  | xs, 0, _, _ => rfl
  | [], k + 1, h, _ => by simp at h
  | x :: xs, k + 1, h, hl => by
    have h0 : x.lb < y.lb := hl 0 (by omega)
    rw [jn_head, if_pos h0, jn_at y xs k (by simpa using h) (fun i hi => hl (i + 1) (by omega))]
    rfl
theorem jn_end {y : Fd} {xs : List Fd} (hl : ∀ i, i < xs.length → (gF xs i).lb < y.lb) : jn xs [y] = xs ++ [y] := by
  rw [jn_at y xs xs.length (Nat.le_refl _) hl, List.take_length, List.drop_length]
  rfl
theorem drop_head {xs : List Fd} {k : Nat} (h : k < xs.length) : xs.drop k = gF xs k :: xs.drop (k + 1) := by
  rw [List.drop_eq_getElem_cons h]
  unfold gF
  rw [List.getElem?_eq_getElem h]
  rfl
theorem jn_more {y : Fd} {xs : List Fd} {k : Nat} (hk : k < xs.length) (hl : ∀ i, i < k → (gF xs i).lb < y.lb) (hg : y.lb < (gF xs k).lb) : jn xs [y] = xs.take k ++ y :: xs.drop k := by
  rw [jn_at y xs k (by omega) hl, drop_head hk, jn_head, if_neg (by omega), if_pos hg]
theorem jn_same {y : Fd} {xs : List Fd} {k : Nat} (hk : k < xs.length) (hl : ∀ i, i < k → (gF xs i).lb < y.lb) (hg : (gF xs k).lb = y.lb) : jn xs [y] = xs.set k (bst (gF xs k) y) := by
  rw [jn_at y xs k (by omega) hl, drop_head hk, jn_head, if_neg (by omega), if_neg (by omega), List.set_eq_take_append_cons_drop, if_pos hk]
theorem newF_no {p : Pg} (h : cntP [p] 0 = false) : newF [p] = [] := by
  have hf : flt [p] 1 = [] := by rw [flt_no h]; rfl
  unfold newF
  rw [show [p].length = 1 from rfl, hf]
  have : srt (fdP [p]) [] = [] := List.eq_nil_of_length_eq_zero (srt_len _ [])
  rw [this]
  rfl
theorem newF_yes {p : Pg} (h : cntP [p] 0 = true) : newF [p] = [fdP [p] 0] := by
  have hf : flt [p] 1 = [0] := by rw [flt_yes h]; rfl
  unfold newF
  rw [show [p].length = 1 from rfl, hf, show srt (fdP [p]) [0] = [0] by unfold srt; simp]
  rfl
/-- ONE PAGE MORE. -/
theorem newF_snoc_no {L : List Pg} {k : Nat} (hk : k < L.length) (h : cntP L k = false) : newF (L.take (k + 1)) = newF (L.take k) := by
  have e : L.take (k + 1) = L.take k ++ [gP L k] := by
    rw [List.take_succ_eq_append_getElem hk]
    unfold gP
    rw [List.getElem?_eq_getElem hk]
    rfl
  rw [e, newF_join, newF_no (show cntP [gP L k] 0 = false from h)]
  exact jn_nil _
theorem newF_snoc_yes {L : List Pg} {k : Nat} (hk : k < L.length) (h : cntP L k = true) : newF (L.take (k + 1)) = jn (newF (L.take k)) [fdP L k] := by
  have e : L.take (k + 1) = L.take k ++ [gP L k] := by
    rw [List.take_succ_eq_append_getElem hk]
    unfold gP
    rw [List.getElem?_eq_getElem hk]
    rfl
  have hl : (L.take k).length = k := by rw [List.length_take]; omega
  rw [e, newF_join, newF_yes (show cntP [gP L k] 0 = true from h), hl]
  rfl
end Go.Proofs.YtdkafcgangcgbagGreatDoorQ
/-
  Rows of founds: one is put in a row's place; a row's beginning and end; a row is appended to another.
-/
namespace Go.Proofs.YtdkafcgangcgbagGreatDoorQ
open Go.Proofs.YtdkafcgangcgbagGreatDoorM
open Go.RowKit
set_option linter.unusedVariables false

theorem cellsF_get : ∀ (es : List Fd) (j : Nat) (u : Value), (cellsF es)[j]? = some u → ∃ i r, j = i * 4 + r ∧ r < 4 ∧ i < es.length ∧ (encF (gF es i))[r]? = some u
  | [], j, u, h => by simp [cellsF] at h
  | e :: r, 0, u, h => ⟨0, 0, rfl, by omega, by simp, h⟩
  | e :: r, 1, u, h => ⟨0, 1, rfl, by omega, by simp, h⟩
  | e :: r, 2, u, h => ⟨0, 2, rfl, by omega, by simp, h⟩
  | e :: r, 3, u, h => ⟨0, 3, rfl, by omega, by simp, h⟩
  | e :: r, j + 4, u, h => by
    obtain ⟨i, q, e1, e2, e3, e4⟩ := cellsF_get r j u h
    exact ⟨i + 1, q, by omega, e2, by simp only [List.length_cons]; omega, e4⟩
theorem newsF {w : World} {b off : Nat} {M : List Fd} (hc : ∀ i, i < M.length → FAt (fun k => w.cell? ⟨b, k, none⟩) (off + i * 4) (gF M i)) : ∀ j u, (cellsF M)[j]? = some u → w.cell? ((⟨b, off, none⟩ : Addr).add j) = some u := by
  intro j u hj
  obtain ⟨i, r, rfl, hr, hi, he⟩ := cellsF_get M j u hj
  obtain ⟨h0, h1, h2, h3⟩ := hc i hi
  have hadd : (⟨b, off, none⟩ : Addr).add (i * 4 + r) = ⟨b, off + i * 4 + r, none⟩ := by unfold Addr.add; split <;> simp_all [Nat.add_assoc]
  rw [hadd, ← he]
  match r, hr with
  | 0, _ => exact h0
  | 1, _ => exact h1
  | 2, _ => exact h2
  | 3, _ => exact h3
theorem gF_take {M : List Fd} {k i : Nat} (h : i < k) : gF (M.take k) i = gF M i := by
  unfold gF; rw [List.getElem?_take, if_pos h]
theorem gF_drop {M : List Fd} {k i : Nat} : gF (M.drop k) i = gF M (k + i) := by
  unfold gF; rw [List.getElem?_drop]
theorem FRow.take {w : World} {a : Option Addr} {M : List Fd} (h : FRow w a M) (k : Nat) : FRow w a (M.take k) := by
  rcases h with rfl | ⟨b, off, e, h⟩
  · exact .inl (by simp)
  · refine .inr ⟨b, off, e, fun i hi => ?_⟩
    rw [List.length_take] at hi
    rw [gF_take (by omega)]
    exact h i (by omega)
def dropA (a : Option Addr) (cap l : Nat) : Option Addr := if cap = l then a else a.map (·.add (l * 4))
theorem FRow.drop {w : World} {a : Option Addr} {M : List Fd} {cap : Nat} (h : FRow w a M) (k : Nat) (hc : M.length ≤ cap) : FRow w (dropA a cap k) (M.drop k) := by
  by_cases hk : k < M.length
  · rcases h with rfl | ⟨b, off, rfl, h⟩
    · simp at hk
    · refine .inr ⟨b, off + k * 4, ?_, fun i hi => ?_⟩
      · unfold dropA
        rw [if_neg (by omega)]
        simp [Go.WideShapes.add_plain]
      · rw [List.length_drop] at hi
        rw [gF_drop, show off + k * 4 + i * 4 = off + (k + i) * 4 by omega]
        exact h (k + i) (by omega)
  · exact .inl (List.drop_eq_nil_of_le (by omega))
theorem slice_toF (a : Option Addr) (n cap k : Nat) (h : k ≤ cap) (w : World) : (Instr.slice 23 (.slice a n cap) none (some (.int .i64 (k : Int))) none).run (Al.progOf Tryz.prog) w = .ok (.slice a k cap) w := by
  have hu : (Al.progOf Tryz.prog).underlying 23 = some (.slice ((Al.progOf Tryz.prog).elem 23)) := by kernel_rfl
  have hs : (sizeOf ((Al.progOf Tryz.prog).elem 23)).run (Al.progOf Tryz.prog) w = .ok 4 w := by kernel_rfl
  rw [run_slice_h w 23 a n cap hu .i64 (k : Int) (by omega) (by omega), hs]
  cases a with
  | none => simp [Result.andThen, sliced]
  | some x => simp [Result.andThen, sliced, Addr.add]
theorem slice_fromF (a : Option Addr) (n cap k : Nat) (h : k ≤ n) (hc : n ≤ cap) (w : World) : (Instr.slice 23 (.slice a n cap) (some (.int .i64 (k : Int))) none none).run (Al.progOf Tryz.prog) w = .ok (.slice (dropA a cap k) (n - k) (cap - k)) w := by
  have hu : (Al.progOf Tryz.prog).underlying 23 = some (.slice ((Al.progOf Tryz.prog).elem 23)) := by kernel_rfl
  have hs : (sizeOf ((Al.progOf Tryz.prog).elem 23)).run (Al.progOf Tryz.prog) w = .ok 4 w := by kernel_rfl
  rw [run_slice_l w 23 a n cap hu .i64 (k : Int) (by omega) (by omega), hs]
  simp [Result.andThen, sliced, dropA]
/-- APPEND to a row of founds of the call's own, from founds that lie anywhere. -/
theorem app_moreF {ops : Array Oper} {rest : List Oper} {o : Oper} {a : Act} {w : World} {Q : Exit → Act → World → Prop} (hgd : o.guard = none) (s x : Operand)
    (ho : o.op = .call { callee := .builtin .append, args := #[s, x], argTypes := #[23, 23] }) (base : Nat) (a0 : Option Addr) (cap0 : Nat) (ys : List Fd) (n0 : Nat) (hn0 : n0 = ys.length) (hs : a.eval s = .slice a0 n0 cap0) (hown : OwnF w base a0 cap0 ys)
    (sa : Option Addr) (c : Nat) (zs : List Fd) (n1 : Nat) (hn1 : n1 = zs.length) (hx : a.eval x = .slice sa n1 c) (hnil : sa = none → c = 0) (hL : FRow w sa zs) (rs : List Fd) (hrs : rs = ys ++ zs) (hb : rs.length ≤ 1048576) (hbase : base ≤ w.heap.size)
    (h : ∀ a1 cap1 w', OwnF w' base a1 cap1 rs → Keep (blk a0) w w' → wpList (Al.progOf Tryz.prog) ops Q rest (a.put o.dst (.slice a1 rs.length cap1)) w') : wpList (Al.progOf Tryz.prog) ops Q (o :: rest) a w := by
  obtain ⟨i0, hi, hz0, hz1, hz2⟩ := info_parts infoF
  subst hrs hn0 hn1
  rw [List.length_append] at hb
  have fin : ∀ v' w', w'.ownsRow base 46 4 v' (ys.length + zs.length) (cellsF ys ++ cellsF zs) → w.grownBy w' (Value.slice a0 ys.length cap0).ownBlock → wpList (Al.progOf Tryz.prog) ops Q rest (a.put o.dst v') w' := by
    intro v' w' h1 h2
    have hv : ∃ a1 cap1, v' = .slice a1 (ys ++ zs).length cap1 := by
      rcases h1.2 with ⟨e, e2⟩ | ⟨g, cap', cur, e, _⟩
      · exact ⟨none, 0, by rw [e, List.length_append, e2]⟩
      · exact ⟨_, cap', by rw [e, List.length_append]⟩
    obtain ⟨a1, cap1, rfl⟩ := hv
    refine h a1 cap1 w' ?_ (keep_grown h2)
    unfold OwnF
    rw [cellsF_app, List.length_append]
    rw [List.length_append] at h1
    exact h1
  have own' : w.ownsRow base 46 4 (.slice a0 ys.length cap0) ys.length (cellsF ys) := hown
  cases hsa : sa with
  | none =>
    subst hsa
    have hz : zs = [] := by
      rcases hL with h | ⟨b, off, e, _⟩
      · exact h
      · cases e
    subst hz
    have hc0 := hnil rfl
    subst hc0
    refine wpList_append_own_none hgd s x 23 ho base 46 i0 4 undF hi _ _ _ hs own' hx ?_
    exact fin _ w (by simpa [cellsF] using own') ⟨rfl, rfl, rfl, Nat.le_refl _, fun _ _ _ => rfl⟩
  | some ad =>
    subst hsa
    refine wpList_append_own _ hgd s x 23 ho base 46 i0 _ 4 32 undF hi hz0 hz1 hz2 rfl (by decide) _ _ _ hs own' ad zs.length c (cellsF zs) hx (cellsF_len zs) ?_ (one_cellsF zs) (by unfold maxLen; omega) (by omega) hbase (fun v' w' h1 h2 _ => fin v' w' h1 h2)
    rcases hL with h | ⟨b, off, e, hc⟩
    · subst h
      intro j u hj
      simp [cellsF] at hj
    · cases e
      exact newsF hc
/-- ONE is put in the place of another. -/
theorem cellsF_set : ∀ (M : List Fd) (k : Nat) (x : Fd), k < M.length → cellsF (M.set k x) = ((((cellsF M).set (k * 4) (.int .i64 (x.lb : Nat))).set (k * 4 + 1) (.int .i64 (x.pg : Nat))).set (k * 4 + 2) (.int .i64 (x.sq : Nat))).set (k * 4 + 3) (.int .i64 (x.kd : Nat))
  | [], k, x, h => by simp at h
  | e :: r, 0, x, h => rfl
  | e :: r, k + 1, x, h => by
    have ih := cellsF_set r k x (by simpa using h)
    have e1 : (k + 1) * 4 = k * 4 + 1 + 1 + 1 + 1 := by omega
    have e2 : (k + 1) * 4 + 1 = k * 4 + 1 + 1 + 1 + 1 + 1 := by omega
    have e3 : (k + 1) * 4 + 2 = k * 4 + 2 + 1 + 1 + 1 + 1 := by omega
    have e4 : (k + 1) * 4 + 3 = k * 4 + 3 + 1 + 1 + 1 + 1 := by omega
    rw [e4, e3, e2, e1, List.set_cons_succ]
    simp only [cellsF, List.set_cons_succ, ih]
theorem take_set4 {cur : Array Value} {n o : Nat} {v : Value} (h : o < n) : (cur.setIfInBounds o v).toList.take n = (cur.toList.take n).set o v := by
  rw [Array.toList_setIfInBounds, List.take_set]
theorem OwnF.put {w w2 : World} {base cap g : Nat} {M : List Fd} (h : OwnF w base (some ⟨g, 0, none⟩) cap M) (hw : w2.heap[g]? = w.heap[g]?) {k : Nat} (hk : k < M.length) (x : Fd) :
    (∀ o, w2.frozen? ⟨g, o, none⟩ = false) ∧ (∀ o, o < 4 → ∃ v, w2.cell? ⟨g, k * 4 + o, none⟩ = some v) ∧
    OwnF ((((w2.setCell ⟨g, k * 4, none⟩ (.int .i64 (x.lb : Nat))).setCell ⟨g, k * 4 + 1, none⟩ (.int .i64 (x.pg : Nat))).setCell ⟨g, k * 4 + 2, none⟩ (.int .i64 (x.sq : Nat))).setCell ⟨g, k * 4 + 3, none⟩ (.int .i64 (x.kd : Nat))) base (some ⟨g, 0, none⟩) cap (M.set k x) := by
  rcases h.parts with ⟨e, _⟩ | ⟨g', cur, e, h1, h2, h3, h4, h5, h6⟩
  · cases e
  cases e
  have h2' := hw.trans h2
  refine ⟨fun o => row_free h2' o, fun o ho => ⟨cur[k * 4 + o]'(by omega), by simp [World.cell?, h2', show k * 4 + o < cur.size by omega]⟩, ?_⟩
  refine ⟨by rw [cellsF_len, List.length_set], Or.inr ⟨g, cap, _, by rw [List.length_set], h1, set_row (set_row (set_row (set_row h2' (k * 4) _) (k * 4 + 1) _) (k * 4 + 2) _) (k * 4 + 3) _, by rw [List.length_set]; exact h3, h4, by simpa using h5, ?_⟩⟩
  rw [List.length_set, cellsF_set M k x hk, take_set4 (by omega), take_set4 (by omega), take_set4 (by omega), take_set4 (by omega), h6]
end Go.Proofs.YtdkafcgangcgbagGreatDoorQ
