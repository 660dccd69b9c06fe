/-
  The one page that the laws pack first; pages that stay.
-/
import Derived.Test.YtdkafcgangcgbagGreatDoorQ6
import Derived.Laws.AppendOwnNone
namespace Go.Proofs.YtdkafcgangcgbagGreatDoorQ
open Go.Proofs.YtdkafcgangcgbagGreatDoorM
open Go.RowKit
set_option linter.unusedVariables false

abbrev onePg (g : Nat) : Pg := ⟨some ⟨g, 0, none⟩, packL 24 1 3 1 [], 24⟩
theorem one_tell : stP (packL 24 1 3 1 []) = 2 ∧ kdP (packL 24 1 3 1 []) = 1 ∧ lbP (packL 24 1 3 1 []) = 3 ∧ sqP (packL 24 1 3 1 []) = 1 := ⟨by kernel_rfl, by kernel_rfl, by kernel_rfl, by kernel_rfl⟩
theorem one_new (g : Nat) : newF [onePg g] = [⟨3, 0, 1, 1⟩] := by
  obtain ⟨t0, t1, t2, t3⟩ := one_tell
  have hc : cntP [onePg g] 0 = true := by
    unfold cntP
    rw [show (gP [onePg g] 0).p = packL 24 1 3 1 [] from rfl, t0, t1]
    rfl
  have hf : flt [onePg g] 1 = [0] := by rw [flt_yes hc]; rfl
  have hd : fdP [onePg g] 0 = ⟨3, 0, 1, 1⟩ := by
    unfold fdP
    rw [show (gP [onePg g] 0).p = packL 24 1 3 1 [] from rfl, t1, t2, t3]
  unfold newF
  rw [show [onePg g].length = 1 from rfl, hf, show srt (fdP [onePg g]) [0] = [0] by unfold srt; simp, List.map_cons, List.map_nil, hd]
  rfl
theorem one_all : AllB (packL 24 1 3 1 []) := fun x hx => by
  have h : (packL 24 1 3 1 []).all (fun x => decide (x < 256)) = true := by kernel_rfl
  exact of_decide_eq_true (List.all_eq_true.1 h x hx)
theorem one_ok : FOk 24 1 3 1 ([] : List Nat).length := by
  constructor <;> decide
theorem Pgs.below {w w' : World} {pa : Option Addr} {L : List Pg} (h : Pgs w pa L) (hb : Below w.heap.size w w') : Pgs w' pa L := by
  rcases h with h | ⟨b, off, e, h⟩
  · exact .inl h
  · exact .inr ⟨b, off, e, h.below hb⟩
theorem one_pages {w1 : World} {g : Nat} (h : Row w1 g (packL 24 1 3 1 [])) : Pgs (w1.alloc (.cells #[.slice (some ⟨g, 0, none⟩) 24 24] 36)) (some ⟨w1.heap.size, 0, none⟩) [onePg g] := by
  refine .inr ⟨w1.heap.size, 0, rfl, fun i hi => ?_⟩
  obtain rfl : i = 0 := by simp at hi; omega
  have hl : (packL 24 1 3 1 []).length = 24 := by kernel_rfl
  refine ⟨?_, ⟨?_, ?_, ?_, ?_⟩⟩
  · rw [show gP [onePg g] 0 = onePg g from rfl]
    simp [hl]
  · show AllB (packL 24 1 3 1 [])
    exact one_all
  · show Lies _ (some ⟨g, 0, none⟩) (packL 24 1 3 1 [])
    exact (row_lies h).below (alloc_below' w1 _)
  · show (packL 24 1 3 1 []).length ≤ 24
    omega
  · show (packL 24 1 3 1 []).length ≤ 9223372036854775807
    omega
theorem newF_len (L : List Pg) : (newF L).length ≤ L.length := by
  unfold newF cpt
  rw [List.length_map]
  refine Nat.le_trans (kep_len _ _) ?_
  rw [List.length_map, srt_len]
  exact flt_len L L.length
end Go.Proofs.YtdkafcgangcgbagGreatDoorQ
/-
  Rows of pages of the call's own, to which is appended; pages that are cut off others.
-/
namespace Go.Proofs.YtdkafcgangcgbagGreatDoorQ
open Go.Proofs.YtdkafcgangcgbagGreatDoorM
open Go.RowKit
set_option linter.unusedVariables false

def valP (g : Pg) : Value := .slice g.a g.p.length g.c
/-- Pages lie there, as values. -/
def LieP (w : World) (a : Option Addr) (L : List Pg) : Prop := L = [] ∨ ∃ b off, a = some ⟨b, off, none⟩ ∧ ∀ i, i < L.length → w.cell? ⟨b, off + i, none⟩ = some (valP (gP L i))
theorem Pgs.lieP {w : World} {a : Option Addr} {L : List Pg} (h : Pgs w a L) : LieP w a L := by
  rcases h with h | ⟨b, off, e, h⟩
  · exact .inl h
  · exact .inr ⟨b, off, e, fun i hi => (h i hi).1⟩
theorem LieP.below {w w' : World} {a : Option Addr} {L : List Pg} (h : LieP w a L) (hb : Below w.heap.size w w') : LieP w' a L := by
  rcases h with h | ⟨b, off, e, h⟩
  · exact .inl h
  · exact .inr ⟨b, off, e, fun i hi => lies_cell hb (h i hi)⟩
theorem gP_take {L : List Pg} {k i : Nat} (h : i < k) : gP (L.take k) i = gP L i := by
  unfold gP; rw [List.getElem?_take, if_pos h]
theorem gP_drop {L : List Pg} {k i : Nat} : gP (L.drop k) i = gP L (k + i) := by
  unfold gP; rw [List.getElem?_drop]
theorem LieP.take {w : World} {a : Option Addr} {L : List Pg} (h : LieP w a L) (k : Nat) : LieP w a (L.take k) := by
  rcases h with rfl | ⟨b, off, e, h⟩
  · exact .inl (by simp)
  · refine .inr ⟨b, off, e, fun i hi => ?_⟩
    rw [List.length_take] at hi
    rw [gP_take (by omega)]
    exact h i (by omega)
def dropP (a : Option Addr) (cap l : Nat) : Option Addr := if cap = l then a else a.map (·.add l)
theorem LieP.drop {w : World} {a : Option Addr} {L : List Pg} {cap : Nat} (h : LieP w a L) (k : Nat) (hc : L.length ≤ cap) : LieP w (dropP a cap k) (L.drop k) := by
  by_cases hk : k < L.length
  · rcases h with rfl | ⟨b, off, rfl, h⟩
    · simp at hk
    · refine .inr ⟨b, off + k, ?_, fun i hi => ?_⟩
      · unfold dropP
        rw [if_neg (by omega)]
        simp [Go.WideShapes.add_plain]
      · rw [List.length_drop] at hi
        rw [gP_drop, Nat.add_assoc]
        exact h (k + i) (by omega)
  · exact .inl (List.drop_eq_nil_of_le (by omega))
theorem slice_to (a : Option Addr) (n cap k : Nat) (h : k ≤ cap) (w : World) : (Instr.slice 22 (.slice a n cap) none (some (.int .i64 (k : Int))) none).run (Al.progOf Tryz.prog) w = .ok (.slice a k cap) w := by
  have hu : (Al.progOf Tryz.prog).underlying 22 = some (.slice ((Al.progOf Tryz.prog).elem 22)) := by kernel_rfl
  have hs : (sizeOf ((Al.progOf Tryz.prog).elem 22)).run (Al.progOf Tryz.prog) w = .ok 1 w := by kernel_rfl
  rw [run_slice_h w 22 a n cap hu .i64 (k : Int) (by omega) (by omega), hs]
  cases a with
  | none => simp [Result.andThen, sliced]
  | some x => simp [Result.andThen, sliced, Addr.add]
theorem slice_from (a : Option Addr) (n cap k : Nat) (h : k ≤ n) (hc : n ≤ cap) (w : World) : (Instr.slice 22 (.slice a n cap) (some (.int .i64 (k : Int))) none none).run (Al.progOf Tryz.prog) w = .ok (.slice (dropP a cap k) (n - k) (cap - k)) w := by
  have hu : (Al.progOf Tryz.prog).underlying 22 = some (.slice ((Al.progOf Tryz.prog).elem 22)) := by kernel_rfl
  have hs : (sizeOf ((Al.progOf Tryz.prog).elem 22)).run (Al.progOf Tryz.prog) w = .ok 1 w := by kernel_rfl
  rw [run_slice_l w 22 a n cap hu .i64 (k : Int) (by omega) (by omega), hs]
  simp [Result.andThen, sliced, dropP]
/-- A ROW OF PAGES OF THE CALL's OWN. -/
def OwnP (w : World) (base : Nat) (a : Option Addr) (cap : Nat) (L : List Pg) : Prop := w.ownsRow base 36 1 (.slice a L.length cap) L.length (L.map valP)
theorem OwnP.parts {w : World} {base cap : Nat} {a : Option Addr} {L : List Pg} (h : OwnP w base a cap L) :
    (a = none ∧ cap = 0 ∧ L = []) ∨ ∃ g cur, a = some ⟨g, 0, none⟩ ∧ base ≤ g ∧ w.heap[g]? = some (.cells cur 36 (0, 0)) ∧ L.length ≤ cap ∧ cap ≤ maxLen ∧ cur.size = cap ∧ cur.toList.take L.length = L.map valP := by
  rcases h.2 with ⟨h2, h3⟩ | ⟨g, cap', cur, hv, r1, r2, r3, r4, r5, r6⟩
  · simp at h2
    exact Or.inl ⟨h2.1, h2.2.2, h2.2.1⟩
  · simp at hv
    obtain ⟨rfl, rfl⟩ := hv
    exact Or.inr ⟨g, cur, rfl, r1, r2, r3, r4, by simpa using r5, by simpa using r6⟩
theorem OwnP.lie {w : World} {base cap : Nat} {a : Option Addr} {L : List Pg} (h : OwnP w base a cap L) : LieP w a L := by
  rcases h.parts with ⟨_, _, h⟩ | ⟨g, cur, rfl, h1, h2, h3, h4, h5, h6⟩
  · exact Or.inl h
  · refine Or.inr ⟨g, 0, rfl, fun i hi => ?_⟩
    have e : (cur.toList.take L.length)[i]? = (L.map valP)[i]? := by rw [h6]
    rw [List.getElem?_take, if_pos hi, List.getElem?_map, List.getElem?_eq_getElem hi] at e
    have eg : gP L i = L[i] := by unfold gP; rw [List.getElem?_eq_getElem hi]; rfl
    rw [eg, Nat.zero_add]
    simp only [World.cell?, h2]
    rw [← Array.getElem?_toList]
    simpa using e
theorem OwnP.ge {w : World} {base cap : Nat} {a : Option Addr} {L : List Pg} (h : OwnP w base a cap L) {b : Nat} (hb : blk a b) : base ≤ b ∧ b < w.heap.size := by
  obtain ⟨x, rfl, rfl⟩ := hb
  rcases h.parts with ⟨e, _, _⟩ | ⟨g, cur, e, h1, h2, _⟩
  · cases e
  · cases e
    exact ⟨h1, heap_lt h2⟩
theorem OwnP.below {w w' : World} {base cap : Nat} {a : Option Addr} {L : List Pg} (h : OwnP w base a cap L) (hb : Below w.heap.size w w') : OwnP w' base a cap L := by
  refine ⟨h.1, ?_⟩
  rcases h.2 with h2 | ⟨g, cap', cur, hv, r1, r2, r3⟩
  · exact Or.inl h2
  · exact Or.inr ⟨g, cap', cur, hv, r1, by rw [hb.block g (heap_lt r2)]; exact r2, r3⟩
theorem ownP_none (w : World) : OwnP (w.alloc (.cells #[] 36)) w.heap.size (some ⟨w.heap.size, 0, none⟩) 0 [] :=
  ⟨rfl, Or.inr ⟨w.heap.size, 0, #[], rfl, Nat.le_refl _, heap_alloc_new w _, Nat.le_refl _, Nat.zero_le _, rfl, rfl⟩⟩
theorem infoP : ((Al.progOf Tryz.prog).info? 36).map (fun i => (i.zero, i.size, i.bytes)) = some (some (.slice none 0 0), 1, 24) := by kernel_rfl
theorem one_valP (L : List Pg) : ∀ u ∈ L.map valP, u.oneCell' = true := by
  intro u hu
  obtain ⟨x, _, rfl⟩ := List.mem_map.1 hu
  rfl
theorem newsP {w : World} {b off : Nat} {L : List Pg} (hc : ∀ i, i < L.length → w.cell? ⟨b, off + i, none⟩ = some (valP (gP L i))) : ∀ j u, (L.map valP)[j]? = some u → w.cell? ((⟨b, off, none⟩ : Addr).add j) = some u := by
  intro j u hj
  have hl : j < L.length := by
    have := (List.getElem?_eq_some_iff.1 hj).1
    simpa using this
  rw [List.getElem?_map, List.getElem?_eq_getElem hl] at hj
  have e := hc j hl
  have eg : gP L j = L[j] := by unfold gP; rw [List.getElem?_eq_getElem hl]; rfl
  rw [eg] at e
  simp only [Option.map_some, Option.some.injEq] at hj
  subst hj
  have hadd : (⟨b, off, none⟩ : Addr).add j = ⟨b, off + j, none⟩ := by unfold Addr.add; split <;> simp_all
  rw [hadd, e]
/-- APPEND to a row of pages of the call's own, from pages that lie anywhere. -/
theorem app_stepP {ops : Array Oper} {rest : List Oper} {o : Oper} {a : Act} {w : World} {Q : Exit → Act → World → Prop} (hgd : o.guard = none) (s x : Operand)
    (ho : o.op = .call { callee := .builtin .append, args := #[s, x], argTypes := #[22, 22] }) (base : Nat) (a0 : Option Addr) (cap0 : Nat) (ys : List Pg) (n0 : Nat) (hn0 : n0 = ys.length) (hs : a.eval s = .slice a0 n0 cap0) (hown : OwnP w base a0 cap0 ys)
    (sa : Option Addr) (c : Nat) (zs : List Pg) (n1 : Nat) (hn1 : n1 = zs.length) (hx : a.eval x = .slice sa n1 c) (hnil : sa = none → c = 0) (hL : LieP w sa zs) (rs : List Pg) (hrs : rs = ys ++ zs) (hb : rs.length ≤ 1048576) (hbase : base ≤ w.heap.size)
    (h : ∀ a1 cap1 w', OwnP w' base a1 cap1 rs → Keep (blk a0) w w' → wpList (Al.progOf Tryz.prog) ops Q rest (a.put o.dst (.slice a1 rs.length cap1)) w') : wpList (Al.progOf Tryz.prog) ops Q (o :: rest) a w := by
  obtain ⟨i0, hi, hz0, hz1, hz2⟩ := info_parts infoP
  subst hrs hn0 hn1
  rw [List.length_append] at hb
  have fin : ∀ v' w', w'.ownsRow base 36 1 v' (ys.length + zs.length) (ys.map valP ++ zs.map valP) → w.grownBy w' (Value.slice a0 ys.length cap0).ownBlock → wpList (Al.progOf Tryz.prog) ops Q rest (a.put o.dst v') w' := by
    intro v' w' h1 h2
    have hv : ∃ a1 cap1, v' = .slice a1 (ys ++ zs).length cap1 := by
      rcases h1.2 with ⟨e, e2⟩ | ⟨g, cap', cur, e, _⟩
      · exact ⟨none, 0, by rw [e, List.length_append, e2]⟩
      · exact ⟨_, cap', by rw [e, List.length_append]⟩
    obtain ⟨a1, cap1, rfl⟩ := hv
    refine h a1 cap1 w' ?_ (keep_grown h2)
    unfold OwnP
    rw [List.map_append, List.length_append]
    rw [List.length_append] at h1
    exact h1
  have own' : w.ownsRow base 36 1 (.slice a0 ys.length cap0) ys.length (ys.map valP) := hown
  have hu : (Al.progOf Tryz.prog).underlying 22 = some (.slice 36) := by kernel_rfl
  cases hsa : sa with
  | none =>
    subst hsa
    have hz : zs = [] := by
      rcases hL with h | ⟨b, off, e, _⟩
      · exact h
      · cases e
    subst hz
    have hc0 := hnil rfl
    subst hc0
    refine wpList_append_own_none hgd s x 22 ho base 36 i0 1 hu hi _ _ _ hs own' hx ?_
    exact fin _ w (by simpa using own') ⟨rfl, rfl, rfl, Nat.le_refl _, fun _ _ _ => rfl⟩
  | some ad =>
    subst hsa
    refine wpList_append_own _ hgd s x 22 ho base 36 i0 (.slice none 0 0) 1 24 hu hi hz0 hz1 hz2 rfl (by decide) _ _ _ hs own' ad zs.length c (zs.map valP) hx (by simp) ?_ (one_valP zs) (by unfold maxLen; omega) (by omega) hbase (fun v' w' h1 h2 _ => fin v' w' h1 h2)
    rcases hL with h | ⟨b, off, e, hc⟩
    · subst h
      intro j u hj
      simp at hj
    · cases e
      exact newsP hc
end Go.Proofs.YtdkafcgangcgbagGreatDoorQ
/-
  Pages that are moved, and pages that say nothing: what is newest is the same, moved.
-/
namespace Go.Proofs.YtdkafcgangcgbagGreatDoorQ
open Go.Proofs.YtdkafcgangcgbagGreatDoorM
open Go.RowKit Go.Sort
set_option linter.unusedVariables false

/-- A found on a page that was moved. -/
def mvF (s : Nat → Nat) (e : Fd) : Fd := ⟨e.lb, s e.pg, e.sq, e.kd⟩
theorem gF_map (g : Fd → Fd) (M : List Fd) (i : Nat) (h : i < M.length) : gF (M.map g) i = g (gF M i) := by
  unfold gF
  rw [List.getElem?_map, List.getElem?_eq_getElem h]
  rfl
theorem kep_map (g : Fd → Fd) (hg : ∀ e, (g e).lb = e.lb) (M : List Fd) : kep (M.map g) M.length = kep M M.length := by
  rw [kep_def, kep_def]
  refine List.filter_congr fun i hi => ?_
  have hi' := List.mem_range.1 hi
  unfold kpB
  rw [gF_map g M i hi', hg, gF_map g M (i - 1) (by omega), hg]
theorem cpt_map (g : Fd → Fd) (hg : ∀ e, (g e).lb = e.lb) (M : List Fd) : cpt (M.map g) = (cpt M).map g := by
  unfold cpt
  rw [List.length_map, kep_map g hg, List.map_map]
  refine List.map_congr_left fun i hi => ?_
  have hi' : i < M.length := by
    rw [kep_def] at hi
    exact List.mem_range.1 (List.mem_filter.1 hi).1
  exact gF_map g M i hi'
theorem ltOf_iff (F F' : Nat → Fd) (i j i' j' : Nat) (h : ltF F i j ↔ ltF F' i' j') : ltOf (cfF F) i j = ltOf (cfF F') i' j' := by
  rw [Bool.eq_iff_iff, lt_iff, lt_iff]
  exact h
/-- THE SAME PAGES, MOVED. -/
theorem newF_move {L L' : List Pg} (s : Nat → Nat) (hs : ∀ i j, i < j → s i < s j) (hc : flt L' L'.length = (flt L L.length).map s) (hF : ∀ i, i < L.length → fdP L' (s i) = mvF s (fdP L i)) : newF L' = (newF L).map (mvF s) := by
  have hm : ∀ i ∈ flt L L.length, i < L.length := fun i hi => List.mem_range.1 (List.mem_filter.1 hi).1
  have hsrt : srt (fdP L') ((flt L L.length).map s) = (srt (fdP L) (flt L L.length)).map s := by
    unfold srt
    refine (List.map_mergeSort fun a ha b hb => ?_).symm
    congr 1
    refine ltOf_iff _ _ _ _ _ _ ?_
    unfold ltF
    rw [hF a (hm a ha), hF b (hm b hb)]
    have h1 := hs a b
    have h2 := hs b a
    have e1 : (fdP L a).pg = a := rfl
    have e2 : (fdP L b).pg = b := rfl
    simp only [mvF, e1, e2]
    have h3 : s a < s b ↔ a < b := ⟨fun h => by
      rcases Nat.lt_trichotomy a b with x | x | x
      · exact x
      · rw [x] at h; omega
      · have := h2 x; omega, h1⟩
    rw [h3]
  unfold newF
  rw [hc, hsrt, ← cpt_map (mvF s) (fun _ => rfl), List.map_map, List.map_map]
  congr 1
  refine List.map_congr_left fun i hi => ?_
  have hi2 : i ∈ flt L L.length := by
    unfold srt at hi
    exact List.mem_mergeSort.1 hi
  exact hF i (hm i hi2)
/-- One page more, at k. -/
def sgB (k i : Nat) : Nat := if i < k then i else i + 1
theorem sgB_mono (k i j : Nat) (h : i < j) : sgB k i < sgB k j := by
  unfold sgB
  split <;> split <;> omega
def insP (L : List Pg) (k : Nat) (b : Pg) : List Pg := L.take k ++ b :: L.drop k
theorem insP_len (L : List Pg) (k : Nat) (b : Pg) : (insP L k b).length = L.length + 1 := by
  unfold insP
  simp
  omega
theorem insP_old (L : List Pg) (k : Nat) (b : Pg) (hk : k ≤ L.length) (i : Nat) : gP (insP L k b) (sgB k i) = gP L i := by
  unfold gP insP sgB
  have hl : (L.take k).length = k := by rw [List.length_take]; omega
  by_cases h : i < k
  · rw [if_pos h, List.getElem?_append_left (by omega), List.getElem?_take, if_pos h]
  · rw [if_neg h, List.getElem?_append_right (by omega), hl, show i + 1 - k = (i - k) + 1 by omega, List.getElem?_cons_succ, List.getElem?_drop, show k + (i - k) = i by omega]
theorem insP_new (L : List Pg) (k : Nat) (b : Pg) (hk : k ≤ L.length) : gP (insP L k b) k = b := by
  unfold gP insP
  have hl : (L.take k).length = k := by rw [List.length_take]; omega
  rw [List.getElem?_append_right (by omega), hl, Nat.sub_self]
  rfl
theorem range_ins (n k : Nat) (hk : k ≤ n) (p : Nat → Bool) (hp : p k = false) : (List.range (n + 1)).filter p = ((List.range n).map (sgB k)).filter p := by
  have e1 : List.range (n + 1) = List.range k ++ k :: List.range' (k + 1) (n - k) := by
    rw [List.range_eq_range', List.range_eq_range', show n + 1 = k + (n - k + 1) by omega, ← List.range'_append_1, Nat.zero_add, List.range'_succ]
  have e2 : (List.range n).map (sgB k) = List.range k ++ List.range' (k + 1) (n - k) := by
    rw [List.range_eq_range', List.range_eq_range', show n = k + (n - k) by omega, ← List.range'_append_1, Nat.zero_add, List.map_append]
    congr 1
    · refine (List.map_congr_left fun i hi => ?_).trans (List.map_id _)
      have : i < k := by simpa using (List.mem_range'_1.1 hi).2
      simp [sgB, this]
    · rw [show k + (n - k) - k = n - k by omega, show k + 1 = 1 + k by omega, ← List.map_add_range' (a := 1)]
      refine List.map_congr_left fun i hi => ?_
      have : k ≤ i := (List.mem_range'_1.1 hi).1
      simp [sgB, Nat.not_lt.2 this]
      omega
  rw [e1, e2, List.filter_append, List.filter_append, List.filter_cons, hp]
  rfl
/-- A PAGE THAT SAYS NOTHING CHANGES NOTHING. -/
theorem newF_blank (L : List Pg) (k : Nat) (b : Pg) (hk : k ≤ L.length) (hb : (stP b.p == 2 && (kdP b.p == 1 || kdP b.p == 2)) = false) : newF (insP L k b) = (newF L).map (mvF (sgB k)) := by
  refine newF_move (sgB k) (sgB_mono k) ?_ (fun i hi => ?_)
  · rw [insP_len]
    unfold flt
    rw [range_ins L.length k hk _ (by unfold cntP; rw [insP_new L k b hk]; exact hb), List.filter_map]
    congr 1
    refine List.filter_congr fun i _ => ?_
    show cntP (insP L k b) (sgB k i) = cntP L i
    unfold cntP
    rw [insP_old L k b hk i]
  · unfold fdP mvF
    rw [insP_old L k b hk i]
end Go.Proofs.YtdkafcgangcgbagGreatDoorQ
/-
  What is newest, by what it is: lbas rise; each is the best of its lba; each lba that counts is there.
-/
namespace Go.Proofs.YtdkafcgangcgbagGreatDoorQ
open Go.Proofs.YtdkafcgangcgbagGreatDoorM
open Go.RowKit Go.Sort
set_option linter.unusedVariables false

theorem srt_perm (F : Nat → Fd) (c : List Nat) : (srt F c).Perm c := List.mergeSort_perm _ _
theorem srt_sorted (F : Nat → Fd) (c : List Nat) : (srt F c).Pairwise fun i j => ¬ ltF F j i := by
  have := List.pairwise_mergeSort (le := fun x y => !(ltOf (cfF F)) y x) (fun a b d h1 h2 => by
    simp only [Bool.not_eq_true', lt_no] at *
    unfold ltF at *
    omega) (fun a b => by
    simp only [Bool.or_eq_true, Bool.not_eq_true', lt_no]
    unfold ltF
    omega) c
  unfold srt
  refine this.imp fun {a b} h => ?_
  simpa only [Bool.not_eq_true', lt_no] using h
/-- The page number at place t. -/
def sN (S : List Nat) (t : Nat) : Nat := S[t]?.getD 0
theorem gF_sN (F : Nat → Fd) (S : List Nat) (t : Nat) (h : t < S.length) : gF (S.map F) t = F (sN S t) := by
  unfold gF sN
  rw [List.getElem?_map, List.getElem?_eq_getElem h]
  rfl
theorem sorted_at {F : Nat → Fd} {S : List Nat} (h : S.Pairwise fun i j => ¬ ltF F j i) {s t : Nat} (hst : s < t) (ht : t < S.length) : ¬ ltF F (sN S t) (sN S s) := by
  have := List.pairwise_iff_getElem.1 h s t (by omega) ht hst
  unfold sN
  rw [List.getElem?_eq_getElem ht, List.getElem?_eq_getElem (show s < S.length by omega)]
  exact this
theorem sorted_lb {F : Nat → Fd} {S : List Nat} (h : S.Pairwise fun i j => ¬ ltF F j i) {s t : Nat} (hst : s ≤ t) (ht : t < S.length) : (F (sN S s)).lb ≤ (F (sN S t)).lb := by
  rcases Nat.lt_or_eq_of_le hst with e | rfl
  · have := sorted_at h e ht
    unfold ltF at this
    omega
  · exact Nat.le_refl _
/-- A place that is kept is the first of its lba. -/
theorem kept_first {F : Nat → Fd} {S : List Nat} (h : S.Pairwise fun i j => ¬ ltF F j i) {s t : Nat} (hk : kpB (S.map F) t = true) (hst : s < t) (ht : t < S.length) : (F (sN S s)).lb < (F (sN S t)).lb := by
  unfold kpB at hk
  rw [gF_sN F S t ht, gF_sN F S (t - 1) (by omega)] at hk
  have h1 := sorted_lb h (s := s) (t := t - 1) (by omega) (by omega)
  have h2 := sorted_lb h (s := t - 1) (t := t) (by omega) ht
  simp only [Bool.or_eq_true, beq_iff_eq, bne_iff_ne, ne_eq] at hk
  omega
structure IsNew (F : Nat → Fd) (c : List Nat) (N : List Fd) : Prop where
  rise : N.Pairwise fun a b => a.lb < b.lb
  best : ∀ e ∈ N, ∃ i ∈ c, e = F i ∧ ∀ j ∈ c, (F j).lb = e.lb → ¬ ltF F j i
  all : ∀ j ∈ c, ∃ e ∈ N, e.lb = (F j).lb
theorem new_is (F : Nat → Fd) (c : List Nat) : IsNew F c (cpt ((srt F c).map F)) := by
  have hp := srt_perm F c
  have hs := srt_sorted F c
  generalize srt F c = S at hp hs
  have hmem : ∀ t, t ∈ kep (S.map F) (S.map F).length ↔ t < S.length ∧ kpB (S.map F) t = true := fun t => by
    rw [kep_def, List.mem_filter, List.mem_range, List.length_map]
  refine ⟨?_, fun e he => ?_, fun j hj => ?_⟩
  · unfold cpt
    rw [List.pairwise_map]
    have hr : (kep (S.map F) (S.map F).length).Pairwise (· < ·) := by rw [kep_def]; exact List.pairwise_lt_range.filter _
    refine hr.imp_of_mem fun {a b} ha hb hab => ?_
    obtain ⟨a1, a2⟩ := (hmem a).1 ha
    obtain ⟨b1, b2⟩ := (hmem b).1 hb
    rw [gF_sN F S a a1, gF_sN F S b b1]
    exact kept_first hs b2 hab b1
  · unfold cpt at he
    obtain ⟨t, ht, rfl⟩ := List.mem_map.1 he
    obtain ⟨t1, t2⟩ := (hmem t).1 ht
    have hin : sN S t ∈ S := by unfold sN; rw [List.getElem?_eq_getElem t1]; exact List.getElem_mem t1
    refine ⟨sN S t, hp.mem_iff.1 hin, gF_sN F S t t1, fun j hj he => ?_⟩
    rw [gF_sN F S t t1] at he
    obtain ⟨u, hu, rfl⟩ := List.mem_iff_getElem.1 (hp.mem_iff.2 hj)
    have eu : sN S u = S[u] := by unfold sN; rw [List.getElem?_eq_getElem hu]; rfl
    rw [← eu] at he ⊢
    rcases Nat.lt_trichotomy u t with x | x | x
    · have := kept_first hs t2 x t1
      omega
    · rw [x]; unfold ltF; omega
    · exact sorted_at hs x hu
  · obtain ⟨u, hu, rfl⟩ := List.mem_iff_getElem.1 (hp.mem_iff.2 hj)
    have eu : sN S u = S[u] := by unfold sN; rw [List.getElem?_eq_getElem hu]; rfl
    rw [← eu]
    have key : ∀ t, t < S.length → ∃ e ∈ cpt (S.map F), e.lb = (F (sN S t)).lb := by
      intro t
      induction t with
      | zero =>
        intro ht
        exact ⟨gF (S.map F) 0, List.mem_map.2 ⟨0, (hmem 0).2 ⟨ht, rfl⟩, rfl⟩, by rw [gF_sN F S 0 ht]⟩
      | succ t ih =>
        intro ht
        by_cases hk : kpB (S.map F) (t + 1) = true
        · exact ⟨gF (S.map F) (t + 1), List.mem_map.2 ⟨t + 1, (hmem (t + 1)).2 ⟨ht, hk⟩, rfl⟩, by rw [gF_sN F S (t + 1) ht]⟩
        · obtain ⟨e, h1, h2⟩ := ih (by omega)
          refine ⟨e, h1, h2.trans ?_⟩
          rw [kp_succ, gF_sN F S (t + 1) ht, gF_sN F S t (by omega)] at hk
          simp only [bne_iff_ne, ne_eq, Classical.not_not] at hk
          exact hk.symm
    exact key u hu
/-- There is one such list. -/
theorem new_one {F : Nat → Fd} {c : List Nat} (hF : ∀ i j, ¬ ltF F i j → ¬ ltF F j i → (F i).lb = (F j).lb → F i = F j) : ∀ {N N' : List Fd}, IsNew F c N → IsNew F c N' → N = N' := by
  intro N N' h h'
  have hlb : ∀ e ∈ N, ∀ e' ∈ N', e.lb = e'.lb → e = e' := fun e he e' he' hl => by
    obtain ⟨i, hi, rfl, hb⟩ := h.best e he
    obtain ⟨j, hj, rfl, hb'⟩ := h'.best e' he'
    exact hF i j (hb' i hi hl) (hb j hj hl.symm) hl
  have sub : ∀ e, e ∈ N ↔ e ∈ N' := fun e => ⟨fun he => by
    obtain ⟨i, hi, hi2, _⟩ := h.best e he
    obtain ⟨e', he', hl⟩ := h'.all i hi
    rw [hlb e he e' he' (by rw [hl, hi2])]
    exact he', fun he => by
    obtain ⟨i, hi, hi2, _⟩ := h'.best e he
    obtain ⟨e', he', hl⟩ := h.all i hi
    rw [← hlb e' he' e he (by rw [hl, hi2])]
    exact he'⟩
  have nd : ∀ {M : List Fd}, (M.Pairwise fun a b => a.lb < b.lb) → M.Nodup := fun h => h.imp fun {a b} x e => by rw [e] at x; omega
  refine List.Perm.eq_of_pairwise (le := fun a b => a.lb < b.lb) (fun a b _ _ x y => by omega) h.rise h'.rise ?_
  exact (List.perm_ext_iff_of_nodup (nd h.rise) (nd h'.rise)).2 sub
end Go.Proofs.YtdkafcgangcgbagGreatDoorQ
/-
  What is newest of pages and more pages: the join of both lists.
-/
namespace Go.Proofs.YtdkafcgangcgbagGreatDoorQ
open Go.Proofs.YtdkafcgangcgbagGreatDoorM
open Go.RowKit Go.Sort
set_option linter.unusedVariables false

abbrev Rise (M : List Fd) : Prop := M.Pairwise fun a b => a.lb < b.lb
/-- The later one, where both have one. -/
def bst (x y : Fd) : Fd := if x.sq ≤ y.sq then y else x
def ins (x : Fd) (rest : List Fd → List Fd) : List Fd → List Fd
  | [] => x :: rest []
  | y :: ys => if x.lb < y.lb then x :: rest (y :: ys) else if y.lb < x.lb then y :: ins x rest ys else bst x y :: rest ys
def jn : List Fd → List Fd → List Fd
  | [] => fun ys => ys
  | x :: xs => ins x (jn xs)
/-- What a join has. -/
structure Jn (xs ys Z : List Fd) : Prop where
  rise : Rise Z
  mem : ∀ e ∈ Z, (e ∈ xs ∧ ∀ y ∈ ys, y.lb = e.lb → y.sq < e.sq) ∨ (e ∈ ys ∧ ∀ x ∈ xs, x.lb = e.lb → x.sq ≤ e.sq)
  left : ∀ x ∈ xs, ∃ e ∈ Z, e.lb = x.lb
  right : ∀ y ∈ ys, ∃ e ∈ Z, e.lb = y.lb
theorem Jn.cons {xs ys xs' ys' Z : List Fd} {e : Fd} (h : Jn xs ys Z) (hx : ∀ x ∈ xs, e.lb < x.lb) (hy : ∀ y ∈ ys, e.lb < y.lb)
    (sx : ∀ x ∈ xs', x ∈ xs ∨ x.lb = e.lb) (sy : ∀ y ∈ ys', y ∈ ys ∨ y.lb = e.lb) (tx : ∀ x ∈ xs, x ∈ xs') (ty : ∀ y ∈ ys, y ∈ ys')
    (he : (e ∈ xs' ∧ ∀ y ∈ ys', y.lb = e.lb → y.sq < e.sq) ∨ (e ∈ ys' ∧ ∀ x ∈ xs', x.lb = e.lb → x.sq ≤ e.sq)) : Jn xs' ys' (e :: Z) := by
  have hlt : ∀ z ∈ Z, e.lb < z.lb := fun z hz => by
    rcases h.mem z hz with ⟨h1, _⟩ | ⟨h1, _⟩
    · exact hx z h1
    · exact hy z h1
  refine ⟨List.pairwise_cons.2 ⟨hlt, h.rise⟩, fun z hz => ?_, fun x hxm => ?_, fun y hym => ?_⟩
  · rcases List.mem_cons.1 hz with rfl | hz
    · exact he
    · have hl := hlt z hz
      rcases h.mem z hz with ⟨h1, h2⟩ | ⟨h1, h2⟩
      · refine .inl ⟨tx z h1, fun y hym e1 => ?_⟩
        rcases sy y hym with h3 | h3
        · exact h2 y h3 e1
        · omega
      · refine .inr ⟨ty z h1, fun x hxm e1 => ?_⟩
        rcases sx x hxm with h3 | h3
        · exact h2 x h3 e1
        · omega
  · rcases sx x hxm with h3 | h3
    · obtain ⟨z, h4, h5⟩ := h.left x h3
      exact ⟨z, List.mem_cons_of_mem _ h4, h5⟩
    · exact ⟨e, List.mem_cons_self, h3.symm⟩
  · rcases sy y hym with h3 | h3
    · obtain ⟨z, h4, h5⟩ := h.right y h3
      exact ⟨z, List.mem_cons_of_mem _ h4, h5⟩
    · exact ⟨e, List.mem_cons_self, h3.symm⟩
theorem mem_or {z x : Fd} {xs : List Fd} (h : z ∈ x :: xs) : z ∈ xs ∨ z.lb = x.lb := by
  rcases List.mem_cons.1 h with rfl | h
  · exact .inr rfl
  · exact .inl h
theorem ins_is {x : Fd} {xs : List Fd} {rest : List Fd → List Fd} (hr : ∀ ys, Rise ys → Jn xs ys (rest ys)) (hx : Rise (x :: xs)) : ∀ ys, Rise ys → Jn (x :: xs) ys (ins x rest ys) := by
  obtain ⟨hx1, hx2⟩ := List.pairwise_cons.1 hx
  intro ys
  induction ys with
  | nil =>
    intro h
    exact (hr [] h).cons hx1 (fun y hy => by cases hy) (fun z hz => mem_or hz) (fun y hy => .inl hy) (fun z hz => List.mem_cons_of_mem _ hz) (fun y hy => hy) (.inl ⟨List.mem_cons_self, fun y hy => by cases hy⟩)
  | cons y ys ih =>
    intro h
    obtain ⟨hy1, hy2⟩ := List.pairwise_cons.1 h
    unfold ins
    by_cases c1 : x.lb < y.lb
    · rw [if_pos c1]
      refine (hr (y :: ys) h).cons hx1 (fun z hz => ?_) (fun z hz => mem_or hz) (fun y hy => .inl hy) (fun z hz => List.mem_cons_of_mem _ hz) (fun y hy => hy) (.inl ⟨List.mem_cons_self, fun z hz e => ?_⟩)
      · rcases List.mem_cons.1 hz with rfl | hz
        · exact c1
        · have := hy1 z hz; omega
      · rcases List.mem_cons.1 hz with rfl | hz
        · omega
        · have := hy1 z hz; omega
    · rw [if_neg c1]
      by_cases c2 : y.lb < x.lb
      · rw [if_pos c2]
        refine (ih hy2).cons (fun z hz => ?_) hy1 (fun z hz => .inl hz) (fun z hz => mem_or hz) (fun z hz => hz) (fun z hz => List.mem_cons_of_mem _ hz) (.inr ⟨List.mem_cons_self, fun z hz e => ?_⟩)
        · rcases List.mem_cons.1 hz with rfl | hz
          · exact c2
          · have := hx1 z hz; omega
        · rcases List.mem_cons.1 hz with rfl | hz
          · omega
          · have := hx1 z hz; omega
      · rw [if_neg c2]
        have hxy : x.lb = y.lb := by omega
        have hb : (bst x y).lb = x.lb := by unfold bst; split <;> omega
        refine (hr ys hy2).cons (fun z hz => by rw [hb]; exact hx1 z hz) (fun z hz => by rw [hb, hxy]; exact hy1 z hz) (fun z hz => ?_) (fun z hz => ?_) (fun z hz => List.mem_cons_of_mem _ hz) (fun z hz => List.mem_cons_of_mem _ hz) ?_
        · rcases List.mem_cons.1 hz with rfl | h
          · exact .inr hb.symm
          · exact .inl h
        · rcases List.mem_cons.1 hz with rfl | h
          · exact .inr (by omega)
          · exact .inl h
        · unfold bst
          by_cases c3 : x.sq ≤ y.sq
          · rw [if_pos c3]
            refine .inr ⟨List.mem_cons_self, fun z hz e => ?_⟩
            rcases List.mem_cons.1 hz with rfl | hz
            · exact c3
            · have := hx1 z hz; omega
          · rw [if_neg c3]
            refine .inl ⟨List.mem_cons_self, fun z hz e => ?_⟩
            rcases List.mem_cons.1 hz with rfl | hz
            · omega
            · have := hy1 z hz; omega
theorem jn_is : ∀ xs : List Fd, Rise xs → ∀ ys, Rise ys → Jn xs ys (jn xs ys)
  | [], _, ys, h => ⟨h, (fun e he => .inr ⟨he, (fun x hx => by cases hx)⟩), (fun x hx => by cases hx), fun y hy => ⟨y, hy, rfl⟩⟩
  | x :: xs, hx, ys, h => ins_is (fun zs hz => jn_is xs (List.pairwise_cons.1 hx).2 zs hz) hx ys h
end Go.Proofs.YtdkafcgangcgbagGreatDoorQ
/-
  What is newest of pages and more pages.
-/
namespace Go.Proofs.YtdkafcgangcgbagGreatDoorQ
open Go.Proofs.YtdkafcgangcgbagGreatDoorM
open Go.RowKit Go.Sort
set_option linter.unusedVariables false

theorem gP_left (A B : List Pg) {i : Nat} (h : i < A.length) : gP (A ++ B) i = gP A i := by unfold gP; rw [List.getElem?_append_left h]
theorem gP_right (A B : List Pg) (j : Nat) : gP (A ++ B) (A.length + j) = gP B j := by unfold gP; rw [List.getElem?_append_right (by omega), show A.length + j - A.length = j by omega]
theorem fd_left (A B : List Pg) {i : Nat} (h : i < A.length) : fdP (A ++ B) i = fdP A i := by unfold fdP; rw [gP_left A B h]
theorem fd_right (A B : List Pg) (j : Nat) : fdP (A ++ B) (A.length + j) = mvF (A.length + ·) (fdP B j) := by unfold fdP mvF; rw [gP_right A B j]
theorem mem_flt {L : List Pg} {i : Nat} : i ∈ flt L L.length ↔ i < L.length ∧ cntP L i = true := by unfold flt; rw [List.mem_filter, List.mem_range]
theorem flt_join (A B : List Pg) (i : Nat) : i ∈ flt (A ++ B) (A ++ B).length ↔ i ∈ flt A A.length ∨ ∃ j, i = A.length + j ∧ j ∈ flt B B.length := by
  rw [mem_flt, mem_flt]
  constructor
  · rintro ⟨h1, h2⟩
    by_cases h : i < A.length
    · exact .inl ⟨h, by unfold cntP at *; rw [gP_left A B h] at h2; exact h2⟩
    · obtain ⟨j, rfl⟩ : ∃ j, i = A.length + j := ⟨i - A.length, by omega⟩
      rw [List.length_append] at h1
      refine .inr ⟨j, rfl, mem_flt.2 ⟨by omega, ?_⟩⟩
      unfold cntP at *
      rw [gP_right A B j] at h2
      exact h2
  · rintro (⟨h1, h2⟩ | ⟨j, rfl, h⟩)
    · refine ⟨by rw [List.length_append]; omega, ?_⟩
      unfold cntP at *
      rw [gP_left A B h1]
      exact h2
    · obtain ⟨h1, h2⟩ := mem_flt.1 h
      refine ⟨by rw [List.length_append]; omega, ?_⟩
      unfold cntP at *
      rw [gP_right A B j]
      exact h2
theorem newF_is (L : List Pg) : IsNew (fdP L) (flt L L.length) (newF L) := new_is _ _
theorem join_is (A B : List Pg) : IsNew (fdP (A ++ B)) (flt (A ++ B) (A ++ B).length) (jn (newF A) ((newF B).map (mvF (A.length + ·)))) := by
  have hX := newF_is A
  have hY := newF_is B
  have hYr : Rise ((newF B).map (mvF (A.length + ·))) := List.pairwise_map.2 hY.rise
  have hJ := jn_is _ hX.rise _ hYr
  have ltA : ∀ {i}, i ∈ flt A A.length → i < A.length := fun h => (mem_flt.1 h).1
  refine ⟨hJ.rise, fun e he => ?_, fun j hj => ?_⟩
  · rcases hJ.mem e he with ⟨h1, h2⟩ | ⟨h1, h2⟩
    · obtain ⟨i, hi, rfl, hb⟩ := hX.best e h1
      refine ⟨i, (flt_join A B i).2 (.inl hi), (fd_left A B (ltA hi)).symm, fun j hj hl => ?_⟩
      rcases (flt_join A B j).1 hj with hj | ⟨j', rfl, hjB⟩
      · rw [fd_left A B (ltA hj)] at hl
        have := hb j hj hl
        unfold ltF at *
        rw [fd_left A B (ltA hj), fd_left A B (ltA hi)]
        exact this
      · rw [fd_right] at hl
        obtain ⟨y0, hy0, hyl⟩ := hY.all j' hjB
        obtain ⟨i', hi', rfl, hb'⟩ := hY.best y0 hy0
        have h3 := hb' j' hjB hyl.symm
        have h4 := h2 _ (List.mem_map.2 ⟨_, hy0, rfl⟩) (by simp only [mvF] at *; omega)
        unfold ltF at *
        rw [fd_right, fd_left A B (ltA hi)]
        simp only [mvF] at *
        omega
    · obtain ⟨y0, hy0, rfl⟩ := List.mem_map.1 h1
      obtain ⟨i', hi', rfl, hb'⟩ := hY.best y0 hy0
      refine ⟨A.length + i', (flt_join A B _).2 (.inr ⟨i', rfl, hi'⟩), (fd_right A B i').symm, fun j hj hl => ?_⟩
      rcases (flt_join A B j).1 hj with hj | ⟨j', rfl, hjB⟩
      · rw [fd_left A B (ltA hj)] at hl
        obtain ⟨x0, hx0, hxl⟩ := hX.all j hj
        obtain ⟨i, hi, rfl, hb⟩ := hX.best x0 hx0
        have h3 := hb j hj hxl.symm
        have h4 := h2 _ hx0 (by simp only [mvF] at *; omega)
        have h5 := ltA hj
        have e1 : (fdP A j).pg = j := rfl
        have e2 : (fdP B i').pg = i' := rfl
        unfold ltF at *
        rw [fd_right, fd_left A B h5]
        simp only [mvF] at *
        omega
      · rw [fd_right] at hl
        have h3 := hb' j' hjB (by simpa only [mvF] using hl)
        unfold ltF at *
        rw [fd_right, fd_right]
        simp only [mvF] at *
        omega
  · rcases (flt_join A B j).1 hj with hj | ⟨j', rfl, hjB⟩
    · obtain ⟨x, hx, hl⟩ := hX.all j hj
      obtain ⟨e, he, hel⟩ := hJ.left x hx
      exact ⟨e, he, by rw [fd_left A B (ltA hj), hel, hl]⟩
    · obtain ⟨y, hy, hl⟩ := hY.all j' hjB
      obtain ⟨e, he, hel⟩ := hJ.right _ (List.mem_map.2 ⟨y, hy, rfl⟩)
      exact ⟨e, he, by rw [fd_right, hel]; exact hl⟩
/-- OF PAGES AND MORE PAGES. -/
theorem newF_join (A B : List Pg) : newF (A ++ B) = jn (newF A) ((newF B).map (mvF (A.length + ·))) := by
  refine new_one (fun i j h1 h2 hl => ?_) (newF_is _) (join_is A B)
  have e1 : (fdP (A ++ B) i).pg = i := rfl
  have e2 : (fdP (A ++ B) j).pg = j := rfl
  have : i = j := by unfold ltF at h1 h2; omega
  rw [this]
end Go.Proofs.YtdkafcgangcgbagGreatDoorQ
