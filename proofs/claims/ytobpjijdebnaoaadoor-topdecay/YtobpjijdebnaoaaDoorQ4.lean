/- Part of the proof. -/
import Derived.Test.YtobpjijdebnaoaaDoorQ3
import Derived.Sort.Grow
import Derived.Laws.AppendOwnNone
import Derived.Deep.AppendLies
import Derived.Shelf.SlSortCmp.NoneTotal
import Derived.Test.YtobpjijdebnaoaaDoorQFacts
namespace Go.Proofs.YtobpjijdebnaoaaDoorQ
open Go.Proofs.YtobpjijdebnaoaaDoorM
open Go.RowKit Go.Sort
set_option linter.unusedVariables false
/-- Which of two numbers is less. -/
def cmpI (x y : Int) : Int := if x < y then -1 else if y < x then 1 else 0
theorem cmpI_lt {x y : Int} (h : x < y) : cmpI x y = -1 := if_pos h
theorem cmpI_gt {x y : Int} (h : y < x) : cmpI x y = 1 := by unfold cmpI; rw [if_neg (by omega), if_pos h]
theorem cmpI_eq {x y : Int} (h : x = y) : cmpI x y = 0 := by unfold cmpI; rw [if_neg (by omega), if_neg (by omega)]
set_option maxHeartbeats 800000 in
theorem isNaN_any (x : Int) (w : World) : Calls (Al.progOf Tryd.prog) 45 #[.int .i64 x] w fun e w' => e = .returned (.bool false) ∧ w' = w := by
  go_enter Al.func45, Tryd.ntmps45
  go_wp2
  go_ret
  exact ⟨by simp, rfl⟩
set_option maxHeartbeats 1600000 in
theorem compare_any (x y : Int) (w : World) : Calls (Al.progOf Tryd.prog) 29 #[.int .i64 x, .int .i64 y] w fun e w' => e = .returned (.int .i64 (cmpI x y)) ∧ w' = w := by
  by_cases h : x < y
  · rw [cmpI_lt h]
    go_enter Al.func29, Tryd.ntmps29
    go_wp2_with (go_at_call 45; refine (isNaN_any _ _).mono ?_; rintro e w' ⟨rfl, rfl⟩)
    go_ret
    exact ⟨rfl, rfl⟩
  · by_cases h2 : y < x
    · rw [cmpI_gt h2]
      go_enter Al.func29, Tryd.ntmps29
      go_wp2_with (go_at_call 45; refine (isNaN_any _ _).mono ?_; rintro e w' ⟨rfl, rfl⟩)
      go_ret
      exact ⟨rfl, rfl⟩
    · rw [cmpI_eq (by omega)]
      go_enter Al.func29, Tryd.ntmps29
      go_wp2_with (go_at_call 45; refine (isNaN_any _ _).mono ?_; rintro e w' ⟨rfl, rfl⟩)
      go_ret
      exact ⟨rfl, rfl⟩
/-- The first that is not nought. -/
def orI : List Int → Int
  | [] => 0
  | x :: r => if x = 0 then orI r else x
theorem orI_skip : ∀ (vs : List Int) (k : Nat), k ≤ vs.length → (∀ i, i < k → vs[i]?.getD 0 = 0) → orI vs = orI (vs.drop k)
  | vs, 0, _, _ => by simp
  | [], k + 1, h, _ => by simp at h
  | x :: r, k + 1, h, h0 => by
    have hx : x = 0 := by simpa using h0 0 (by omega)
    rw [orI, if_pos hx, List.drop_succ_cons]
    exact orI_skip r k (by simpa using h) (fun i hi => by simpa using h0 (i + 1) (by omega))
theorem orI_hit {vs : List Int} {k : Nat} (h : k < vs.length) (h0 : ∀ i, i < k → vs[i]?.getD 0 = 0) (hn : vs[k]?.getD 0 ≠ 0) : orI vs = vs[k]?.getD 0 := by
  rw [orI_skip vs k (by omega) h0, List.drop_eq_getElem_cons h, orI]
  rw [List.getElem?_eq_getElem h] at hn ⊢
  rw [if_neg (show ¬ vs[k] = 0 from hn)]
  rfl
theorem orI_all {vs : List Int} (h0 : ∀ i, i < vs.length → vs[i]?.getD 0 = 0) : orI vs = 0 := by
  rw [orI_skip vs vs.length (Nat.le_refl _) h0]
  simp [orI]
def OrS (w wr : World) (vs : List Int) (k : Nat) : Prop := wr = w ∧ ∀ i, i < k → vs[i]?.getD 0 = 0
set_option maxHeartbeats 1600000 in
theorem or_any (g cap : Nat) (vs : List Int) (w : World) (hl : vs.length ≤ 64) (hc : ∀ i, i < vs.length → w.cell? ⟨g, i, none⟩ = some (.int .i64 (vs[i]?.getD 0))) :
    Calls (Al.progOf Tryd.prog) 28 #[.slice (some ⟨g, 0, none⟩) vs.length cap] w fun e w' => e = .returned (.int .i64 (orI vs)) ∧ w' = w := by
  have HC : Hid (∀ i, i < vs.length → w.cell? ⟨g, i, none⟩ = some (.int .i64 (vs[i]?.getD 0))) := hc
  clear hc
  go_enter Al.func28, Tryd.ntmps28
  go_wp2
  go_loopw [8] (fun j wr => ∃ k : Nat, k ≤ vs.length ∧ j = .int .i64 k ∧ Hid (OrS w wr vs k)) (fun j _ => vs.length - (intOf j).toNat)
  case atStart => exact ⟨0, Nat.zero_le _, rfl, (⟨rfl, fun i hi => absurd hi (Nat.not_lt_zero _)⟩ : OrS w w vs 0)⟩
  case round =>
    obtain ⟨k, hk, rfl, hR0⟩ := hrel
    obtain ⟨rfl, hR1⟩ := hR0.out
    have hR : Hid (∀ i, i < k → vs[i]?.getD 0 = 0) := hR1
    clear hR0 hR1
    by_cases hlt : k < vs.length
    · have c0 := HC.out k hlt
      have HH : Hid (vs[k]?.getD 0 ≠ 0 → orI vs = vs[k]?.getD 0) := fun h => orI_hit hlt hR.out h
      have HS : Hid (vs[k]?.getD 0 = 0 → ∀ i, i < k + 1 → vs[i]?.getD 0 = 0) := fun h i hi => by
        by_cases e : i = k
        · rw [e]; exact h
        · exact hR.out i (by omega)
      clear hR
      generalize vs[k]?.getD 0 = v at *
      by_cases hv : v = 0
      · subst hv
        go_wp2
        exact ⟨⟨k + 1, by omega, by go_num, (⟨rfl, HS.out rfl⟩ : OrS wr wr vs (k + 1))⟩, by simp [intOf]; omega⟩
      · have hv2 : (v != 0) = true := bne_iff_ne.2 hv
        go_wp2
        go_ret
        exact ⟨by rw [HH.out hv]; rfl, rfl⟩
    · obtain rfl : k = vs.length := by omega
      clear hlt
      have HZ : Hid (orI vs = 0) := orI_all hR.out
      go_wp2
      go_ret
      exact ⟨by rw [HZ.out]; rfl, rfl⟩
theorem or_new (W : World) (x y z : Int) : Calls (Al.progOf Tryd.prog) 28 #[.slice (some ⟨W.heap.size, 0, none⟩) 3 3] (W.alloc (.cells #[.int .i64 x, .int .i64 y, .int .i64 z] 3)).drew fun e w' => e = .returned (.int .i64 (orI [x, y, z])) ∧ w' = (W.alloc (.cells #[.int .i64 x, .int .i64 y, .int .i64 z] 3)).drew := by
  refine or_any W.heap.size 3 [x, y, z] _ (by simp) (fun i hi => ?_)
  have h : i = 0 ∨ i = 1 ∨ i = 2 := by simp at hi; omega
  rcases h with rfl | rfl | rfl <;> simp
set_option maxRecDepth 100000 in
set_option maxHeartbeats 4000000 in
theorem first_any (a0 a1 a2 a3 b0 b1 b2 b3 : Int) (w : World) :
    Calls (Al.progOf Tryd.prog) 27 #[.agg #[.int .i64 a0, .int .i64 a1, .int .i64 a2, .int .i64 a3], .agg #[.int .i64 b0, .int .i64 b1, .int .i64 b2, .int .i64 b3]] w fun e w' => e = .returned (.int .i64 (orI [cmpI a0 b0, cmpI b2 a2, cmpI b1 a1])) ∧ ∃ q os', w' = grow (w.drewN q) os' := by
  have HE : Hid (∀ o1 o2 o3 : Obj, ∃ q os', (((w.alloc o1).alloc o2).alloc o3).drew = grow (w.drewN q) os') := fun o1 o2 o3 => ⟨1, #[o1, o2, o3], by rw [alloc_eq_grow, alloc_eq_grow, alloc_eq_grow, grow_grow, grow_grow, drew_grow]; rfl⟩
  have HC : Hid (∀ x y W, Calls (Al.progOf Tryd.prog) 29 #[.int .i64 x, .int .i64 y] W fun e w' => e = .returned (.int .i64 (cmpI x y)) ∧ w' = W) := compare_any
  obtain ⟨W, hW⟩ : ∃ W, W = (w.alloc (.cells #[.int .i64 a0, .int .i64 a1, .int .i64 a2, .int .i64 a3] 44)).alloc (.cells #[.int .i64 b0, .int .i64 b1, .int .i64 b2, .int .i64 b3] 44) := ⟨_, rfl⟩
  have HW : Hid (∀ o : Obj, ∃ q os', (W.alloc o).drew = grow (w.drewN q) os') := fun o => by rw [hW]; exact HE.out _ _ o
  clear HE
  obtain ⟨g, hg⟩ : ∃ g, g = w.heap.size := ⟨_, rfl⟩
  have c0 : W.cell? ⟨g, 0, none⟩ = some (.int .i64 a0) := by rw [hW, hg]; simp
  have c1 : W.cell? ⟨g, 1, none⟩ = some (.int .i64 a1) := by rw [hW, hg]; simp
  have c2 : W.cell? ⟨g, 2, none⟩ = some (.int .i64 a2) := by rw [hW, hg]; simp
  have d0 : W.cell? ⟨g + 1, 0, none⟩ = some (.int .i64 b0) := by rw [hW, hg]; simp
  have d1 : W.cell? ⟨g + 1, 1, none⟩ = some (.int .i64 b1) := by rw [hW, hg]; simp
  have d2 : W.cell? ⟨g + 1, 2, none⟩ = some (.int .i64 b2) := by rw [hW, hg]; simp
  go_enter Al.func27, Tryd.ntmps27
  go_wp2
  rw [← hW, ← hg]
  clear hW hg
  generalize g + 1 = h at *
  go_region_held3 (fun w' => w'.cell? ⟨g, 0, none⟩ = some (.int .i64 a0) ∧ w'.cell? ⟨g, 1, none⟩ = some (.int .i64 a1) ∧ w'.cell? ⟨g, 2, none⟩ = some (.int .i64 a2) ∧ w'.cell? ⟨h, 0, none⟩ = some (.int .i64 b0) ∧ w'.cell? ⟨h, 1, none⟩ = some (.int .i64 b1) ∧ w'.cell? ⟨h, 2, none⟩ = some (.int .i64 b2)) (first | assumption | go_keep) (first | (go_at_call 29; refine (HC.out _ _ _).mono ?_; rintro e w' ⟨rfl, rfl⟩) | (go_at_call 28; refine (or_new _ _ _ _).mono ?_; rintro e w' ⟨rfl, rfl⟩))
  go_wp2
  go_ret
  exact ⟨rfl, HW.out _⟩
set_option maxHeartbeats 1600000 in
theorem second_any (a0 a1 a2 a3 b0 b1 b2 b3 : Int) (w : World) :
    Calls (Al.progOf Tryd.prog) 31 #[.agg #[.int .i64 a0, .int .i64 a1, .int .i64 a2, .int .i64 a3], .agg #[.int .i64 b0, .int .i64 b1, .int .i64 b2, .int .i64 b3]] w fun e w' => e = .returned (.bool (a0 == b0)) ∧ ∃ q os', w' = grow (w.drewN q) os' := by
  have HE : Hid (∀ o1 o2 : Obj, ∃ q os', ((w.alloc o1).alloc o2) = grow (w.drewN q) os') := fun o1 o2 => ⟨0, #[o1, o2], by rw [alloc_eq_grow, alloc_eq_grow, grow_grow]; rfl⟩
  go_enter Al.func31, Tryd.ntmps31
  go_wp2
  go_ret
  exact ⟨rfl, HE.out _ _⟩
end Go.Proofs.YtobpjijdebnaoaaDoorQ
namespace Go.Proofs.YtobpjijdebnaoaaDoorQ
open Go.Proofs.YtobpjijdebnaoaaDoorM
open Go.RowKit
set_option linter.unusedVariables false
/-- A found, as a struct says it. -/
structure Fd where
  lb : Nat
  pg : Nat
  sq : Nat
  kd : Nat
def fd0 : Fd := ⟨0, 0, 0, 0⟩
def gF (M : List Fd) (i : Nat) : Fd := M[i]?.getD fd0
def encF (e : Fd) : List Value := [.int .i64 (e.lb : Nat), .int .i64 (e.pg : Nat), .int .i64 (e.sq : Nat), .int .i64 (e.kd : Nat)]
def cellsF : List Fd → List Value
  | [] => []
  | e :: r => .int .i64 (e.lb : Nat) :: .int .i64 (e.pg : Nat) :: .int .i64 (e.sq : Nat) :: .int .i64 (e.kd : Nat) :: cellsF r
theorem cellsF_len : ∀ es, (cellsF es).length = es.length * 4
  | [] => rfl
  | e :: r => by simp only [cellsF, List.length_cons, cellsF_len r]; omega
theorem cellsF_app : ∀ es fs, cellsF (es ++ fs) = cellsF es ++ cellsF fs
  | [], fs => rfl
  | e :: r, fs => by simp only [List.cons_append, cellsF, cellsF_app r]
/-- Found e's cells lie at o. -/
def FAt (cur : Nat → Option Value) (o : Nat) (e : Fd) : Prop := cur o = some (.int .i64 (e.lb : Nat)) ∧ cur (o + 1) = some (.int .i64 (e.pg : Nat)) ∧ cur (o + 2) = some (.int .i64 (e.sq : Nat)) ∧ cur (o + 3) = some (.int .i64 (e.kd : Nat))
theorem cellsF_at : ∀ (es : List Fd) (i : Nat), i < es.length → FAt (fun k => (cellsF es)[k]?) (i * 4) (gF es i)
  | [], i, h => by simp at h
  | e :: r, 0, _ => ⟨rfl, rfl, rfl, rfl⟩
  | e :: r, i + 1, h => by
    have ih := cellsF_at r i (by simpa using h)
    have e1 : (i + 1) * 4 = i * 4 + 1 + 1 + 1 + 1 := by omega
    rw [e1]
    exact ih
theorem one_cellsF : ∀ es : List Fd, ∀ u ∈ cellsF es, u.oneCell' = true
  | [], u, h => by simp [cellsF] at h
  | e :: r, u, h => by
    simp only [cellsF, List.mem_cons] at h
    rcases h with rfl | rfl | rfl | rfl | h
    · rfl
    · rfl
    · rfl
    · rfl
    · exact one_cellsF r u h
/-- FOUNDS LIE AT a. -/
def FRow (w : World) (a : Option Addr) (M : List Fd) : Prop := M = [] ∨ ∃ g off, a = some ⟨g, off, none⟩ ∧ ∀ i, i < M.length → FAt (fun k => w.cell? ⟨g, k, none⟩) (off + i * 4) (gF M i)
theorem FRow.below {w w' : World} {a : Option Addr} {M : List Fd} (h : FRow w a M) (hb : Below w.heap.size w w') : FRow w' a M := by
  rcases h with h | ⟨g, off, e, h⟩
  · exact .inl h
  · refine .inr ⟨g, off, e, fun i hi => ?_⟩
    obtain ⟨h0, h1, h2, h3⟩ := h i hi
    exact ⟨lies_cell hb h0, lies_cell hb h1, lies_cell hb h2, lies_cell hb h3⟩
/-- THE SAME, THE CALL's OWN. -/
def OwnF (w : World) (base : Nat) (a : Option Addr) (cap : Nat) (M : List Fd) : Prop := w.ownsRow base 44 4 (.slice a M.length cap) M.length (cellsF M)
theorem OwnF.nil (w : World) (base : Nat) : OwnF w base none 0 [] := ⟨rfl, Or.inl ⟨rfl, rfl⟩⟩
theorem OwnF.parts {w : World} {base cap : Nat} {a : Option Addr} {M : List Fd} (h : OwnF w base a cap M) :
    (a = none ∧ cap = 0 ∧ M = []) ∨ ∃ g cur, a = some ⟨g, 0, none⟩ ∧ base ≤ g ∧ w.heap[g]? = some (.cells cur 44 (0, 0)) ∧ M.length ≤ cap ∧ cap ≤ maxLen ∧ cur.size = cap * 4 ∧ cur.toList.take (M.length * 4) = cellsF M := by
  rcases h.2 with ⟨h2, h3⟩ | ⟨g, cap', cur, hv, r1, r2, r3, r4, r5, r6⟩
  · simp at h2
    exact Or.inl ⟨h2.1, h2.2.2, h2.2.1⟩
  · simp at hv
    obtain ⟨rfl, rfl⟩ := hv
    exact Or.inr ⟨g, cur, rfl, r1, r2, r3, r4, r5, r6⟩
theorem OwnF.at {w : World} {base cap : Nat} {a : Option Addr} {M : List Fd} (h : OwnF w base a cap M) : FRow w a M := by
  rcases h.parts with ⟨_, _, h⟩ | ⟨g, cur, rfl, _, h2, _, _, _, h6⟩
  · exact Or.inl h
  · refine Or.inr ⟨g, 0, rfl, fun i hi => ?_⟩
    have e : ∀ j, j < M.length * 4 → w.cell? ⟨g, j, none⟩ = (cellsF M)[j]? := fun j hj => by
      rw [← h6, List.getElem?_take, if_pos hj, Array.getElem?_toList]
      simp [World.cell?, h2]
    obtain ⟨q0, q1, q2, q3⟩ := cellsF_at M i hi
    rw [Nat.zero_add]
    exact ⟨(e _ (by omega)).trans q0, (e _ (by omega)).trans q1, (e _ (by omega)).trans q2, (e _ (by omega)).trans q3⟩
theorem OwnF.blk {w : World} {base cap : Nat} {a : Option Addr} {M : List Fd} (h : OwnF w base a cap M) {b : Nat} (hb : blk a b) : base ≤ b ∧ b < w.heap.size := by
  obtain ⟨x, rfl, rfl⟩ := hb
  rcases h.parts with ⟨e, _, _⟩ | ⟨g, cur, e, h1, h2, _⟩
  · cases e
  · cases e
    exact ⟨h1, heap_lt h2⟩
theorem OwnF.keep {S : Nat → Prop} {w w' : World} {base cap : Nat} {a : Option Addr} {M : List Fd} (h : OwnF w base a cap M) (hk : Keep S w w') (hs : ∀ b, YtobpjijdebnaoaaDoorQ.blk a b → ¬ S b) : OwnF w' base a cap M := by
  refine ⟨h.1, ?_⟩
  rcases h.2 with h2 | ⟨g, cap', cur, hv, r1, r2, r3⟩
  · exact Or.inl h2
  · have e : a = some ⟨g, 0, none⟩ := by simp at hv; exact hv.1
    exact Or.inr ⟨g, cap', cur, hv, r1, by rw [hk.block g (heap_lt r2) (hs g ⟨_, e, rfl⟩)]; exact r2, r3⟩
theorem OwnF.below {w w' : World} {base cap : Nat} {a : Option Addr} {M : List Fd} (h : OwnF w base a cap M) (hb : Below w.heap.size w w') : OwnF w' base a cap M := h.keep (S := fun _ => False) (Keep.of_below hb) (fun _ _ e => e)
theorem OwnF.base {w : World} {b b' cap : Nat} {a : Option Addr} {M : List Fd} (h : OwnF w b a cap M) (hb : b' ≤ b) : OwnF w b' a cap M := by
  refine ⟨h.1, ?_⟩
  rcases h.2 with h2 | ⟨g, cap', cur, hv, r1, r2, r3⟩
  · exact Or.inl h2
  · exact Or.inr ⟨g, cap', cur, hv, Nat.le_trans hb r1, r2, r3⟩
theorem infoF : ((Al.progOf Tryd.prog).info? 44).map (fun i => (i.zero, i.size, i.bytes)) = some (some (.agg #[.int .i64 0, .int .i64 0, .int .i64 0, .int .i64 0]), 4, 32) := by kernel_rfl
theorem undF : (Al.progOf Tryd.prog).underlying 39 = some (.slice 44) := by kernel_rfl
theorem info_parts {P : Program} {t : TypeId} {z : Value} {s b : Nat} (h : (P.info? t).map (fun i => (i.zero, i.size, i.bytes)) = some (some z, s, b)) : ∃ i, P.info? t = some i ∧ i.zero = some z ∧ i.size = s ∧ i.bytes = b := by
  cases hi : P.info? t with
  | none => rw [hi] at h; cases h
  | some i =>
    rw [hi] at h
    simp only [Option.map_some, Option.some.injEq, Prod.mk.injEq] at h
    exact ⟨i, rfl, h.1, h.2.1, h.2.2⟩
/-- ONE MORE IS APPENDED. -/
theorem app_stepF {ops : Array Oper} {rest : List Oper} {o : Oper} {a : Act} {Q : Exit → Act → World → Prop} (hgd : o.guard = none) (s x : Operand)
    (ho : o.op = .call { callee := .builtin .append, args := #[s, x], argTypes := #[39, 39] }) (w : World) (base cap0 : Nat) (a0 : Option Addr) (es : List Fd) (e : Fd)
    (hs : a.eval s = .slice a0 es.length cap0) (hx : a.eval x = .slice (some ⟨w.heap.size, 0, none⟩) 1 1) (h : OwnF w base a0 cap0 es) (hk : (es.length + 1) * 32 ≤ 140737488355328) (hb : base ≤ w.heap.size)
    (hc : ∀ a1 cap1 w', OwnF w' base a1 cap1 (es ++ [e]) → Keep (blk a0) w w' → wpList (Al.progOf Tryd.prog) ops Q rest (a.put o.dst (.slice a1 (es.length + 1) cap1)) w') :
    wpList (Al.progOf Tryd.prog) ops Q (o :: rest) a (w.alloc (.cells #[.int .i64 (e.lb : Nat), .int .i64 (e.pg : Nat), .int .i64 (e.sq : Nat), .int .i64 (e.kd : Nat)] 44)) := by
  obtain ⟨i0, hi, hz0, hz1, hz2⟩ := info_parts infoF
  have hbl : Below w.heap.size w (w.alloc (.cells #[.int .i64 (e.lb : Nat), .int .i64 (e.pg : Nat), .int .i64 (e.sq : Nat), .int .i64 (e.kd : Nat)] 44)) := (Below.refl _ _).alloc (Nat.le_refl _) _
  have ho' : (w.alloc (.cells #[.int .i64 (e.lb : Nat), .int .i64 (e.pg : Nat), .int .i64 (e.sq : Nat), .int .i64 (e.kd : Nat)] 44)).ownsRow base 44 4 (.slice a0 es.length cap0) es.length (cellsF es) := h.below hbl
  refine wpList_append_lies (w.alloc (.cells #[.int .i64 (e.lb : Nat), .int .i64 (e.pg : Nat), .int .i64 (e.sq : Nat), .int .i64 (e.kd : Nat)] 44)) hgd s x 39 ho base 44 i0 _ 4 32 undF hi hz0 hz1 hz2 rfl (by decide) (.slice a0 es.length cap0) es.length _ hs ho' ⟨w.heap.size, 0, none⟩ 1 1 (cellsF [e]) hx rfl (World.news_of_block (heap_alloc_new w _)) (one_cellsF [e]) (by decide) (by unfold maxLen; omega) (by omega) (Nat.le_trans hb hbl.size) _ rfl ?_
  intro g cap1 w' h2 h3 _ _
  refine hc (some ⟨g, 0, none⟩) cap1 w' ?_ ((Keep.of_below hbl).trans (keep_grown h3))
  unfold OwnF
  rw [cellsF_app, List.length_append]
  exact h2
end Go.Proofs.YtobpjijdebnaoaaDoorQ
namespace Go.Proofs.YtobpjijdebnaoaaDoorQ
open Go.Shelf
def sortL_ren : Go.Shelf.Ren := ⟨fun | 6 => 26 | 15 => 44 | 14 => 43 | 28 => 74 | 29 => 75 | 20 => 66 | 21 => 67 | 22 => 68 | 23 => 69 | 24 => 70 | 25 => 71 | 26 => 72 | 27 => 73 | 46 => 82 | 47 => 83 | 48 => 84 | 49 => 85 | 50 => 86 | 57 => 87 | n => n, fun | 22 => 39 | 24 => 44 | 25 => 69 | 3 => 3 | 39 => 74 | 0 => 0 | 53 => 49 | 55 => 53 | 4 => 4 | 46 => 115 | 45 => 114 | 50 => 119 | 5 => 5 | 9 => 9 | 66 => 130 | 70 => 133 | 76 => 135 | 77 => 136 | n => n, fun | n => n⟩
theorem sortL : Go.Proofs.SlLaysF0.n6 (Al.progOf Tryd.prog) sortL_ren := {
  mixed := by kernel_rfl
  f6 := ⟨Tryd.f26.name, by decide, Al.func26.trans (congrArg some (by kernel_rfl))⟩
  f14 := ⟨Tryd.f43.name, by decide, Al.func43.trans (congrArg some (by kernel_rfl))⟩
  f15 := Al.func44.trans (congrArg some (by kernel_rfl))
  f20 := ⟨Tryd.f66.name, by decide, Al.func66.trans (congrArg some (by kernel_rfl))⟩
  f21 := ⟨Tryd.f67.name, by decide, Al.func67.trans (congrArg some (by kernel_rfl))⟩
  f22 := ⟨Tryd.f68.name, by decide, Al.func68.trans (congrArg some (by kernel_rfl))⟩
  f23 := ⟨Tryd.f69.name, by decide, Al.func69.trans (congrArg some (by kernel_rfl))⟩
  f24 := ⟨Tryd.f70.name, by decide, Al.func70.trans (congrArg some (by kernel_rfl))⟩
  f25 := ⟨Tryd.f71.name, by decide, Al.func71.trans (congrArg some (by kernel_rfl))⟩
  f26 := ⟨Tryd.f72.name, by decide, Al.func72.trans (congrArg some (by kernel_rfl))⟩
  f27 := ⟨Tryd.f73.name, by decide, Al.func73.trans (congrArg some (by kernel_rfl))⟩
  f28 := Al.func74.trans (congrArg some (by kernel_rfl))
  f29 := Al.func75.trans (congrArg some (by kernel_rfl))
  f46 := ⟨Tryd.f82.name, by decide, Al.func82.trans (congrArg some (by kernel_rfl))⟩
  f47 := Al.func83.trans (congrArg some (by kernel_rfl))
  f48 := Al.func84.trans (congrArg some (by kernel_rfl))
  f49 := ⟨Tryd.f85.name, by decide, Al.func85.trans (congrArg some (by kernel_rfl))⟩
  f50 := ⟨Tryd.f86.name, by decide, Al.func86.trans (congrArg some (by kernel_rfl))⟩
  f57 := ⟨Tryd.f87.name, by decide, Al.func87.trans (congrArg some (by kernel_rfl))⟩
  t0 := ((Al.und 0).trans Tryd.underlying0)
  a0 := fun w => (Al.agg 0 w).trans (Tryd.isAgg0 w)
  z0 := fun w => (Al.szo 0 w).trans (Tryd.sizeOf0 w)
  v0 := fun w => (Al.zer 0 w).trans (Tryd.zeroValue0 w)
  t3 := ((Al.und 3).trans Tryd.underlying3)
  a3 := fun w => (Al.agg 3 w).trans (Tryd.isAgg3 w)
  z3 := fun w => (Al.szo 3 w).trans (Tryd.sizeOf3 w)
  v3 := fun w => (Al.zer 3 w).trans (Tryd.zeroValue3 w)
  t4 := ((Al.und 4).trans Tryd.underlying4)
  a4 := fun w => (Al.agg 4 w).trans (Tryd.isAgg4 w)
  z4 := fun w => (Al.szo 4 w).trans (Tryd.sizeOf4 w)
  v4 := fun w => (Al.zer 4 w).trans (Tryd.zeroValue4 w)
  t5 := ((Al.und 5).trans Tryd.underlying5)
  a5 := fun w => (Al.agg 5 w).trans (Tryd.isAgg5 w)
  z5 := fun w => (Al.szo 5 w).trans (Tryd.sizeOf5 w)
  v5 := fun w => (Al.zer 5 w).trans (Tryd.zeroValue5 w)
  t9 := ((Al.und 9).trans Tryd.underlying9)
  a9 := fun w => (Al.agg 9 w).trans (Tryd.isAgg9 w)
  z9 := fun w => (Al.szo 9 w).trans (Tryd.sizeOf9 w)
  v9 := fun w => (Al.zer 9 w).trans (Tryd.zeroValue9 w)
  t22 := ((Al.und 39).trans Tryd.underlying39)
  a22 := fun w => (Al.agg 39 w).trans (Tryd.isAgg39 w)
  z22 := fun w => (Al.szo 39 w).trans (Tryd.sizeOf39 w)
  v22 := fun w => (Al.zer 39 w).trans (Tryd.zeroValue39 w)
  t25 := ((Al.und 69).trans Tryd.underlying69)
  a25 := fun w => (Al.agg 69 w).trans (Tryd.isAgg69 w)
  z25 := fun w => (Al.szo 69 w).trans (Tryd.sizeOf69 w)
  v25 := fun w => (Al.zer 69 w).trans (Tryd.zeroValue69 w)
  t39 := ((Al.und 74).trans Tryd.underlying74)
  a39 := fun w => (Al.agg 74 w).trans (Tryd.isAgg74 w)
  z39 := fun w => (Al.szo 74 w).trans (Tryd.sizeOf74 w)
  v39 := fun w => (Al.zer 74 w).trans (Tryd.zeroValue74 w)
  t45 := ((Al.und 114).trans Tryd.underlying114)
  a45 := fun w => (Al.agg 114 w).trans (Tryd.isAgg114 w)
  z45 := fun w => (Al.szo 114 w).trans (Tryd.sizeOf114 w)
  v45 := fun w => (Al.zer 114 w).trans (Tryd.zeroValue114 w)
  t46 := ((Al.und 115).trans Tryd.underlying115)
  a46 := fun w => (Al.agg 115 w).trans (Tryd.isAgg115 w)
  z46 := fun w => (Al.szo 115 w).trans (Tryd.sizeOf115 w)
  v46 := fun w => (Al.zer 115 w).trans (Tryd.zeroValue115 w)
  t50 := ((Al.und 119).trans Tryd.underlying119)
  a50 := fun w => (Al.agg 119 w).trans (Tryd.isAgg119 w)
  z50 := fun w => (Al.szo 119 w).trans (Tryd.sizeOf119 w)
  v50 := fun w => (Al.zer 119 w).trans (Tryd.zeroValue119 w)
  t53 := ((Al.und 49).trans Tryd.underlying49)
  a53 := fun w => (Al.agg 49 w).trans (Tryd.isAgg49 w)
  z53 := fun w => (Al.szo 49 w).trans (Tryd.sizeOf49 w)
  v53 := fun w => (Al.zer 49 w).trans (Tryd.zeroValue49 w)
  t55 := ((Al.und 53).trans Tryd.underlying53)
  a55 := fun w => (Al.agg 53 w).trans (Tryd.isAgg53 w)
  z55 := fun w => (Al.szo 53 w).trans (Tryd.sizeOf53 w)
  v55 := fun w => (Al.zer 53 w).trans (Tryd.zeroValue53 w)
  t66 := ((Al.und 130).trans Tryd.underlying130)
  a66 := fun w => (Al.agg 130 w).trans (Tryd.isAgg130 w)
  z66 := fun w => (Al.szo 130 w).trans (Tryd.sizeOf130 w)
  v66 := fun w => (Al.zer 130 w).trans (Tryd.zeroValue130 w)
  t70 := ((Al.und 133).trans Tryd.underlying133)
  a70 := fun w => (Al.agg 133 w).trans (Tryd.isAgg133 w)
  z70 := fun w => (Al.szo 133 w).trans (Tryd.sizeOf133 w)
  v70 := fun w => (Al.zer 133 w).trans (Tryd.zeroValue133 w)
  t76 := ((Al.und 135).trans Tryd.underlying135)
  a76 := fun w => (Al.agg 135 w).trans (Tryd.isAgg135 w)
  z76 := fun w => (Al.szo 135 w).trans (Tryd.sizeOf135 w)
  v76 := fun w => (Al.zer 135 w).trans (Tryd.zeroValue135 w)
  t77 := ((Al.und 136).trans Tryd.underlying136)
  a77 := fun w => (Al.agg 136 w).trans (Tryd.isAgg136 w)
  z77 := fun w => (Al.szo 136 w).trans (Tryd.sizeOf136 w)
  v77 := fun w => (Al.zer 136 w).trans (Tryd.zeroValue136 w) }
end Go.Proofs.YtobpjijdebnaoaaDoorQ
namespace Go.Proofs.YtobpjijdebnaoaaDoorQ
open Go.Proofs.YtobpjijdebnaoaaDoorM
open Go.Shelf Go.RowKit Go.Lib Go.Sort
set_option linter.unusedVariables false
/-- Which of two comes first: the lesser lba, the greater seq, the later page. -/
def cfF (F : Nat → Fd) (i j : Nat) : Int := orI [cmpI (F i).lb (F j).lb, cmpI (F j).sq (F i).sq, cmpI (F j).pg (F i).pg]
def ltF (F : Nat → Fd) (i j : Nat) : Prop := (F i).lb < (F j).lb ∨ ((F i).lb = (F j).lb ∧ ((F j).sq < (F i).sq ∨ ((F i).sq = (F j).sq ∧ (F j).pg < (F i).pg)))
theorem cfF_lt (F : Nat → Fd) (i j : Nat) : cfF F i j < 0 ↔ ltF F i j := by
  unfold cfF ltF orI orI orI orI cmpI
  by_cases h1 : (F i).lb < (F j).lb
  · simp [h1]
  · by_cases h2 : (F j).lb < (F i).lb
    · simp [h1, h2]; omega
    · have h3 : (F i).lb = (F j).lb := by omega
      by_cases h4 : (F j).sq < (F i).sq
      · simp [h3, h4]
      · by_cases h5 : (F i).sq < (F j).sq
        · simp [h3, h4, h5]; omega
        · have h6 : (F i).sq = (F j).sq := by omega
          by_cases h7 : (F j).pg < (F i).pg
          · simp [h3, h6, h7]
          · by_cases h8 : (F i).pg < (F j).pg
            · simp [h3, h6, h7, h8]
            · simp [h3, h6, h7, h8]
theorem lt_iff (F : Nat → Fd) (i j : Nat) : ltOf (cfF F) i j = true ↔ ltF F i j := by
  unfold ltOf
  rw [decide_eq_true_iff]
  exact cfF_lt F i j
theorem lt_no (F : Nat → Fd) (i j : Nat) : ltOf (cfF F) i j = false ↔ ¬ ltF F i j := by
  rw [← lt_iff F i j]
  simp
theorem swoF (F : Nat → Fd) : SWO (ltOf (cfF F)) :=
  ⟨fun x => (lt_no F x x).2 (by unfold ltF; omega), fun x y z h1 h2 => (lt_iff F x z).2 (by have := (lt_iff F x y).1 h1; have := (lt_iff F y z).1 h2; unfold ltF at *; omega), fun x y z h1 h2 => (lt_no F x z).2 (by have := (lt_no F x y).1 h1; have := (lt_no F y z).1 h2; unfold ltF at *; omega)⟩
/-- The founds of some pages, in order. -/
def srt (F : Nat → Fd) (c : List Nat) : List Nat := c.mergeSort fun x y => !(ltOf (cfF F)) y x
theorem srt_len (F : Nat → Fd) (c : List Nat) : (srt F c).length = c.length := by unfold srt; rw [List.length_mergeSort]
theorem flat_cells (F : Nat → Fd) (d : Array Nat) : flatK (fun i => encF (F i)) 4 d = (cellsF (d.toList.map F)).toArray := by
  refine ext_get! (by simp [cellsF_len]) fun t ht => ?_
  have ht' : t < d.size * 4 := by simpa using ht
  rw [get_flatK _ _ _ t ht']
  have hq : t / 4 < d.size := by omega
  obtain ⟨q0, q1, q2, q3⟩ := cellsF_at (d.toList.map F) (t / 4) (by simpa using hq)
  have hg : gF (d.toList.map F) (t / 4) = F d[t / 4]! := by
    unfold gF
    rw [List.getElem?_map, Array.getElem?_toList, Array.getElem?_eq_getElem hq, getElem!_pos d _ hq]
    rfl
  rw [hg] at q0 q1 q2 q3
  have hm : t % 4 = 0 ∨ t % 4 = 1 ∨ t % 4 = 2 ∨ t % 4 = 3 := by omega
  have key : ∀ (o : Nat) (v : Value), t % 4 = o → (cellsF (d.toList.map F))[t / 4 * 4 + o]? = some v → (cellsF (d.toList.map F)).toArray[t]! = v := fun o v e h => by
    rw [show t = t / 4 * 4 + o by omega]
    rw [Array.getElem!_eq_getD, Array.getD_eq_getD_getElem?, List.getElem?_toArray, h]
    rfl
  rcases hm with e | e | e | e
  · rw [key 0 _ e q0, e]; rfl
  · rw [key 1 _ e q1, e]; rfl
  · rw [key 2 _ e q2, e]; rfl
  · rw [key 3 _ e q3, e]; rfl
theorem sw_keep {α : Type} [Inhabited α] (enc : α → Value) (w : World) (g n : Nat) (d : Array α) (os : Array Obj) : Keep (fun b => b = g) w (sortWorld enc w g 0 n d os) := by
  refine ⟨rfl, rfl, rfl, ?_, fun k hk hs => ?_⟩
  · unfold sortWorld
    rw [size_grow, size_putRow, heap_ahead]
    omega
  · unfold sortWorld
    rw [heap_grow_old _ _ (by rw [size_putRow, heap_ahead]; exact hk)]
    have hne : ¬ g = k := fun e => hs e.symm
    simp [putRow, mapBlock, Array.getElem?_modify, hne]
theorem sw_row {α : Type} [Inhabited α] (enc : α → Value) (w : World) (g n : Nat) (d : Array α) (os : Array Obj) {cur : Array Value} {t : TypeId} {f : Nat × Nat} (h : w.heap[g]? = some (.cells cur t f)) : (sortWorld enc w g 0 n d os).heap[g]? = some (.cells (putCells enc 0 d cur) t f) := by
  unfold sortWorld
  rw [heap_grow_old _ _ (by rw [size_putRow, heap_ahead]; exact heap_lt h)]
  simp [putRow, mapBlock, Array.getElem?_modify, h, onCells]
theorem put_size {α : Type} [Inhabited α] (enc : α → Value) (d : Array α) (cur : Array Value) : (putCells enc 0 d cur).size = cur.size := by simp [putCells]
theorem put_take {α : Type} [Inhabited α] (enc : α → Value) (d : Array α) (cur : Array Value) (h : d.size ≤ cur.size) : (putCells enc 0 d cur).toList.take d.size = d.toList.map enc := by
  apply List.ext_getElem
  · simp [putCells]; omega
  · intro i h1 h2
    have hi : i < d.size := by simpa using h2
    have e1 : ((putCells enc 0 d cur).toList.take d.size)[i] = enc d[i]! := by
      simp [putCells, List.getElem_take, hi]
    rw [e1]
    simp [getElem!_pos d i hi]
theorem aggF (w : World) : (isAgg 44).run (Al.progOf Tryd.prog) w = .ok true w := by kernel_rfl
theorem sizF (w : World) : (Go.sizeOf 44).run (Al.progOf Tryd.prog) w = .ok 4 w := by kernel_rfl
set_option maxHeartbeats 1000000 in
theorem sort_some (F : Nat → Fd) (hF : ∀ i, (F i).pg = i) (g cap base : Nat) (c : List Nat) (w : World) (hcl : c.length ≤ 4096) (hO : OwnF w base (some ⟨g, 0, none⟩) cap (c.map F)) :
    Calls (Al.progOf Tryd.prog) 26 #[.slice (some ⟨g, 0, none⟩) c.length cap, .func (.func 27) #[] #[]] w fun e w' => e = .returned (.tuple #[]) ∧ OwnF w' base (some ⟨g, 0, none⟩) cap ((srt F c).map F) ∧ Keep (fun b => b = g) w w' := by
  rcases hO.parts with ⟨e, _⟩ | ⟨g', cur, e, h1, h2, h3, h4, h5, h6⟩
  · cases e
  · cases e
    rw [List.length_map] at h3 h6
    have hH : HoldsK (fun i => encF (F i)) 4 w g 0 c.toArray := by
      unfold HoldsK
      rw [flat_cells]
      intro j hj
      have hj' : j < c.length * 4 := by simpa [cellsF_len] using hj
      rw [Nat.zero_add]
      refine ⟨?_, row_free h2 j⟩
      have e1 : cur[j]? = (cellsF (c.map F))[j]? := by rw [← h6, List.getElem?_take, if_pos hj', Array.getElem?_toList]
      have hlt : j < (cellsF (c.map F)).length := by rw [cellsF_len, List.length_map]; exact hj'
      simp only [World.cell?, h2, e1, List.getElem?_eq_getElem hlt]
      simp [hlt]
    have eg : ∀ args w, (callFunc 27 args).run (Al.progOf Tryd.prog) w = .ok (.enter 27 args) w := enters_of Al.func27 (by kernel_rfl) rfl
    have hcmp : CmpLays (Al.progOf Tryd.prog) 27 #[] (fun i => encF (F i)) 4 (cfF F) g 0 c.toArray.size w := fun m os dk hs x y => first_any _ _ _ _ _ _ _ _ _
    have hS := AnyQ.slices_SortFunc_total sortL 4 aggF sizF (fun i => encF (F i)) (fun _ => rfl) (fun x v hv => by
      simp only [encF, List.mem_cons, List.not_mem_nil, or_false] at hv
      rcases hv with rfl | rfl | rfl | rfl <;> rfl) (cfF F) (swoF F) 27 #[] g 0 cap c.toArray w eg hcmp hH (heap_lt h2) (by simp; omega) (fun x y a b => by
      have a := (lt_no F x y).1 a
      have b := (lt_no F y x).1 b
      have := hF x
      have := hF y
      unfold ltF at a b
      omega)
    change Calls (Al.progOf Tryd.prog) 26 _ _ _ at hS
    rw [List.size_toArray] at hS
    refine hS.mono ?_
    rintro e w' ⟨he, n, os, hw⟩
    have hw2 : w' = sortWorld id w g 0 n (cellsF ((srt F c).map F)).toArray os := by
      rw [hw]
      unfold sortWorldK putRowK sortWorld
      rw [flat_cells]
      rfl
    have hsz : (cellsF ((srt F c).map F)).toArray.size = c.length * 4 := by rw [List.size_toArray, cellsF_len, List.length_map, srt_len]
    refine ⟨he, ⟨by simp [cellsF_len], Or.inr ⟨g, cap, putCells id 0 (cellsF ((srt F c).map F)).toArray cur, by simp, h1, by rw [hw2]; exact sw_row id w g n _ os h2, by rw [List.length_map, srt_len]; exact h3, h4, by rw [put_size]; exact h5, ?_⟩⟩, by rw [hw2]; exact sw_keep id w g n _ os⟩
    have ht := put_take id (cellsF ((srt F c).map F)).toArray cur (by rw [hsz, h5]; omega)
    rw [hsz] at ht
    rw [List.length_map, srt_len, ht]
    simp
theorem sort_none (p : Option Addr) (cap : Nat) (fv : Value) (w : World) : Calls (Al.progOf Tryd.prog) 26 #[.slice p 0 cap, fv] w fun e w' => e = .returned (.tuple #[]) ∧ w' = w :=
  AnyF.slices_SortFunc_none (P := (Al.progOf Tryd.prog)) (ρ := sortL_ren) { sortL with } p cap fv w
end Go.Proofs.YtobpjijdebnaoaaDoorQ
