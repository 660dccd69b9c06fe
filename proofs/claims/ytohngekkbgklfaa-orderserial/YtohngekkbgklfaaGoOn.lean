/-
  What the call of search.goOn gives: the first list that goes on from a state, or none.
-/
import Derived.Test.YtohngekkbgklfaaGoMath
namespace Go.Proofs.Ytohngekkbgklfaa
open Go.RowKit
set_option linter.unusedVariables false

/-- ONE NUMBER MORE IS APPENDED; where the row lies then. -/
theorem app_stepL {ops : Array Oper} {rest : List Oper} {o : Oper} {a : Act} {Q : Exit → Act → World → Prop} (hgd : o.guard = none) (s x : Operand)
    (ho : o.op = .call { callee := .builtin .append, args := #[s, x], argTypes := #[23, 23] }) (w : World) (base cap0 : Nat) (a0 : Option Addr) (es : List Int) (e : Int) (n : Nat) (hn : es.length = n)
    (hs : a.eval s = .slice a0 n cap0) (hx : a.eval x = .slice (some ⟨w.heap.size, 0, none⟩) 1 1) (h : OwnI w base a0 cap0 es) (hk : (n + 1) * 8 ≤ 140737488355328) (hb : base ≤ w.heap.size)
    (hc : ∀ g cap1 w', OwnI w' base (some ⟨g, 0, none⟩) cap1 (es ++ [e]) → Keep (blk a0) (w.alloc (.cells #[.int .i64 e] 3)) w' → (blk a0 g ∨ g = w.heap.size + 1) → wpList Try.prog ops Q rest (a.put o.dst (.slice (some ⟨g, 0, none⟩) (n + 1) cap1)) w') :
    wpList Try.prog ops Q (o :: rest) a (w.alloc (.cells #[.int .i64 e] 3)) := by
  subst hn
  obtain ⟨i0, hi, hz0, hz1, hz2⟩ := info_parts infoInt
  have hbl : Below w.heap.size w (w.alloc (.cells #[.int .i64 e] 3)) := (Below.refl _ _).alloc (Nat.le_refl _) _
  have ho' : (w.alloc (.cells #[.int .i64 e] 3)).ownsRow base 3 1 (.slice a0 es.length cap0) es.length (es.map ivI) := h.below hbl
  refine wpList_append_lies (w.alloc (.cells #[.int .i64 e] 3)) hgd s x 23 ho base 3 i0 _ 1 8 Try.underlying23 hi hz0 hz1 hz2 rfl (by decide) (.slice a0 es.length cap0) es.length _ hs ho' ⟨w.heap.size, 0, none⟩ 1 1 [ivI e] hx rfl (World.news_of_block (heap_alloc_new w _)) (one_ivI [e]) (by decide) (by unfold maxLen; omega) (by omega) (Nat.le_trans hb hbl.size) (w.heap.size + 1) (by simp) ?_
  intro g cap1 w' h2 h3 h4 _
  refine hc g cap1 w' ?_ (keep_grown h3) (h4.imp blk_of id)
  unfold OwnI
  rw [List.map_append, List.length_append]
  exact h2
section
variable (l : List Cl) (n B0 B sb mb : Nat) (a : Option Addr) (cap : Nat) (ba : Option Addr) (bc : Nat) (ha : Option Addr) (hc : Nat)
/-- What goOn gives. -/
def GoPost (k : Nat) (oa : Option Addr) (o : List Nat) (m : Nat) (st : St) (w : World) (e : Ending) (w' : World) : Prop :=
  (∃ r oa' oc' m' D', srch l k st = some r ∧ e = .returned (.bool true) ∧ SR w' B0 B sb mb a n cap l ba bc ha hc oa' oc' (o ++ r) m' D' ∧ Keep (TS sb mb oa) w w') ∨
  (∃ oa' oc' m' D', srch l k st = none ∧ e = .returned (.bool false) ∧ SR w' B0 B sb mb a n cap l ba bc ha hc oa' oc' o m' D' ∧ DD l n D' ∧ m' ≤ m + 11 ^ k ∧ Keep (TS sb mb oa) w w' ∧ ∀ b, blk oa' b → blk oa b ∨ w.heap.size ≤ b)
def GoP (k : Nat) : Prop := ∀ oa oc o m D st w, SR w B0 B sb mb a n cap l ba bc ha hc oa oc o m D → o.length + k = n → cnt n st.s + k = n → GS st → DD l n D → m + 11 ^ k ≤ 25937424601 →
  Calls Try.prog 10 #[.pointer (some ⟨sb, 0, none⟩), stV st] w (GoPost l n B0 B sb mb a cap ba bc ha hc k oa o m st w)
end
set_option maxHeartbeats 3200000 in
theorem go_full (sb : Nat) (a : Option Addr) (n cap : Nat) (oa : Option Addr) (oc : Nat) (cs : Array Value) (w : World) (s0 : w.cell? ⟨sb, 0, none⟩ = some (.slice a n cap)) (s4 : w.cell? ⟨sb, 4, none⟩ = some (.slice oa n oc)) :
    Calls Try.prog 10 #[.pointer (some ⟨sb, 0, none⟩), .agg cs] w fun e w' => e = .returned (.bool true) ∧ Below w.heap.size w w' := by
  have hlt : sb < w.heap.size := World.block_lt_of_cell? w _ s0
  have HB : Hid (∀ q, Below w.heap.size w ((w.alloc (.cells cs 39)).drewN q)) := fun q => below_drewN (alloc_below' w _) q
  go_enter Try.func10, Try.ntmps10
  go_wp2
  go_quiet (fail)
  go_wp2
  go_ret
  exact ⟨rfl, HB.out _⟩
theorem zeroU (w : World) : (zeroValue 45).run Try.prog w = .ok (.agg #[]) w := by kernel_rfl
/-- What is looked up. -/
theorem look_run {w : World} {mb m : Nat} {D : DataW Unit} {key : Value} {kl : Lit} (h : w.ownsMap Try.prog 39 (unitElem (H := Unit)) mb m D) (hk : keyOf Try.prog 39 key = some kl) (b : Bool) (hb : Maps.has D kl = b) :
    (Instr.lookup 41 (.map (some mb)) key true).run Try.prog w = .ok (.tuple #[.agg #[], .bool b]) w := by
  obtain ⟨v, ps, hrun, hv⟩ := h.look_ok stLaw Try.underlying41 (zeroU w) unitElem_mk hk
  obtain ⟨rfl, _⟩ := unitElem_inv hv
  rw [hb] at hrun
  exact hrun
set_option maxRecDepth 20000 in
set_option maxHeartbeats 3200000 in
theorem go_dead (sb mb : Nat) (a : Option Addr) (n cap : Nat) (oa : Option Addr) (oc q m S : Nat) (x0 x1 x2 x3 x4 x5 x6 x7 x8 x9 : Int) (kl : Lit) (D : DataW Unit) (w : World) (s0 : w.cell? ⟨sb, 0, none⟩ = some (.slice a n cap)) (s3 : w.cell? ⟨sb, 3, none⟩ = some (.map (some mb))) (s4 : w.cell? ⟨sb, 4, none⟩ = some (.slice oa q oc)) (hq : q < n)
    (hm : w.ownsMap Try.prog 39 (unitElem (H := Unit)) mb m D) (hk : keyOf Try.prog 39 (.agg #[.int .i64 (S : Nat), .int .i64 x0, .int .i64 x1, .int .i64 x2, .int .i64 x3, .int .i64 x4, .int .i64 x5, .int .i64 x6, .int .i64 x7, .int .i64 x8, .int .i64 x9]) = some kl) (hh : Maps.has D kl = true) :
    Calls Try.prog 10 #[.pointer (some ⟨sb, 0, none⟩), .agg #[.int .i64 (S : Nat), .int .i64 x0, .int .i64 x1, .int .i64 x2, .int .i64 x3, .int .i64 x4, .int .i64 x5, .int .i64 x6, .int .i64 x7, .int .i64 x8, .int .i64 x9]] w fun e w' => e = .returned (.bool false) ∧ Below w.heap.size w w' := by
  have hlt : sb < w.heap.size := World.block_lt_of_cell? w _ s0
  have HB : Hid (∀ q, Below w.heap.size w ((w.alloc (.cells #[.int .i64 (S : Nat), .int .i64 x0, .int .i64 x1, .int .i64 x2, .int .i64 x3, .int .i64 x4, .int .i64 x5, .int .i64 x6, .int .i64 x7, .int .i64 x8, .int .i64 x9] 39)).drewN q)) := fun q => below_drewN (alloc_below' w _) q
  have HS : Hid (∀ q, Stc ((w.alloc (.cells #[.int .i64 (S : Nat), .int .i64 x0, .int .i64 x1, .int .i64 x2, .int .i64 x3, .int .i64 x4, .int .i64 x5, .int .i64 x6, .int .i64 x7, .int .i64 x8, .int .i64 x9] 39)).drewN q) w.heap.size 39 [.int .i64 (S : Nat), .int .i64 x0, .int .i64 x1, .int .i64 x2, .int .i64 x3, .int .i64 x4, .int .i64 x5, .int .i64 x6, .int .i64 x7, .int .i64 x8, .int .i64 x9]) := fun q => stc_alloc _ _ rfl q
  have HM : Hid (∀ wx, Below w.heap.size w wx → (Instr.lookup 41 (.map (some mb)) (.agg #[.int .i64 (S : Nat), .int .i64 x0, .int .i64 x1, .int .i64 x2, .int .i64 x3, .int .i64 x4, .int .i64 x5, .int .i64 x6, .int .i64 x7, .int .i64 x8, .int .i64 x9]) true).run Try.prog wx = .ok (.tuple #[.agg #[], .bool true]) wx) := fun wx hb => look_run (map_keep hm (S := fun _ => False) (Keep.of_below hb) (fun e => e)) hk true hh
  have HC : Hid (∀ wx, Below w.heap.size w wx → wx.cell? ⟨sb, 0, none⟩ = some (.slice a n cap) ∧ wx.cell? ⟨sb, 3, none⟩ = some (.map (some mb))) := fun wx hb => ⟨((Keep.of_below (S := fun _ => False) hb).cell (p := ⟨sb, 0, none⟩) hlt (fun e => e)).trans s0, ((Keep.of_below (S := fun _ => False) hb).cell (p := ⟨sb, 3, none⟩) hlt (fun e => e)).trans s3⟩
  clear hm hk hh
  go_enter Try.func10, Try.ntmps10
  go_wp2
  go_quiet (fail)
  generalize hW : ((w.alloc (.cells #[.int .i64 (S : Nat), .int .i64 x0, .int .i64 x1, .int .i64 x2, .int .i64 x3, .int .i64 x4, .int .i64 x5, .int .i64 x6, .int .i64 x7, .int .i64 x8, .int .i64 x9] 39)).drewN nq) = W1
  have hB1 : Hid (Below w.heap.size w W1) := hW ▸ HB.out nq
  have hS1 : Hid (Stc W1 w.heap.size 39 [.int .i64 (S : Nat), .int .i64 x0, .int .i64 x1, .int .i64 x2, .int .i64 x3, .int .i64 x4, .int .i64 x5, .int .i64 x6, .int .i64 x7, .int .i64 x8, .int .i64 x9]) := hW ▸ HS.out nq
  obtain ⟨d0, d3⟩ := HC.out W1 hB1.out
  have l1 : sb < W1.heap.size := World.block_lt_of_cell? W1 _ d0
  have l2 : w.heap.size < W1.heap.size := heap_lt hS1.out
  have k1 := HM.out W1 hB1.out
  have k2 := HM.out W1.drew hB1.out.drew
  have k3 := HM.out (W1.alloc (.cells #[] 45)) (hB1.out.alloc hB1.out.size _)
  have k4 := HM.out (W1.alloc (.cells #[] 45)).drew (hB1.out.alloc hB1.out.size _).drew
  have e0 := hS1.out.cell 0
  have e1 := hS1.out.cell 1
  have e2 := hS1.out.cell 2
  have e3 := hS1.out.cell 3
  have e4 := hS1.out.cell 4
  have e5 := hS1.out.cell 5
  have e6 := hS1.out.cell 6
  have e7 := hS1.out.cell 7
  have e8 := hS1.out.cell 8
  have e9 := hS1.out.cell 9
  have e10 := hS1.out.cell 10
  simp only [List.getElem?_cons_zero, List.getElem?_cons_succ] at e0 e1 e2 e3 e4 e5 e6 e7 e8 e9 e10
  clear hW s0 s3 s4
  go_wp2
  go_region
  all_goals (clear k1 k2 k3 k4; go_wp2; go_ret; exact ⟨rfl, (hB1.out.alloc hB1.out.size _).drew⟩)
/-- THE ROUNDS. -/
def GoR (l : List Cl) (n B0 B sb mb : Nat) (a : Option Addr) (cap : Nat) (ba : Option Addr) (bc : Nat) (ha : Option Addr) (hc k : Nat) (oa : Option Addr) (o : List Nat) (m : Nat) (st : St) (w wr : World) (i : Nat) (oa' : Option Addr) (oc' m' : Nat) (D' : DataW Unit) : Prop :=
  SR wr B0 B sb mb a n cap l ba bc ha hc oa' oc' o m' D' ∧ DD l n D' ∧ m' ≤ m + i * 11 ^ k ∧ (∀ j, j < i → gO l k st j = none) ∧ Keep (TS sb mb oa) w wr ∧ (∀ b, blk oa' b → blk oa b ∨ w.heap.size < b) ∧ Stc wr w.heap.size 39 (stC st)
theorem GoR.below {l : List Cl} {n B0 B sb mb : Nat} {a : Option Addr} {cap : Nat} {ba : Option Addr} {bc : Nat} {ha : Option Addr} {hc k : Nat} {oa : Option Addr} {o : List Nat} {m : Nat} {st : St} {w wr w' : World} {i : Nat} {oa' : Option Addr} {oc' m' : Nat} {D' : DataW Unit}
    (h : GoR l n B0 B sb mb a cap ba bc ha hc k oa o m st w wr i oa' oc' m' D') (hb : Below wr.heap.size wr w') : GoR l n B0 B sb mb a cap ba bc ha hc k oa o m st w w' i oa' oc' m' D' :=
  ⟨h.1.below hb, h.2.1, h.2.2.1, h.2.2.2.1, h.2.2.2.2.1.trans (Keep.of_below hb |>.mono (fun _ e => e)) , h.2.2.2.2.2.1, h.2.2.2.2.2.2.below hb⟩
theorem GoR.more {l : List Cl} {n B0 B sb mb : Nat} {a : Option Addr} {cap : Nat} {ba : Option Addr} {bc : Nat} {ha : Option Addr} {hc k : Nat} {oa : Option Addr} {o : List Nat} {m : Nat} {st : St} {w wr : World} {i : Nat} {oa' : Option Addr} {oc' m' : Nat} {D' : DataW Unit}
    (h : GoR l n B0 B sb mb a cap ba bc ha hc k oa o m st w wr i oa' oc' m' D') (hi : gO l k st i = none) : GoR l n B0 B sb mb a cap ba bc ha hc k oa o m st w wr (i + 1) oa' oc' m' D' :=
  ⟨h.1, h.2.1, Nat.le_trans h.2.2.1 (Nat.add_le_add_left (Nat.mul_le_mul_right _ (Nat.le_succ _)) _), gO_more h.2.2.2.1 hi, h.2.2.2.2⟩
/-- One call more stands. -/
theorem go_push {l : List Cl} {n B0 B sb mb : Nat} {a : Option Addr} {cap : Nat} {ba : Option Addr} {bc : Nat} {ha : Option Addr} {hc k : Nat} {oa : Option Addr} {o : List Nat} {m : Nat} {st : St} {w w3 w4 : World} {i : Nat} {oa' : Option Addr} {oc' m' q tb g2 cap2 : Nat} {D' : DataW Unit} {t : TypeId} {cs : List Value}
    (h : GoR l n B0 B sb mb a cap ba bc ha hc k oa o m st w w3 i oa' oc' m' D') (hq : o.length = q) (ht : Stc w3 tb t cs) (ho : ∀ b, blk oa' b → b < tb) (hsb : sb < tb) (hw : w.heap.size < tb) (hz : w3.heap.size = tb + 1) (hoa : ∀ b, blk oa b → b < w.heap.size) (hsw : sb < w.heap.size)
    (ho2 : OwnI w4 B (some ⟨g2, 0, none⟩) cap2 (orI o ++ [((i : Nat) : Int)])) (hk2 : Keep (blk oa') (w3.alloc (.cells #[.int .i64 ((i : Nat) : Int)] 3)) w4) (hg2 : blk oa' g2 ∨ g2 = w3.heap.size + 1) :
    w4.cell? ⟨sb, 4, none⟩ = some (.slice oa' q oc') ∧ w4.frozen? ⟨sb, 4, none⟩ = false ∧
    Hid (SR (w4.setCell ⟨sb, 4, none⟩ (.slice (some ⟨g2, 0, none⟩) (q + 1) cap2)) B0 B sb mb a n cap l ba bc ha hc (some ⟨g2, 0, none⟩) cap2 (o ++ [i]) m' D' ∧ Stc (w4.setCell ⟨sb, 4, none⟩ (.slice (some ⟨g2, 0, none⟩) (q + 1) cap2)) tb t cs ∧
      Keep (TS sb mb oa) w (w4.setCell ⟨sb, 4, none⟩ (.slice (some ⟨g2, 0, none⟩) (q + 1) cap2)) ∧ (∀ b, blk (some ⟨g2, 0, none⟩) b → blk oa b ∨ w.heap.size < b) ∧ Stc (w4.setCell ⟨sb, 4, none⟩ (.slice (some ⟨g2, 0, none⟩) (q + 1) cap2)) w.heap.size 39 (stC st) ∧ ¬ blk (some ⟨g2, 0, none⟩) w.heap.size ∧ w.heap.size < (w4.setCell ⟨sb, 4, none⟩ (.slice (some ⟨g2, 0, none⟩) (q + 1) cap2)).heap.size) := by
  have lt := h.1.lt
  have own := h.1.own
  have hb := alloc_below' w3 (.cells #[.int .i64 ((i : Nat) : Int)] 3)
  have h3 := h.1.below hb
  have hS := (h3.st.keep hk2 (fun e => by have := own _ e; omega))
  have hp := h3.push i q hq g2 cap2 ho2 hk2
  have nw : ¬ blk oa' w.heap.size := fun e => by
    rcases h.2.2.2.2.2.1 _ e with e2 | e2
    · have := hoa _ e2
      omega
    · omega
  have hloc : ∀ b, blk (some ⟨g2, 0, none⟩) b → blk oa b ∨ w.heap.size < b := by
    rintro b ⟨x, e, rfl⟩
    cases e
    rcases hg2 with hg2 | hg2
    · exact h.2.2.2.2.2.1 _ hg2
    · exact Or.inr (by show w.heap.size < g2; omega)
  have kS : Keep (fun b => b = sb) w4 (w4.setCell ⟨sb, 4, none⟩ (.slice (some ⟨g2, 0, none⟩) (q + 1) cap2)) := Keep.set1 (Keep.refl _ _) 4 _
  refine ⟨by rw [hS.cell 4, ← hq]; rfl, hS.free 4, hp, ?_, ?_, hloc, ?_, ?_, ?_⟩
  · exact (((ht.below hb).keep hk2 (fun e => by have := ho _ e; omega)).set_other (by omega) _ _)
  · refine ((h.2.2.2.2.1.trans (Keep.of_below hb)).thru hk2 (fun b hb e => ?_)).thru kS (fun b _ e => Or.inl e)
    rcases h.2.2.2.2.2.1 _ e with e2 | e2
    · exact Or.inr (Or.inr e2)
    · omega
  · exact (((h.2.2.2.2.2.2.below hb).keep hk2 nw).set_other (by omega) _ _)
  · rintro ⟨x, e, e2⟩
    cases e
    rcases hg2 with hg2 | hg2
    · exact nw (e2 ▸ hg2)
    · simp only at e2; omega
  · have := hk2.size
    have := hb.size
    have := kS.size
    omega
set_option maxRecDepth 40000 in
set_option maxHeartbeats 6400000 in
theorem go_walk (l : List Cl) (n B0 B sb mb : Nat) (a : Option Addr) (cap : Nat) (ba : Option Addr) (bc : Nat) (ha : Option Addr) (hc k : Nat) (IH : GoP l n B0 B sb mb a cap ba bc ha hc k) (hn : n ≤ 10) (hG : ∀ i, i < n → 0 ≤ (gC l i).v ∧ (gC l i).v ≤ 9223372036854775807)
    (oa : Option Addr) (oc : Nat) (o : List Nat) (q m S : Nat) (x0 x1 x2 x3 x4 x5 x6 x7 x8 x9 : Int) (kl : Lit) (D : DataW Unit) (w : World) (h : SR w B0 B sb mb a n cap l ba bc ha hc oa oc o m D) (hq : o.length = q) (hlen : q + (k + 1) = n) (hcnt : cnt n S + (k + 1) = n) (hg : GS ⟨S, [x0, x1, x2, x3, x4, x5, x6, x7, x8, x9]⟩) (hd : DD l n D) (hm : m + 11 ^ (k + 1) ≤ 25937424601)
    (hk : keyOf Try.prog 39 (.agg #[.int .i64 (S : Nat), .int .i64 x0, .int .i64 x1, .int .i64 x2, .int .i64 x3, .int .i64 x4, .int .i64 x5, .int .i64 x6, .int .i64 x7, .int .i64 x8, .int .i64 x9]) = some kl) (hh : Maps.has D kl = false) :
    Calls Try.prog 10 #[.pointer (some ⟨sb, 0, none⟩), .agg #[.int .i64 (S : Nat), .int .i64 x0, .int .i64 x1, .int .i64 x2, .int .i64 x3, .int .i64 x4, .int .i64 x5, .int .i64 x6, .int .i64 x7, .int .i64 x8, .int .i64 x9]] w (GoPost l n B0 B sb mb a cap ba bc ha hc (k + 1) oa o m ⟨S, [x0, x1, x2, x3, x4, x5, x6, x7, x8, x9]⟩ w) := by
  have s0 : w.cell? ⟨sb, 0, none⟩ = some (.slice a n cap) := h.st.cell 0
  have s3 : w.cell? ⟨sb, 3, none⟩ = some (.map (some mb)) := h.st.cell 3
  have s4 : w.cell? ⟨sb, 4, none⟩ = some (.slice oa q oc) := by rw [h.st.cell 4, ← hq]; rfl
  have hqn : q < n := by omega
  have hlt : sb < w.heap.size := World.block_lt_of_cell? w _ s0
  have HB : Hid (∀ q, Below w.heap.size w ((w.alloc (.cells #[.int .i64 (S : Nat), .int .i64 x0, .int .i64 x1, .int .i64 x2, .int .i64 x3, .int .i64 x4, .int .i64 x5, .int .i64 x6, .int .i64 x7, .int .i64 x8, .int .i64 x9] 39)).drewN q)) := fun q => below_drewN (alloc_below' w _) q
  have HS : Hid (∀ q, Stc ((w.alloc (.cells #[.int .i64 (S : Nat), .int .i64 x0, .int .i64 x1, .int .i64 x2, .int .i64 x3, .int .i64 x4, .int .i64 x5, .int .i64 x6, .int .i64 x7, .int .i64 x8, .int .i64 x9] 39)).drewN q) w.heap.size 39 [.int .i64 (S : Nat), .int .i64 x0, .int .i64 x1, .int .i64 x2, .int .i64 x3, .int .i64 x4, .int .i64 x5, .int .i64 x6, .int .i64 x7, .int .i64 x8, .int .i64 x9]) := fun q => stc_alloc _ _ rfl q
  have HM : Hid (∀ wx, Below w.heap.size w wx → (Instr.lookup 41 (.map (some mb)) (.agg #[.int .i64 (S : Nat), .int .i64 x0, .int .i64 x1, .int .i64 x2, .int .i64 x3, .int .i64 x4, .int .i64 x5, .int .i64 x6, .int .i64 x7, .int .i64 x8, .int .i64 x9]) true).run Try.prog wx = .ok (.tuple #[.agg #[], .bool false]) wx) := fun wx hb => look_run (map_keep h.mp (S := fun _ => False) (Keep.of_below hb) (fun e => e)) hk false hh
  have HC : Hid (∀ wx, Below w.heap.size w wx → wx.cell? ⟨sb, 0, none⟩ = some (.slice a n cap) ∧ wx.cell? ⟨sb, 3, none⟩ = some (.map (some mb))) := fun wx hb => ⟨((Keep.of_below (S := fun _ => False) hb).cell (p := ⟨sb, 0, none⟩) hlt (fun e => e)).trans s0, ((Keep.of_below (S := fun _ => False) hb).cell (p := ⟨sb, 3, none⟩) hlt (fun e => e)).trans s3⟩
  have HH : Hid (SR w B0 B sb mb a n cap l ba bc ha hc oa oc o m D ∧ o.length = q ∧ GS ⟨S, [x0, x1, x2, x3, x4, x5, x6, x7, x8, x9]⟩ ∧ DD l n D ∧ keyOf Try.prog 39 (.agg #[.int .i64 (S : Nat), .int .i64 x0, .int .i64 x1, .int .i64 x2, .int .i64 x3, .int .i64 x4, .int .i64 x5, .int .i64 x6, .int .i64 x7, .int .i64 x8, .int .i64 x9]) = some kl ∧ GoP l n B0 B sb mb a cap ba bc ha hc k ∧ (∀ i, i < n → 0 ≤ (gC l i).v ∧ (gC l i).v ≤ 9223372036854775807) ∧ q + (k + 1) = n ∧ cnt n S + (k + 1) = n ∧ m + 11 ^ (k + 1) ≤ 25937424601) := ⟨h, hq, hg, hd, hk, IH, hG, hlen, hcnt, hm⟩
  clear h hq hg hd hk hh IH hG hlen hcnt hm
  go_enter Try.func10, Try.ntmps10
  go_wp2
  go_quiet (fail)
  generalize hW : ((w.alloc (.cells #[.int .i64 (S : Nat), .int .i64 x0, .int .i64 x1, .int .i64 x2, .int .i64 x3, .int .i64 x4, .int .i64 x5, .int .i64 x6, .int .i64 x7, .int .i64 x8, .int .i64 x9] 39)).drewN nq) = W1
  have hB1 : Hid (Below w.heap.size w W1) := hW ▸ HB.out nq
  have hS1 : Hid (Stc W1 w.heap.size 39 [.int .i64 (S : Nat), .int .i64 x0, .int .i64 x1, .int .i64 x2, .int .i64 x3, .int .i64 x4, .int .i64 x5, .int .i64 x6, .int .i64 x7, .int .i64 x8, .int .i64 x9]) := hW ▸ HS.out nq
  obtain ⟨d0, d3⟩ := HC.out W1 hB1.out
  have l1 : sb < W1.heap.size := World.block_lt_of_cell? W1 _ d0
  have l2 : w.heap.size < W1.heap.size := heap_lt hS1.out
  have k1 := HM.out W1 hB1.out
  have k2 := HM.out W1.drew hB1.out.drew
  have k3 := HM.out (W1.alloc (.cells #[] 45)) (hB1.out.alloc hB1.out.size _)
  have k4 := HM.out (W1.alloc (.cells #[] 45)).drew (hB1.out.alloc hB1.out.size _).drew
  have e0 := hS1.out.cell 0
  have e1 := hS1.out.cell 1
  have e2 := hS1.out.cell 2
  have e3 := hS1.out.cell 3
  have e4 := hS1.out.cell 4
  have e5 := hS1.out.cell 5
  have e6 := hS1.out.cell 6
  have e7 := hS1.out.cell 7
  have e8 := hS1.out.cell 8
  have e9 := hS1.out.cell 9
  have e10 := hS1.out.cell 10
  simp only [List.getElem?_cons_zero, List.getElem?_cons_succ] at e0 e1 e2 e3 e4 e5 e6 e7 e8 e9 e10
  clear hW s0 s3 s4 HS HB HM
  go_upto_region 3 with fail
  go_cut [6] (fun v wx => v = .bool false ∧ Hid (Below w.heap.size w wx ∧ Stc wx w.heap.size 39 [.int .i64 (S : Nat), .int .i64 x0, .int .i64 x1, .int .i64 x2, .int .i64 x3, .int .i64 x4, .int .i64 x5, .int .i64 x6, .int .i64 x7, .int .i64 x8, .int .i64 x9]))
  case first =>
    go_region
    all_goals (clear k1 k2 k3 k4; go_wp2_with fail; go_meet; exact ⟨rfl, (hB1.out.alloc hB1.out.size _).drew, (hS1.out.below (alloc_below' W1 _)).drew⟩)
  case rest =>
  obtain ⟨rfl, hR⟩ := hcut
  obtain ⟨f0, f3⟩ := HC.out wc hR.out.1
  have H0 : Hid (GoR l n B0 B sb mb a cap ba bc ha hc k oa o m ⟨S, [x0, x1, x2, x3, x4, x5, x6, x7, x8, x9]⟩ w wc 0 oa oc m D) := ⟨HH.out.1.below hR.out.1, HH.out.2.2.2.1, by omega, fun j hj => by omega, Keep.of_below hR.out.1, fun b hb => Or.inl hb, hR.out.2⟩
  clear k1 k2 k3 k4 hB1 hS1 d0 d3 l1 l2 HC e0 e1 e2 e3 e4 e5 e6 e7 e8 e9 e10
  go_wp2
  go_loopw [36] (fun j wr => ∃ (i : Nat) (oa' : Option Addr) (oc' m' : Nat) (D' : DataW Unit), i ≤ n ∧ j = .int .i64 i ∧ Hid (GoR l n B0 B sb mb a cap ba bc ha hc k oa o m ⟨S, [x0, x1, x2, x3, x4, x5, x6, x7, x8, x9]⟩ w wr i oa' oc' m' D')) (fun j _ => n - (intOf j).toNat)
  case atStart => exact ⟨0, oa, oc, m, D, Nat.zero_le _, rfl, H0.out⟩
  case round =>
    obtain ⟨i, oa', oc', m', D', hi, rfl, hR⟩ := hrel
    clear H0 f0 f3 
    have hE : Stc wr w.heap.size 39 [.int .i64 (S : Nat), .int .i64 x0, .int .i64 x1, .int .i64 x2, .int .i64 x3, .int .i64 x4, .int .i64 x5, .int .i64 x6, .int .i64 x7, .int .i64 x8, .int .i64 x9] := hR.out.2.2.2.2.2.2
    have l2 : w.heap.size < wr.heap.size := heap_lt hE
    have g0 : wr.cell? ⟨sb, 0, none⟩ = some (.slice a n cap) := hR.out.1.st.cell 0
    have g3 : wr.cell? ⟨sb, 3, none⟩ = some (.map (some mb)) := hR.out.1.st.cell 3
    have l1 : sb < wr.heap.size := World.block_lt_of_cell? wr _ g0
    have e0 := hE.cell 0
    have e1 := hE.cell 1
    have e2 := hE.cell 2
    have e3 := hE.cell 3
    have e4 := hE.cell 4
    have e5 := hE.cell 5
    have e6 := hE.cell 6
    have e7 := hE.cell 7
    have e8 := hE.cell 8
    have e9 := hE.cell 9
    have e10 := hE.cell 10
    simp only [List.getElem?_cons_zero, List.getElem?_cons_succ] at e0 e1 e2 e3 e4 e5 e6 e7 e8 e9 e10
    by_cases hlt : i < n
    · have HBH := behind_any B0 B sb mb a n cap l ba bc ha hc oa' oc' o m' D' ⟨S, [x0, x1, x2, x3, x4, x5, x6, x7, x8, x9]⟩ i wr hR.out.1 hn hlt HH.out.2.2.1.s HH.out.2.2.1.x
      by_cases hok : okS l ⟨S, [x0, x1, x2, x3, x4, x5, x6, x7, x8, x9]⟩ i = true
      · obtain ⟨T, y0, y1, y2, y3, y4, y5, y6, y7, y8, y9, hst⟩ : ∃ T y0 y1 y2 y3 y4 y5 y6 y7 y8 y9, stp l ⟨S, [x0, x1, x2, x3, x4, x5, x6, x7, x8, x9]⟩ i = ⟨T, [y0, y1, y2, y3, y4, y5, y6, y7, y8, y9]⟩ := by
          obtain ⟨y0, y1, y2, y3, y4, y5, y6, y7, y8, y9, hy⟩ := ten (HH.out.2.2.1.stp (l := l) (i := i) (by omega) (HH.out.2.2.2.2.2.2.1 i hlt)).x
          exact ⟨_, y0, y1, y2, y3, y4, y5, y6, y7, y8, y9, by rw [← hy]⟩
        rw [if_pos hok, hok, hst] at HBH
        have HBH' : Hid (Calls Try.prog 13 #[.pointer (some ⟨sb, 0, none⟩), .agg #[.int .i64 (S : Nat), .int .i64 x0, .int .i64 x1, .int .i64 x2, .int .i64 x3, .int .i64 x4, .int .i64 x5, .int .i64 x6, .int .i64 x7, .int .i64 x8, .int .i64 x9], .int .i64 i] wr fun e w' => e = .returned (.tuple #[.agg #[.int .i64 (T : Nat), .int .i64 y0, .int .i64 y1, .int .i64 y2, .int .i64 y3, .int .i64 y4, .int .i64 y5, .int .i64 y6, .int .i64 y7, .int .i64 y8, .int .i64 y9], .bool true]) ∧ Below wr.heap.size wr w') := HBH
        have hokp := okS_of.1 hok
        have HT : Hid (T = S ||| 2 ^ i ∧ GS ⟨T, [y0, y1, y2, y3, y4, y5, y6, y7, y8, y9]⟩ ∧ cnt n T + k = n) := by
          have e : T = S ||| 2 ^ i := (congrArg St.s hst).symm
          refine ⟨e, hst ▸ HH.out.2.2.1.stp (by omega) (HH.out.2.2.2.2.2.2.1 i hlt), ?_⟩
          have h1 := HH.out.2.2.2.2.2.2.2.2.1
          have h2 := cnt_set (n := n) hokp.1 hlt
          rw [e]
          simp only at h2
          omega
        have HST : Hid (stp l ⟨S, [x0, x1, x2, x3, x4, x5, x6, x7, x8, x9]⟩ i = ⟨T, [y0, y1, y2, y3, y4, y5, y6, y7, y8, y9]⟩ ∧ okS l ⟨S, [x0, x1, x2, x3, x4, x5, x6, x7, x8, x9]⟩ i = true) := ⟨hst, hok⟩
        clear HBH hokp hok hst
        go_wp2_with fail
        refine HBH'.out.mono ?_
        rintro e w2 ⟨rfl, hb⟩
        have HB2 : Hid (Below wr.heap.size wr w2) := hb
        clear HBH' hb g0 g3 e0 e1 e2 e3 e4 e5 e6 e7 e8 e9 e10
        go_upto_region 11 with fail
        have H3 : Hid (GoR l n B0 B sb mb a cap ba bc ha hc k oa o m ⟨S, [x0, x1, x2, x3, x4, x5, x6, x7, x8, x9]⟩ w (w2.alloc (.cells #[.int .i64 (T : Nat), .int .i64 y0, .int .i64 y1, .int .i64 y2, .int .i64 y3, .int .i64 y4, .int .i64 y5, .int .i64 y6, .int .i64 y7, .int .i64 y8, .int .i64 y9] 39)) i oa' oc' m' D') := (hR.out.below HB2.out).below (alloc_below' w2 _)
        have HT3 : Hid (Stc (w2.alloc (.cells #[.int .i64 (T : Nat), .int .i64 y0, .int .i64 y1, .int .i64 y2, .int .i64 y3, .int .i64 y4, .int .i64 y5, .int .i64 y6, .int .i64 y7, .int .i64 y8, .int .i64 y9] 39)) w2.heap.size 39 [.int .i64 (T : Nat), .int .i64 y0, .int .i64 y1, .int .i64 y2, .int .i64 y3, .int .i64 y4, .int .i64 y5, .int .i64 y6, .int .i64 y7, .int .i64 y8, .int .i64 y9]) := stc_new w2 _ _ _ rfl
        have HO3 : Hid (∀ b, blk oa' b → b < w2.heap.size) := fun b hb => Nat.lt_of_lt_of_le (hR.out.1.own b hb).2 HB2.out.size
        have HSB : Hid (sb < w2.heap.size ∧ w.heap.size < w2.heap.size) := ⟨Nat.lt_of_lt_of_le l1 HB2.out.size, Nat.lt_of_lt_of_le l2 HB2.out.size⟩
        generalize hW3 : w2.alloc (.cells #[.int .i64 (T : Nat), .int .i64 y0, .int .i64 y1, .int .i64 y2, .int .i64 y3, .int .i64 y4, .int .i64 y5, .int .i64 y6, .int .i64 y7, .int .i64 y8, .int .i64 y9] 39) = w3 at H3 HT3 ⊢
        have HZ3 : Hid (w3.heap.size = w2.heap.size + 1) := by show w3.heap.size = w2.heap.size + 1; rw [← hW3]; simp
        clear hW3 l1 l2 hE
        have g4 : w3.cell? ⟨sb, 4, none⟩ = some (.slice oa' q oc') := by rw [H3.out.1.st.cell 4, ← HH.out.2.1]; rfl
        have l3 : sb < w3.heap.size := World.block_lt_of_cell? w3 _ g4
        have hq10 : q < 10 := by have := HH.out.2.2.2.2.2.2.2.1; omega
        go_upto_region 12 with (at_builtin; refine app_stepL rfl (.tmp 52) (.tmp 54) (by rfl) w3 B oc' oa' (orI o) _ q ((orI_len o).trans HH.out.2.1) (by rfl) (by rfl) H3.out.1.od (by omega) H3.out.1.sz ?_; intro g2 cap2 w4 ho2 hk2 hg2; obtain ⟨zc, zf, H5⟩ := go_push H3.out HH.out.2.1 HT3.out HO3.out HSB.out.1 HSB.out.2 HZ3.out (fun b hb => (HH.out.1.own b hb).2) (heap_lt HH.out.1.st) ho2 hk2 hg2)
        generalize (w4.setCell ⟨sb, 4, none⟩ (.slice (some ⟨g2, 0, none⟩) (q + 1) cap2)) = w5 at H5 ⊢
        have hY : Stc w5 w2.heap.size 39 [.int .i64 (T : Nat), .int .i64 y0, .int .i64 y1, .int .i64 y2, .int .i64 y3, .int .i64 y4, .int .i64 y5, .int .i64 y6, .int .i64 y7, .int .i64 y8, .int .i64 y9] := H5.out.2.1
        have e0 := hY.cell 0
        have e1 := hY.cell 1
        have e2 := hY.cell 2
        have e3 := hY.cell 3
        have e4 := hY.cell 4
        have e5 := hY.cell 5
        have e6 := hY.cell 6
        have e7 := hY.cell 7
        have e8 := hY.cell 8
        have e9 := hY.cell 9
        have e10 := hY.cell 10
        simp only [List.getElem?_cons_zero, List.getElem?_cons_succ] at e0 e1 e2 e3 e4 e5 e6 e7 e8 e9 e10
        have HIH : Hid (Calls Try.prog 10 #[.pointer (some ⟨sb, 0, none⟩), .agg #[.int .i64 (T : Nat), .int .i64 y0, .int .i64 y1, .int .i64 y2, .int .i64 y3, .int .i64 y4, .int .i64 y5, .int .i64 y6, .int .i64 y7, .int .i64 y8, .int .i64 y9]] w5 (GoPost l n B0 B sb mb a cap ba bc ha hc k (some ⟨g2, 0, none⟩) (o ++ [i]) m' ⟨T, [y0, y1, y2, y3, y4, y5, y6, y7, y8, y9]⟩ w5)) := by
          have hmul : i * 11 ^ k ≤ 9 * 11 ^ k := Nat.mul_le_mul_right _ (by omega)
          have hpow : 11 ^ (k + 1) = 11 ^ k * 11 := Nat.pow_succ 11 k
          have h1 := H3.out.2.2.1
          have h2 := HH.out.2.2.2.2.2.2.2.2.2
          have h3 := HH.out.2.2.2.2.2.2.2.1
          have h4 := HH.out.2.1
          exact HH.out.2.2.2.2.2.1 _ _ _ _ _ ⟨T, [y0, y1, y2, y3, y4, y5, y6, y7, y8, y9]⟩ w5 H5.out.1 (by rw [List.length_append, h4]; simp; omega) HT.out.2.2 HT.out.2.1 H3.out.2.1 (by omega)
        clear hY zc zf g4 l3 ho2 hk2 hg2
        go_wp2_with fail
        refine HIH.out.mono ?_
        intro e w6 hp
        have HP : Hid (GoPost l n B0 B sb mb a cap ba bc ha hc k (some ⟨g2, 0, none⟩) (o ++ [i]) m' ⟨T, [y0, y1, y2, y3, y4, y5, y6, y7, y8, y9]⟩ w5 e w6) := hp
        clear hp HIH e0 e1 e2 e3 e4 e5 e6 e7 e8 e9 e10
        rcases HP.out with ⟨r, oa2, oc2, m2, D2, hsr, rfl, hS2, hK2⟩ | ⟨oa2, oc2, m2, D2, hsr, rfl, hS2, hD2, hm2, hK2, hloc2⟩
        · have HF : Hid (GoPost l n B0 B sb mb a cap ba bc ha hc (k + 1) oa o m ⟨S, [x0, x1, x2, x3, x4, x5, x6, x7, x8, x9]⟩ w (.returned (.bool true)) w6) := by
            refine Or.inl ⟨i :: r, oa2, oc2, m2, D2, srch_some HH.out.1.len hlt H3.out.2.2.2.1 HST.out.2 (by rw [HST.out.1]; exact hsr), rfl, ?_, ?_⟩
            · rw [List.append_assoc] at hS2
              exact hS2
            · exact H5.out.2.2.1.thru hK2 (fun b hb e => by
                rcases e with e | e | e
                · exact Or.inl e
                · exact Or.inr (Or.inl e)
                · rcases H5.out.2.2.2.1 b e with e | e
                  · exact Or.inr (Or.inr e)
                  · omega)
          clear hsr hS2 hK2 HP
          go_wp2
          go_ret
          exact HF.out
        · have HPop : Hid (SR w6 B0 B sb mb a n cap l ba bc ha hc oa2 oc2 (o ++ [i]) m2 D2) := hS2
          have g6 : w6.cell? ⟨sb, 4, none⟩ = some (.slice oa2 (q + 1) oc2) := by rw [hS2.st.cell 4, ← HH.out.2.1, List.length_append]; rfl
          have q6 := hS2.st.free 4
          have hcap : q ≤ oc2 := by
            rcases hS2.od.parts with ⟨_, _, e⟩ | ⟨g, cur, _, _, _, h3, _⟩
            · simp at e
            · simp [HH.out.2.1] at h3
              omega
          have hsl := fun wz => sliceI_to oa2 (q + 1) oc2 q hcap wz
          have HF : Hid (∀ w7, w7 = (w6.setCell ⟨sb, 4, none⟩ (.slice oa2 q oc2)) → ∀ w8, Below w7.heap.size w7 w8 → GoR l n B0 B sb mb a cap ba bc ha hc k oa o m ⟨S, [x0, x1, x2, x3, x4, x5, x6, x7, x8, x9]⟩ w w8 (i + 1) oa2 oc2 m2 D2) := by
            rintro w7 rfl w8 hb8
            refine GoR.below ?_ hb8
            have kS : Keep (fun b => b = sb) w6 (w6.setCell ⟨sb, 4, none⟩ (.slice oa2 q oc2)) := Keep.set1 (Keep.refl _ _) 4 _
            have hw := heap_lt HH.out.1.st
            have hmb := map_lt HH.out.1.mp
            have ht : ¬ TS sb mb (some ⟨g2, 0, none⟩) w.heap.size := by
              rintro (e | e | e)
              · omega
              · omega
              · exact H5.out.2.2.2.2.2.1 e
            refine ⟨hS2.pop q HH.out.2.1, hD2, ?_, gO_more H3.out.2.2.2.1 (gO_none (by rw [HST.out.1]; exact hsr)), ?_, ?_, ((H5.out.2.2.2.2.1.keep hK2 ht).set_other (by omega) _ _)⟩
            · have h1 := H3.out.2.2.1
              rw [Nat.succ_mul]
              exact Nat.le_trans hm2 (by omega)
            · refine (H5.out.2.2.1.thru hK2 (fun b hb e => ?_)).thru kS (fun b _ e => Or.inl e)
              rcases e with e | e | e
              · exact Or.inl e
              · exact Or.inr (Or.inl e)
              · rcases H5.out.2.2.2.1 b e with e | e
                · exact Or.inr (Or.inr e)
                · omega
            · intro b hb
              rcases hloc2 b hb with e | e
              · exact H5.out.2.2.2.1 b e
              · exact Or.inr (Nat.lt_of_lt_of_le H5.out.2.2.2.2.2.2 e)
          clear hsr hS2 hD2 hm2 hK2 hloc2 HP
          go_upto_region 14 with fail
          go_region
          go_wp2
          exact ⟨⟨i + 1, oa2, oc2, m2, D2, by omega, by go_num, HF.out _ rfl _ ((Below.refl _ _).drew)⟩, by simp [intOf]; omega⟩
      · have hok' : okS l ⟨S, [x0, x1, x2, x3, x4, x5, x6, x7, x8, x9]⟩ i = false := by simpa using hok
        rw [hok'] at HBH
        have HBH' : Hid (Calls Try.prog 13 #[.pointer (some ⟨sb, 0, none⟩), .agg #[.int .i64 (S : Nat), .int .i64 x0, .int .i64 x1, .int .i64 x2, .int .i64 x3, .int .i64 x4, .int .i64 x5, .int .i64 x6, .int .i64 x7, .int .i64 x8, .int .i64 x9], .int .i64 i] wr fun e w' => e = .returned (.tuple #[.agg #[.int .i64 0, .int .i64 0, .int .i64 0, .int .i64 0, .int .i64 0, .int .i64 0, .int .i64 0, .int .i64 0, .int .i64 0, .int .i64 0, .int .i64 0], .bool false]) ∧ Below wr.heap.size wr w') := HBH
        have HN : Hid (gO l k ⟨S, [x0, x1, x2, x3, x4, x5, x6, x7, x8, x9]⟩ i = none) := gO_not hok'
        clear HBH hok hok'
        go_wp2_with fail
        refine HBH'.out.mono ?_
        rintro e w2 ⟨rfl, hb⟩
        have HB2 : Hid (Below wr.heap.size wr w2) := hb
        clear HBH' hb g0 g3 e0 e1 e2 e3 e4 e5 e6 e7 e8 e9 e10
        go_wp2
        exact ⟨⟨i + 1, oa', oc', m', D', by omega, by go_num, ((hR.out.below HB2.out).below (alloc_below' w2 _)).more HN.out⟩, by simp [intOf]; omega⟩
    · obtain rfl : i = n := by omega
      clear hlt
      have hp : 1 ≤ 11 ^ k := Nat.pow_pos (by omega)
      have hmul : i * 11 ^ k ≤ 10 * 11 ^ k := Nat.mul_le_mul_right _ hn
      have hpow : 11 ^ (k + 1) = 11 ^ k * 11 := Nat.pow_succ 11 k
      have hmb := hR.out.2.2.1
      have hmx := HH.out.2.2.2.2.2.2.2.2.2
      have hm1 : m' + 1 ≤ m + 11 ^ (k + 1) := by omega
      obtain ⟨w1, hrun, hown, hturn⟩ := World.ownsMap.store (w := wr.drew) (b := mb) (n := m') (D := D') (R := unitElem (H := Unit)) (map_keep hR.out.1.mp (S := fun _ => False) ((Keep.refl _ _).drew) (fun e => e)) stLaw Try.underlying41 (by unfold maxLen; omega) HH.out.2.2.2.2.1 (unitElem_mk (H := Unit))
      have hkm : Keep (fun b => b = mb) wr.drew w1 := ⟨hturn.grown.os, hturn.grown.tape, hturn.grown.output, hturn.grown.size, fun j hj hs => hturn.grown.block j hj (fun e => hs (by cases e; rfl))⟩
      have HF : Hid (GoPost l i B0 B sb mb a cap ba bc ha hc (k + 1) oa o m ⟨S, [x0, x1, x2, x3, x4, x5, x6, x7, x8, x9]⟩ w (.returned (.bool false)) w1) := by
        refine Or.inr ⟨oa', oc', m' + 1, _, srch_no (HH.out.1.len) hR.out.2.2.2.1, rfl, (hR.out.1.below ((Below.refl _ _).drew)).mark hown hkm, hR.out.2.1.put HH.out.2.2.1 HH.out.2.2.2.2.1 (fun k' hk' => ?_) _, hm1, ?_, fun b hb => (hR.out.2.2.2.2.2.1 b hb).imp id Nat.le_of_lt⟩
        · have e : k' = k + 1 := by have := HH.out.2.2.2.2.2.2.2.2.1; simp only at hk'; omega
          rw [e]
          exact srch_no (HH.out.1.len) hR.out.2.2.2.1
        · exact (hR.out.2.2.2.2.1.trans ((Keep.refl _ _).drew)).thru hkm (fun b _ e => Or.inr (Or.inl e))
      clear hkm hown hturn hp hmul hpow hmb hmx hm1
      go_wp2
      go_region
      go_wp2
      go_ret
      exact HF.out
theorem go_any (l : List Cl) (n B0 B sb mb : Nat) (a : Option Addr) (cap : Nat) (ba : Option Addr) (bc : Nat) (ha : Option Addr) (hc : Nat) (hn : n ≤ 10) (hG : ∀ i, i < n → 0 ≤ (gC l i).v ∧ (gC l i).v ≤ 9223372036854775807) : ∀ k, GoP l n B0 B sb mb a cap ba bc ha hc k
  | 0 => by
    intro oa oc o m D st w h hlen hcnt hg hd hm
    have hq : o.length = n := by omega
    refine (go_full sb a n cap oa oc (stC st).toArray w (h.st.cell 0) (by rw [h.st.cell 4, hq]; rfl)).mono ?_
    rintro e w' ⟨rfl, hb⟩
    exact Or.inl ⟨[], oa, oc, m, D, rfl, rfl, by rw [List.append_nil]; exact h.below hb, Keep.of_below hb⟩
  | k + 1 => by
    intro oa oc o m D st w h hlen hcnt hg hd hm
    obtain ⟨kl, hk⟩ := st_key hg
    obtain ⟨S, X⟩ := st
    obtain ⟨x0, x1, x2, x3, x4, x5, x6, x7, x8, x9, rfl⟩ := ten hg.x
    cases hh : Maps.has D kl with
    | true =>
      refine (go_dead sb mb a n cap oa oc o.length m S x0 x1 x2 x3 x4 x5 x6 x7 x8 x9 kl D w (h.st.cell 0) (h.st.cell 3) (h.st.cell 4) (by omega) h.mp hk hh).mono ?_
      rintro e w' ⟨rfl, hb⟩
      exact Or.inr ⟨oa, oc, m, D, hd _ kl hg hk hh (k + 1) hcnt, rfl, h.below hb, hd, Nat.le_add_right _ _, Keep.of_below hb, fun b hb => Or.inl hb⟩
    | false =>
      exact go_walk l n B0 B sb mb a cap ba bc ha hc k (go_any l n B0 B sb mb a cap ba bc ha hc hn hG k) hn hG oa oc o o.length m S x0 x1 x2 x3 x4 x5 x6 x7 x8 x9 kl D w h rfl (by omega) hcnt hg hd hm hk hh
end Go.Proofs.Ytohngekkbgklfaa
