/-
  The walk of granarylaw3.RingOnce: it returns true, and nothing that was there has turned.
-/
import Derived.Test.YtnfjfffchhiooaaTake
import Derived.Test.YtnfjfffchhiooaaQuo
import Derived.Test.YtnfjfffchhiooaaScript
namespace Go.Proofs.Ytnfjfffchhiooaa
open Go.RowKit
set_option linter.unusedVariables false

def bvB (b : Bool) : Value := .bool b
def gB (l : List Bool) (i : Nat) : Bool := l[i]?.getD false
theorem gB_set {l : List Bool} {i j : Nat} {x : Bool} (hi : i < l.length) : gB (l.set i x) j = if j = i then x else gB l j := by
  unfold gB
  by_cases h : j = i
  · subst h; simp [hi]
  · rw [if_neg h, List.getElem?_set_ne (fun e => h e.symm)]
theorem stc_bool {w : World} {g : Nat} {t : TypeId} {l : List Bool} (h : Stc w g t (l.map bvB)) {i : Nat} (hi : i < l.length) : w.cell? ⟨g, i, none⟩ = some (.bool (gB l i)) := by
  rw [h.cell, List.getElem?_map, List.getElem?_eq_getElem hi]
  unfold gB
  rw [List.getElem?_eq_getElem hi]
  rfl
theorem stc_bool_set {w : World} {g : Nat} {t : TypeId} {l : List Bool} (h : Stc w g t (l.map bvB)) (i : Nat) (x : Bool) : Stc (w.setCell ⟨g, i, none⟩ (.bool x)) g t ((l.set i x).map bvB) := by
  have e := h.set i (.bool x)
  rw [List.map_set]
  exact e
theorem infoB : (Try.prog.info? 4).map (fun i => (i.zero, i.size, i.bytes)) = some (some (.bool false), 1, 1) := by kernel_rfl
def mkBo (n : Nat) : Array Value := ((List.replicate n false).map bvB).toArray
theorem made_bools (n : Nat) (hn : n ≤ 1048576) (w : World) : (Instr.makeSlice 31 (.int .i64 (n : Int)) (.int .i64 (n : Int))).run Try.prog w = .ok (.slice (some ⟨w.heap.size, 0, none⟩) n n) (w.alloc (.cells (mkBo n) 4)) := by
  obtain ⟨i0, hi, hz0, hz1, hz2⟩ := info_parts infoB
  have h := run_make (P := Try.prog) w 31 4 i0 (.bool false) Try.underlying31 hi hz0 .i64 .i64 n n (by omega) (by omega) (by rw [hz2]; omega) (by omega)
  rw [h]
  have e : madeCells (Value.bool false).cells ((n : Int).toNat * i0.size) = mkBo n := by
    unfold mkBo
    apply Array.toList_inj.1
    rw [hz1, Int.toNat_natCast, Nat.mul_one]
    have := toList_madeCells_one (Value.bool false) n
    simp only [List.map_replicate]
    exact this
  rw [e]
  simp
theorem gB_rep {n i : Nat} : gB (List.replicate n false) i = false := by
  unfold gB
  rw [List.getElem?_replicate]
  split <;> rfl
/-- The phases as they stand, behind P puts of which K were taken. -/
structure PhI (n K P : Nat) (ph : List Bool) : Prop where
  ln : ph.length = n
  A : ∀ q, K ≤ q → q < P → gB ph (q % n) = phs n q
  B : ∀ q, P ≤ q → q < K + n → gB ph (q % n) = !(phs n q)
  le : K ≤ P
  lt : P < K + n
theorem mod_ne {n a b : Nat} (h : a < b) (h2 : b < a + n) : ¬ a % n = b % n := fun e => by
  have := mod_inj (n := n) (p := a) (a := 0) (b := b - a) (by omega) (by omega) (by rw [Nat.add_zero, show a + (b - a) = b by omega]; exact e)
  omega
theorem PhI.first {n : Nat} (hn : 2 ≤ n) : PhI n 0 0 (List.replicate n false) := by
  refine ⟨by simp, fun q h1 h2 => by omega, fun q h1 h2 => ?_, Nat.le_refl _, by omega⟩
  rw [gB_rep]
  unfold phs
  rw [Nat.div_eq_of_lt (by omega)]
  rfl
theorem PhI.put {n K P : Nat} {ph : List Bool} (h : PhI n K P ph) (hn : 2 ≤ n) (hr : ¬ P - K = n - 1) : PhI n K (P + 1) (ph.set (P % n) (phs n P)) := by
  have hle := h.le
  have hlt := h.lt
  have hm : P % n < ph.length := by rw [h.ln]; exact Nat.mod_lt _ (by omega)
  refine ⟨by rw [List.length_set]; exact h.ln, fun q h1 h2 => ?_, fun q h1 h2 => ?_, by omega, by omega⟩
  · rw [gB_set hm]
    by_cases e : q = P
    · subst e; rw [if_pos rfl]
    · rw [if_neg (mod_ne (by omega) (by omega))]
      exact h.A q h1 (by omega)
  · rw [gB_set hm, if_neg (fun e => mod_ne (n := n) (a := P) (b := q) (by omega) (by omega) e.symm)]
    exact h.B q (by omega) h2
theorem PhI.tk {n K P : Nat} {ph : List Bool} (h : PhI n K P ph) : Tk n (gB ph) K (P - K) := by
  have hle := h.le
  have hlt := h.lt
  refine ⟨by omega, fun i hi => h.A (K + i) (by omega) (by omega), ?_⟩
  right
  rw [show K + (P - K) = P by omega, h.B P (Nat.le_refl _) hlt]
  cases phs n P <;> simp
theorem PhI.take {n K P : Nat} {ph : List Bool} (h : PhI n K P ph) (hn : 2 ≤ n) : PhI n P P ph := by
  refine ⟨h.ln, fun q h1 h2 => by omega, fun q h1 h2 => ?_, Nat.le_refl _, by omega⟩
  by_cases hq : q < K + n
  · exact h.B q h1 hq
  · have e : q = (q - n) + n := by omega
    have h3 := h.A (q - n) (by omega) (by omega)
    rw [e, mod_self_add, phs_round hn, h3]
    simp
/-- WHAT LIES THERE BETWEEN TWO CALLS. -/
structure OS (w wr : World) (n pb sb qb sq gb K P : Nat) (ph : List Bool) : Prop where
  pv : PV wr 49 n pb sb (K % n) P
  sv : PV wr 50 n qb sq (K % n) K
  row : Stc wr gb 4 (ph.map bvB)
  inv : PhI n K P ph
  bel : Below w.heap.size w wr
  g1 : w.heap.size ≤ pb
  g2 : w.heap.size ≤ qb
  g3 : w.heap.size ≤ gb
  n1 : ¬ pb = qb
  n2 : ¬ pb = gb
  n3 : ¬ qb = gb
theorem OS.below {w wr w' : World} {n pb sb qb sq gb K P : Nat} {ph : List Bool} (h : OS w wr n pb sb qb sq gb K P ph) (hb : Below wr.heap.size wr w') : OS w w' n pb sb qb sq gb K P ph :=
  ⟨h.pv.below hb, h.sv.below hb, h.row.below hb, h.inv, h.bel.trans (hb.mono h.bel.size), h.g1, h.g2, h.g3, h.n1, h.n2, h.n3⟩
theorem OS.br {w wr : World} {n pb sb qb sq gb K P : Nat} {ph : List Bool} (h : OS w wr n pb sb qb sq gb K P ph) : BR wr gb 0 n (gB ph) := fun i hi => by
  rw [Nat.zero_add]
  exact stc_bool h.row (by rw [h.inv.ln]; exact hi)
/-- .. one more is put. -/
theorem OS.put {w wr w1 : World} {n pb sb qb sq gb K P : Nat} {ph : List Bool} (h : OS w wr n pb sb qb sq gb K P ph) (hn : 2 ≤ n) (hr : ¬ P - K = n - 1) (hp : PV w1 49 n pb sb (K % n) (P + 1)) (hk : Keep (fun b => b = pb) wr w1) :
    (∃ u, w1.cell? ⟨gb, P % n, none⟩ = some u) ∧ w1.frozen? ⟨gb, P % n, none⟩ = false ∧ OS w (w1.setCell ⟨gb, P % n, none⟩ (.bool (phs n P))) n pb sb qb sq gb K (P + 1) (ph.set (P % n) (phs n P)) := by
  have hrow := h.row.keep hk (fun e => h.n2 e.symm)
  have hsv := h.sv.keep hk (fun e => h.n1 e.symm)
  have k2 : Keep (fun b => b = gb) w1 (w1.setCell ⟨gb, P % n, none⟩ (.bool (phs n P))) := (Keep.refl _ w1).set1 _ _
  have b1 : Below w.heap.size w w1 := h.bel.trans (hk.below h.bel.size (fun b e => by have := h.g1; omega))
  refine ⟨⟨_, stc_bool hrow (by rw [h.inv.ln]; exact Nat.mod_lt _ (by omega))⟩, hrow.free _, ⟨hp.keep k2 h.n2, hsv.keep k2 h.n3, stc_bool_set hrow _ _, h.inv.put hn hr, b1.trans (k2.below b1.size (fun b e => by have := h.g3; omega)), h.g1, h.g2, h.g3, h.n1, h.n2, h.n3⟩⟩
/-- .. all are taken. -/
structure OT (w wr : World) (n pb sb qb sq gb K P k : Nat) (ph : List Bool) (a : Option Addr) : Prop where
  pv : PV wr 49 n pb sb (K % n) P
  sv : PV wr 50 n qb sq (P % n) P
  row : Stc wr gb 4 (ph.map bvB)
  inv : PhI n K P ph
  bel : Below w.heap.size w wr
  g1 : w.heap.size ≤ pb
  g2 : w.heap.size ≤ qb
  g3 : w.heap.size ≤ gb
  n1 : ¬ pb = qb
  n2 : ¬ pb = gb
  n3 : ¬ qb = gb
  il : IL wr a (tkL n K k)
  kk : K + k = P
theorem OS.take {w wr w1 : World} {n pb sb qb sq gb K P k cap : Nat} {ph : List Bool} {a : Option Addr} (h : OS w wr n pb sb qb sq gb K P ph) (hT : Tk n (gB ph) K k) (ho : OwnI w1 wr.heap.size a cap (tkL n K k)) (hp : PV w1 50 n qb sq ((K + k) % n) (K + k)) (hk : Keep (fun b => b = qb) wr w1) : OT w w1 n pb sb qb sq gb K P k ph a := by
  have e := hT.same h.inv.tk
  have hle := h.inv.le
  have e2 : K + k = P := by omega
  rw [e2] at hp
  exact ⟨h.pv.keep hk h.n1, hp, h.row.keep hk (fun e => h.n3 e.symm), h.inv, h.bel.trans (hk.below h.bel.size (fun b e => by have := h.g2; omega)), h.g1, h.g2, h.g3, h.n1, h.n2, h.n3, ho.il, e2⟩
theorem OT.below {w wr w' : World} {n pb sb qb sq gb K P k : Nat} {ph : List Bool} {a : Option Addr} (h : OT w wr n pb sb qb sq gb K P k ph a) (hb : Below wr.heap.size wr w') : OT w w' n pb sb qb sq gb K P k ph a :=
  ⟨h.pv.below hb, h.sv.below hb, h.row.below hb, h.inv, h.bel.trans (hb.mono h.bel.size), h.g1, h.g2, h.g3, h.n1, h.n2, h.n3, h.il.below hb, h.kk⟩
theorem OT.free {w wr w1 : World} {n pb sb qb sq gb K P k : Nat} {ph : List Bool} {a : Option Addr} (h : OT w wr n pb sb qb sq gb K P k ph a) (hn : 2 ≤ n) (hp : PV w1 49 n pb sb (P % n) P) (hk : Keep (fun b => b = pb) wr w1) : OS w w1 n pb sb qb sq gb P P ph :=
  ⟨hp, h.sv.keep hk (fun e => h.n1 e.symm), h.row.keep hk (fun e => h.n2 e.symm), h.inv.take hn, h.bel.trans (hk.below h.bel.size (fun b e => by have := h.g1; omega)), h.g1, h.g2, h.g3, h.n1, h.n2, h.n3⟩
theorem os_first {w w1 w2 : World} {n pb sb qb sq : Nat} (hn : 2 ≤ n) (hp : PV w1 49 n pb sb 0 0) (hb : Below w.heap.size w w1) (hg : w.heap.size ≤ pb) (hq : PV w2 50 n qb sq 0 0) (hb2 : Below w1.heap.size w1 w2) (hg2 : w1.heap.size ≤ qb) : OS w (w2.alloc (.cells (mkBo n) 4)) n pb sb qb sq w2.heap.size 0 0 (List.replicate n false) := by
  have l1 : pb < w1.heap.size := heap_lt hp.st
  have l2 : qb < w2.heap.size := heap_lt hq.st
  have s1 := hb.size
  have s2 := hb2.size
  have hb3 := alloc_below' w2 (.cells (mkBo n) 4)
  refine ⟨?_, ?_, stc_new _ _ _ _ rfl, PhI.first hn, (hb.trans (hb2.mono s1)).trans (hb3.mono (by omega)), hg, by omega, by omega, by omega, by omega, by omega⟩
  · rw [Nat.zero_mod]; exact (hp.below hb2).below hb3
  · rw [Nat.zero_mod]; exact hq.below hb3
end Go.Proofs.Ytnfjfffchhiooaa
