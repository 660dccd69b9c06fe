/-
  What the calls of the document's PlanOf and Ints give: which blocks are emptied till it is enough; whether two lists are the same.
-/
import Derived.Test.YtgmobibogoebpagDoorRef
namespace Go.Proofs.YtgmobibogoebpagDoor
open Go.RowKit
set_option linter.unusedVariables false

theorem infoR : (Tryd.prog.info? 38).map (fun i => (i.zero, i.size, i.bytes)) = some (some (.agg #[.bool false, .int .i64 0, .int .i64 0]), 3, 24) := by kernel_rfl
/-- BLOCKS THAT LIE ANYWHERE ARE APPENDED TO NONE. -/
theorem app_stepC {ops : Array Oper} {rest : List Oper} {o : Oper} {a : Act} {w : World} {Q : Exit → Act → World → Prop} (hgd : o.guard = none) (s x : Operand)
    (ho : o.op = .call { callee := .builtin .append, args := #[s, x], argTypes := #[22, 22] }) (base : Nat) (a0 : Option Addr) (cap0 : Nat) (hs : a.eval s = .slice a0 0 cap0) (hown : OwnB 38 w base a0 cap0 [])
    (sa : Option Addr) (c : Nat) (l : List Bl) (hx : a.eval x = .slice sa l.length c) (hnil : sa = none → c = 0) (hL : BL w sa l) (hb : l.length * 24 ≤ 140737488355328) (hbase : base ≤ w.heap.size)
    (h : ∀ a1 cap1 w', OwnB 38 w' base a1 cap1 l → Keep (blk a0) w w' → wpList Tryd.prog ops Q rest (a.put o.dst (.slice a1 l.length cap1)) w') : wpList Tryd.prog ops Q (o :: rest) a w := by
  obtain ⟨i0, hi, hz0, hz1, hz2⟩ := info_parts infoR
  have own' : w.ownsRow base 38 3 (.slice a0 0 cap0) 0 [] := hown
  have fin : ∀ v' w', w'.ownsRow base 38 3 v' l.length (cellsB l) → w.grownBy w' (Value.slice a0 0 cap0).ownBlock → wpList Tryd.prog ops Q rest (a.put o.dst v') w' := by
    intro v' w' h1 h2
    have hv : ∃ a1 cap1, v' = .slice a1 l.length cap1 := by
      rcases h1.2 with ⟨e, e2⟩ | ⟨g, cap', cur, e, _⟩
      · exact ⟨none, 0, by rw [e, e2]⟩
      · exact ⟨_, cap', e⟩
    obtain ⟨a1, cap1, rfl⟩ := hv
    exact h a1 cap1 w' h1 (keep_grown h2)
  cases hsa : sa with
  | none =>
    subst hsa
    have hz : l = [] := by
      rcases hL with h | ⟨b, off, e, _⟩
      · exact h
      · cases e
    subst hz
    have hc0 := hnil rfl
    subst hc0
    refine wpList_append_own_none hgd s x 22 ho base 38 i0 3 Tryd.underlying22 hi _ _ _ hs own' hx ?_
    exact fin _ w (by simpa [cellsB] using own') ⟨rfl, rfl, rfl, Nat.le_refl _, fun _ _ _ => rfl⟩
  | some ad =>
    subst hsa
    refine wpList_append_own _ hgd s x 22 ho base 38 i0 _ 3 24 Tryd.underlying22 hi hz0 hz1 hz2 rfl (by decide) _ _ _ hs own' ad l.length c (cellsB l) hx (cellsB_len l) ?_ (one_cellsB l) (by unfold maxLen; omega) (by omega) hbase (fun v' w' h1 h2 _ => fin v' w' (by simpa using h1) h2)
    rcases hL with h | ⟨b, off, e, hc⟩
    · subst h
      intro j u hj
      simp [cellsB] at hj
    · cases e
      intro j u hj
      have hl : j < l.length * 3 := by
        have := (List.getElem?_eq_some_iff.1 hj).1
        rwa [cellsB_len] at this
      have hadd : (⟨b, off, none⟩ : Addr).add j = ⟨b, off + j, none⟩ := by unfold Addr.add; split <;> simp_all
      rw [hadd]
      have hq : j / 3 < l.length := by omega
      obtain ⟨q0, q1, q2⟩ := cellsB_at l (j / 3) hq
      obtain ⟨r0, r1, r2⟩ := hc (j / 3) hq
      have h3 : j = j / 3 * 3 ∨ j = j / 3 * 3 + 1 ∨ j = j / 3 * 3 + 2 := by omega
      rcases h3 with e | e | e
      · rw [e] at hj ⊢
        rw [q0] at hj
        rw [← Option.some.inj hj]
        exact r0
      · rw [e] at hj ⊢
        rw [q1] at hj
        rw [← Option.some.inj hj]
        exact r1
      · rw [e] at hj ⊢
        rw [q2] at hj
        rw [← Option.some.inj hj]
        exact r2
theorem cellsB_set : ∀ (l : List Bl) (k : Nat) (b : Bl), k < l.length → b.live = (gB l k).live → b.wear = (gB l k).wear → cellsB (l.set k b) = (cellsB l).set (k * 3) (.bool b.used)
  | [], k, b, h, _, _ => by simp at h
  | x :: r, 0, b, _, h1, h2 => by
    have e1 : b.live = x.live := h1
    have e2 : b.wear = x.wear := h2
    simp [cellsB, e1, e2]
  | x :: r, k + 1, b, h, h1, h2 => by
    have ih := cellsB_set r k b (by simpa using h) h1 h2
    have e : (k + 1) * 3 = k * 3 + 1 + 1 + 1 := by omega
    rw [List.set_cons_succ, cellsB, ih, e]
    rfl
/-- ONE IS NOT USED ANY MORE. -/
theorem OwnB.unuse {T : TypeId} {w : World} {base cap g k : Nat} {l : List Bl} (h : OwnB T w base (some ⟨g, 0, none⟩) cap l) (hk : k < l.length) : OwnB T (w.setCell ⟨g, k * 3, none⟩ (.bool false)) base (some ⟨g, 0, none⟩) cap (YtgmobibogoebpagDoor.unuse l k) := by
  rcases h.parts with ⟨e, _⟩ | ⟨g', cur, e, h1, h2, h3, h4, h5, h6⟩
  · cases e
  · cases e
    have hh : (w.setCell ⟨g, k * 3, none⟩ (.bool false)).heap[g]? = some (.cells (cur.setIfInBounds (k * 3) (.bool false)) T (0, 0)) := by
      simp [World.setCell, Array.getElem?_modify, h2]
    refine ⟨by rw [cellsB_len], Or.inr ⟨g, cap, _, by rw [unuse_len], h1, hh, by rw [unuse_len]; exact h3, h4, by rw [Array.size_setIfInBounds]; exact h5, ?_⟩⟩
    rw [unuse_len]
    unfold YtgmobibogoebpagDoor.unuse
    rw [cellsB_set l k ⟨false, (gB l k).live, (gB l k).wear⟩ hk rfl rfl, ← h6, Array.toList_setIfInBounds, List.take_set]
/-- A slice's length. -/
def sliceLen : Value → Nat
  | .slice _ n _ => n
  | _ => 0
/-- Where the document's plan stands. -/
structure QS (w wr : World) (base gm cm : Nat) (l : List Bl) (p need : Int) (o : List Nat) (m : List Bl) (a : Option Addr) (ca : Nat) (t r : List Nat) (won : Int) : Prop where
  bel : Below w.heap.size w wr
  ge : w.heap.size ≤ base
  sz : base ≤ wr.heap.size
  row : OwnB 38 wr w.heap.size (some ⟨gm, 0, none⟩) cm m
  lt : gm < base
  ml : m.length = l.length
  lv : ∀ i, (gB m i).live = (gB l i).live
  gd : allG m p
  or : IsOrd m p r
  own : OwnI wr base a ca t
  tr : o = t ++ r
  tp : takeP l p need 0 o = t ++ takeP l p need won r
  wn : won = sumG l p t
  w0 : 0 ≤ won
  w1 : won ≤ t.length * 4096
theorem QS.below {w wr w' : World} {base gm cm : Nat} {l : List Bl} {p need : Int} {o : List Nat} {m : List Bl} {a : Option Addr} {ca : Nat} {t r : List Nat} {won : Int} (h : QS w wr base gm cm l p need o m a ca t r won) (hb : Below wr.heap.size wr w') : QS w w' base gm cm l p need o m a ca t r won :=
  ⟨h.bel.trans (hb.mono h.bel.size), h.ge, Nat.le_trans h.sz hb.size, h.row.below hb, h.lt, h.ml, h.lv, h.gd, h.or, h.own.below hb, h.tr, h.tp, h.wn, h.w0, h.w1⟩
theorem QS.turn {w wr w' : World} {base gm cm : Nat} {l : List Bl} {p need : Int} {o : List Nat} {m : List Bl} {a a' : Option Addr} {ca ca' : Nat} {t r : List Nat} {won : Int} {x : Nat} (h : QS w wr base gm cm l p need o m a ca t (x :: r) won) (hn : won < need) (hp : p ≤ 4096)
    (hk : Keep (blk a) (wr.setCell ⟨gm, x * 3, none⟩ (.bool false)) w') (hO : OwnI w' base a' ca' (t ++ [x])) : QS w w' base gm cm l p need o (unuse m x) a' ca' (t ++ [x]) r (won + gain l p x) := by
  have hx := h.or.head.1
  have hxl : x < m.length := hx.1
  have hg : gain l p x = p - (gB m x).live := by unfold gain; rw [h.lv]
  have hz := h.gd x hxl
  have hge : w.heap.size ≤ gm := (h.row.blk ⟨_, rfl, rfl⟩).1
  have hb1 : Below w.heap.size wr (wr.setCell ⟨gm, x * 3, none⟩ (.bool false)) := (Below.refl _ _).setCell hge _
  have hs1 : (wr.setCell ⟨gm, x * 3, none⟩ (.bool false)).heap.size = wr.heap.size := by simp
  refine ⟨(h.bel.trans hb1).trans (hk.below (by rw [hs1]; exact h.bel.size) (fun b hb => ?_)), h.ge, Nat.le_trans h.sz (hs1 ▸ hk.size), (h.row.unuse hxl).keep hk (fun b hb hb2 => ?_), h.lt, by rw [unuse_len]; exact h.ml, fun i => by rw [unuse_live m x i hxl]; exact h.lv i, unuse_good h.gd hxl, h.or.tail, hO, by rw [h.tr, List.append_assoc]; rfl, ?_, ?_, ?_, ?_⟩
  · have := (h.own.blk hb).1
    have := h.ge
    omega
  · obtain ⟨y, e, rfl⟩ := hb
    cases e
    have hq : base ≤ gm := (h.own.blk hb2).1
    have := h.lt
    omega
  · rw [h.tp, takeP_more _ _ hn, List.append_assoc]
    rfl
  · rw [sumG_app, ← h.wn]
    simp [sumG]
  · have := h.w0
    have := hx.2.2
    rw [hg]
    omega
  · have := h.w1
    rw [hg, List.length_append, List.length_singleton]
    have := hz.1
    omega
/-- What comes of it. -/
def RPlanEnd (w w' : World) (e : Ending) (l : List Bl) (p need : Int) (o : List Nat) : Prop :=
  (sumG l p (takeP l p need 0 o) < need ∧ e = .returned (.tuple #[.slice none 0 0, .bool false])) ∨ (need ≤ sumG l p (takeP l p need 0 o) ∧ ∃ a cap, e = .returned (.tuple #[.slice a (takeP l p need 0 o).length cap, .bool true]) ∧ OwnI w' w.heap.size a cap (takeP l p need 0 o))
theorem QS.enough {w wr : World} {base gm cm : Nat} {l : List Bl} {p need : Int} {o : List Nat} {m : List Bl} {a : Option Addr} {ca : Nat} {t r : List Nat} {won : Int} (h : QS w wr base gm cm l p need o m a ca t r won) (hn : need ≤ won) : RPlanEnd w wr (.returned (.tuple #[.slice a t.length ca, .bool true])) l p need o := by
  have e : takeP l p need 0 o = t := by rw [h.tp, takeP_stop _ hn, List.append_nil]
  refine Or.inr ⟨by rw [e, ← h.wn]; exact hn, a, ca, by rw [e], by rw [e]; exact h.own.base h.ge⟩
theorem QS.short {w wr : World} {base gm cm : Nat} {l : List Bl} {p need : Int} {o : List Nat} {m : List Bl} {a : Option Addr} {ca : Nat} {t : List Nat} {won : Int} (h : QS w wr base gm cm l p need o m a ca t [] won) (hn : won < need) : RPlanEnd w wr (.returned (.tuple #[.slice none 0 0, .bool false])) l p need o := by
  have e : takeP l p need 0 o = t := by rw [h.tp, takeP, List.append_nil]
  exact Or.inl ⟨by rw [e, ← h.wn]; exact hn, rfl⟩
theorem IsCh.of_cons {l : List Bl} {p k : Int} {x : Nat} {r : List Nat} (h : IsCh l p k) (ho : IsOrd l p (x :: r)) : k = x := by
  rcases h with ⟨_, h⟩ | ⟨i, e, h⟩
  · exact absurd ho.head.1 (h x)
  · rw [e, h.one ho.head]
theorem IsCh.of_nil {l : List Bl} {p k : Int} (h : IsCh l p k) (ho : IsOrd l p []) : k = -1 := by
  rcases h with ⟨e, _⟩ | ⟨i, e, h⟩
  · exact e
  · exact absurd h.1 (ho.none i)
/-- ChooseOf, asked on the way. -/
theorem QS.choose {w wr : World} {base gm cm : Nat} {l : List Bl} {p need : Int} {o : List Nat} {m : List Bl} {a : Option Addr} {ca : Nat} {t r : List Nat} {won : Int} (h : QS w wr base gm cm l p need o m a ca t r won) (h64 : l.length ≤ 64) :
    Calls Tryd.prog 12 #[.slice (some ⟨gm, 0, none⟩) l.length cm, .int .i64 p] wr fun e w' => (r = [] ∧ e = .returned (.int .i64 (-1)) ∨ ∃ x q, r = x :: q ∧ e = .returned (.int .i64 (x : Int))) ∧ Hid (QS w w' base gm cm l p need o m a ca t r won) := by
  have := rchoose_any (some ⟨gm, 0, none⟩) cm m p wr (by rw [h.ml]; exact h64) (fun i hi => (h.gd i hi).2.1) h.row.bl
  rw [h.ml] at this
  refine this.mono ?_
  rintro e w' ⟨⟨k, h1, h2⟩, h3⟩
  refine ⟨?_, h.below h3⟩
  cases r with
  | nil => exact Or.inl ⟨rfl, by rw [h2, h1.of_nil h.or]⟩
  | cons x q => exact Or.inr ⟨x, q, rfl, by rw [h2, h1.of_cons h.or]⟩
set_option maxRecDepth 20000 in
set_option maxHeartbeats 4000000 in
theorem rplan_any (a : Option Addr) (cap : Nat) (l : List Bl) (p need : Int) (o : List Nat) (w : World) (h64 : l.length ≤ 64) (hp1 : 1 ≤ p) (hp2 : p ≤ 4096) (hG : allG l p) (hO : IsOrd l p o) (hnil : a = none → cap = 0) (hB : BL w a l) :
    Calls Tryd.prog 7 #[.slice a l.length cap, .int .i64 p, .int .i64 need] w fun e w' => RPlanEnd w w' e l p need o ∧ Below w.heap.size w w' := by
  have H24 : Hid (l.length * 24 ≤ 140737488355328) := by exact (by omega : l.length * 24 ≤ 140737488355328)
  have HW : Hid (Below w.heap.size w (w.alloc (.cells #[] 38)) ∧ BL (w.alloc (.cells #[] 38)) a l) := ⟨alloc_below' w _, hB.below (alloc_below' w _)⟩
  have HOr : Hid (IsOrd l p o) := hO
  have HGd : Hid (allG l p) := hG
  have H64 : Hid (l.length ≤ 64) := h64
  have HOL : Hid (o.length ≤ 64) := Nat.le_trans hO.len h64
  have HNl : Hid (a = none → cap = 0) := hnil
  clear hG hB hO hnil
  go_enter Tryd.func7, Tryd.ntmps7
  go_wp2_with (at_builtin; refine app_stepC rfl (.tmp 12) (.tmp 13) rfl w.heap.size (some ⟨w.heap.size, 0, none⟩) 0 (by rfl) (OwnB.new _ w w.heap.size (Nat.le_refl _) [] (by simp) _ rfl) a cap l (by rfl) HNl.out HW.out.2 H24.out HW.out.1.size ?_; intro a1 cap1 w1 ho1 hk1)
  have HB1 : Hid (Below w.heap.size w w1) := HW.out.1.trans (hk1.below HW.out.1.size (fun b hb => by obtain ⟨x, e, rfl⟩ := hb; cases e; exact Nat.le_refl _))
  rcases ho1.parts with ⟨rfl, rfl, rfl⟩ | ⟨gm, cur, rfl, hge, hgm, _⟩
  · have hoe : o = [] := by
      cases o with
      | nil => rfl
      | cons x r => exact absurd ((HOr.out.1 x).1 List.mem_cons_self).1 (Nat.not_lt_zero _)
    subst hoe
    have HE1 : Hid (∀ w', 0 < need → RPlanEnd w w' (.returned (.tuple #[.slice none 0 0, .bool false])) [] p need []) := fun w' h => Or.inl ⟨h, rfl⟩
    have HE2 : Hid (∀ w', ¬ 0 < need → RPlanEnd w w' (.returned (.tuple #[.slice none 0 0, .bool true])) [] p need []) := fun w' h => Or.inr ⟨by show need ≤ 0; omega, none, 0, rfl, OwnI.nil _ _⟩
    have HC : Hid (Calls Tryd.prog 12 #[.slice none 0 0, .int .i64 p] w1 fun e w' => e = .returned (.int .i64 (-1)) ∧ w' = w1) := rchoose_none none 0 p w1
    clear ho1 hk1 HW HOr HGd H24 H64 HOL HNl
    simp only [List.length_nil]
    go_wp2
    go_loopw [9, 10] (fun s9 s10 wr => s9 = .slice none 0 0 ∧ s10 = .int .i64 0 ∧ wr = w1) (fun _ _ _ => 0)
    case atStart => exact ⟨rfl, rfl, rfl⟩
    case round =>
      obtain ⟨rfl, rfl, rfl⟩ := hrel
      by_cases hn : 0 < need
      · go_wp2_with fail
        refine HC.out.mono ?_
        rintro e w3 ⟨rfl, rfl⟩
        go_wp2
        go_ret2
        exact ⟨HE1.out _ hn, HB1.out⟩
      · go_wp2
        go_ret2
        exact ⟨HE2.out _ hn, HB1.out⟩
  · have H0 : Hid (QS w w1 w1.heap.size gm cap1 l p need o l none 0 [] o 0) := ⟨HB1.out, HB1.out.size, Nat.le_refl _, ho1, heap_lt hgm, rfl, fun _ => rfl, HGd.out, HOr.out, OwnI.nil _ _, rfl, rfl, rfl, Int.le_refl _, by simp⟩
    clear ho1 hk1 HW HOr HGd H24 HNl HB1 hgm
    go_wp2
    go_loopw [9, 10] (fun s9 s10 wr => ∃ (m : List Bl) (a : Option Addr) (ca : Nat) (t r : List Nat) (won : Int), s9 = .slice a t.length ca ∧ s10 = .int .i64 won ∧ Hid (QS w wr w1.heap.size gm cap1 l p need o m a ca t r won)) (fun s9 _ _ => o.length - sliceLen s9)
    case atStart => exact ⟨l, none, 0, [], o, 0, rfl, rfl, H0.out⟩
    case round =>
      obtain ⟨m, a, ca, t, r, won, rfl, rfl, hR⟩ := hrel
      clear H0
      by_cases hn : won < need
      · have HC := hR.out.choose H64.out
        clear hR
        go_wp2_with fail
        refine HC.mono ?_
        rintro e w3 ⟨hcs, hQ⟩
        clear HC
        rcases hcs with ⟨rfl, rfl⟩ | ⟨x, q, rfl, rfl⟩
        · have HF : Hid (RPlanEnd w w3 (.returned (.tuple #[.slice none 0 0, .bool false])) l p need o ∧ Below w.heap.size w w3) := ⟨hQ.out.short hn, hQ.out.bel⟩
          clear hQ
          go_wp2
          go_ret2
          exact HF.out
        · have hxl : x < l.length := by rw [← hQ.out.ml]; exact hQ.out.or.head.1.1
          have x0 : (0 : Int) ≤ (x : Int) := by omega
          have x1 : (x : Int) < (l.length : Int) := by omega
          have x2 : ¬ (x : Int) < 0 := by omega
          have hxm : x < m.length := hQ.out.or.head.1.1
          obtain ⟨g', off', e', hat⟩ := hQ.out.row.bl.some_of hxm
          cases e'
          obtain ⟨c0, c1, _⟩ := hat x hxm
          rw [Nat.zero_add] at c0 c1
          have cf := hQ.out.row.free (x * 3)
          have hlv : (gB m x).live = (gB l x).live := hQ.out.lv x
          have hb := hQ.out.gd x hxm
          have hb1 : 0 ≤ (gB l x).live := by rw [← hlv]; exact hb.1
          have hb2 : (gB l x).live ≤ p := by rw [← hlv]; exact hb.2.1
          rw [hlv] at c1
          have hw0 := hQ.out.w0
          have htl : t.length + 1 ≤ o.length := by
            have := congrArg List.length hQ.out.tr
            rw [List.length_append, List.length_cons] at this
            omega
          have HTL : Hid (t.length + 1 ≤ o.length) := htl
          have hw1 : won ≤ 262144 := by have := hQ.out.w1; have := HOL.out; omega
          have HTn : Hid (∀ w' a' ca', Keep (blk a) (w3.setCell ⟨gm, x * 3, none⟩ (.bool false)) w' → OwnI w' w1.heap.size a' ca' (t ++ [x]) → QS w w' w1.heap.size gm cap1 l p need o (unuse m x) a' ca' (t ++ [x]) q (won + (p - (gB l x).live))) := fun w' a' ca' h1 h2 => hQ.out.turn hn hp2 h1 h2
          have HOn : Hid (OwnI (w3.setCell ⟨gm, x * 3, none⟩ (.bool false)) w1.heap.size a ca t ∧ w1.heap.size ≤ (w3.setCell ⟨gm, x * 3, none⟩ (.bool false)).heap.size ∧ t.length ≤ 4096) := by
            refine ⟨hQ.out.own.keep (S := fun b => b = gm) ((Keep.refl _ w3).set1 _ _) (fun b hb e => ?_), by simpa using hQ.out.sz, by have := HOL.out; omega⟩
            subst e
            have := (hQ.out.own.blk hb).1
            have := hQ.out.lt
            omega
          have hwe : won + p - (gB l x).live = won + (p - (gB l x).live) := by omega
          clear hQ hat hlv hb hxm hxl htl
          go_wp2_with (at_builtin; refine app_stepI rfl (.tmp 36) (.tmp 38) rfl (w3.setCell ⟨gm, x * 3, none⟩ (.bool false)) w1.heap.size ca a t x (by rfl) (by simp [Act.eval]) HOn.out.1 HOn.out.2.2 HOn.out.2.1 ?_; intro g4 ca4 w4 ho4 hk4; have HF : Hid (QS w w4 w1.heap.size gm cap1 l p need o (unuse m x) (some ⟨g4, 0, none⟩) ca4 (t ++ [x]) q (won + (p - (gB l x).live))) := HTn.out _ _ _ hk4 ho4; clear ho4 hk4 HTn HOn)
          exact ⟨⟨unuse m x, some ⟨g4, 0, none⟩, ca4, t ++ [x], q, won + (p - (gB l x).live), by simp, by rw [← hwe]; try go_num, HF.out⟩, by have := HTL.out; simp [sliceLen]; omega⟩
      · have HF : Hid (RPlanEnd w wr (.returned (.tuple #[.slice a t.length ca, .bool true])) l p need o ∧ Below w.heap.size w wr) := ⟨hR.out.enough (by omega), hR.out.bel⟩
        clear hR
        go_wp2
        go_ret2
        exact HF.out
end Go.Proofs.YtgmobibogoebpagDoor
