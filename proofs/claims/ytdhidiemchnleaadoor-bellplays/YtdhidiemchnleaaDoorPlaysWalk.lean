/-
  The walk of granarylaw3.BellPlays: it returns true, and nothing that was there has turned.
-/
import Derived.Test.YtdhidiemchnleaaDoorLaw
import Derived.Test.YtdhidiemchnleaaDoorInts
import Derived.Test.YtdhidiemchnleaaDoorTold
namespace Go.Proofs.YtdhidiemchnleaaDoor
open Go.RowKit
set_option linter.unusedVariables false

set_option maxRecDepth 100000 in
set_option maxHeartbeats 1600000 in
theorem plays_no (l d : Int) (a2 : Option Addr) (n2 cap2 : Nat) (w : World) (h : ¬ GoodB l d) (hE : EType w) : Calls Tryd.prog 3 #[.int .i64 l, .int .i64 d, .slice a2 n2 cap2] w fun e w' => e = .returned (.bool true) ∧ Below w.heap.size w w' := by
  have HF := new_no l d w h
  have HE : Hid (∀ w', Below w.heap.size w w' → EType w') := fun w' hb => hE.below hb hE.pos
  have hb := badB h
  clear h hE
  rcases hb with h1 | ⟨h1, h2⟩ | ⟨h1, h2, h3⟩ | ⟨h1, h2, h3, h4⟩
  all_goals
    go_enter Tryd.func3, Tryd.ntmps3
    go_wp2_with fail
    refine HF.mono ?_
    rintro e w1 ⟨rfl, hb⟩
    have HB := error_same 1 w1 (HE.out _ hb)
    have HBe : Hid (Below w.heap.size w w1) := hb
    clear hb HF
    go_wp2_with fail
    refine HB.mono ?_
    rintro e w2 ⟨rfl, hb2⟩
    have H2 : Hid (Below w.heap.size w w2) := HBe.out.trans (hb2.mono HBe.out.size)
    clear hb2 HB
    go_wp2
    go_ret
    exact ⟨rfl, H2.out⟩
/-- One number of a row of the call's own is set. -/
theorem OwnI.set {w : World} {base cap g : Nat} {l : List Int} (h : OwnI w base (some ⟨g, 0, none⟩) cap l) {i : Nat} (hi : i < l.length) (x : Int) : OwnI (w.setCell ⟨g, i, none⟩ (.int .i64 x)) base (some ⟨g, 0, none⟩) cap (l.set i x) := by
  rcases h.parts with ⟨e, _, _⟩ | ⟨g', cur, e, h1, h2, h3, h4, h5, h6⟩
  · cases e
  · cases e
    refine ⟨by simp, Or.inr ⟨g, cap, cur.set! i (.int .i64 x), by simp, h1, ?_, by simpa using h3, h4, by simp [h5], ?_⟩⟩
    · simp [World.setCell, Array.getElem?_modify, h2]
    · simp only [List.length_set, List.map_set, Nat.mul_one]
      rw [← h6]
      simp [ivI, List.take_set]
/-- Rows of numbers and bells are unlike blocks. -/
theorem own_ne {w : World} {base cap bb L D : Nat} {a : Option Addr} {l : List Int} {s : Sb} (h : OwnI w base a cap l) (hb : BE w bb L D s) : ∀ b, blk a b → ¬ b = bb := by
  rintro b ⟨x, rfl, rfl⟩ e
  rcases h.parts with ⟨e2, _, _⟩ | ⟨g, cur, e2, _, h2, _⟩
  · cases e2
  · cases e2
    subst e
    unfold BE Stc at hb
    rw [h2] at hb
    simp at hb
/-- WHAT LIES THERE BETWEEN TWO CALLS: a bell, and the ages of all that waits. -/
structure PZ (w wr : World) (bb L D i : Nat) (s : Sb) (a : Option Addr) (cap : Nat) (l : List Int) : Prop where
  bs : BS w wr bb L D s
  own : OwnI wr w.heap.size a cap l
  ag : Ag i l s
  idle : Idle s
  bd : Bd i s
/-- .. ahead of the law's own ring. -/
structure TZ (w wr : World) (bb L D i : Nat) (z : Sb) (a : Option Addr) (cap : Nat) (l : List Int) : Prop where
  bs : BS w wr bb L D (rungF L D z)
  own : OwnI wr w.heap.size a cap l
  ag : Ag i l z
  idle : Idle z
  bd : Bd i z
theorem TZ.due {w wr : World} {bb L D i : Nat} {m : Bool} {n t r : Nat} {a : Option Addr} {cap : Nat} {l : List Int} (h : TZ w wr bb L D i ⟨m, n, t, r⟩ a cap l) (hd : dueF L D ⟨m, n, t, r⟩ = true) : PZ w wr bb L D i ⟨m, 0, 0, r + 1⟩ none 0 [] := by
  have e : rungF L D ⟨m, n, t, r⟩ = ⟨m, 0, 0, r + 1⟩ := by unfold rungF; rw [if_pos hd]
  have h1 := h.bs
  have h2 := h.bd.rung L D
  have h3 := h.idle.rung L D
  have h4 : Ag i [] (rungF L D ⟨m, n, t, r⟩) := Ag.rung (l := l) L D hd
  rw [e] at h1 h2 h3 h4
  exact ⟨h1, OwnI.nil _ _, h4, h3, h2⟩
theorem TZ.not {w wr : World} {bb L D i : Nat} {m : Bool} {n t r : Nat} {a : Option Addr} {cap : Nat} {l : List Int} (h : TZ w wr bb L D i ⟨m, n, t, r⟩ a cap l) (hd : dueF L D ⟨m, n, t, r⟩ = false) : PZ w wr bb L D i ⟨m, n, t, r⟩ a cap l := by
  have e : rungF L D ⟨m, n, t, r⟩ = ⟨m, n, t, r⟩ := by unfold rungF; rw [if_neg (by rw [hd]; decide)]
  have h1 := h.bs
  rw [e] at h1
  exact ⟨h1, h.own, h.ag, h.idle, h.bd⟩
/-- A post was made, the list of ages is yet to be made longer. -/
structure QZ (w wr : World) (bb L D i : Nat) (s z : Sb) (a : Option Addr) (cap : Nat) (l : List Int) : Prop where
  bs : BS w wr bb L D (rungF L D z)
  own : OwnI wr w.heap.size a cap l
  ag : Ag i l s
  idle : Idle s
  bd : Bd i s
theorem PZ.step {w wr w' : World} {bb L D i : Nat} {s z : Sb} {a : Option Addr} {cap : Nat} {l : List Int} (h : PZ w wr bb L D i s a cap l) (hb : BE w' bb L D (rungF L D z)) (hk : Keep (fun b => b = bb) wr w') : QZ w w' bb L D i s z a cap l :=
  ⟨h.bs.step hb hk, h.own.keep hk (own_ne h.own h.bs.be), h.ag, h.idle, h.bd⟩
theorem QZ.own1 {w wr : World} {bb L D i : Nat} {s z : Sb} {a : Option Addr} {cap : Nat} {l : List Int} (h : QZ w wr bb L D i s z a cap l) (o : Obj) : OwnI (wr.alloc o) w.heap.size a cap l ∧ w.heap.size ≤ (wr.alloc o).heap.size :=
  ⟨h.own.below (alloc_below' wr o), Nat.le_trans h.bs.bel.size (alloc_below' wr o).size⟩
theorem QZ.post {w wr w' : World} {bb L D i : Nat} {m : Bool} {n t r : Nat} {a a1 : Option Addr} {cap cap1 : Nat} {l : List Int} {o : Obj} (h : QZ w wr bb L D i ⟨m, n, t, r⟩ ⟨m, n + 1, t, r⟩ a cap l) (ho : OwnI w' w.heap.size a1 cap1 (l ++ [0])) (hk : Keep (blk a) (wr.alloc o) w') : TZ w w' bb L D (i + 1) ⟨m, n + 1, t, r⟩ a1 cap1 (l ++ [0]) := by
  have hb := h.bs.below (alloc_below' wr o)
  have hn := own_ne (h.own1 o).1 hb.be
  refine ⟨⟨hb.be.keep hk (fun e => hn _ e rfl), hb.bel.trans (hk.below hb.bel.size (fun b e => ((h.own1 o).1.blk e).1)), hb.g⟩, ho, h.ag.post h.idle, fun e => by simp at e, ⟨?_, ?_⟩⟩
  · have := h.bd.rw
    simp only at this ⊢
    omega
  · have := h.bd.t
    simp only at this ⊢
    omega
/-- .. while the ages are made greater, one behind another. -/
structure AZ (w wr : World) (bb L D i k : Nat) (s z : Sb) (a : Option Addr) (cap : Nat) (l : List Int) : Prop where
  bs : BS w wr bb L D (rungF L D z)
  own : OwnI wr w.heap.size a cap (older l k)
  ag : Ag i l s
  idle : Idle s
  bd : Bd i s
theorem QZ.az {w wr : World} {bb L D i : Nat} {s z : Sb} {a : Option Addr} {cap : Nat} {l : List Int} (h : QZ w wr bb L D i s z a cap l) : AZ w wr bb L D i 0 s z a cap l := ⟨h.bs, by rw [older_zero]; exact h.own, h.ag, h.idle, h.bd⟩
theorem AZ.at {w wr : World} {bb L D i k : Nat} {s z : Sb} {a : Option Addr} {cap : Nat} {l : List Int} (h : AZ w wr bb L D i k s z a cap l) (hk : k < l.length) : ∃ g, a = some ⟨g, 0, none⟩ ∧ wr.cell? ⟨g, k, none⟩ = some (.int .i64 (gI l k)) ∧ wr.frozen? ⟨g, k, none⟩ = false ∧ 0 ≤ gI l k ∧ gI l k ≤ i ∧ (∀ v : Int, v = gI l k + 1 → AZ w (wr.setCell ⟨g, k, none⟩ (.int .i64 v)) bb L D i (k + 1) s z a cap l) := by
  have hk' : k < (older l k).length := by rw [older_len]; exact hk
  rcases h.own.parts with ⟨_, _, e⟩ | ⟨g, cur, rfl, h1, h2, _⟩
  · rw [e] at hk'; simp at hk'
  · obtain ⟨g', off, e, hc⟩ := h.own.il.some_of hk'
    cases e
    have hck := hc k hk'
    rw [older_at hk, Nat.zero_add] at hck
    have hb := h.ag.b k hk
    refine ⟨g, rfl, hck, row_free h2 k, hb.1, hb.2, fun v e => ?_⟩
    subst e
    have hne := own_ne h.own h.bs.be g ⟨_, rfl, rfl⟩
    have hk2 : Keep (fun b => b = g) wr (wr.setCell ⟨g, k, none⟩ (.int .i64 (gI l k + 1))) := (Keep.refl (fun b => b = g) wr).set1 k _
    refine ⟨⟨h.bs.be.keep hk2 (fun e => hne e.symm), h.bs.bel.trans (hk2.below h.bs.bel.size (fun b e => by subst e; exact h1)), h.bs.g⟩, ?_, h.ag, h.idle, h.bd⟩
    have := h.own.set hk' (gI l k + 1)
    rw [older_succ hk] at this
    exact this
theorem AZ.done {w wr : World} {bb L D i : Nat} {m : Bool} {n t r : Nat} {a : Option Addr} {cap : Nat} {l : List Int} (h : AZ w wr bb L D i n ⟨m, n, t, r⟩ (tickedF ⟨m, n, t, r⟩) a cap l) : TZ w wr bb L D (i + 1) (tickedF ⟨m, n, t, r⟩) a cap (older l n) := by
  have hn : l.length = n := h.ag.n
  have h1 := h.ag.tick
  rw [hn] at h1
  refine ⟨h.bs, h.own, h1, ?_, ?_⟩
  · unfold tickedF
    split
    · exact h.idle
    · rename_i e
      exact fun e2 => (e e2).elim
  · have h2 := h.bd
    unfold tickedF
    split
    · exact h2.mono (by omega)
    · exact ⟨by have := h2.rw; simp only at this ⊢; omega, by have := h2.t; simp only at this ⊢; omega⟩
theorem QZ.mask {w wr : World} {bb L D i : Nat} {m b : Bool} {n t r : Nat} {a : Option Addr} {cap : Nat} {l : List Int} (h : QZ w wr bb L D i ⟨m, n, t, r⟩ ⟨b, n, t, r⟩ a cap l) : TZ w wr bb L D (i + 1) ⟨b, n, t, r⟩ a cap l :=
  ⟨h.bs, h.own, h.ag.mask b, h.idle, ⟨Nat.le_trans h.bd.rw (by omega), Nat.le_trans h.bd.t (by omega)⟩⟩
/-- The first age. -/
theorem TZ.first {w wr : World} {bb L D i : Nat} {m : Bool} {n t r : Nat} {a : Option Addr} {cap : Nat} {l : List Int} (h : TZ w wr bb L D i ⟨m, n, t, r⟩ a cap l) (hn : ¬ n = 0) : ∃ g, a = some ⟨g, 0, none⟩ ∧ wr.cell? ⟨g, 0, none⟩ = some (.int .i64 (t : Nat)) := by
  have hl : l.length = n := h.ag.n
  rcases h.own.parts with ⟨_, _, e⟩ | ⟨g, cur, rfl, h1, h2, _⟩
  · rw [e] at hl; simp at hl; omega
  · obtain ⟨g', off, e, hc⟩ := h.own.il.some_of (i := 0) (by omega)
    cases e
    have := hc 0 (by omega)
    rw [h.ag.f hn] at this
    exact ⟨g, rfl, this⟩
set_option maxRecDepth 100000 in
set_option maxHeartbeats 8000000 in
theorem plays_yes (L D : Nat) (a2 : Option Addr) (cap2 : Nat) (sc : List Int) (w : World) (h1 : 1 ≤ L) (h2 : L ≤ 64) (h3 : D ≤ 1000) (hS : IL w a2 sc) (hl2 : sc.length ≤ 140737488351232) (hm2 : sc.length * 8 ≤ 140737488355328) : Calls Tryd.prog 3 #[.int .i64 (L : Nat), .int .i64 (D : Nat), .slice a2 sc.length cap2] w fun e w' => e = .returned (.bool true) ∧ Below w.heap.size w w' := by
  have HSC : Hid (∀ w', Below w.heap.size w w' → ∀ i, i < sc.length → ∃ g o, a2 = some ⟨g, o, none⟩ ∧ w'.cell? ⟨g, o + i, none⟩ = some (.int .i64 (gI sc i))) := fun w' hb i hi => by
    rcases hS with e | ⟨g, o, e, hc⟩
    · subst e; simp at hi
    · exact ⟨g, o, e, (hb.cell (p := ⟨g, o + i, none⟩) (World.block_lt_of_cell? w _ (hc i hi))).trans (hc i hi)⟩
  have t1 : ¬ ((L : Int) < 1) := by omega
  have t2 : ¬ (64 < (L : Int)) := by omega
  have t3 : ¬ ((D : Int) < 0) := by omega
  have t4 : ¬ (1000 < (D : Int)) := by omega
  have HN := new_yes L D w h1 h2 h3
  clear hS h1 h2 h3
  generalize gI sc = SC at HSC
  generalize sc.length = n2 at *
  clear sc
  go_enter Tryd.func3, Tryd.ntmps3
  go_wp2_with fail
  refine HN.mono ?_
  rintro e w1 ⟨bb, rfl, hb, hb1, g1⟩
  have H0 : Hid (PZ w w1 bb L D 0 ⟨false, 0, 0, 0⟩ none 0 []) := ⟨⟨hb, hb1, g1⟩, OwnI.nil _ _, ⟨rfl, fun k hk => by simp at hk, fun e => (e rfl).elim⟩, fun _ => rfl, ⟨Nat.le_refl _, Nat.le_refl _⟩⟩
  clear hb hb1 g1 HN
  go_wp2
  clear t1 t2 t3 t4
  go_loopw [9, 10, 11, 12] (fun vl vr vm vi wq => ∃ (i : Nat) (m : Bool) (n t r : Nat) (a : Option Addr) (cap : Nat) (l : List Int), i ≤ n2 ∧ vl = .slice a n cap ∧ vr = .int .i64 r ∧ vm = .bool m ∧ vi = .int .i64 i ∧ Hid (PZ w wq bb L D i ⟨m, n, t, r⟩ a cap l)) (fun _ _ _ j _ => n2 - (intOf j).toNat)
  case atStart => exact ⟨0, false, 0, 0, 0, none, 0, [], Nat.zero_le _, rfl, rfl, rfl, rfl, H0.out⟩
  case round =>
    obtain ⟨i, m, n, t, r, a, cap, l, hi, rfl, rfl, rfl, rfl, hR⟩ := hrel
    clear H0
    have hr1 : r + n ≤ i := hR.out.bd.rw
    have hr2 : t ≤ i := hR.out.bd.t
    have hln : l.length = n := hR.out.ag.n
    by_cases hlt : i < n2
    · obtain ⟨so, oo, ha2, k0⟩ := HSC.out _ hR.out.bs.bel i hlt
      subst ha2
      by_cases hx1 : SC i = 1
      · have HA := post_any hR.out.bs.be (by simp only; omega) (by simp only; omega)
        rw [hx1] at k0
        clear hx1
        go_wp2_with fail
        refine HA.mono ?_
        rintro e w5 ⟨rfl, hb, hk5⟩
        have H5 : Hid (QZ w w5 bb L D i ⟨m, n, t, r⟩ ⟨m, n + 1, t, r⟩ a cap l) := hR.out.step hb hk5
        have HL : Hid (l.length = n) := hln
        have HO := fun o => H5.out.own1 o
        obtain ⟨l1, hl1⟩ : ∃ l1, l1 = l ++ [0] := ⟨_, rfl⟩
        have HL1 : Hid (l1 = l ++ [0] ∧ l1.length = n + 1) := ⟨hl1, by rw [hl1, List.length_append, hln]; rfl⟩
        clear hl1
        clear HA hb hk5 hR hln
        go_wp2_with (at_builtin; refine app_stepI rfl (.tmp 60) (.tmp 61) rfl w.heap.size a cap l (by rw [HL.out]; rfl) (HO _).1 (some ⟨w5.heap.size, 0, none⟩) 1 1 [0] rfl (by rfl) (fun e => by cases e) (il_one w5 0) l1 HL1.out.1 (by rw [HL1.out.2]; omega) (HO _).2 ?_)
        intro a1 c1 wr2 hO hK
        have HZ : Hid (TZ w wr2 bb L D (i + 1) ⟨m, n + 1, t, r⟩ a1 c1 l1) := by
          have e := HL1.out.1
          subst e
          exact H5.out.post hO hK
        rw [HL1.out.2]
        have hN1 : n + 1 ≤ i + 1 := by omega
        clear HO hO hK H5 HL HL1
        generalize n + 1 = N at *
        cases m with
        | true =>
          have H8 : Hid (PZ w wr2 bb L D (i + 1) ⟨true, N, t, r⟩ a1 c1 (l1)) := HZ.out.not (by simp [dueF])
          have HR := rings_any H8.out.bs.be
          have HW := waits_any H8.out.bs.be
          clear HZ
          go_wp2_with fail
          refine HR.mono ?_
          rintro e w8 ⟨rfl, rfl⟩
          go_wp2_with fail
          refine HW.mono ?_
          rintro e w9 ⟨rfl, rfl⟩
          clear HR HW
          go_wp2
          exact ⟨⟨i + 1, _, _, _, _, _, _, _, by omega, rfl, rfl, rfl, by go_num, H8.out⟩, by simp [intOf]; omega⟩
        | false =>
          by_cases h0 : N = 0
          · have n0 : ¬ (0 < (N : Int)) := by omega
            have H8 : Hid (PZ w wr2 bb L D (i + 1) ⟨false, N, t, r⟩ a1 c1 (l1)) := HZ.out.not (by simp [dueF, h0])
            have HR := rings_any H8.out.bs.be
            have HW := waits_any H8.out.bs.be
            clear HZ h0
            go_wp2_with fail
            refine HR.mono ?_
            rintro e w8 ⟨rfl, rfl⟩
            go_wp2_with fail
            refine HW.mono ?_
            rintro e w9 ⟨rfl, rfl⟩
            clear HR HW
            go_wp2
            exact ⟨⟨i + 1, _, _, _, _, _, _, _, by omega, rfl, rfl, rfl, by go_num, H8.out⟩, by simp [intOf]; omega⟩
          · have n0 : 0 < (N : Int) := by omega
            by_cases h1 : L ≤ N
            · have n1 : (L : Int) ≤ (N : Int) := by omega
              have H8 : Hid (PZ w wr2 bb L D (i + 1) ⟨false, 0, 0, r + 1⟩ none 0 []) := HZ.out.due (by simp [dueF, h0, h1])
              have HR := rings_any H8.out.bs.be
              have HW := waits_any H8.out.bs.be
              clear HZ h0 h1
              go_wp2_with fail
              refine HR.mono ?_
              rintro e w8 ⟨rfl, rfl⟩
              go_wp2_with fail
              refine HW.mono ?_
              rintro e w9 ⟨rfl, rfl⟩
              clear HR HW
              go_wp2
              exact ⟨⟨i + 1, _, _, _, _, _, _, _, by omega, rfl, by go_num, rfl, by go_num, H8.out⟩, by simp [intOf]; omega⟩
            · have n1 : ¬ ((L : Int) ≤ (N : Int)) := by omega
              obtain ⟨g0, hg0, cg0⟩ := HZ.out.first h0
              subst hg0
              by_cases h2 : D ≤ t
              · have n2 : (D : Int) ≤ (t : Int) := by omega
                have H8 : Hid (PZ w wr2 bb L D (i + 1) ⟨false, 0, 0, r + 1⟩ none 0 []) := HZ.out.due (by simp [dueF, h0, h2])
                have HR := rings_any H8.out.bs.be
                have HW := waits_any H8.out.bs.be
                clear HZ h0 h1 h2
                go_wp2_with fail
                refine HR.mono ?_
                rintro e w8 ⟨rfl, rfl⟩
                go_wp2_with fail
                refine HW.mono ?_
                rintro e w9 ⟨rfl, rfl⟩
                clear HR HW
                go_wp2
                exact ⟨⟨i + 1, _, _, _, _, _, _, _, by omega, rfl, by go_num, rfl, by go_num, H8.out⟩, by simp [intOf]; omega⟩
              · have n2 : ¬ ((D : Int) ≤ (t : Int)) := by omega
                have H8 : Hid (PZ w wr2 bb L D (i + 1) ⟨false, N, t, r⟩ (some ⟨g0, 0, none⟩) c1 (l1)) := HZ.out.not (by simp [dueF, h0, h1, h2])
                have HR := rings_any H8.out.bs.be
                have HW := waits_any H8.out.bs.be
                clear HZ h0 h1 h2
                go_wp2_with fail
                refine HR.mono ?_
                rintro e w8 ⟨rfl, rfl⟩
                go_wp2_with fail
                refine HW.mono ?_
                rintro e w9 ⟨rfl, rfl⟩
                clear HR HW
                go_wp2
                exact ⟨⟨i + 1, _, _, _, _, _, _, _, by omega, rfl, rfl, rfl, by go_num, H8.out⟩, by simp [intOf]; omega⟩
      · by_cases hx2 : SC i = 2
        · have HA := tick_any hR.out.bs.be (by simp only; omega) (by simp only; omega)
          rw [hx2] at k0
          clear hx1 hx2
          go_wp2_with fail
          refine HA.mono ?_
          rintro e w5 ⟨rfl, hb, hk5⟩
          have H5 : Hid (AZ w w5 bb L D i 0 ⟨m, n, t, r⟩ (tickedF ⟨m, n, t, r⟩) a cap l) := (hR.out.step hb hk5).az
          have HL : Hid (l.length = n) := hln
          clear HA hb hk5 hR hln
          go_wp2
          go_loopw [13] (fun j wq => ∃ (k : Nat), k ≤ n ∧ j = .int .i64 k ∧ Hid (AZ w wq bb L D i k ⟨m, n, t, r⟩ (tickedF ⟨m, n, t, r⟩) a cap l)) (fun j _ => n - (intOf j).toNat)
          case atStart => exact ⟨0, Nat.zero_le _, rfl, H5.out⟩
          case round =>
            obtain ⟨k, hk, rfl, hK⟩ := hrel
            clear H5
            by_cases hlk : k < n
            · obtain ⟨g0, hg0, cg, fg, b1, b2, hst⟩ := hK.out.at (by rw [HL.out]; exact hlk)
              have HST : Hid (∀ v : Int, v = gI l k + 1 → AZ w (wr.setCell ⟨g0, k, none⟩ (.int .i64 v)) bb L D i (k + 1) ⟨m, n, t, r⟩ (tickedF ⟨m, n, t, r⟩) a cap l) := hst
              subst hg0
              clear hst hK
              generalize gI l k = y at *
              go_wp2
              exact ⟨⟨k + 1, by omega, by go_num, HST.out _ rfl⟩, by simp [intOf]; omega⟩
            · obtain rfl : k = n := by omega
              have H7 := hK.out.done
              clear hK hk hlk HL
              by_cases hk0 : k = 0
              · subst hk0
                have HZ : Hid (TZ w wr bb L D (i + 1) ⟨m, 0, t, r⟩ a cap (older l 0)) := H7
                clear H7
                obtain ⟨wr2, rfl⟩ : ∃ wr2, wr2 = wr := ⟨_, rfl⟩
                generalize older l 0 = l1 at *
                have h00 : (0 : Nat) = 0 := rfl
                cases m with
                | true =>
                  have H8 : Hid (PZ w wr2 bb L D (i + 1) ⟨true, 0, t, r⟩ a cap (l1)) := HZ.out.not (by simp [dueF])
                  have HR := rings_any H8.out.bs.be
                  have HW := waits_any H8.out.bs.be
                  clear HZ h00
                  go_wp2_with fail
                  refine HR.mono ?_
                  rintro e w8 ⟨rfl, rfl⟩
                  go_wp2_with fail
                  refine HW.mono ?_
                  rintro e w9 ⟨rfl, rfl⟩
                  clear HR HW
                  go_wp2
                  exact ⟨⟨i + 1, _, _, _, _, _, _, _, by omega, rfl, rfl, rfl, by go_num, H8.out⟩, by simp [intOf]; omega⟩
                | false =>
                  have H8 : Hid (PZ w wr2 bb L D (i + 1) ⟨false, 0, t, r⟩ a cap (l1)) := HZ.out.not (by simp [dueF])
                  have HR := rings_any H8.out.bs.be
                  have HW := waits_any H8.out.bs.be
                  clear HZ h00
                  go_wp2_with fail
                  refine HR.mono ?_
                  rintro e w8 ⟨rfl, rfl⟩
                  go_wp2_with fail
                  refine HW.mono ?_
                  rintro e w9 ⟨rfl, rfl⟩
                  clear HR HW
                  go_wp2
                  exact ⟨⟨i + 1, _, _, _, _, _, _, _, by omega, rfl, rfl, rfl, by go_num, H8.out⟩, by simp [intOf]; omega⟩
              · have e7 : tickedF ⟨m, k, t, r⟩ = ⟨m, k, t + 1, r⟩ := by unfold tickedF; rw [if_neg hk0]
                rw [e7] at H7
                have HZ : Hid (TZ w wr bb L D (i + 1) ⟨m, k, t + 1, r⟩ a cap (older l k)) := H7
                clear H7 e7 hk0
                obtain ⟨wr2, rfl⟩ : ∃ wr2, wr2 = wr := ⟨_, rfl⟩
                generalize older l k = l1 at *
                generalize t + 1 = T at *
                cases m with
                | true =>
                  have H8 : Hid (PZ w wr2 bb L D (i + 1) ⟨true, k, T, r⟩ a cap (l1)) := HZ.out.not (by simp [dueF])
                  have HR := rings_any H8.out.bs.be
                  have HW := waits_any H8.out.bs.be
                  clear HZ
                  go_wp2_with fail
                  refine HR.mono ?_
                  rintro e w8 ⟨rfl, rfl⟩
                  go_wp2_with fail
                  refine HW.mono ?_
                  rintro e w9 ⟨rfl, rfl⟩
                  clear HR HW
                  go_wp2
                  exact ⟨⟨i + 1, _, _, _, _, _, _, _, by omega, rfl, rfl, rfl, by go_num, H8.out⟩, by simp [intOf]; omega⟩
                | false =>
                  by_cases h0 : k = 0
                  · have n0 : ¬ (0 < (k : Int)) := by omega
                    have H8 : Hid (PZ w wr2 bb L D (i + 1) ⟨false, k, T, r⟩ a cap (l1)) := HZ.out.not (by simp [dueF, h0])
                    have HR := rings_any H8.out.bs.be
                    have HW := waits_any H8.out.bs.be
                    clear HZ h0
                    go_wp2_with fail
                    refine HR.mono ?_
                    rintro e w8 ⟨rfl, rfl⟩
                    go_wp2_with fail
                    refine HW.mono ?_
                    rintro e w9 ⟨rfl, rfl⟩
                    clear HR HW
                    go_wp2
                    exact ⟨⟨i + 1, _, _, _, _, _, _, _, by omega, rfl, rfl, rfl, by go_num, H8.out⟩, by simp [intOf]; omega⟩
                  · have n0 : 0 < (k : Int) := by omega
                    by_cases h1 : L ≤ k
                    · have n1 : (L : Int) ≤ (k : Int) := by omega
                      have H8 : Hid (PZ w wr2 bb L D (i + 1) ⟨false, 0, 0, r + 1⟩ none 0 []) := HZ.out.due (by simp [dueF, h0, h1])
                      have HR := rings_any H8.out.bs.be
                      have HW := waits_any H8.out.bs.be
                      clear HZ h0 h1
                      go_wp2_with fail
                      refine HR.mono ?_
                      rintro e w8 ⟨rfl, rfl⟩
                      go_wp2_with fail
                      refine HW.mono ?_
                      rintro e w9 ⟨rfl, rfl⟩
                      clear HR HW
                      go_wp2
                      exact ⟨⟨i + 1, _, _, _, _, _, _, _, by omega, rfl, by go_num, rfl, by go_num, H8.out⟩, by simp [intOf]; omega⟩
                    · have n1 : ¬ ((L : Int) ≤ (k : Int)) := by omega
                      obtain ⟨g0, hg0, cg0⟩ := HZ.out.first h0
                      subst hg0
                      by_cases h2 : D ≤ T
                      · have n2 : (D : Int) ≤ (T : Int) := by omega
                        have H8 : Hid (PZ w wr2 bb L D (i + 1) ⟨false, 0, 0, r + 1⟩ none 0 []) := HZ.out.due (by simp [dueF, h0, h2])
                        have HR := rings_any H8.out.bs.be
                        have HW := waits_any H8.out.bs.be
                        clear HZ h0 h1 h2
                        go_wp2_with fail
                        refine HR.mono ?_
                        rintro e w8 ⟨rfl, rfl⟩
                        go_wp2_with fail
                        refine HW.mono ?_
                        rintro e w9 ⟨rfl, rfl⟩
                        clear HR HW
                        go_wp2
                        exact ⟨⟨i + 1, _, _, _, _, _, _, _, by omega, rfl, by go_num, rfl, by go_num, H8.out⟩, by simp [intOf]; omega⟩
                      · have n2 : ¬ ((D : Int) ≤ (T : Int)) := by omega
                        have H8 : Hid (PZ w wr2 bb L D (i + 1) ⟨false, k, T, r⟩ (some ⟨g0, 0, none⟩) cap (l1)) := HZ.out.not (by simp [dueF, h0, h1, h2])
                        have HR := rings_any H8.out.bs.be
                        have HW := waits_any H8.out.bs.be
                        clear HZ h0 h1 h2
                        go_wp2_with fail
                        refine HR.mono ?_
                        rintro e w8 ⟨rfl, rfl⟩
                        go_wp2_with fail
                        refine HW.mono ?_
                        rintro e w9 ⟨rfl, rfl⟩
                        clear HR HW
                        go_wp2
                        exact ⟨⟨i + 1, _, _, _, _, _, _, _, by omega, rfl, rfl, rfl, by go_num, H8.out⟩, by simp [intOf]; omega⟩
        · by_cases hx3 : SC i = 3
          · have HA := mask_any true hR.out.bs.be (by simp only; omega)
            rw [hx3] at k0
            clear hx1 hx2 hx3
            go_wp2_with fail
            refine HA.mono ?_
            rintro e wr2 ⟨rfl, hb, hk5⟩
            have HZ : Hid (TZ w wr2 bb L D (i + 1) ⟨true, n, t, r⟩ a cap l) := (hR.out.step hb hk5).mask
            clear HA hb hk5 hR hln
            have H8 : Hid (PZ w wr2 bb L D (i + 1) ⟨true, n, t, r⟩ a cap (l)) := HZ.out.not (by simp [dueF])
            have HR := rings_any H8.out.bs.be
            have HW := waits_any H8.out.bs.be
            clear HZ
            go_wp2_with fail
            refine HR.mono ?_
            rintro e w8 ⟨rfl, rfl⟩
            go_wp2_with fail
            refine HW.mono ?_
            rintro e w9 ⟨rfl, rfl⟩
            clear HR HW
            go_wp2
            exact ⟨⟨i + 1, _, _, _, _, _, _, _, by omega, rfl, rfl, rfl, by go_num, H8.out⟩, by simp [intOf]; omega⟩
          · have HA := mask_any false hR.out.bs.be (by simp only; omega)
            generalize SC i = x at *
            go_wp2_with fail
            refine HA.mono ?_
            rintro e wr2 ⟨rfl, hb, hk5⟩
            have HZ : Hid (TZ w wr2 bb L D (i + 1) ⟨false, n, t, r⟩ a cap l) := (hR.out.step hb hk5).mask
            clear HA hb hk5 hR hln hx1 hx2 hx3
            by_cases h0 : n = 0
            · have n0 : ¬ (0 < (n : Int)) := by omega
              have H8 : Hid (PZ w wr2 bb L D (i + 1) ⟨false, n, t, r⟩ a cap (l)) := HZ.out.not (by simp [dueF, h0])
              have HR := rings_any H8.out.bs.be
              have HW := waits_any H8.out.bs.be
              clear HZ h0
              go_wp2_with fail
              refine HR.mono ?_
              rintro e w8 ⟨rfl, rfl⟩
              go_wp2_with fail
              refine HW.mono ?_
              rintro e w9 ⟨rfl, rfl⟩
              clear HR HW
              go_wp2
              exact ⟨⟨i + 1, _, _, _, _, _, _, _, by omega, rfl, rfl, rfl, by go_num, H8.out⟩, by simp [intOf]; omega⟩
            · have n0 : 0 < (n : Int) := by omega
              by_cases h1 : L ≤ n
              · have n1 : (L : Int) ≤ (n : Int) := by omega
                have H8 : Hid (PZ w wr2 bb L D (i + 1) ⟨false, 0, 0, r + 1⟩ none 0 []) := HZ.out.due (by simp [dueF, h0, h1])
                have HR := rings_any H8.out.bs.be
                have HW := waits_any H8.out.bs.be
                clear HZ h0 h1
                go_wp2_with fail
                refine HR.mono ?_
                rintro e w8 ⟨rfl, rfl⟩
                go_wp2_with fail
                refine HW.mono ?_
                rintro e w9 ⟨rfl, rfl⟩
                clear HR HW
                go_wp2
                exact ⟨⟨i + 1, _, _, _, _, _, _, _, by omega, rfl, by go_num, rfl, by go_num, H8.out⟩, by simp [intOf]; omega⟩
              · have n1 : ¬ ((L : Int) ≤ (n : Int)) := by omega
                obtain ⟨g0, hg0, cg0⟩ := HZ.out.first h0
                subst hg0
                by_cases h2 : D ≤ t
                · have n2 : (D : Int) ≤ (t : Int) := by omega
                  have H8 : Hid (PZ w wr2 bb L D (i + 1) ⟨false, 0, 0, r + 1⟩ none 0 []) := HZ.out.due (by simp [dueF, h0, h2])
                  have HR := rings_any H8.out.bs.be
                  have HW := waits_any H8.out.bs.be
                  clear HZ h0 h1 h2
                  go_wp2_with fail
                  refine HR.mono ?_
                  rintro e w8 ⟨rfl, rfl⟩
                  go_wp2_with fail
                  refine HW.mono ?_
                  rintro e w9 ⟨rfl, rfl⟩
                  clear HR HW
                  go_wp2
                  exact ⟨⟨i + 1, _, _, _, _, _, _, _, by omega, rfl, by go_num, rfl, by go_num, H8.out⟩, by simp [intOf]; omega⟩
                · have n2 : ¬ ((D : Int) ≤ (t : Int)) := by omega
                  have H8 : Hid (PZ w wr2 bb L D (i + 1) ⟨false, n, t, r⟩ (some ⟨g0, 0, none⟩) cap (l)) := HZ.out.not (by simp [dueF, h0, h1, h2])
                  have HR := rings_any H8.out.bs.be
                  have HW := waits_any H8.out.bs.be
                  clear HZ h0 h1 h2
                  go_wp2_with fail
                  refine HR.mono ?_
                  rintro e w8 ⟨rfl, rfl⟩
                  go_wp2_with fail
                  refine HW.mono ?_
                  rintro e w9 ⟨rfl, rfl⟩
                  clear HR HW
                  go_wp2
                  exact ⟨⟨i + 1, _, _, _, _, _, _, _, by omega, rfl, rfl, rfl, by go_num, H8.out⟩, by simp [intOf]; omega⟩
    · obtain rfl : i = n2 := by omega
      have HB : Hid (Below w.heap.size w wr) := hR.out.bs.bel
      clear hR hlt hi
      go_wp2
      go_ret
      exact ⟨rfl, HB.out⟩
theorem plays_any (l d : Int) (a2 : Option Addr) (cap2 : Nat) (sc : List Int) (w : World) (hE : EType w) (hS : IL w a2 sc) (hl2 : sc.length ≤ 140737488351232) (hm2 : sc.length * 8 ≤ 140737488355328) : Calls Tryd.prog 3 #[.int .i64 l, .int .i64 d, .slice a2 sc.length cap2] w fun e w' => e = .returned (.bool true) ∧ Below w.heap.size w w' := by
  by_cases h : GoodB l d
  · obtain ⟨L, D, rfl, rfl, h1, h2, h3⟩ := h.nat
    exact plays_yes L D a2 cap2 sc w h1 h2 h3 hS hl2 hm2
  · exact plays_no l d a2 sc.length cap2 w h hE
end Go.Proofs.YtdhidiemchnleaaDoor
