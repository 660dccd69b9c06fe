/-
  The walk of granarylaw3.RingPlays: it returns true, and nothing that was there has turned.
-/
import Derived.Test.YtnfjfffchhiooaaDoorRoomWalk
import Derived.Test.YtnfjfffchhiooaaDoorSlide
import Derived.Test.YtnfjfffchhiooaaDoorQuo
namespace Go.Proofs.YtnfjfffchhiooaaDoor
open Go.RowKit
set_option linter.unusedVariables false

set_option maxRecDepth 100000 in
set_option maxHeartbeats 1600000 in
theorem plays_no (n : Int) (a2 : Option Addr) (n2 cap2 : Nat) (w : World) (h : ¬ GoodN n) (hE : EType w) : Calls Tryd.prog 3 #[.int .i64 n, .slice a2 n2 cap2] w fun e w' => e = .returned (.bool true) ∧ Below w.heap.size w w' := by
  have HF := new_no n w h
  have HE : Hid (∀ w', Below w.heap.size w w' → EType w') := fun w' hb => hE.below hb hE.pos
  unfold GoodN at h
  have ht : (n < 2) ∨ (¬ n < 2 ∧ 16 < n) := by omega
  clear hE h
  rcases ht with h1 | ⟨h1, h2⟩
  · have t1 : decide (n < 2) = true := decide_eq_true h1
    clear h1
    go_enter Tryd.func3, Tryd.ntmps3
    go_wp2_with fail
    refine HF.mono ?_
    rintro e w1 ⟨rfl, hb⟩
    have HB := error_same 1 w1 (HE.out _ hb)
    have HBe : Hid (Below w.heap.size w w1) := hb
    clear hb HF
    go_wp2_with fail
    refine HB.mono ?_
    rintro e w2 ⟨rfl, hb2⟩
    have H2 : Hid (Below w.heap.size w w2) := HBe.out.trans (hb2.mono HBe.out.size)
    clear hb2 HB
    go_wp2
    go_ret
    exact ⟨rfl, H2.out⟩
  · have t1 : decide (n < 2) = false := decide_eq_false h1
    have t2 : decide (16 < n) = true := decide_eq_true h2
    clear h1 h2
    go_enter Tryd.func3, Tryd.ntmps3
    go_wp2_with fail
    refine HF.mono ?_
    rintro e w1 ⟨rfl, hb⟩
    have HB := error_same 1 w1 (HE.out _ hb)
    have HBe : Hid (Below w.heap.size w w1) := hb
    clear hb HF
    go_wp2_with fail
    refine HB.mono ?_
    rintro e w2 ⟨rfl, hb2⟩
    have H2 : Hid (Below w.heap.size w w2) := HBe.out.trans (hb2.mono HBe.out.size)
    clear hb2 HB
    go_wp2
    go_ret
    exact ⟨rfl, H2.out⟩
/-- WHAT LIES THERE BETWEEN TWO CALLS: a ring, and the list that it should be. -/
structure QL (w wr : World) (n rb sb p q : Nat) (l : List Int) (a : Option Addr) (L cap : Nat) : Prop where
  qs : QS w wr n rb sb p l
  own : OwnO wr w.heap.size a cap l
  ap : ∀ b, blk a b → ¬ RB rb sb b
  ln : l.length = L
  pq : p + L = q
theorem QL.below {w wr w' : World} {n rb sb p q : Nat} {l : List Int} {a : Option Addr} {L cap : Nat} (h : QL w wr n rb sb p q l a L cap) (hb : Below wr.heap.size wr w') : QL w w' n rb sb p q l a L cap :=
  ⟨h.qs.below hb, h.own.below hb, h.ap, h.ln, h.pq⟩
theorem QL.ring {w wr w' : World} {n rb sb p q : Nat} {l : List Int} {a : Option Addr} {L cap : Nat} (h : QL w wr n rb sb p q l a L cap) (hr : RQ w' n rb sb p l) (hk : Keep (RB rb sb) wr w') : QL w w' n rb sb p q l a L cap :=
  ⟨h.qs.step hr hk, h.own.keep hk h.ap, h.ap, h.ln, h.pq⟩
/-- .. one was pushed, the list is yet to be made longer. -/
structure QP (w wr : World) (n rb sb p q : Nat) (l : List Int) (x : Int) (a : Option Addr) (L cap : Nat) : Prop where
  qs : QS w wr n rb sb p (l ++ [x])
  own : OwnO wr w.heap.size a cap l
  ap : ∀ b, blk a b → ¬ RB rb sb b
  ln : l.length = L
  pq : p + L = q
theorem QL.push {w wr w' : World} {n rb sb p q : Nat} {l : List Int} {x : Int} {a : Option Addr} {L cap : Nat} (h : QL w wr n rb sb p q l a L cap) (hr : RQ w' n rb sb p (l ++ [x])) (hk : Keep (RB rb sb) wr w') : QP w w' n rb sb p q l x a L cap :=
  ⟨h.qs.step hr hk, h.own.keep hk h.ap, h.ap, h.ln, h.pq⟩
theorem QP.app {w wr w' : World} {n rb sb p q : Nat} {l : List Int} {x : Int} {a a1 : Option Addr} {L cap cap1 : Nat} (h : QP w wr n rb sb p q l x a L cap) (ho : OwnO w' w.heap.size a1 cap1 (l ++ [x])) (hb : ∀ b, blk a1 b → blk a b ∨ wr.heap.size ≤ b) (hk : Keep (blk a) wr w') : QL w w' n rb sb p (q + 1) (l ++ [x]) a1 (L + 1) cap1 := by
  have hlt := h.qs.rq.lt
  have hn := h.own
  refine ⟨⟨h.qs.rq.keep hk (fun e => h.ap _ e (Or.inl rfl)) (fun e => h.ap _ e (Or.inr rfl)), h.qs.bel.trans (hk.below h.qs.bel.size (fun b e => (hn.blk e).1)), h.qs.g1, h.qs.g2⟩, ho, fun b e1 e2 => ?_, by rw [List.length_append, h.ln]; rfl, by have := h.pq; omega⟩
  rcases hb b e1 with e | e
  · exact h.ap b e e2
  · rcases e2 with e2 | e2 <;> omega
theorem QL.pop {w wr w' : World} {n rb sb p q : Nat} {l : List Int} {x : Int} {a : Option Addr} {L cap : Nat} (h : QL w wr n rb sb p q (x :: l) a L cap) (hr : RQ w' n rb sb (p + 1) l) (hk : Keep (RB rb sb) wr w') : QL w w' n rb sb (p + 1) q l (dropA a cap 1) (L - 1) (cap - 1) := by
  have hl := h.ln
  simp only [List.length_cons] at hl
  exact ⟨h.qs.step hr hk, (h.own.keep hk h.ap).cut, fun b e => h.ap b (OwnO.cut_blk e), by omega, by have := h.pq; omega⟩
set_option maxRecDepth 100000 in
set_option maxHeartbeats 8000000 in
theorem plays_yes (n : Nat) (a2 : Option Addr) (cap2 : Nat) (sc : List Int) (w : World) (h1 : 2 ≤ n) (h2 : n ≤ 16) (hE : EType w) (hS : IL w a2 sc) (hl2 : sc.length ≤ 9223372036854775806) : Calls Tryd.prog 3 #[.int .i64 (n : Nat), .slice a2 sc.length cap2] w fun e w' => e = .returned (.bool true) ∧ Below w.heap.size w w' := by
  have HSC : Hid (∀ w', Below w.heap.size w w' → ∀ i, i < sc.length → ∃ g o, a2 = some ⟨g, o, none⟩ ∧ w'.cell? ⟨g, o + i, none⟩ = some (.int .i64 (gI sc i))) := fun w' hb i hi => by
    rcases hS with e | ⟨g, o, e, hc⟩
    · subst e; simp at hi
    · exact ⟨g, o, e, (hb.cell (p := ⟨g, o + i, none⟩) (World.block_lt_of_cell? w _ (hc i hi))).trans (hc i hi)⟩
  have HE : Hid (∀ w', Below w.heap.size w w' → EType w') := fun w' hb => hE.below hb hE.pos
  have hn0 : ¬ ((n : Int) = 0) := by omega
  clear hS hE
  generalize gI sc = SC at HSC
  generalize sc.length = n2 at *
  clear sc
  go_enter Tryd.func3, Tryd.ntmps3
  go_wp2_with fail
  refine (new_yes n _ h1 h2).mono ?_
  rintro e w2 ⟨rb, sb, rfl, hq, hb2, g1, g2⟩
  have H0 : Hid (QL w w2 n rb sb 0 0 [] none 0 0) := ⟨⟨hq, hb2, g1, g2⟩, OwnO.nil _ _, (fun b e => by obtain ⟨x, e, _⟩ := e; cases e), rfl, rfl⟩
  clear hq hb2 g1 g2
  go_wp2
  go_loopw [7, 8, 9, 10] (fun vl vq vp vi wq => ∃ (p q i L cap : Nat) (l : List Int) (a : Option Addr), i ≤ n2 ∧ q ≤ i ∧ vl = .slice a L cap ∧ vq = .int .i64 q ∧ vp = .int .i64 p ∧ vi = .int .i64 i ∧ Hid (QL w wq n rb sb p q l a L cap)) (fun _ _ _ j _ => n2 - (intOf j).toNat)
  case atStart => exact ⟨0, 0, 0, 0, 0, [], none, Nat.zero_le _, Nat.le_refl _, rfl, rfl, rfl, rfl, H0.out⟩
  case round =>
    obtain ⟨p, q, i, L, cap, l, a, hi, hqi, rfl, rfl, rfl, rfl, hR⟩ := hrel
    clear H0
    by_cases hlt : i < n2
    · obtain ⟨so, oo, ha2, k0⟩ := HSC.out _ hR.out.qs.bel i hlt
      subst ha2
      generalize SC i = x at k0
      have hLn : L ≤ n - 1 := by rw [← hR.out.ln]; exact hR.out.qs.rq.le
      have hpq : p + L = q := hR.out.pq
      have HPQ : Hid (p + L = q) := hpq
      have hpb : p ≤ 9223372036854775806 := by omega
      by_cases hx : 0 ≤ x
      · by_cases hf : L = n - 1
        · have HC := q_full hR.out.qs.rq x (by rw [hR.out.ln]; exact hf)
          have hd : (L : Int) = (n : Int) - 1 := by omega
          have hdd : ((L : Int) == (n : Int) - 1) = true := by simp [hd]
          clear hpq hf
          go_wp2_with fail
          refine HC.mono ?_
          rintro e w3 ⟨rfl, hr3, hk3⟩
          have H3 : Hid (QL w w3 n rb sb p q l a L cap) := hR.out.ring hr3 hk3
          have HB := error_same 3 w3 (HE.out _ H3.out.qs.bel)
          clear hr3 hk3 HC hR
          go_wp2_with fail
          refine HB.mono ?_
          rintro e w4 ⟨rfl, hb4⟩
          have H4 : Hid (QL w w4 n rb sb p q l a L cap) := H3.out.below hb4
          clear hb4 HB H3
          have HL := q_len H4.out.qs.rq
          rw [H4.out.ln] at HL
          go_wp2_with fail
          refine HL.mono ?_
          rintro e w6 ⟨rfl, hr6, hk6⟩
          have H6 : Hid (QL w w6 n rb sb p q l a L cap) := H4.out.ring hr6 hk6
          clear hr6 hk6 HL H4
          have HD := q_ends H6.out.qs.rq
          rw [H6.out.ln, H6.out.pq] at HD
          obtain ⟨t1, _, _, HT1, _, e4, e5, _, _, _, _, _, _, _⟩ := ph_facts n (p) h1 (by omega)
          obtain ⟨t2, _, _, HT2, _, f4, f5, _, _, _, _, _, _, _⟩ := ph_facts n (q) h1 (by omega)
          rw [HT1, HT2] at HD
          clear HT1 HT2
          go_wp2_with fail
          refine HD.mono ?_
          rintro e w7 ⟨rfl, hr7, hk7⟩
          have H7 : Hid (QL w w7 n rb sb p q l a L cap) := H6.out.ring hr7 hk7
          clear hr7 hk7 HD H6
          go_wp2
          exact ⟨⟨p, q, i + 1, L, cap, l, a, by omega, by omega, rfl, rfl, rfl, by go_num, H7.out⟩, by simp [intOf]; omega⟩
        · have HC := q_push hR.out.qs.rq x (by rw [hR.out.ln]; exact hf)
          have hd : ¬ ((L : Int) = (n : Int) - 1) := by omega
          have hdd : ((L : Int) == (n : Int) - 1) = false := by simp; omega
          have hL16 : L ≤ 4096 := by omega
          clear hpq hf
          go_wp2_with fail
          refine HC.mono ?_
          rintro e w3 ⟨rfl, hr3, hk3⟩
          have H3 : Hid (QP w w3 n rb sb p q l x a L cap) := hR.out.push hr3 hk3
          have HS3 : Hid (w.heap.size ≤ w3.heap.size) := H3.out.qs.bel.size
          clear hr3 hk3 HC hR
          go_wp2_with (at_builtin; refine app_slide rfl (.tmp 60) (.tmp 62) rfl w3 w.heap.size cap L a l x H3.out.ln (by rfl) (by rfl) H3.out.own hL16 HS3.out ?_; intro a1 cap1 w4 ho4 hb4 hk4; have H4 : Hid (QL w w4 n rb sb p (q + 1) (l ++ [x]) a1 (L + 1) cap1) := H3.out.app ho4 hb4 hk4; clear ho4 hb4 hk4)
          have HB := error_nil 0 w4
          go_wp2_with fail
          refine HB.mono ?_
          rintro e w5 ⟨rfl, rfl⟩
          clear HB H3
          have HL := q_len H4.out.qs.rq
          rw [H4.out.ln] at HL
          go_wp2_with fail
          refine HL.mono ?_
          rintro e w6 ⟨rfl, hr6, hk6⟩
          have H6 : Hid (QL w w6 n rb sb p (q + 1) (l ++ [x]) a1 (L + 1) cap1) := H4.out.ring hr6 hk6
          clear hr6 hk6 HL H4
          have HD := q_ends H6.out.qs.rq
          rw [H6.out.ln, H6.out.pq] at HD
          obtain ⟨t1, _, _, HT1, _, e4, e5, _, _, _, _, _, _, _⟩ := ph_facts n (p) h1 (by omega)
          obtain ⟨t2, _, _, HT2, _, f4, f5, _, _, _, _, _, _, _⟩ := ph_facts n ((q + 1)) h1 (by omega)
          rw [HT1, HT2] at HD
          rw [show ((q + 1 : Nat) : Int) = (q : Int) + 1 by omega] at f4 f5
          clear HT1 HT2
          go_wp2_with fail
          refine HD.mono ?_
          rintro e w7 ⟨rfl, hr7, hk7⟩
          have H7 : Hid (QL w w7 n rb sb p (q + 1) (l ++ [x]) a1 (L + 1) cap1) := H6.out.ring hr7 hk7
          clear hr7 hk7 HD H6
          go_wp2
          exact ⟨⟨p, q + 1, i + 1, L + 1, cap1, _, a1, by omega, by omega, rfl, by go_num, rfl, by go_num, H7.out⟩, by simp [intOf]; omega⟩
      · have hx2 : ¬ (0 ≤ x) := hx
        have hxd : decide (0 ≤ x) = false := decide_eq_false hx
        cases hl : l with
        | nil =>
          subst hl
          obtain rfl : L = 0 := by rw [← hR.out.ln]; rfl
          have HC := q_none hR.out.qs.rq
          clear hpq hx hx2
          go_wp2_with fail
          refine HC.mono ?_
          rintro e w3 ⟨rfl, hr3, hk3⟩
          have H3 : Hid (QL w w3 n rb sb p q [] a 0 cap) := hR.out.ring hr3 hk3
          have HB := error_same 4 w3 (HE.out _ H3.out.qs.bel)
          clear hr3 hk3 HC hR
          go_wp2_with fail
          refine HB.mono ?_
          rintro e w4 ⟨rfl, hb4⟩
          have H4 : Hid (QL w w4 n rb sb p q [] a 0 cap) := H3.out.below hb4
          clear hb4 HB H3
          have HL := q_len H4.out.qs.rq
          rw [H4.out.ln] at HL
          go_wp2_with fail
          refine HL.mono ?_
          rintro e w6 ⟨rfl, hr6, hk6⟩
          have H6 : Hid (QL w w6 n rb sb p q [] a 0 cap) := H4.out.ring hr6 hk6
          clear hr6 hk6 HL H4
          have HD := q_ends H6.out.qs.rq
          rw [H6.out.ln, H6.out.pq] at HD
          obtain ⟨t1, _, _, HT1, _, e4, e5, _, _, _, _, _, _, _⟩ := ph_facts n (p) h1 (by omega)
          obtain ⟨t2, _, _, HT2, _, f4, f5, _, _, _, _, _, _, _⟩ := ph_facts n (q) h1 (by omega)
          rw [HT1, HT2] at HD
          clear HT1 HT2
          go_wp2_with fail
          refine HD.mono ?_
          rintro e w7 ⟨rfl, hr7, hk7⟩
          have H7 : Hid (QL w w7 n rb sb p q [] a 0 cap) := H6.out.ring hr7 hk7
          clear hr7 hk7 HD H6
          go_wp2
          exact ⟨⟨p, q, i + 1, 0, cap, [], a, by omega, by omega, rfl, rfl, rfl, by go_num, H7.out⟩, by simp [intOf]; omega⟩
        | cons y l' =>
          subst hl
          have hL1 : 1 ≤ L := by rw [← hR.out.ln]; simp
          have hcl : L ≤ cap := by rw [← hR.out.ln]; exact hR.out.own.1
          have HC := q_pop hR.out.qs.rq
          obtain ⟨g, o, ha, hc⟩ := hR.out.own.first
          subst ha
          have hL0 : ¬ ((L : Int) = 0) := by omega
          have hL0d : ((L : Int) == 0) = false := by simp; omega
          have HSL : ∀ W : World, (Instr.slice 22 (.slice (some ⟨g, o, none⟩) L cap) (some (.int .i64 1)) none none).run Tryd.prog W = .ok (.slice (dropA (some ⟨g, o, none⟩) cap 1) (L - 1) (cap - 1)) W := fun W => sliceI_from (some ⟨g, o, none⟩) L cap 1 hL1 hcl W
          have hgn : Hid (¬ RB rb sb g) := hR.out.ap g ⟨_, rfl, rfl⟩
          clear hpq hx hx2
          go_wp2_with fail
          refine HC.mono ?_
          rintro e w3 ⟨rfl, hr3, hk3⟩
          have H3 : Hid (QL w w3 n rb sb (p + 1) q l' (dropA (some ⟨g, o, none⟩) cap 1) (L - 1) (cap - 1)) := hR.out.pop hr3 hk3
          have c3 : w3.cell? ⟨g, o, none⟩ = some (.int .i64 y) := (hk3.cell (p := ⟨g, o, none⟩) (World.block_lt_of_cell? _ _ hc) hgn.out).trans hc
          have HLp : Hid (1 ≤ L ∧ p + L = q) := ⟨hL1, HPQ.out⟩
          clear hr3 hk3 HC hR hc hgn
          generalize dropA (some ⟨g, o, none⟩) cap 1 = a5 at *
          obtain ⟨L5, HL5⟩ : ∃ L5, Hid (L - 1 = L5) := ⟨_, rfl⟩
          rw [HL5.out] at H3 HSL
          have H4 : Hid (QL w w3 n rb sb (p + 1) q l' a5 L5 (cap - 1)) := H3
          clear H3
          have HL := q_len H4.out.qs.rq
          rw [H4.out.ln] at HL
          go_wp2_with fail
          refine HL.mono ?_
          rintro e w6 ⟨rfl, hr6, hk6⟩
          have H6 : Hid (QL w w6 n rb sb (p + 1) q l' a5 L5 (cap - 1)) := H4.out.ring hr6 hk6
          clear hr6 hk6 HL H4
          have HD := q_ends H6.out.qs.rq
          rw [H6.out.ln, H6.out.pq] at HD
          obtain ⟨t1, _, _, HT1, _, e4, e5, _, _, _, _, _, _, _⟩ := ph_facts n ((p + 1)) h1 (by omega)
          obtain ⟨t2, _, _, HT2, _, f4, f5, _, _, _, _, _, _, _⟩ := ph_facts n (q) h1 (by omega)
          rw [HT1, HT2] at HD
          rw [show ((p + 1 : Nat) : Int) = (p : Int) + 1 by omega] at e4 e5
          clear HT1 HT2
          go_wp2_with fail
          refine HD.mono ?_
          rintro e w7 ⟨rfl, hr7, hk7⟩
          have H7 : Hid (QL w w7 n rb sb (p + 1) q l' a5 L5 (cap - 1)) := H6.out.ring hr7 hk7
          clear hr7 hk7 HD H6
          go_wp2
          exact ⟨⟨p + 1, q, i + 1, L5, cap - 1, _, a5, by omega, by omega, rfl, rfl, by go_num, by go_num, H7.out⟩, by simp [intOf]; omega⟩
    · obtain rfl : i = n2 := by omega
      have HB : Hid (Below w.heap.size w wr) := hR.out.qs.bel
      clear HSC hR
      go_wp2
      go_ret
      exact ⟨rfl, HB.out⟩
theorem plays_any (n : Int) (a2 : Option Addr) (cap2 : Nat) (sc : List Int) (w : World) (hE : EType w) (hS : IL w a2 sc) (hl2 : sc.length ≤ 9223372036854775806) : Calls Tryd.prog 3 #[.int .i64 n, .slice a2 sc.length cap2] w fun e w' => e = .returned (.bool true) ∧ Below w.heap.size w w' := by
  by_cases h : GoodN n
  · obtain ⟨N, rfl, h1, h2⟩ := h.nat
    exact plays_yes N a2 cap2 sc w h1 h2 hE hS hl2
  · exact plays_no n a2 sc.length cap2 w h hE
end Go.Proofs.YtnfjfffchhiooaaDoor
