/-
  The walk of granarylaw3.BellTells: it returns true, and nothing that was there has turned.
-/
import Derived.Test.YtdhidiemchnleaaLaw
import Derived.Test.YtdhidiemchnleaaInts
namespace Go.Proofs.Ytdhidiemchnleaa
open Go.RowKit
set_option linter.unusedVariables false

set_option maxRecDepth 100000 in
set_option maxHeartbeats 1600000 in
theorem tells_no (l d : Int) (a : Option Addr) (n cap : Nat) (w : World) (h : ¬ GoodB l d) : Calls Try.prog 3 #[.int .i64 l, .int .i64 d, .slice a n cap] w fun e w' => e = .returned (.bool true) ∧ Below w.heap.size w w' := by
  have HF : Hid (∀ w, Calls Try.prog 5 #[.int .i64 l, .int .i64 d] w fun e w' => e = .returned (.tuple #[.pointer none, .iface 33 (.int .i64 1)]) ∧ Below w.heap.size w w') := fun w => new_no l d w h
  have hb := badB h
  clear h
  rcases hb with h1 | ⟨h1, h2⟩ | ⟨h1, h2, h3⟩ | ⟨h1, h2, h3, h4⟩
  all_goals
    go_enter Try.func3, Try.ntmps3
    go_wp2_with fail
    refine (new_yes 1 0 _ (by omega) (by omega) (by omega)).mono ?_
    rintro e w1 ⟨fb, rfl, hb, hb1, g1⟩
    have H0 : Hid (BS w w1 fb 1 0 ⟨false, 0, 0, 0⟩) := ⟨hb, hb1, g1⟩
    have HA := post_any hb (by decide) (by decide)
    clear hb hb1 g1
    go_wp2_with fail
    refine HA.mono ?_
    rintro e w2 ⟨rfl, hb, hk⟩
    have H1 : Hid (BS w w2 fb 1 0 (postF 1 0 ⟨false, 0, 0, 0⟩)) := H0.out.step hb hk
    have HR : Calls Try.prog 7 #[.pointer (some ⟨fb, 0, none⟩)] w2 fun e w' => e = .returned (.int .i64 (1 : Nat)) ∧ w2 = w' := rings_any hb
    clear hb hk HA H0
    go_wp2_with fail
    refine HR.mono ?_
    rintro e w3 ⟨rfl, rfl⟩
    clear HR
    go_wp2_with fail
    refine (HF.out _).mono ?_
    rintro e w4 ⟨rfl, hb⟩
    have H2 : Hid (Below w.heap.size w w4) := H1.out.bel.trans (hb.mono H1.out.bel.size)
    clear hb H1 HF
    go_wp2
    go_ret
    exact ⟨by simp [*], H2.out⟩
set_option maxRecDepth 100000 in
set_option maxHeartbeats 8000000 in
theorem tells_yes (L D : Nat) (a2 : Option Addr) (cap2 : Nat) (sc : List Int) (w : World) (h1 : 1 ≤ L) (h2 : L ≤ 64) (h3 : D ≤ 1000) (hS : IL w a2 sc) (hl2 : sc.length ≤ 140737488351232) : Calls Try.prog 3 #[.int .i64 (L : Nat), .int .i64 (D : Nat), .slice a2 sc.length cap2] w fun e w' => e = .returned (.bool true) ∧ Below w.heap.size w w' := by
  have HSC : Hid (∀ w', Below w.heap.size w w' → ∀ i, i < sc.length → ∃ g o, a2 = some ⟨g, o, none⟩ ∧ w'.cell? ⟨g, o + i, none⟩ = some (.int .i64 (gI sc i))) := fun w' hb i hi => by
    rcases hS with e | ⟨g, o, e, hc⟩
    · subst e; simp at hi
    · exact ⟨g, o, e, (hb.cell (p := ⟨g, o + i, none⟩) (World.block_lt_of_cell? w _ (hc i hi))).trans (hc i hi)⟩
  have HN : Hid (∀ w, Calls Try.prog 5 #[.int .i64 (L : Nat), .int .i64 (D : Nat)] w fun e w' => ∃ bb, e = .returned (.tuple #[.pointer (some ⟨bb, 0, none⟩), .nilIface]) ∧ BE w' bb L D ⟨false, 0, 0, 0⟩ ∧ Below w.heap.size w w' ∧ w.heap.size ≤ bb) := fun w => new_yes L D w h1 h2 h3
  clear hS h1 h2
  generalize gI sc = SC at HSC
  generalize sc.length = n2 at *
  clear sc
  go_enter Try.func3, Try.ntmps3
  go_wp2_with fail
  refine (new_yes 1 0 _ (by omega) (by omega) (by omega)).mono ?_
  rintro e w1 ⟨fb, rfl, hb, hb1, g1⟩
  have H0 : Hid (BS w w1 fb 1 0 ⟨false, 0, 0, 0⟩) := ⟨hb, hb1, g1⟩
  have HA := post_any hb (by decide) (by decide)
  clear hb hb1 g1
  go_wp2_with fail
  refine HA.mono ?_
  rintro e w2 ⟨rfl, hb, hk⟩
  have H1 : Hid (BS w w2 fb 1 0 (postF 1 0 ⟨false, 0, 0, 0⟩)) := H0.out.step hb hk
  have HR : Calls Try.prog 7 #[.pointer (some ⟨fb, 0, none⟩)] w2 fun e w' => e = .returned (.int .i64 (1 : Nat)) ∧ w2 = w' := rings_any hb
  clear hb hk HA H0
  go_wp2_with fail
  refine HR.mono ?_
  rintro e w3 ⟨rfl, rfl⟩
  clear HR
  go_wp2_with fail
  refine (HN.out _).mono ?_
  rintro e w4 ⟨bb, rfl, hb, hb4, g4⟩
  have H2 : Hid (BS w w4 bb L D ⟨false, 0, 0, 0⟩ ∧ Bd 0 ⟨false, 0, 0, 0⟩ ∧ 0 + 0 ≤ 0) := by
    have hs := H1.out.bel.size
    exact ⟨⟨hb, H1.out.bel.trans (hb4.mono hs), by omega⟩, ⟨Nat.le_refl _, Nat.le_refl _⟩, Nat.le_refl _⟩
  clear hb hb4 g4 H1 HN
  go_wp2
  go_loopw [11, 12] (fun vp vi wq => ∃ (i p : Nat) (s : Sb), i ≤ n2 ∧ p ≤ i ∧ vp = .int .i64 p ∧ vi = .int .i64 i ∧ Hid (BS w wq bb L D s ∧ Bd i s ∧ s.r + s.w ≤ p)) (fun _ j _ => n2 - (intOf j).toNat)
  case atStart => exact ⟨0, 0, _, Nat.zero_le _, Nat.le_refl _, rfl, rfl, H2.out⟩
  case round =>
    obtain ⟨i, p, s, hi, hpi, rfl, rfl, hR⟩ := hrel
    clear H2
    have hbd := hR.out.2.1
    have hr1 := hbd.rw
    have hr2 := hbd.t
    have hrp := hR.out.2.2
    by_cases hlt : i < n2
    · obtain ⟨so, oo, ha2, k0⟩ := HSC.out _ hR.out.1.bel i hlt
      subst ha2
      by_cases hx1 : SC i = 1
      · have HA := post_any hR.out.1.be (by omega) (by omega)
        have HF : Hid (Bd (i + 1) (postF L D s) ∧ (postF L D s).r + (postF L D s).w ≤ p + 1) := by
          refine ⟨hbd.post L D, ?_⟩
          have hb' : Bd (max p s.t) s := ⟨by omega, by omega⟩
          unfold postF rungF
          split
          · show s.r + 1 + 0 ≤ p + 1; omega
          · show s.r + (s.w + 1) ≤ p + 1; omega
        rw [hx1] at k0
        clear hx1 hbd hr1 hr2 hrp
        go_wp2_with fail
        refine HA.mono ?_
        rintro e w5 ⟨rfl, hb, hk5⟩
        have H5 : Hid (BS w w5 bb L D (postF L D s) ∧ Bd (i + 1) (postF L D s) ∧ (postF L D s).r + (postF L D s).w ≤ p + 1) := ⟨hR.out.1.step hb hk5, HF.out⟩
        clear HA hb hk5 hR HF
        go_wp2
        exact ⟨⟨i + 1, p + 1, _, by omega, by omega, by go_num, by go_num, H5.out⟩, by simp [intOf]; omega⟩
      · by_cases hx2 : SC i = 2
        · have HA := tick_any hR.out.1.be (by omega) (by omega)
          have HF : Hid (Bd (i + 1) (tickF L D s) ∧ (tickF L D s).r + (tickF L D s).w ≤ p) := by
            refine ⟨hbd.tick L D, ?_⟩
            have h0 : ∀ z : Sb, z.r + z.w ≤ p → (rungF L D z).r + (rungF L D z).w ≤ p := fun z hz => by
              have hz2 : Bd (max p z.t) z := ⟨by omega, by omega⟩
              unfold rungF
              split
              · rename_i hd
                have h0 : ¬ z.w = 0 := by
                  intro e
                  simp [dueF, e] at hd
                show z.r + 1 + 0 ≤ p; omega
              · exact hz
            unfold tickF
            refine h0 _ ?_
            unfold tickedF
            split <;> exact hrp
          rw [hx2] at k0
          clear hx1 hx2 hbd hr1 hr2 hrp
          go_wp2_with fail
          refine HA.mono ?_
          rintro e w5 ⟨rfl, hb, hk5⟩
          have H5 : Hid (BS w w5 bb L D (tickF L D s) ∧ Bd (i + 1) (tickF L D s) ∧ (tickF L D s).r + (tickF L D s).w ≤ p) := ⟨hR.out.1.step hb hk5, HF.out⟩
          clear HA hb hk5 hR HF
          go_wp2
          exact ⟨⟨i + 1, p, _, by omega, by omega, by go_num, by go_num, H5.out⟩, by simp [intOf]; omega⟩
        · generalize SC i = x at *
          have HA := mask_any (decide (x = 3)) hR.out.1.be (by omega)
          have HF : Hid (Bd (i + 1) (maskF L D s (decide (x = 3))) ∧ (maskF L D s (decide (x = 3))).r + (maskF L D s (decide (x = 3))).w ≤ p) := by
            refine ⟨(hbd.mask L D _).mono (by omega), ?_⟩
            have h0 : ∀ z : Sb, z.r + z.w ≤ p → (rungF L D z).r + (rungF L D z).w ≤ p := fun z hz => by
              have hz2 : Bd (max p z.t) z := ⟨by omega, by omega⟩
              unfold rungF
              split
              · rename_i hd
                have h0 : ¬ z.w = 0 := by
                  intro e
                  simp [dueF, e] at hd
                show z.r + 1 + 0 ≤ p; omega
              · exact hz
            exact h0 _ hrp
          clear hbd hr1 hr2 hrp
          have hd : (x == 3) = decide (x = 3) := rfl
          go_wp2_with fail
          refine HA.mono ?_
          rintro e w5 ⟨rfl, hb, hk5⟩
          have H5 : Hid (BS w w5 bb L D (maskF L D s (decide (x = 3))) ∧ Bd (i + 1) (maskF L D s (decide (x = 3))) ∧ (maskF L D s (decide (x = 3))).r + (maskF L D s (decide (x = 3))).w ≤ p) := ⟨hR.out.1.step hb hk5, HF.out⟩
          clear HA hb hk5 hR HF
          go_wp2
          exact ⟨⟨i + 1, p, _, by omega, by omega, by go_num, by go_num, H5.out⟩, by simp [intOf]; omega⟩
    · obtain rfl : i = n2 := by omega
      clear hlt hi
      obtain ⟨m0, x0, t0, r0⟩ := s
      simp only at hr1 hr2 hrp
      have HW := waits_any hR.out.1.be
      have HR := rings_any hR.out.1.be
      have HM := mask_any false hR.out.1.be (by simp only; omega)
      have HT : Hid (TkI L D p r0 x0 0 (maskF L D ⟨m0, x0, t0, r0⟩ false) ∧ Bd (i + 0) (maskF L D ⟨m0, x0, t0, r0⟩ false)) := ⟨TkI.start hrp, hbd.mask L D false⟩
      clear hbd hr1 hr2 hrp
      go_wp2_with fail
      refine HW.mono ?_
      rintro e w5 ⟨rfl, rfl⟩
      go_wp2_with fail
      refine HR.mono ?_
      rintro e w6 ⟨rfl, rfl⟩
      go_wp2_with fail
      refine HM.mono ?_
      rintro e w7 ⟨rfl, hb, hk7⟩
      have H7 : Hid (∃ s, BS w w7 bb L D s ∧ TkI L D p r0 x0 0 s ∧ Bd (i + 0) s) := ⟨_, hR.out.1.step hb hk7, HT.out⟩
      clear HW HR HM HT hb hk7 hR
      go_wp2
      go_loopw [15] (fun j wq => ∃ (k : Nat), k ≤ D ∧ j = .int .i64 k ∧ Hid (∃ s, BS w wq bb L D s ∧ TkI L D p r0 x0 k s ∧ Bd (i + k) s)) (fun j _ => D - (intOf j).toNat)
      case atStart => exact ⟨0, Nat.zero_le _, rfl, H7.out⟩
      case round =>
        obtain ⟨k, hk, rfl, hR⟩ := hrel
        clear H7
        obtain ⟨s, q1, q2, q3⟩ := hR.out
        have hr1 := q3.rw
        have hr2 := q3.t
        by_cases hlt : k < D
        · have HA := tick_any q1.be (by omega) (by omega)
          have HQ : Hid (BS w wr bb L D s ∧ TkI L D p r0 x0 (k + 1) (tickF L D s) ∧ Bd (i + (k + 1)) (tickF L D s)) := ⟨q1, q2.step, q3.tick L D⟩
          clear q1 q2 q3 hr1 hr2 hR
          go_wp2_with fail
          refine HA.mono ?_
          rintro e w8 ⟨rfl, hb, hk8⟩
          have H8 : Hid (∃ s, BS w w8 bb L D s ∧ TkI L D p r0 x0 (k + 1) s ∧ Bd (i + (k + 1)) s) := ⟨_, HQ.out.1.step hb hk8, HQ.out.2⟩
          clear HA HQ hb hk8
          go_wp2
          exact ⟨⟨k + 1, by omega, by go_num, H8.out⟩, by simp [intOf]; omega⟩
        · obtain rfl : k = D := by omega
          have HR := rings_any q1.be
          have HW := waits_any q1.be
          obtain ⟨d1, d2, d3⟩ := q2.done
          have HE : Hid (Below w.heap.size w wr) := q1.bel
          rw [d1] at HW
          generalize s.r = z at *
          clear q1 q2 q3 hr1 hr2 hR hk hlt
          by_cases hx0 : x0 = 0
          · subst hx0
            simp only [if_true, Nat.add_zero] at d3
            subst d3
            have t1 : ¬ ((p : Int) < (z : Int)) := by omega
            clear d2 d1
            go_wp2_with fail
            refine HR.mono ?_
            rintro e w8 ⟨rfl, rfl⟩
            go_wp2_with fail
            refine HW.mono ?_
            rintro e w9 ⟨rfl, rfl⟩
            go_wp2
            go_ret
            exact ⟨by simp, HE.out⟩
          · rw [if_neg hx0] at d3
            subst d3
            have t1 : ¬ ((p : Int) < ((r0 + 1 : Nat) : Int)) := by omega
            have t2 : ¬ (((r0 + 1 : Nat) : Int) < (r0 : Int)) := by omega
            have t3 : (r0 : Int) < ((r0 + 1 : Nat) : Int) := by omega
            have t4 : 0 < (x0 : Int) := by omega
            generalize r0 + 1 = z at *
            clear d2 d1 hx0
            go_wp2_with fail
            refine HR.mono ?_
            rintro e w8 ⟨rfl, rfl⟩
            go_wp2_with fail
            refine HW.mono ?_
            rintro e w9 ⟨rfl, rfl⟩
            go_wp2
            go_ret
            exact ⟨by simp, HE.out⟩
theorem tells_any (l d : Int) (a2 : Option Addr) (cap2 : Nat) (sc : List Int) (w : World) (hS : IL w a2 sc) (hl2 : sc.length ≤ 140737488351232) : Calls Try.prog 3 #[.int .i64 l, .int .i64 d, .slice a2 sc.length cap2] w fun e w' => e = .returned (.bool true) ∧ Below w.heap.size w w' := by
  by_cases h : GoodB l d
  · obtain ⟨L, D, rfl, rfl, h1, h2, h3⟩ := h.nat
    exact tells_yes L D a2 cap2 sc w h1 h2 h3 hS hl2
  · exact tells_no l d a2 sc.length cap2 w h
end Go.Proofs.Ytdhidiemchnleaa
