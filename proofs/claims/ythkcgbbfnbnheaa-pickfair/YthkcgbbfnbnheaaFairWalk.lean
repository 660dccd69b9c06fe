/-
  The walk of granarylaw3.PickFair: it returns true, and nothing that was there has turned.
-/
import Derived.Test.YthkcgbbfnbnheaaWaitsWalk
namespace Go.Proofs.Ythkcgbbfnbnheaa
open Go.RowKit
set_option linter.unusedVariables false

set_option maxRecDepth 100000 in
set_option maxHeartbeats 1600000 in
theorem fair_no (a0 a2 : Option Addr) (cap0 n2 cap2 L e0 : Nat) (l : List Int) (t : Int) (w : World) (hl : l.length = L) (hf : FaultW l e0) (h0 : ¬ e0 = 0) (h1 : IL w a0 l) (hM : L ≤ 9223372036854775807) :
    Calls Try.prog 3 #[.slice a0 L cap0, .int .i64 t, .slice a2 n2 cap2] w fun e w' => e = .returned (.bool true) ∧ Below w.heap.size w w' := by
  have HF := fact_any w
  have HN : Hid (∀ w', Below w.heap.size w w' → Calls Try.prog 7 #[.slice a0 L cap0] w' fun e w'' => e = .returned (.tuple #[.pointer none, .iface 36 (.int .i64 e0)]) ∧ Below w'.heap.size w' w'') := fun w' hb => new_no a0 cap0 L e0 l w' hl hf h0 (h1.below hb) hM
  clear hl hf h0 h1
  go_enter Try.func3, Try.ntmps3
  go_wp2_with fail
  refine HF.mono ?_
  rintro e w1 ⟨rfl, hb⟩
  have HA := HN.out w1 hb
  have H1 : Hid (Below w.heap.size w w1) := hb
  clear HF HN hb
  go_wp2_with fail
  refine HA.mono ?_
  rintro e w2 ⟨rfl, hb⟩
  have H2 : Hid (Below w.heap.size w w2) := H1.out.trans (hb.mono H1.out.size)
  clear HA hb H1
  go_wp2
  go_ret
  exact ⟨rfl, H2.out⟩
/-- Small numbers. -/
def Sm (n : Nat) (l : List Int) : Prop := l.length = n ∧ ∀ j, 0 ≤ gI l j ∧ gI l j ≤ 2
theorem Sm.zero (n : Nat) : Sm n (List.replicate n 0) := ⟨by simp, fun j => by rw [gI_rep]; omega⟩
theorem Sm.set {n i : Nat} {l : List Int} {x : Int} (h : Sm n l) (hi : i < n) (hx : 0 ≤ x ∧ x ≤ 2) : Sm n (l.set i x) := by
  refine ⟨by rw [List.length_set]; exact h.1, fun j => ?_⟩
  rw [gI_set (by rw [h.1]; exact hi)]
  split
  · exact hx
  · exact h.2 j
/-- .. one more where q is. -/
theorem Sm.more {n q : Nat} {l : List Int} (h : Sm n l) (hq : q < n) : (l.set q (1 + gI l q)).length = n ∧ NonN (l.set q (1 + gI l q)) ∧ 0 < gI (l.set q (1 + gI l q)) q ∧ ¬ NoneW (l.set q (1 + gI l q)) ∧ ∀ j, gI (l.set q (1 + gI l q)) j ≤ 3 := by
  have hg : ∀ j, gI (l.set q (1 + gI l q)) j = if j = q then 1 + gI l q else gI l j := fun j => gI_set (by rw [h.1]; exact hq)
  have h2 := h.2 q
  have hlen : (l.set q (1 + gI l q)).length = n := by rw [List.length_set]; exact h.1
  have hpos : 0 < gI (l.set q (1 + gI l q)) q := by rw [hg, if_pos rfl]; omega
  refine ⟨hlen, fun j hj => ?_, hpos, fun hN => ?_, fun j => ?_⟩
  · rw [hg]; split
    · omega
    · exact (h.2 j).1
  · have := hN q (by rw [hlen]; exact hq)
    omega
  · rw [hg]; split
    · omega
    · have := (h.2 j).2; omega
set_option maxRecDepth 100000 in
set_option maxHeartbeats 8000000 in
theorem fair_yes (g o cap0 n N cap2 : Nat) (a2 : Option Addr) (W : List Int) (t : Int) (w : World) (hl : W.length = n) (hf : GoodW W) (h1 : IL w (some ⟨g, o, none⟩) W) (hS : SCs w a2 N) (hN : N ≤ 140737488355328) (ht : -9223372036854775808 ≤ t ∧ t ≤ 9223372036854775807) :
    Calls Try.prog 3 #[.slice (some ⟨g, o, none⟩) n cap0, .int .i64 t, .slice a2 N cap2] w fun e w' => e = .returned (.bool true) ∧ Below w.heap.size w w' := by
  have HF := fact_any w
  have HN : Hid (∀ w', Below w.heap.size w w' → Calls Try.prog 7 #[.slice (some ⟨g, o, none⟩) n cap0] w' fun e w'' => ∃ pb wa cap1 c, e = .returned (.tuple #[.pointer (some ⟨pb, 0, none⟩), .nilIface]) ∧ PK 41 w'' pb wa cap1 W 0 c ∧ (c : Int) = gI W 0 ∧ Below w'.heap.size w' w'' ∧ w'.heap.size ≤ pb ∧ (∀ b, blk wa b → w'.heap.size ≤ b ∧ b < w''.heap.size)) := fun w' hb => new_yes ⟨g, o, none⟩ cap0 n W w' hl hf (h1.below hb)
  have hn8 : n ≤ 8 := by have := hf.2.1; omega
  have hn1 : 1 ≤ n := by have := hf.1; omega
  have HP : Hid (∀ w, Calls Try.prog 8 #[.int .i64 t, .int .i64 (n : Nat)] w fun e w' => e = .returned (.int .i64 (pkN t n : Nat)) ∧ w = w') := fun w => pick_is t n w (by omega) (by omega) ht
  have hT : pkN t n < n := pkN_lt t (by omega)
  have HC : Hid (∀ w', Below w.heap.size w w' → ∀ i, i < n → w'.cell? ⟨g, o + i, none⟩ = some (.int .i64 (gI W i))) := fun w' hb i hi => by
    obtain ⟨g', o', e, hc⟩ := (h1.below hb).some_of (i := i) (by omega)
    cases e
    exact hc i (by omega)
  have HG : Hid (W.length = n ∧ GoodW W) := ⟨hl, hf⟩
  have HSc : Hid (SCs w a2 N) := hS
  generalize pkN t n = T at *
  clear hl hf h1 ht hS
  go_enter Try.func3, Try.ntmps3
  go_wp2_with fail
  refine HF.mono ?_
  rintro e w1 ⟨rfl, hb⟩
  have HA := HN.out w1 hb
  have H1 : Hid (Below w.heap.size w w1) := hb
  clear HF HN hb
  go_wp2_with fail
  refine HA.mono ?_
  rintro e w2 ⟨pb, wa, cap, c0, rfl, hp, hc0, hb, hge, hwb⟩
  have H2 : Hid ((PS w w2 pb cap wa W 0 c0 ∧ ∀ b, blk wa b → b < w2.heap.size) ∧ FI W T 0 c0 0) := by
    have hb1 := H1.out
    have hs := hb1.size
    exact ⟨⟨⟨hp, hb1.trans (hb.mono hs), by omega⟩, fun b e => (hwb b e).2⟩, FI.start HG.out.2 (by rw [HG.out.1]; exact hT) hc0⟩
  clear HA hp hc0 hb hge hwb H1
  go_wp2_with fail
  refine (HP.out _).mono ?_
  rintro e w3 ⟨rfl, rfl⟩
  clear HP
  go_wp2
  go_loopw [12, 13] (fun s j wq => ∃ (i : Nat), i ≤ n ∧ s = .int .i64 (sg W 0 i) ∧ j = .int .i64 i ∧ Hid (w2 = wq)) (fun _ j _ => n - (intOf j).toNat)
  case atStart => exact ⟨0, Nat.zero_le _, rfl, rfl, rfl⟩
  case round =>
    obtain ⟨i, hi, rfl, rfl, hR⟩ := hrel
    by_cases hlt : i < n
    · have hs0 := sg_bound HG.out.2 (b := 0) (k := i)
      have hs1 : sg W 0 (i + 1) = sg W 0 i + gI W i := by
        show sg W 0 i + gI W ((0 + i) % W.length) = _
        rw [Nat.zero_add, Nat.mod_eq_of_lt (by rw [HG.out.1]; exact hlt)]
      have hgi := HG.out.2.2.2 i (by rw [HG.out.1]; exact hlt)
      have ci : wr.cell? ⟨g, o + i, none⟩ = some (.int .i64 (gI W i)) := by
        have e := hR.out
        subst e
        exact HC.out _ H2.out.1.1.bel i hlt
      have HS1 : Hid (sg W 0 (i + 1) = sg W 0 i + gI W i) := hs1
      clear hs1
      generalize sg W 0 i = s0 at *
      generalize gI W i = g0 at *
      go_wp2
      exact ⟨⟨i + 1, by omega, by rw [HS1.out], by go_num, hR⟩, by simp [intOf]; omega⟩
    · have hin : i = n := by omega
      have hw2 := hR.out
      subst hw2
      have HA : Hid (∀ since a c : Nat, FI W T a c since → (since : Int) < sg W 0 n) := fun since a c h => by
        have := h.short HG.out.2 (by rw [HG.out.1]; exact hT)
        rw [HG.out.1] at this
        exact this
      have hbd := sg_bound HG.out.2 (b := 0) (k := n)
      rw [hin]
      generalize sg W 0 n = ALL at *
      clear hin hi hlt hR HC
      go_wp2
      go_loopw [14, 15] (fun s j wq => ∃ (since i a c : Nat), i ≤ N ∧ s = .int .i64 since ∧ j = .int .i64 i ∧ Hid ((PS w wq pb cap wa W a c ∧ ∀ b, blk wa b → b < wq.heap.size) ∧ FI W T a c since)) (fun _ j _ => N - (intOf j).toNat)
      case atStart => exact ⟨0, 0, 0, c0, Nat.zero_le _, rfl, rfl, H2.out⟩
      case round =>
        obtain ⟨since, i, a, c, hi, rfl, rfl, hR⟩ := hrel
        clear H2
        obtain ⟨w3, rfl⟩ : ∃ w3, w3 = wr := ⟨_, rfl⟩
        by_cases hlt : i < N
        · obtain ⟨b2, o2, a1, c1, ps, rfl, hcell, hlen, hbx⟩ := HSc.out.at hR.out.1.1.bel hlt
          have HCl : Hid (∀ w'', Below w.heap.size w w'' → w''.cell? ⟨b2, o2 + i, none⟩ = some (.slice a1 ps.length c1) ∧ IL w'' a1 ps) := hcell
          have HBx : Hid (∀ j, -9223372036854775808 ≤ gI ps j ∧ gI ps j ≤ 9223372036854775807) := hbx
          obtain ⟨m, hm⟩ : ∃ m, ps.length = m := ⟨_, rfl⟩
          have HM : Hid (ps.length = m) := hm
          rw [hm] at hlen
          clear hcell hbx hm
          have hmk := made_ints n (by omega)
          have H4 : Hid (WS w (w3.alloc (.cells (mkI n) 3)) pb cap wa W a c w3.heap.size (List.replicate n 0) ∧ Sm n (List.replicate n 0) ∧ ∀ b, blk wa b → b < w3.heap.size) := ⟨WS.made hR.out.1.1 hR.out.1.2 n, Sm.zero n, hR.out.1.2⟩
          have HFi : Hid (FI W T a c since ∧ a < W.length) := ⟨hR.out.2, hR.out.1.1.pk.lt⟩
          have hsl : (since : Int) < ALL := HA.out since a c hR.out.2
          clear hR
          go_wp2
          generalize w3.alloc (.cells (mkI n) 3) = w4 at *
          have HLs : Hid (∀ b, blk wa b → b < w3.heap.size) := H4.out.2.2
          have H5 : Hid (WS w w4 pb cap wa W a c w3.heap.size (List.replicate n 0) ∧ Sm n (List.replicate n 0)) := ⟨H4.out.1, H4.out.2.1⟩
          clear H4 hmk
          generalize w3.heap.size = wb at *
          go_loopw [17] (fun j wq => ∃ (k : Nat) (l : List Int), k ≤ n ∧ k ≤ m ∧ j = .int .i64 k ∧ Hid (WS w wq pb cap wa W a c wb l ∧ Sm n l)) (fun j _ => n - (intOf j).toNat)
          case atStart => exact ⟨0, _, Nat.zero_le _, Nat.zero_le _, rfl, H5.out⟩
          case round =>
            obtain ⟨k, l, hkn, hkm, rfl, hK⟩ := hrel
            clear H5
            have cS : wr.cell? ⟨b2, o2 + i, none⟩ = some (.slice a1 m c1) := by rw [← HM.out]; exact (HCl.out wr hK.out.1.ps.bel).1
            by_cases hk : k < n ∧ k < m
            · obtain ⟨hk1, hk2⟩ := hk
              have hI := (HCl.out wr hK.out.1.ps.bel).2
              obtain ⟨g1, o1, e1, hc1⟩ := hI.some_of (i := k) (by rw [HM.out]; exact hk2)
              have ck := hc1 k (by rw [HM.out]; exact hk2)
              have HQ := pick_is (gI ps k) 3 wr (by omega) (by omega) (HBx.out k)
              have hx3 : pkN (gI ps k) 3 < 3 := pkN_lt _ (by omega)
              have cw : wr.cell? ⟨wb, k, none⟩ = some (.int .i64 (gI l k)) := stc_int hK.out.1.st (by rw [hK.out.2.1]; exact hk1)
              have fw : wr.frozen? ⟨wb, k, none⟩ = false := hK.out.1.st.free k
              subst e1
              generalize gI ps k = x at *
              generalize gI l k = y at *
              generalize pkN x 3 = X at *
              have H6 : Hid (WS w (wr.setCell ⟨wb, k, none⟩ (.int .i64 (X : Nat))) pb cap wa W a c wb (l.set k (X : Nat)) ∧ Sm n (l.set k (X : Nat))) := ⟨hK.out.1.set k _, hK.out.2.set hk1 (by omega)⟩
              clear hI hc1 hK
              go_wp2_with fail
              refine HQ.mono ?_
              rintro e w6 ⟨rfl, rfl⟩
              clear HQ
              go_wp2
              exact ⟨⟨k + 1, _, by omega, by omega, by go_num, H6.out⟩, by simp [intOf]; omega⟩
            · have hex : (¬ k < n) ∨ (k < n ∧ ¬ k < m) := by omega
              clear hk
              have cq : wr.cell? ⟨wb, T, none⟩ = some (.int .i64 (gI l T)) := stc_int hK.out.1.st (by rw [hK.out.2.1]; exact hT)
              have fq : wr.frozen? ⟨wb, T, none⟩ = false := hK.out.1.st.free T
              have hy := hK.out.2.2 T
              have H6 : Hid (WS w (wr.setCell ⟨wb, T, none⟩ (.int .i64 (1 + gI l T))) pb cap wa W a c wb (l.set T (1 + gI l T)) ∧ (l.set T (1 + gI l T)).length = n ∧ NonN (l.set T (1 + gI l T)) ∧ 0 < gI (l.set T (1 + gI l T)) T ∧ ¬ NoneW (l.set T (1 + gI l T)) ∧ ∀ j, gI (l.set T (1 + gI l T)) j ≤ 3) := ⟨hK.out.1.set T _, hK.out.2.more hT⟩
              generalize l.set T (1 + gI l T) = l2 at *
              generalize gI l T = y at *
              have HX : Hid (∀ w', WS w w' pb cap wa W a c wb l2 → Calls Try.prog 9 #[.pointer (some ⟨pb, 0, none⟩), .slice (some ⟨wb, 0, none⟩) n n] w' fun e w'' => NxP w' w'' e pb cap a c wa W l2) := fun w' h => next_any pb cap a c n n wa (some ⟨wb, 0, none⟩) W l2 w' h.ps.pk HG.out.1 H6.out.2.1 (il_stc h.st) H6.out.2.2.1
              obtain ⟨w5, hw5⟩ : ∃ w5, wr.setCell ⟨wb, T, none⟩ (.int .i64 (1 + y)) = w5 := ⟨_, rfl⟩
              rw [hw5] at H6
              have HW5 : Hid (wr.setCell ⟨wb, T, none⟩ (.int .i64 (1 + y)) = w5) := hw5
              clear hw5 hK
              have HX5 := HX.out w5 H6.out.1
              rw [← HW5.out] at HX5
              clear HX
              rcases hex with hk1 | ⟨hk1, hk2⟩
              · skip
                go_wp2_with fail
                refine HX5.mono ?_
                rw [HW5.out]
                rintro e w7 (⟨hN, _⟩ | ⟨K, d, ht, _, rfl, hp, hk7⟩)
                · exact (H6.out.2.2.2.2.1 hN).elim
                · have hKt := ht.lt H6.out.1.ps.pk.lt (by rw [H6.out.2.1, HG.out.1]) H6.out.2.2.1
                  have hKn : K < n := by rw [← HG.out.1]; exact hKt.1
                  have H7 : Hid (WS w w7 pb cap wa W K d wb l2) := H6.out.1.turn hp hk7
                  have cK : w7.cell? ⟨wb, K, none⟩ = some (.int .i64 (gI l2 K)) := stc_int H7.out.st (by rw [H6.out.2.1]; exact hKn)
                  have hK0 : (gI l2 K == 0) = false := by rw [beq_eq_false_iff_ne]; have := hKt.2; omega
                  have hst := FI.step HG.out.2 (by rw [HG.out.1]; exact hT) HFi.out.2 H6.out.2.2.2.1 HFi.out.1 ht
                  have HLt : Hid (∀ b, blk wa b → b < w7.heap.size) := fun b hb => by
                    have h1 := HLs.out b hb
                    have h2 := heap_lt H7.out.st
                    omega
                  by_cases hKT : K = T
                  · have H8 : Hid ((PS w w7 pb cap wa W K d ∧ ∀ b, blk wa b → b < w7.heap.size) ∧ FI W T K d 0) := ⟨⟨H7.out.ps, HLt.out⟩, hst.1 hKT⟩
                    have hs8 : (0 : Int) < ALL := HA.out 0 K d H8.out.2
                    obtain rfl : T = K := hKT.symm
                    generalize gI l2 T = z at *
                    clear HX5 hp hk7 ht hKt hst H6 HLt hKT
                    go_wp2
                    exact ⟨⟨0, i + 1, T, d, by omega, rfl, by go_num, H8.out⟩, by simp [intOf]; omega⟩
                  · have H8 : Hid ((PS w w7 pb cap wa W K d ∧ ∀ b, blk wa b → b < w7.heap.size) ∧ FI W T K d (since + 1)) := ⟨⟨H7.out.ps, HLt.out⟩, hst.2 hKT⟩
                    have hs8 : ((since : Int) + 1) < ALL := by have := HA.out (since + 1) K d H8.out.2; omega
                    have hne : ((K : Int) == (T : Int)) = false := by rw [beq_eq_false_iff_ne]; omega
                    generalize gI l2 K = z at *
                    clear HX5 hp hk7 ht hKt hst H6 HLt hKT
                    go_wp2
                    exact ⟨⟨since + 1, i + 1, K, d, by omega, by go_num, by go_num, H8.out⟩, by simp [intOf]; omega⟩
              · skip
                go_wp2_with fail
                refine HX5.mono ?_
                rw [HW5.out]
                rintro e w7 (⟨hN, _⟩ | ⟨K, d, ht, _, rfl, hp, hk7⟩)
                · exact (H6.out.2.2.2.2.1 hN).elim
                · have hKt := ht.lt H6.out.1.ps.pk.lt (by rw [H6.out.2.1, HG.out.1]) H6.out.2.2.1
                  have hKn : K < n := by rw [← HG.out.1]; exact hKt.1
                  have H7 : Hid (WS w w7 pb cap wa W K d wb l2) := H6.out.1.turn hp hk7
                  have cK : w7.cell? ⟨wb, K, none⟩ = some (.int .i64 (gI l2 K)) := stc_int H7.out.st (by rw [H6.out.2.1]; exact hKn)
                  have hK0 : (gI l2 K == 0) = false := by rw [beq_eq_false_iff_ne]; have := hKt.2; omega
                  have hst := FI.step HG.out.2 (by rw [HG.out.1]; exact hT) HFi.out.2 H6.out.2.2.2.1 HFi.out.1 ht
                  have HLt : Hid (∀ b, blk wa b → b < w7.heap.size) := fun b hb => by
                    have h1 := HLs.out b hb
                    have h2 := heap_lt H7.out.st
                    omega
                  by_cases hKT : K = T
                  · have H8 : Hid ((PS w w7 pb cap wa W K d ∧ ∀ b, blk wa b → b < w7.heap.size) ∧ FI W T K d 0) := ⟨⟨H7.out.ps, HLt.out⟩, hst.1 hKT⟩
                    have hs8 : (0 : Int) < ALL := HA.out 0 K d H8.out.2
                    obtain rfl : T = K := hKT.symm
                    generalize gI l2 T = z at *
                    clear HX5 hp hk7 ht hKt hst H6 HLt hKT
                    go_wp2
                    exact ⟨⟨0, i + 1, T, d, by omega, rfl, by go_num, H8.out⟩, by simp [intOf]; omega⟩
                  · have H8 : Hid ((PS w w7 pb cap wa W K d ∧ ∀ b, blk wa b → b < w7.heap.size) ∧ FI W T K d (since + 1)) := ⟨⟨H7.out.ps, HLt.out⟩, hst.2 hKT⟩
                    have hs8 : ((since : Int) + 1) < ALL := by have := HA.out (since + 1) K d H8.out.2; omega
                    have hne : ((K : Int) == (T : Int)) = false := by rw [beq_eq_false_iff_ne]; omega
                    generalize gI l2 K = z at *
                    clear HX5 hp hk7 ht hKt hst H6 HLt hKT
                    go_wp2
                    exact ⟨⟨since + 1, i + 1, K, d, by omega, by go_num, by go_num, H8.out⟩, by simp [intOf]; omega⟩
        · obtain rfl : i = N := by omega
          have H7 : Hid (Below w.heap.size w w3) := hR.out.1.1.bel
          clear hR
          go_wp2
          go_ret
          exact ⟨rfl, H7.out⟩
theorem fair_any (a0 a2 : Option Addr) (cap0 N cap2 : Nat) (l : List Int) (t : Int) (w : World) (h1 : IL w a0 l) (hM : l.length ≤ 140737488351232) (hS : SCs w a2 N) (hN : N ≤ 140737488355328) (ht : -9223372036854775808 ≤ t ∧ t ≤ 9223372036854775807) :
    Calls Try.prog 3 #[.slice a0 l.length cap0, .int .i64 t, .slice a2 N cap2] w fun e w' => e = .returned (.bool true) ∧ Below w.heap.size w w' := by
  obtain ⟨e0, hf⟩ := faultW_ex l
  by_cases h0 : e0 = 0
  · have hg : GoodW l := by
      rcases hf with ⟨_, h⟩ | ⟨_, h⟩ | ⟨_, _, _, h⟩ | ⟨h, _⟩
      · omega
      · omega
      · omega
      · exact h
    obtain ⟨g, o, rfl, _⟩ := h1.some_of (i := 0) hg.1
    exact fair_yes g o cap0 l.length N cap2 a2 l t w rfl hg h1 hS hN ht
  · exact fair_no a0 a2 cap0 N cap2 l.length e0 l t w rfl hf h0 h1 (by omega)
end Go.Proofs.Ythkcgbbfnbnheaa
