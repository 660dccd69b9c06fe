/-
  The walk of granarylaw3.RingOnce: it returns true, and nothing that was there has turned.
-/
import Derived.Test.YtnfjfffchhiooaaOnceWalk
namespace Go.Proofs.Ytnfjfffchhiooaa
open Go.RowKit
set_option linter.unusedVariables false

set_option maxRecDepth 100000 in
set_option maxHeartbeats 1600000 in
theorem once_no (n : Int) (a2 : Option Addr) (n2 cap2 : Nat) (w : World) (h : ¬ GoodP n) : Calls Try.prog 3 #[.int .i64 n, .slice a2 n2 cap2] w fun e w' => e = .returned (.bool true) ∧ Below w.heap.size w w' := by
  have HF := post_no n w h
  unfold GoodP at h
  have ht : (n < 2) ∨ (¬ n < 2 ∧ 16 < n) := by omega
  clear h
  rcases ht with h1 | ⟨h1, h2⟩
  · have t1 : decide (n < 2) = true := decide_eq_true h1
    clear h1
    go_enter Try.func3, Try.ntmps3
    go_wp2_with fail
    refine HF.mono ?_
    rintro e w1 ⟨rfl, hb⟩
    go_wp2
    go_ret
    exact ⟨rfl, hb⟩
  · have t1 : decide (n < 2) = false := decide_eq_false h1
    have t2 : decide (16 < n) = true := decide_eq_true h2
    clear h1 h2
    go_enter Try.func3, Try.ntmps3
    go_wp2_with fail
    refine HF.mono ?_
    rintro e w1 ⟨rfl, hb⟩
    go_wp2
    go_ret
    exact ⟨rfl, hb⟩
set_option maxRecDepth 100000 in
set_option maxHeartbeats 8000000 in
theorem once_yes (n : Nat) (a2 : Option Addr) (n2 cap2 : Nat) (w : World) (h1 : 2 ≤ n) (h2 : n ≤ 16) (hS : Script w a2 n2) (hl2 : n2 ≤ 9223372036854775807) : Calls Try.prog 3 #[.int .i64 (n : Nat), .slice a2 n2 cap2] w fun e w' => e = .returned (.bool true) ∧ Below w.heap.size w w' := by
  have HSC : Hid (Script w a2 n2) := hS
  have hn0 : ¬ ((n : Int) = 0) := by omega
  have hmk := made_bools n (by omega)
  clear hS
  go_enter Try.func3, Try.ntmps3
  go_wp2_with fail
  refine (post_yes n _ h1 h2).mono ?_
  rintro e w1 ⟨pb, sb, rfl, hp1, hb1, g1⟩
  have HP1 : Hid (PV w1 49 n pb sb 0 0 ∧ Below w.heap.size w w1 ∧ w.heap.size ≤ pb) := ⟨hp1, hb1, g1⟩
  clear hp1 hb1 g1
  go_wp2_with fail
  refine (seer_yes n _ h1 h2).mono ?_
  rintro e w2 ⟨qb, sq, rfl, hp2, hb2, g2⟩
  have H0 : Hid (OS w (w2.alloc (.cells (mkBo n) 4)) n pb sb qb sq w2.heap.size 0 0 (List.replicate n false)) := os_first h1 HP1.out.1 HP1.out.2.1 HP1.out.2.2 hp2 hb2 g2
  clear hp2 hb2 g2 HP1
  go_wp2
  obtain ⟨gb, HGB⟩ : ∃ gb, Hid (gb = w2.heap.size) := ⟨_, rfl⟩
  obtain ⟨W3, HW3⟩ : ∃ W3, Hid (W3 = w2.alloc (.cells (mkBo n) 4)) := ⟨_, rfl⟩
  rw [← HGB.out, ← HW3.out] at H0 ⊢
  go_loopw [9, 10, 11] (fun vp vk vi wq => ∃ (P K i : Nat) (ph : List Bool), i ≤ n2 ∧ P ≤ i ∧ vp = .int .i64 P ∧ vk = .int .i64 K ∧ vi = .int .i64 i ∧ Hid (OS w wq n pb sb qb sq gb K P ph)) (fun _ _ j _ => n2 - (intOf j).toNat)
  case atStart => exact ⟨0, 0, 0, _, Nat.zero_le _, Nat.le_refl _, rfl, rfl, rfl, H0.out⟩
  case round =>
    obtain ⟨P, K, i, ph, hi, hPi, rfl, rfl, rfl, hR⟩ := hrel
    clear H0 HW3 HGB W3
    have hKP := hR.out.inv.le
    have hPK := hR.out.inv.lt
    by_cases hlt : i < n2
    · obtain ⟨so, oo, ha2, o, hO⟩ := HSC.out.slice hlt
      have hOr := hO.below hR.out.bel (Nat.le_refl _)
      have k0 := hOr.k0
      clear hO hOr
      subst ha2
      generalize o.kind = x0 at k0
      clear o
      by_cases hk : x0 = 1
      · subst hk
        have hfi := full_iff (n := n) (p := K) (k := P - K) h1 (by omega)
        rw [show K + (P - K) + 1 = P + 1 by omega] at hfi
        by_cases hf : P - K = n - 1
        · have HC := put_full hR.out.pv (hfi.2 hf)
          have hd : (P : Int) - (K : Int) = (n : Int) - 1 := by omega
          clear hfi hf
          go_wp2_with fail
          refine HC.mono ?_
          rintro e w3 ⟨rfl, hb3⟩
          have H3 : Hid (OS w w3 n pb sb qb sq gb K P ph) := hR.out.below hb3
          clear hb3 HC hR
          go_wp2
          exact ⟨⟨P, K, i + 1, ph, by omega, by omega, rfl, rfl, by go_num, H3.out⟩, by simp [intOf]; omega⟩
        · have HC := put_room hR.out.pv (fun e => hf (hfi.1 e))
          obtain ⟨t, HT⟩ : ∃ t : Nat, Hid (P % n = t) := ⟨_, rfl⟩
          obtain ⟨f, HP⟩ : ∃ f : Bool, Hid (phs n P = f) := ⟨_, rfl⟩
          have htn : t < n := by rw [← HT.out]; exact Nat.mod_lt _ (by omega)
          rw [HT.out, HP.out] at HC
          have HF : Hid (¬ P - K = n - 1) := hf
          clear hfi hf
          go_wp2_with fail
          refine HC.mono ?_
          rintro e w3 ⟨rfl, hp3, hk3⟩
          obtain ⟨⟨u, d1⟩, d2, d3⟩ := hR.out.put h1 HF.out hp3 hk3
          rw [HT.out] at d1 d2 d3
          rw [HP.out] at d3
          have H3 : Hid (OS w (w3.setCell ⟨gb, t, none⟩ (.bool f)) n pb sb qb sq gb K (P + 1) (ph.set t f)) := d3
          clear hp3 hk3 HC hR d3 HF
          go_wp2
          exact ⟨⟨P + 1, K, i + 1, _, by omega, by omega, by go_num, rfl, by go_num, H3.out⟩, by simp [intOf]; omega⟩
      · have hd : (x0 == 1) = false := by simp [hk]
        have HC := take_yes (c := n) hR.out.sv hR.out.br (fun e => hR.out.n3 e.symm)
        clear hk
        go_wp2_with fail
        refine HC.mono ?_
        rintro e w3 ⟨k, a, cap, hTk, rfl, ho3, hp3, hk3⟩
        have H3 : Hid (OT w w3 n pb sb qb sq gb K P k ph a) := hR.out.take hTk ho3 hp3 hk3
        have hkk : K + k = P := H3.out.kk
        have HKK : Hid (K + k = P) := hkk
        have hkn : k < n := by omega
        clear HC hTk ho3 hp3 hk3 hR hkk
        go_wp2
        go_loopw [10, 17] (fun vk vj wq => ∃ (j : Nat), j ≤ k ∧ vk = .int .i64 ((K + j : Nat) : Int) ∧ vj = .int .i64 j ∧ Hid (OT w wq n pb sb qb sq gb K P k ph a)) (fun _ j _ => k - (intOf j).toNat)
        case atStart => exact ⟨0, Nat.zero_le _, rfl, rfl, H3.out⟩
        case round =>
          obtain ⟨j, hj, rfl, rfl, hR⟩ := hrel
          clear H3
          obtain ⟨Q, HQ⟩ : ∃ Q : Nat, Hid (K + j = Q) := ⟨_, rfl⟩
          have hQb : Q ≤ 9223372036854775806 := by have := HQ.out; have := HKK.out; omega
          rw [HQ.out]
          obtain ⟨t, d, x, HT, ht, e4, e5, e6, e7, e12, e13, e8, e9, HM⟩ := ph_facts n Q h1 (by omega)
          clear HM e6 e7 e12 e13 e8 e9
          by_cases hjk : j < k
          · obtain ⟨g, o, ha, hc⟩ := hR.out.il.some_of (i := j) (by rw [tkL_len]; exact hjk)
            have c1 : wr.cell? ⟨g, o + j, none⟩ = some (.int .i64 (t : Nat)) := by
              rw [hc j (by rw [tkL_len]; exact hjk)]
              have e := tkL_get (n := n) (q := K) hjk
              rw [HQ.out, HT] at e
              unfold gI
              rw [e]
            subst ha
            have HN : Hid (∀ z, OT w (wr.drewN z) n pb sb qb sq gb K P k ph (some ⟨g, o, none⟩)) := fun z => hR.out.below (below_drewN (Below.refl _ _) z)
            clear hR hc HT
            go_wp2
            go_quiet (fail)
            go_wp2
            have e2 := HQ.out
            exact ⟨⟨j + 1, by omega, by rw [show K + (j + 1) = Q + 1 by omega]; go_num, by go_num, HN.out _⟩, by simp [intOf]; omega⟩
          · obtain rfl : j = k := by omega
            obtain rfl : P = Q := HKK.out.symm.trans HQ.out
            have hpt : t < n := ht
            have HC := free_yes hR.out.pv t ht
            clear hjk hj
            go_wp2_with fail
            refine HC.mono ?_
            rintro e w4 ⟨rfl, hp4, hk4⟩
            have H4 : Hid (OS w w4 n pb sb qb sq gb P P ph) := by
              rw [← HT] at hp4
              exact hR.out.free h1 hp4 hk4
            clear hp4 hk4 HC hR HT
            go_wp2
            exact ⟨⟨P, P, i + 1, ph, by omega, by omega, rfl, rfl, by go_num, H4.out⟩, by simp [intOf]; omega⟩
    · obtain rfl : i = n2 := by omega
      have HB : Hid (Below w.heap.size w wr) := hR.out.bel
      have hd : decide ((K : Int) ≤ (P : Int)) = true := decide_eq_true (by omega)
      clear HSC hR
      go_wp2
      go_ret
      exact ⟨rfl, HB.out⟩
theorem once_any (n : Int) (a2 : Option Addr) (n2 cap2 : Nat) (w : World) (hS : Script w a2 n2) (hl2 : n2 ≤ 9223372036854775807) : Calls Try.prog 3 #[.int .i64 n, .slice a2 n2 cap2] w fun e w' => e = .returned (.bool true) ∧ Below w.heap.size w w' := by
  by_cases h : GoodP n
  · obtain ⟨N, rfl, h1, h2⟩ := h.nat
    exact once_yes N a2 n2 cap2 w h1 h2 hS hl2
  · exact once_no n a2 n2 cap2 w h
end Go.Proofs.Ytnfjfffchhiooaa
