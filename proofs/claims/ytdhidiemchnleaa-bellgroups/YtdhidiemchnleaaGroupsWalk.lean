/-
  The walk of granarylaw3.BellGroups: it returns true, and nothing that was there has turned.
-/
import Derived.Test.YtdhidiemchnleaaLaw
namespace Go.Proofs.Ytdhidiemchnleaa
open Go.RowKit
set_option linter.unusedVariables false

set_option maxHeartbeats 800000 in
theorem pick_any (c : Int) (n : Nat) (w : World) (h1 : 1 ≤ n) (h2 : n ≤ 4611686018427387904) (hc : -9223372036854775808 ≤ c ∧ c ≤ 9223372036854775807) :
    Calls Try.prog 11 #[.int .i64 c, .int .i64 n] w fun e w' => (∃ k : Nat, k < n ∧ e = .returned (.int .i64 (k : Nat))) ∧ w' = w := by
  have hn0 : ¬ ((n : Int) = 0) := by omega
  by_cases h0 : 0 ≤ c
  · obtain ⟨m, rfl⟩ := Int.eq_ofNat_of_zero_le h0
    have HK : Hid (m % n < n) := Nat.mod_lt _ h1
    go_enter Try.func11, Try.ntmps11
    go_wp2
    go_ret
    exact ⟨⟨m % n, HK.out, by go_num⟩, rfl⟩
  · obtain ⟨m, hm⟩ := Int.eq_ofNat_of_zero_le (show 0 ≤ -(c + 1) by omega)
    have hc' : c = -((m : Int) + 1) := by omega
    subst hc'
    have HK : Hid (m % n < n) := Nat.mod_lt _ h1
    have hneg : -((m : Int) + 1) < 0 := by omega
    clear hm h0
    go_enter Try.func11, Try.ntmps11
    go_wp2
    go_ret
    refine ⟨⟨m % n, HK.out, ret_int ?_⟩, rfl⟩
    rw [show -((m : Int) + 1) + 1 = -(m : Int) by omega, Int.neg_tmod, Int.neg_neg, Int.tmod_eq_emod_of_nonneg (by omega)]
    simp
set_option maxRecDepth 100000 in
set_option maxHeartbeats 1600000 in
theorem groups_no (l d p : Int) (w : World) (h : ¬ GoodB l d) : Calls Try.prog 4 #[.int .i64 l, .int .i64 d, .int .i64 p] w fun e w' => e = .returned (.bool true) ∧ Below w.heap.size w w' := by
  have HF := new_no l d w h
  have hb := badB h
  clear h
  rcases hb with h1 | ⟨h1, h2⟩ | ⟨h1, h2, h3⟩ | ⟨h1, h2, h3, h4⟩
  all_goals
    go_enter Try.func4, Try.ntmps4
    go_wp2_with fail
    refine HF.mono ?_
    rintro e w1 ⟨rfl, hb⟩
    go_wp2
    go_ret
    exact ⟨by simp [*], hb⟩
set_option maxRecDepth 100000 in
set_option maxHeartbeats 3200000 in
theorem groups_yes (L D : Nat) (p : Int) (w : World) (h1 : 1 ≤ L) (h2 : L ≤ 64) (h3 : D ≤ 1000) (hp : -9223372036854775808 ≤ p ∧ p ≤ 9223372036854775807) : Calls Try.prog 4 #[.int .i64 (L : Nat), .int .i64 (D : Nat), .int .i64 p] w fun e w' => e = .returned (.bool true) ∧ Below w.heap.size w w' := by
  have HP : Hid (∀ w, Calls Try.prog 11 #[.int .i64 p, .int .i64 (500 : Nat)] w fun e w' => (∃ k : Nat, k < 500 ∧ e = .returned (.int .i64 (k : Nat))) ∧ w' = w) := fun w => pick_any p 500 w (by omega) (by omega) hp
  have HL : Hid (1 ≤ L) := h1
  have hL0 : ¬ ((L : Int) = 0) := by omega
  clear hp
  go_enter Try.func4, Try.ntmps4
  go_wp2_with fail
  refine (new_yes L D _ h1 h2 h3).mono ?_
  rintro e w2 ⟨bb, rfl, hb, hb2, g1⟩
  have H0 : Hid (BS w w2 bb L D (grpF L D 0)) := ⟨by rw [grp_zero]; exact hb, hb2, g1⟩
  clear hb hb2 g1
  go_wp2_with fail
  refine (HP.out _).mono ?_
  rintro e w3 ⟨⟨k, hk, rfl⟩, rfl⟩
  clear HP
  go_wp2
  go_loopw [10] (fun j wq => ∃ (i : Nat), i ≤ k ∧ j = .int .i64 i ∧ Hid (BS w wq bb L D (grpF L D i))) (fun j _ => k - (intOf j).toNat)
  case atStart => exact ⟨0, Nat.zero_le _, rfl, H0.out⟩
  case round =>
    obtain ⟨i, hi, rfl, hR⟩ := hrel
    clear H0
    have hg : (grpF L D i).w ≤ i ∧ (grpF L D i).r ≤ i := by
      unfold grpF
      split
      · exact ⟨Nat.zero_le _, Nat.le_refl _⟩
      · exact ⟨Nat.mod_le _ _, Nat.div_le_self _ _⟩
    by_cases hlt : i < k
    · have HA := post_any hR.out.be (by omega) (by omega)
      rw [grp_post HL.out] at HA
      clear hg
      go_wp2_with fail
      refine HA.mono ?_
      rintro e w4 ⟨rfl, hb, hk4⟩
      have H5 : Hid (BS w w4 bb L D (grpF L D (i + 1))) := hR.out.step hb hk4
      clear HA hb hk4 hR
      go_wp2
      exact ⟨⟨i + 1, by omega, by go_num, H5.out⟩, by simp [intOf]; omega⟩
    · obtain rfl : i = k := by omega
      have HA := rings_any hR.out.be
      have HB := waits_any hR.out.be
      have HE : Hid (Below w.heap.size w wr) := hR.out.bel
      unfold grpF at HA HB
      clear hg hR hi hlt
      by_cases hD : D = 0
      · subst hD
        simp only [if_true] at HA HB
        go_wp2_with fail
        refine HA.mono ?_
        rintro e w4 ⟨rfl, rfl⟩
        go_wp2_with fail
        refine HB.mono ?_
        rintro e w5 ⟨rfl, rfl⟩
        go_wp2
        go_ret
        exact ⟨by simp, HE.out⟩
      · rw [if_neg hD] at HA HB
        have hD' : ¬ ((D : Int) = 0) := by omega
        clear hD
        go_wp2_with fail
        refine HA.mono ?_
        rintro e w4 ⟨rfl, rfl⟩
        go_wp2_with fail
        refine HB.mono ?_
        rintro e w5 ⟨rfl, rfl⟩
        have q1 : Int.tdiv (i : Int) (L : Int) = ((i / L : Nat) : Int) := by rw [Int.tdiv_eq_ediv_of_nonneg (by omega)]; rfl
        have q2 : Int.tmod (i : Int) (L : Int) = ((i % L : Nat) : Int) := by rw [Int.tmod_eq_emod_of_nonneg (by omega)]; rfl
        have q3 : (i : Int) / (L : Int) = ((i / L : Nat) : Int) := rfl
        have q4 : (i : Int) % (L : Int) = ((i % L : Nat) : Int) := rfl
        have q5 : i / L ≤ i := Nat.div_le_self _ _
        generalize i / L = x at *
        generalize i % L = y at *
        have q6 : IntKind.i64.wrap (x : Int) = (x : Int) := wrap_ok (by omega) (by omega)
        go_wp2
        go_ret
        exact ⟨by simp, HE.out⟩
theorem groups_any (l d p : Int) (w : World) (hp : -9223372036854775808 ≤ p ∧ p ≤ 9223372036854775807) : Calls Try.prog 4 #[.int .i64 l, .int .i64 d, .int .i64 p] w fun e w' => e = .returned (.bool true) ∧ Below w.heap.size w w' := by
  by_cases h : GoodB l d
  · obtain ⟨L, D, rfl, rfl, h1, h2, h3⟩ := h.nat
    exact groups_yes L D p w h1 h2 h3 hp
  · exact groups_no l d p w h
end Go.Proofs.Ytdhidiemchnleaa
