/-
  What the call of granaryref1.RecordFault gives: what is wrong first, by the same plain function as the program's.
-/
import Derived.Test.YtalmcjkaheofpaeDoorRefB
namespace Go.Proofs.YtalmcjkaheofpaeDoor
open Go.RowKit
set_option linter.unusedVariables false

set_option maxRecDepth 20000 in
set_option maxHeartbeats 1600000 in
theorem recordFault_any (a : Option Addr) (l : List (List En)) (cap : Nat) (w : World) (h1 : BatAt w a l) (hl1 : manyE l + l.length ≤ 1048576) :
    Calls Tryd.prog 8 #[.slice a l.length cap] w fun e w' => e = .returned (.int .i64 (faultR l : Nat)) ∧ Below w.heap.size w w' := by
  have H1 : Hid (BatAt w a l) := h1
  clear h1
  go_enter Tryd.func8, Tryd.ntmps8
  go_wp2
  go_loopw [3] (fun j wr => ∃ k : Nat, k ≤ l.length ∧ j = .int .i64 k ∧ Hid ((∀ i, i < k → faultB (l[i]?.getD []) = 0) ∧ Below w.heap.size w wr)) (fun j _ => l.length - (intOf j).toNat)
  case atStart => exact ⟨0, by omega, rfl, fun i h => by omega, Below.refl _ _⟩
  case round =>
    obtain ⟨k, hk, rfl, hr⟩ := hrel
    by_cases hlt : k < l.length
    · obtain hno | ⟨b1, off1, rfl, hc1⟩ := H1.out
      · rw [hno] at hlt; simp at hlt
      obtain ⟨ea1, ec1, c1, e1⟩ := hc1 k hlt
      have hx1 := manyE_at l k hlt
      have HX : Hid ((faultB (l[k]?.getD []) = 0 → ∀ i, i < k + 1 → faultB (l[i]?.getD []) = 0) ∧ (faultB (l[k]?.getD []) ≠ 0 → faultR l = faultB (l[k]?.getD []))) := by
        refine ⟨fun h i hi => ?_, fun h => faultR_take hlt hr.out.1 h⟩
        by_cases h3 : i < k
        · exact hr.out.1 i h3
        · have : i = k := by omega
          subst this; exact h
      have HW : Hid (Below w.heap.size w wr) := hr.out.2
      clear hc1 hr H1
      generalize l[k]?.getD [] = xs at c1 e1 hx1 HX
      have HC1 : Hid (∀ wz, Below w.heap.size w wz → wz.cell? ⟨b1, off1 + k, none⟩ = some (.slice ea1 xs.length ec1)) := fun wz hb => by rw [hb.cell (p := ⟨b1, off1 + k, none⟩) (World.block_lt_of_cell? w _ c1)]; exact c1
      have d1 := HC1.out wr HW.out
      have HE1 : Hid (∀ wz, Below w.heap.size w wz → EnsAt wz ea1 xs) := fun wz hb => e1.below hb
      clear c1 e1
      by_cases h64 : 64 < xs.length
      · have h64' : (64 : Int) < (xs.length : Int) := by omega
        have HF : Hid (faultR l = 3) := by
          have h3 : faultB xs = 3 := by unfold faultB; rw [if_pos h64]
          show _ = _
          rw [HX.out.2 (by omega), h3]
        go_wp2
        go_ret
        rw [HF.out]
        exact ⟨rfl, HW.out⟩
      · have h64' : (xs.length : Int) ≤ 64 := by omega
        go_wp2
        go_loopw [4] (fun j wz => ∃ q : Nat, q ≤ xs.length ∧ j = .int .i64 q ∧ Hid ((∀ i, i < q → EnOk (xs[i]?.getD en0)) ∧ Below w.heap.size w wz)) (fun j _ => xs.length - (intOf j).toNat)
        case atStart => exact ⟨0, by omega, rfl, fun i h => by omega, HW.out⟩
        case round =>
          clear d1
          obtain ⟨q, hq, rfl, hz⟩ := hrel
          have d1 := HC1.out wr hz.out.2
          by_cases hql : q < xs.length
          · obtain hno | ⟨g1, o1, rfl, hg1⟩ := HE1.out wr hz.out.2
            · rw [hno] at hql; simp at hql
            obtain ⟨x0, x1, x2⟩ := hg1 q hql
            have HQ : Hid ((EnOk (xs[q]?.getD en0) → ∀ i, i < q + 1 → EnOk (xs[i]?.getD en0)) ∧ (¬ EnOk (xs[q]?.getD en0) → faultR l = 1)) := by
              refine ⟨fun h i hi => ?_, fun h => ?_⟩
              · by_cases h3 : i < q
                · exact hz.out.1 i h3
                · have : i = q := by omega
                  subst this; exact h
              · have h3 := faultB_bad h64 hql h
                rw [HX.out.2 (by omega), h3]
            have HB : Hid (∀ o, Below w.heap.size w (wr.alloc o)) := fun o => hz.out.2.alloc hz.out.2.size o
            clear hg1 hz
            generalize xs[q]?.getD en0 = X at x0 x1 x2 HQ
            obtain ⟨Xk, Xa, Xb⟩ := X
            simp only at x0 x1 x2
            by_cases g0 : 0 ≤ Xk
            case neg =>
              have HZ : Hid (faultR l = 1) := HQ.out.2 (fun h => g0 h.1.1)
              go_wp2
              go_ret
              rw [HZ.out]
              exact ⟨rfl, HB.out _⟩
            by_cases g1 : Xk ≤ 4611686018427387904
            case neg =>
              have HZ : Hid (faultR l = 1) := HQ.out.2 (fun h => g1 h.1.2)
              go_wp2
              go_ret
              rw [HZ.out]
              exact ⟨rfl, HB.out _⟩
            by_cases g2 : 0 ≤ Xa
            case neg =>
              have HZ : Hid (faultR l = 1) := HQ.out.2 (fun h => g2 h.2.1.1)
              go_wp2
              go_ret
              rw [HZ.out]
              exact ⟨rfl, HB.out _⟩
            by_cases g3 : Xa ≤ 4611686018427387904
            case neg =>
              have HZ : Hid (faultR l = 1) := HQ.out.2 (fun h => g3 h.2.1.2)
              go_wp2
              go_ret
              rw [HZ.out]
              exact ⟨rfl, HB.out _⟩
            by_cases g4 : 0 ≤ Xb
            case neg =>
              have HZ : Hid (faultR l = 1) := HQ.out.2 (fun h => g4 h.2.2.1)
              go_wp2
              go_ret
              rw [HZ.out]
              exact ⟨rfl, HB.out _⟩
            by_cases g5 : Xb ≤ 4611686018427387904
            case neg =>
              have HZ : Hid (faultR l = 1) := HQ.out.2 (fun h => g5 h.2.2.2)
              go_wp2
              go_ret
              rw [HZ.out]
              exact ⟨rfl, HB.out _⟩
            have HZ : Hid (∀ i, i < q + 1 → EnOk (xs[i]?.getD en0)) := HQ.out.1 ⟨⟨g0, g1⟩, ⟨g2, g3⟩, g4, g5⟩
            go_wp2
            go_roundw
            case rel => exact ⟨q + 1, by omega, by go_num, HZ.out, HB.out _⟩
            case measure => simp [intOf]; omega
          · obtain rfl : q = xs.length := by omega
            have HA : Hid ((∀ i, i < k + 1 → faultB (l[i]?.getD []) = 0) ∧ Below w.heap.size w wr) := ⟨HX.out.1 (faultB_good h64 hz.out.1), hz.out.2⟩
            clear hz
            go_wp2
            go_roundw
            case rel => exact ⟨k + 1, by omega, by go_num, HA⟩
            case measure => simp [intOf]; omega
    · obtain rfl : k = l.length := by omega
      have HD : Hid (faultR l = 0) := faultR_all hr.out.1
      go_wp2
      go_ret
      rw [HD.out]
      exact ⟨rfl, hr.out.2⟩
end Go.Proofs.YtalmcjkaheofpaeDoor
