/-
  What the call of granaryref2.CallsFault gives.
-/
import Derived.Test.YtohngekkbgklfaaDoorLaw
namespace Go.Proofs.YtohngekkbgklfaaDoor
open Go.RowKit
set_option linter.unusedVariables false

set_option maxHeartbeats 1600000 in
theorem rfault_full (a : Option Addr) (n cap : Nat) (w : World) (h : 10 < n) :
    Calls Tryd.prog 5 #[.slice a n cap] w fun e w' => e = .returned (.int .i64 3) ∧ w = w' := by
  go_enter Tryd.func5, Tryd.ntmps5
  go_wp2
  go_ret
  exact ⟨rfl, rfl⟩
set_option maxHeartbeats 3200000 in
theorem rfault_some (a : Option Addr) (n cap : Nat) (l : List Cl) (w : World) (hl : l.length = n) (h10 : n ≤ 10) (h : CL w a l) :
    Calls Tryd.prog 5 #[.slice a n cap] w fun e w' => e = .returned (.int .i64 (faultF l : Nat)) ∧ Below w.heap.size w w' := by
  have HC : Hid (∀ wr, Below w.heap.size w wr → CL wr a l) := fun wr hb => h.below hb
  have HL : Hid (l.length = n) := hl
  have HZ : Hid ((∀ i, i < n → badC (gC l i) = 0) → faultF l = 0) := fun h => faultF_all (by omega) (fun i hi => h i (by omega))
  have HB : Hid (∀ k, k < n → (∀ i, i < k → badC (gC l i) = 0) → ∀ x, ¬ x = 0 → badC (gC l k) = x → faultF l = x) := fun k hk h x hx hb => by
    rw [faultF_at (by omega) (by omega) h (by omega), hb]
  clear h hl
  go_enter Tryd.func5, Tryd.ntmps5
  go_wp2
  go_loopw [3] (fun j wr => ∃ k : Nat, k ≤ n ∧ j = .int .i64 k ∧ Hid ((∀ i, i < k → badC (gC l i) = 0) ∧ Below w.heap.size w wr)) (fun j _ => n - (intOf j).toNat)
  case atStart => exact ⟨0, Nat.zero_le _, rfl, fun i hi => by omega, Below.refl _ _⟩
  case round =>
    obtain ⟨k, hk, rfl, hR⟩ := hrel
    by_cases hlt : k < n
    · obtain ⟨g, off, rfl, hat⟩ := (HC.out wr hR.out.2).some_of (i := k) (by rw [HL.out]; exact hlt)
      obtain ⟨c0, c1, c2, c3, c4⟩ := hat k (by rw [HL.out]; exact hlt)
      have HX : Hid (badC (gC l k) = 0 → ∀ i, i < k + 1 → badC (gC l i) = 0) := fun hg i hi => by
        by_cases e : i = k
        · rw [e]; exact hg
        · exact hR.out.1 i (by omega)
      have HE : Hid (∀ x, ¬ x = 0 → badC (gC l k) = x → faultF l = x) := HB.out k hlt hR.out.1
      have HW : Hid (∀ q, Below w.heap.size w (wr.drewN q)) := fun q => below_drewN hR.out.2 q
      have HW0 : Hid (Below w.heap.size w wr) := hR.out.2
      clear hR hat c2
      generalize hF : (gC l k).f = f at *
      generalize hT : (gC l k).t = t at *
      generalize hL : (gC l k).b = b at *
      generalize hV : (gC l k).v = v at *
      have HG : Hid (badC (gC l k) = if f < 0 ∨ t < 0 ∨ b < 0 ∨ v < 0 then 1 else if t ≤ f then 5 else 0) := by unfold Hid badC; rw [hF, hT, hL, hV]
      clear hF hT hL hV
      by_cases b0 : f < 0 ∨ t < 0 ∨ b < 0 ∨ v < 0
      · have HE' : Hid (faultF l = 1) := HE.out 1 (by decide) (by rw [HG.out, if_pos b0])
        clear HE HG HX
        by_cases d0 : f < 0
        · clear b0
          go_wp2
          go_ret
          exact ⟨by rw [HE'.out]; rfl, HW0.out⟩
        · by_cases d1 : t < 0
          · clear b0
            go_wp2
            go_ret
            exact ⟨by rw [HE'.out]; rfl, HW0.out⟩
          · by_cases d2 : b < 0
            · clear b0
              go_wp2
              go_ret
              exact ⟨by rw [HE'.out]; rfl, HW0.out⟩
            · have d3 : v < 0 := by omega
              clear b0
              go_wp2
              go_ret
              exact ⟨by rw [HE'.out]; rfl, HW0.out⟩
      · have d0 : ¬ f < 0 := by omega
        have d1 : ¬ t < 0 := by omega
        have d2 : ¬ b < 0 := by omega
        have d3 : ¬ v < 0 := by omega
        by_cases b1 : t ≤ f
        · have HE' : Hid (faultF l = 5) := HE.out 5 (by decide) (by rw [HG.out, if_neg b0, if_pos b1])
          clear HE HG HX b0
          go_wp2
          go_quiet (fail)
          go_wp2
          go_ret
          exact ⟨by rw [HE'.out]; rfl, HW.out _⟩
        · have HX' : Hid (∀ i, i < k + 1 → badC (gC l i) = 0) := HX.out (by rw [HG.out, if_neg b0, if_neg b1])
          clear HE HG HX b0
          go_wp2
          go_quiet (fail)
          go_wp2
          exact ⟨⟨k + 1, by omega, by go_num, HX'.out, HW.out _⟩, by simp [intOf]; omega⟩
    · obtain rfl : k = n := by omega
      have e := HZ.out hR.out.1
      clear hlt
      go_wp2
      go_ret
      exact ⟨by rw [e]; rfl, hR.out.2⟩
theorem rfault_any (a : Option Addr) (n cap : Nat) (l : List Cl) (w : World) (hl : l.length = n) (h : CL w a l) :
    Calls Tryd.prog 5 #[.slice a n cap] w fun e w' => e = .returned (.int .i64 (faultF l : Nat)) ∧ Below w.heap.size w w' := by
  by_cases h10 : 10 < n
  · have e : faultF l = 3 := if_pos (by omega)
    rw [e]
    refine (rfault_full a n cap w h10).mono ?_
    rintro e w' ⟨rfl, rfl⟩
    exact ⟨rfl, Below.refl _ _⟩
  · exact rfault_some a n cap l w hl (by omega) h
end Go.Proofs.YtohngekkbgklfaaDoor
