/-
  What the call of sweep.check gives: what is wrong with the blocks and the numbers; nothing that was there has turned.
-/
import Derived.Test.YtgmobibogoebpagDoorBase
namespace Go.Proofs.YtgmobibogoebpagDoor
open Go.RowKit
set_option linter.unusedVariables false

theorem allG_nil (p : Int) : allG [] p := fun i hi => absurd hi (Nat.not_lt_zero _)
set_option maxHeartbeats 1600000 in
theorem check_full (a : Option Addr) (n cap : Nat) (p am : Int) (w : World) (h : 64 < n) :
    Calls Tryd.prog 10 #[.slice a n cap, .int .i64 p, .int .i64 am] w fun e w' => e = .returned (errI 3) ∧ w' = w := by
  rw [errI_ne (by decide)]
  go_enter Tryd.func10, Tryd.ntmps10
  go_wp2
  go_ret
  exact ⟨rfl, rfl⟩
set_option maxHeartbeats 1600000 in
theorem check_range (a : Option Addr) (n cap : Nat) (p am : Int) (w : World) (h : n ≤ 64) (h2 : p < 1 ∨ 4096 < p ∨ am < 0) :
    Calls Tryd.prog 10 #[.slice a n cap, .int .i64 p, .int .i64 am] w fun e w' => e = .returned (errI 1) ∧ w' = w := by
  rw [errI_ne (by decide)]
  by_cases h3 : p < 1
  · clear h2
    go_enter Tryd.func10, Tryd.ntmps10
    go_wp2
    go_ret
    exact ⟨rfl, rfl⟩
  · by_cases h4 : 4096 < p
    · clear h2
      go_enter Tryd.func10, Tryd.ntmps10
      go_wp2
      go_ret
      exact ⟨rfl, rfl⟩
    · have h5 : am < 0 := by omega
      clear h2
      go_enter Tryd.func10, Tryd.ntmps10
      go_wp2
      go_ret
      exact ⟨rfl, rfl⟩
set_option maxHeartbeats 1600000 in
theorem check_none (a : Option Addr) (cap : Nat) (p am : Int) (w : World) (h1 : ¬ p < 1) (h2 : ¬ 4096 < p) (h3 : ¬ am < 0) :
    Calls Tryd.prog 10 #[.slice a 0 cap, .int .i64 p, .int .i64 am] w fun e w' => e = .returned .nilIface ∧ w' = w := by
  go_enter Tryd.func10, Tryd.ntmps10
  go_wp2
  go_loopw [26] (fun j wr => j = .int .i64 0 ∧ wr = w) (fun _ _ => 0)
  case atStart => exact ⟨rfl, rfl⟩
  case round =>
    obtain ⟨rfl, rfl⟩ := hrel
    go_wp2
    go_ret
    exact ⟨rfl, rfl⟩
set_option maxHeartbeats 3200000 in
theorem check_some (g off cap : Nat) (l : List Bl) (p am : Int) (w : World) (h64 : l.length ≤ 64) (h1 : ¬ p < 1) (h2 : ¬ 4096 < p) (h3 : ¬ am < 0) (hat : ∀ i, i < l.length → BlAt w g off i (gB l i)) :
    Calls Tryd.prog 10 #[.slice (some ⟨g, off, none⟩) l.length cap, .int .i64 p, .int .i64 am] w fun e w' => ((allG l p ∧ e = .returned .nilIface) ∨ (¬ allG l p ∧ e = .returned (errI 1))) ∧ Below w.heap.size w w' := by
  rw [errI_ne (by decide)]
  have HA : Hid (∀ wr, Below w.heap.size w wr → ∀ i, i < l.length → BlAt wr g off i (gB l i)) := fun wr hb i hi => (hat i hi).keep (S := fun _ => False) (Keep.of_below hb) (fun e => e)
  clear hat
  go_enter Tryd.func10, Tryd.ntmps10
  go_wp2
  go_loopw [26] (fun j wr => ∃ k : Nat, k ≤ l.length ∧ j = .int .i64 k ∧ Hid ((∀ i, i < k → Good p (gB l i)) ∧ Below w.heap.size w wr)) (fun j _ => l.length - (intOf j).toNat)
  case atStart => exact ⟨0, Nat.zero_le _, rfl, fun i hi => absurd hi (Nat.not_lt_zero _), Below.refl _ _⟩
  case round =>
    obtain ⟨k, hk, rfl, hR⟩ := hrel
    by_cases hlt : k < l.length
    · obtain ⟨c0, c1, c2⟩ := HA.out wr hR.out.2 k hlt
      have HB : Hid (Below w.heap.size w (wr.alloc (.cells #[.bool (gB l k).used, .int .i64 (gB l k).live, .int .i64 (gB l k).wear] 39))) := hR.out.2.trans ((Below.refl _ _).alloc hR.out.2.size _)
      have HX : Hid (Good p (gB l k) → ∀ i, i < k + 1 → Good p (gB l i)) := fun hg i hi => by
        by_cases e : i = k
        · rw [e]; exact hg
        · exact hR.out.1 i (by omega)
      have HN : Hid (¬ Good p (gB l k) → ¬ allG l p) := fun hg ha => hg (ha k hlt)
      clear hR
      generalize (gB l k).used = u at *
      generalize hL : (gB l k).live = li at *
      generalize hWe : (gB l k).wear = we at *
      have HG : Hid (Good p (gB l k) ↔ 0 ≤ li ∧ li ≤ p ∧ 0 ≤ we ∧ we ≤ 1000000000) := by unfold Hid Good; rw [hL, hWe]
      clear hL hWe
      by_cases b0 : li < 0
      · go_wp2
        go_ret
        exact ⟨Or.inr ⟨HN.out (fun e => by have := HG.out.1 e; omega), rfl⟩, HB.out⟩
      · by_cases b1 : p < li
        · go_wp2
          go_ret
          exact ⟨Or.inr ⟨HN.out (fun e => by have := HG.out.1 e; omega), rfl⟩, HB.out⟩
        · by_cases b2 : we < 0
          · go_wp2
            go_ret
            exact ⟨Or.inr ⟨HN.out (fun e => by have := HG.out.1 e; omega), rfl⟩, HB.out⟩
          · by_cases b3 : 1000000000 < we
            · go_wp2
              go_ret
              exact ⟨Or.inr ⟨HN.out (fun e => by have := HG.out.1 e; omega), rfl⟩, HB.out⟩
            · go_wp2
              exact ⟨⟨k + 1, by omega, by go_num, HX.out (HG.out.2 (by omega)), HB.out⟩, by simp [intOf]; omega⟩
    · obtain rfl : k = l.length := by omega
      clear hlt
      go_wp2
      go_ret
      exact ⟨Or.inl ⟨hR.out.1, rfl⟩, hR.out.2⟩
theorem check_any (a : Option Addr) (cap : Nat) (l : List Bl) (p am : Int) (w : World) (hB : BL w a l) :
    Calls Tryd.prog 10 #[.slice a l.length cap, .int .i64 p, .int .i64 am] w fun e w' => e = .returned (errI (faultF l p (decide (am < 0)))) ∧ Below w.heap.size w w' := by
  by_cases h : 64 < l.length
  · rw [fault_full h]
    exact (check_full a l.length cap p am w h).mono fun e w' ⟨h1, h2⟩ => ⟨h1, h2 ▸ Below.refl _ _⟩
  have h64 : l.length ≤ 64 := by omega
  by_cases h2 : p < 1 ∨ 4096 < p ∨ am < 0
  · rw [fault_range h64 (by rcases h2 with h | h | h <;> simp [h])]
    exact (check_range a l.length cap p am w h64 h2).mono fun e w' ⟨h1, h2⟩ => ⟨h1, h2 ▸ Below.refl _ _⟩
  have h3 : ¬ (p < 1 ∨ 4096 < p ∨ decide (am < 0) = true) := by simpa using h2
  rcases hB with rfl | ⟨g, off, rfl, hat⟩
  · rw [fault_none (by simp) h3 (allG_nil p)]
    exact (check_none a cap p am w (by omega) (by omega) (by omega)).mono fun e w' ⟨h1, h2⟩ => ⟨h1, h2 ▸ Below.refl _ _⟩
  · refine (check_some g off cap l p am w h64 (by omega) (by omega) (by omega) hat).mono ?_
    rintro e w' ⟨⟨h5, h6⟩ | ⟨h5, h6⟩, h7⟩
    · rw [fault_none h64 h3 h5]
      exact ⟨h6, h7⟩
    · rw [fault_bad h64 h5]
      exact ⟨h6, h7⟩
end Go.Proofs.YtgmobibogoebpagDoor
