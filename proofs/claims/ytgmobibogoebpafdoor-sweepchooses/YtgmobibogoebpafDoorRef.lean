/-
  What the calls of the document's BlocksFault and ChooseOf give: what is wrong; the next block.
-/
import Derived.Test.YtgmobibogoebpafDoorBase
namespace Go.Proofs.YtgmobibogoebpafDoor
open Go.RowKit
set_option linter.unusedVariables false

set_option maxHeartbeats 1600000 in
theorem rfault_full (a : Option Addr) (n cap : Nat) (p : Int) (bad : Bool) (w : World) (h : 64 < n) :
    Calls Tryd.prog 22 #[.slice a n cap, .int .i64 p, .bool bad] w fun e w' => e = .returned (.int .i64 3) ∧ w' = w := by
  go_enter Tryd.func22, Tryd.ntmps22
  go_wp2
  go_ret
  exact ⟨rfl, rfl⟩
set_option maxHeartbeats 1600000 in
theorem rfault_range (a : Option Addr) (n cap : Nat) (p : Int) (bad : Bool) (w : World) (h : n ≤ 64) (h2 : p < 1 ∨ 4096 < p ∨ bad = true) :
    Calls Tryd.prog 22 #[.slice a n cap, .int .i64 p, .bool bad] w fun e w' => e = .returned (.int .i64 1) ∧ w' = w := by
  by_cases h3 : p < 1
  · clear h2
    go_enter Tryd.func22, Tryd.ntmps22
    go_wp2
    go_ret
    exact ⟨rfl, rfl⟩
  · by_cases h4 : 4096 < p
    · clear h2
      go_enter Tryd.func22, Tryd.ntmps22
      go_wp2
      go_ret
      exact ⟨rfl, rfl⟩
    · obtain rfl : bad = true := by
        rcases h2 with h | h | h
        · omega
        · omega
        · exact h
      clear h2
      go_enter Tryd.func22, Tryd.ntmps22
      go_wp2
      go_ret
      exact ⟨rfl, rfl⟩
set_option maxHeartbeats 1600000 in
theorem rfault_none (a : Option Addr) (cap : Nat) (p : Int) (w : World) (h1 : ¬ p < 1) (h2 : ¬ 4096 < p) :
    Calls Tryd.prog 22 #[.slice a 0 cap, .int .i64 p, .bool false] w fun e w' => e = .returned (.int .i64 0) ∧ w' = w := by
  go_enter Tryd.func22, Tryd.ntmps22
  go_wp2
  go_loopw [7] (fun j wr => j = .int .i64 0 ∧ wr = w) (fun _ _ => 0)
  case atStart => exact ⟨rfl, rfl⟩
  case round =>
    obtain ⟨rfl, rfl⟩ := hrel
    go_wp2
    go_ret
    exact ⟨rfl, rfl⟩
def GS (w wr : World) (l : List Bl) (p : Int) (k : Nat) : Prop := wr = w ∧ ∀ i, i < k → Good p (gB l i)
set_option maxHeartbeats 3200000 in
theorem rfault_some (g off cap : Nat) (l : List Bl) (p : Int) (w : World) (h64 : l.length ≤ 64) (h1 : ¬ p < 1) (h2 : ¬ 4096 < p) (hat : ∀ i, i < l.length → BlAt w g off i (gB l i)) :
    Calls Tryd.prog 22 #[.slice (some ⟨g, off, none⟩) l.length cap, .int .i64 p, .bool false] w fun e w' => ((allG l p ∧ e = .returned (.int .i64 0)) ∨ (¬ allG l p ∧ e = .returned (.int .i64 1))) ∧ w' = w := by
  have HA : Hid (∀ i, i < l.length → BlAt w g off i (gB l i)) := hat
  clear hat
  go_enter Tryd.func22, Tryd.ntmps22
  go_wp2
  go_loopw [7] (fun j wr => ∃ k : Nat, k ≤ l.length ∧ j = .int .i64 k ∧ Hid (GS w wr l p k)) (fun j _ => l.length - (intOf j).toNat)
  case atStart => exact ⟨0, Nat.zero_le _, rfl, (⟨rfl, fun i hi => absurd hi (Nat.not_lt_zero _)⟩ : GS w w l p 0)⟩
  case round =>
    obtain ⟨k, hk, rfl, hR⟩ := hrel
    obtain ⟨rfl, hR2⟩ := hR.out
    by_cases hlt : k < l.length
    · obtain ⟨c0, c1, c2⟩ := HA.out k hlt
      have HX : Hid (Good p (gB l k) → GS wr wr l p (k + 1)) := fun hg => ⟨rfl, fun i hi => by
        by_cases e : i = k
        · rw [e]; exact hg
        · exact hR2 i (by omega)⟩
      have HN : Hid (¬ Good p (gB l k) → ¬ allG l p) := fun hg ha => hg (ha k hlt)
      clear hR hR2
      generalize (gB l k).used = u at *
      generalize hL : (gB l k).live = li at *
      generalize hWe : (gB l k).wear = we at *
      have HG : Hid (Good p (gB l k) ↔ 0 ≤ li ∧ li ≤ p ∧ 0 ≤ we ∧ we ≤ 1000000000) := by unfold Hid Good; rw [hL, hWe]
      clear hL hWe
      by_cases b0 : li < 0
      · go_wp2
        go_ret
        exact ⟨Or.inr ⟨HN.out (fun e => by have := HG.out.1 e; omega), rfl⟩, rfl⟩
      · by_cases b1 : p < li
        · go_wp2
          go_ret
          exact ⟨Or.inr ⟨HN.out (fun e => by have := HG.out.1 e; omega), rfl⟩, rfl⟩
        · by_cases b2 : we < 0
          · go_wp2
            go_ret
            exact ⟨Or.inr ⟨HN.out (fun e => by have := HG.out.1 e; omega), rfl⟩, rfl⟩
          · by_cases b3 : 1000000000 < we
            · go_wp2
              go_ret
              exact ⟨Or.inr ⟨HN.out (fun e => by have := HG.out.1 e; omega), rfl⟩, rfl⟩
            · go_wp2
              exact ⟨⟨k + 1, by omega, by go_num, HX.out (HG.out.2 (by omega))⟩, by simp [intOf]; omega⟩
    · obtain rfl : k = l.length := by omega
      clear hlt
      go_wp2
      go_ret
      exact ⟨Or.inl ⟨hR2, rfl⟩, rfl⟩
theorem allG_nil' (p : Int) : allG [] p := fun i hi => absurd hi (Nat.not_lt_zero _)
theorem rfault_any (a : Option Addr) (cap : Nat) (l : List Bl) (p : Int) (bad : Bool) (w : World) (hB : BL w a l) :
    Calls Tryd.prog 22 #[.slice a l.length cap, .int .i64 p, .bool bad] w fun e w' => e = .returned (.int .i64 ((faultF l p bad : Nat) : Int)) ∧ w' = w := by
  by_cases h : 64 < l.length
  · rw [fault_full h]
    exact rfault_full a l.length cap p bad w h
  have h64 : l.length ≤ 64 := by omega
  by_cases h2 : p < 1 ∨ 4096 < p ∨ bad = true
  · rw [fault_range h64 h2]
    exact rfault_range a l.length cap p bad w h64 h2
  obtain rfl : bad = false := by
    cases bad with
    | false => rfl
    | true => exact absurd (Or.inr (Or.inr rfl)) h2
  rcases hB with rfl | ⟨g, off, rfl, hat⟩
  · rw [fault_none (by simp) h2 (allG_nil' p)]
    exact rfault_none a cap p w (fun e => h2 (Or.inl e)) (fun e => h2 (Or.inr (Or.inl e)))
  · refine (rfault_some g off cap l p w h64 (fun e => h2 (Or.inl e)) (fun e => h2 (Or.inr (Or.inl e))) hat).mono ?_
    rintro e w' ⟨⟨h5, h6⟩ | ⟨h5, h6⟩, h7⟩
    · rw [fault_none h64 h2 h5]
      exact ⟨h6, h7⟩
    · rw [fault_bad h64 h5]
      exact ⟨h6, h7⟩
/-- The next one of the first n. -/
def MinN (l : List Bl) (p : Int) (n : Nat) (k : Int) : Prop := (k = -1 ∧ ∀ i, i < n → ¬ can l p i) ∨ ∃ i : Nat, k = i ∧ i < n ∧ can l p i ∧ ∀ j, j < n → can l p j → j = i ∨ ltB l i j
theorem MinN.zero (l : List Bl) (p : Int) : MinN l p 0 (-1) := Or.inl ⟨rfl, fun i hi => absurd hi (Nat.not_lt_zero _)⟩
theorem MinN.skip {l : List Bl} {p : Int} {n : Nat} {k : Int} (h : MinN l p n k) (hc : ¬ can l p n) : MinN l p (n + 1) k := by
  rcases h with ⟨e, h⟩ | ⟨i, e, h1, h2, h3⟩
  · refine Or.inl ⟨e, fun i hi => ?_⟩
    by_cases e : i = n
    · rw [e]; exact hc
    · exact h i (by omega)
  · refine Or.inr ⟨i, e, by omega, h2, fun j hj hc2 => ?_⟩
    by_cases e : j = n
    · subst e; exact absurd hc2 hc
    · exact h3 j (by omega) hc2
theorem MinN.first {l : List Bl} {p : Int} {n : Nat} (h : MinN l p n (-1)) (hc : can l p n) : MinN l p (n + 1) (n : Int) := by
  refine Or.inr ⟨n, rfl, by omega, hc, fun j hj hc2 => ?_⟩
  rcases h with ⟨e, h⟩ | ⟨i, e, h1, h2, h3⟩
  · by_cases e : j = n
    · exact Or.inl e
    · exact absurd hc2 (h j (by omega))
  · omega
theorem MinN.turn {l : List Bl} {p : Int} {n i : Nat} (h : MinN l p n (i : Int)) (hc : can l p n) (hl : ltB l n i) : MinN l p (n + 1) (n : Int) := by
  refine Or.inr ⟨n, rfl, by omega, hc, fun j hj hc2 => ?_⟩
  rcases h with ⟨e, h⟩ | ⟨i', e, h1, h2, h3⟩
  · omega
  · obtain rfl : i = i' := by omega
    by_cases e : j = n
    · exact Or.inl e
    · right
      rcases h3 j (by omega) hc2 with e2 | e2
      · rw [e2]; exact hl
      · unfold ltB at *; omega
theorem MinN.stay {l : List Bl} {p : Int} {n i : Nat} (h : MinN l p n (i : Int)) (hl : ¬ ltB l n i) : MinN l p (n + 1) (i : Int) := by
  rcases h with ⟨e, h⟩ | ⟨i', e, h1, h2, h3⟩
  · omega
  · obtain rfl : i = i' := by omega
    refine Or.inr ⟨i, rfl, by omega, h2, fun j hj hc2 => ?_⟩
    by_cases e : j = n
    · subst e
      right
      unfold ltB at *
      omega
    · exact h3 j (by omega) hc2
theorem MinN.cases {l : List Bl} {p : Int} {n : Nat} {k : Int} (h : MinN l p n k) : k = -1 ∨ ∃ i : Nat, k = i ∧ i < n := by
  rcases h with ⟨e, _⟩ | ⟨i, e, h, _⟩
  · exact Or.inl e
  · exact Or.inr ⟨i, e, h⟩
/-- What ChooseOf tells. -/
def IsCh (l : List Bl) (p : Int) (k : Int) : Prop := (k = -1 ∧ ∀ i, ¬ can l p i) ∨ ∃ i : Nat, k = i ∧ IsMin l p i
theorem MinN.all {l : List Bl} {p : Int} {k : Int} (h : MinN l p l.length k) : IsCh l p k := by
  rcases h with ⟨e, h⟩ | ⟨i, e, h1, h2, h3⟩
  · exact Or.inl ⟨e, fun i hi => h i hi.1 hi⟩
  · exact Or.inr ⟨i, e, h2, fun j hj => h3 j hj.1 hj⟩
set_option maxRecDepth 20000 in
set_option maxHeartbeats 4000000 in
theorem rchoose_some (g off cap : Nat) (l : List Bl) (p : Int) (w : World) (h64 : l.length ≤ 64) (hg : ∀ i, i < l.length → (gB l i).live ≤ p) (hat : ∀ i, i < l.length → BlAt w g off i (gB l i)) :
    Calls Tryd.prog 23 #[.slice (some ⟨g, off, none⟩) l.length cap, .int .i64 p] w fun e w' => (∃ k, IsCh l p k ∧ e = .returned (.int .i64 k)) ∧ Below w.heap.size w w' := by
  have HA : Hid (∀ wr, Below w.heap.size w wr → ∀ i, i < l.length → BlAt wr g off i (gB l i)) := fun wr hb i hi => (hat i hi).keep (S := fun _ => False) (Keep.of_below hb) (fun e => e)
  have HGd : Hid (∀ i, i < l.length → (gB l i).live ≤ p) := hg
  clear hat hg
  go_enter Tryd.func23, Tryd.ntmps23
  go_wp2
  go_loopw [5, 6] (fun s j wr => ∃ (k : Nat) (b : Int), k ≤ l.length ∧ j = .int .i64 k ∧ s = .int .i64 b ∧ Hid (Below w.heap.size w wr ∧ MinN l p k b)) (fun _ j _ => l.length - (intOf j).toNat)
  case atStart => exact ⟨0, -1, Nat.zero_le _, rfl, rfl, Below.refl _ _, MinN.zero l p⟩
  case round =>
    obtain ⟨k, b, hk, rfl, rfl, hR⟩ := hrel
    by_cases hlt : k < l.length
    · obtain ⟨c0, c1, c2⟩ := HA.out wr hR.out.1 k hlt
      have HB : Hid (Below w.heap.size w wr) := hR.out.1
      have HM : Hid (MinN l p k b) := hR.out.2
      have HCn : Hid (can l p k ↔ (gB l k).used = true ∧ (gB l k).live < p) := ⟨fun h => h.2, fun h => ⟨hlt, h⟩⟩
      have hle := HGd.out k hlt
      have k0 : (0 : Int) ≤ (k : Int) := by omega
      have k1 : (k : Int) < (l.length : Int) := by omega
      clear hR
      cases hu : (gB l k).used with
      | false =>
        rw [hu] at c0
        have HS : Hid (MinN l p (k + 1) b) := HM.out.skip (fun e => by have := (HCn.out.1 e).1; rw [hu] at this; cases this)
        clear HM HCn hu
        go_wp2
        exact ⟨⟨k + 1, b, by omega, by go_num, rfl, HB.out, HS.out⟩, by simp [intOf]; omega⟩
      | true =>
        rw [hu] at c0
        by_cases hp : (gB l k).live = p
        · have HS : Hid (MinN l p (k + 1) b) := HM.out.skip (fun e => by have := (HCn.out.1 e).2; omega)
          rw [hp] at c1
          clear HM HCn hu hp hle
          go_wp2
          exact ⟨⟨k + 1, b, by omega, by go_num, rfl, HB.out, HS.out⟩, by simp [intOf]; omega⟩
        · have hcan := HCn.out.2 ⟨hu, by omega⟩
          have hpb : ((gB l k).live == p) = false := by rw [beq_eq_false_iff_ne]; exact hp
          rcases HM.out.cases with rfl | ⟨i, rfl, hi⟩
          · have HS : Hid (MinN l p (k + 1) (k : Int)) := HM.out.first hcan
            clear HM HCn hu hp hle hcan
            generalize (gB l k).live = li at *
            go_wp2
            go_quiet (fail)
            go_wp2
            exact ⟨⟨k + 1, (k : Int), by omega, by go_num, rfl, below_drewN HB.out _, HS.out⟩, by simp [intOf]; omega⟩
          · obtain ⟨_, d1, d2⟩ := HA.out wr HB.out i (by omega)
            have HY : Hid (ltB l k i → MinN l p (k + 1) (k : Int)) := fun h => HM.out.turn hcan h
            have HN : Hid (¬ ltB l k i → MinN l p (k + 1) (i : Int)) := fun h => HM.out.stay h
            have HLt : Hid (ltB l k i ↔ (gB l k).live < (gB l i).live ∨ ((gB l k).live = (gB l i).live ∧ (gB l k).wear < (gB l i).wear)) := by
              unfold Hid ltB
              omega
            have i0 : (0 : Int) ≤ (i : Int) := by omega
            have i1 : (i : Int) < (l.length : Int) := by omega
            have in1 : decide ((i : Int) < 0) = false := decide_eq_false (by omega)
            have in0 : ¬ (i : Int) < 0 := by omega
            clear HM HCn hu hle hcan hp
            generalize (gB l k).live = li at *
            generalize (gB l k).wear = we at *
            generalize (gB l i).live = li' at *
            generalize (gB l i).wear = we' at *
            by_cases h1 : li < li'
            · go_wp2
              go_quiet (fail)
              go_wp2
              exact ⟨⟨k + 1, (k : Int), by omega, by go_num, rfl, below_drewN HB.out _, HY.out (HLt.out.2 (Or.inl h1))⟩, by simp [intOf]; omega⟩
            · have h1b : decide (li < li') = false := decide_eq_false h1
              by_cases h2 : li = li'
              · subst h2
                by_cases h3 : we < we'
                · have h3b : decide (we < we') = true := decide_eq_true h3
                  go_wp2
                  go_quiet (fail)
                  go_wp2
                  exact ⟨⟨k + 1, (k : Int), by omega, by go_num, rfl, below_drewN HB.out _, HY.out (HLt.out.2 (Or.inr ⟨by simp, h3⟩))⟩, by simp [intOf]; omega⟩
                · have h3b : decide (we < we') = false := decide_eq_false h3
                  go_wp2
                  go_quiet (fail)
                  go_wp2
                  exact ⟨⟨k + 1, (i : Int), by omega, by go_num, rfl, below_drewN HB.out _, HN.out (fun e => by have := HLt.out.1 e; omega)⟩, by simp [intOf]; omega⟩
              · have h2b : (li == li') = false := by rw [beq_eq_false_iff_ne]; exact h2
                go_wp2
                go_quiet (fail)
                go_wp2
                exact ⟨⟨k + 1, (i : Int), by omega, by go_num, rfl, below_drewN HB.out _, HN.out (fun e => by have := HLt.out.1 e; omega)⟩, by simp [intOf]; omega⟩
    · obtain rfl : k = l.length := by omega
      clear hlt
      go_wp2
      go_ret
      exact ⟨⟨b, hR.out.2.all, rfl⟩, hR.out.1⟩
set_option maxHeartbeats 1600000 in
theorem rchoose_none (a : Option Addr) (cap : Nat) (p : Int) (w : World) : Calls Tryd.prog 23 #[.slice a 0 cap, .int .i64 p] w fun e w' => e = .returned (.int .i64 (-1)) ∧ w' = w := by
  go_enter Tryd.func23, Tryd.ntmps23
  go_wp2
  go_loopw [5, 6] (fun s j wr => s = .int .i64 (-1) ∧ j = .int .i64 0 ∧ wr = w) (fun _ _ _ => 0)
  case atStart => exact ⟨rfl, rfl, rfl⟩
  case round =>
    obtain ⟨rfl, rfl, rfl⟩ := hrel
    go_wp2
    go_ret
    exact ⟨rfl, rfl⟩
theorem rchoose_any (a : Option Addr) (cap : Nat) (l : List Bl) (p : Int) (w : World) (h64 : l.length ≤ 64) (hg : ∀ i, i < l.length → (gB l i).live ≤ p) (hB : BL w a l) :
    Calls Tryd.prog 23 #[.slice a l.length cap, .int .i64 p] w fun e w' => (∃ k, IsCh l p k ∧ e = .returned (.int .i64 k)) ∧ Below w.heap.size w w' := by
  rcases hB with rfl | ⟨g, off, rfl, hat⟩
  · exact (rchoose_none a cap p w).mono fun e w' ⟨h1, h2⟩ => ⟨⟨-1, Or.inl ⟨rfl, fun i hi => absurd hi.1 (Nat.not_lt_zero _)⟩, h1⟩, h2 ▸ Below.refl _ _⟩
  · exact rchoose_some g off cap l p w h64 hg hat
end Go.Proofs.YtgmobibogoebpafDoor
