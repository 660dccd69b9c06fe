/-
  What the call of the document's LevelOf gives: a block that was worn too little.
-/
import Derived.Test.YtgmobibogoebpafDoorBase
namespace Go.Proofs.YtgmobibogoebpafDoor
open Go.RowKit
set_option linter.unusedVariables false

/-- What LevelOf tells. -/
def IsLv (l : List Bl) (gap : Int) (k : Int) : Prop := (k = -1 ∧ ∀ i, ¬ IsLev l gap i) ∨ ∃ i : Nat, k = i ∧ IsLev l gap i
/-- Of the first n: nobody used is less worn than i, or as much and ahead of it. -/
def LeastN (l : List Bl) (i n : Nat) (b : Bool) : Prop := b = true ↔ ∀ j, j < n → (gB l j).used = true → ¬ ((gB l j).wear < (gB l i).wear ∨ ((gB l j).wear = (gB l i).wear ∧ j < i))
def FarN (l : List Bl) (gap : Int) (i n : Nat) (b : Bool) : Prop := b = true ↔ ∃ j, j < n ∧ gap < (gB l j).wear - (gB l i).wear
theorem LeastN.zero (l : List Bl) (i : Nat) : LeastN l i 0 true := ⟨fun _ j hj => absurd hj (Nat.not_lt_zero _), fun _ => rfl⟩
theorem FarN.zero (l : List Bl) (gap : Int) (i : Nat) : FarN l gap i 0 false := ⟨fun h => (by cases h), fun ⟨j, hj, _⟩ => absurd hj (Nat.not_lt_zero _)⟩
theorem LeastN.no {l : List Bl} {i n : Nat} {b : Bool} (hu : (gB l n).used = true) (h : (gB l n).wear < (gB l i).wear ∨ ((gB l n).wear = (gB l i).wear ∧ n < i)) : LeastN l i (n + 1) false :=
  ⟨fun h => (by cases h), fun hz => absurd h (hz n (by omega) hu)⟩
theorem LeastN.yes {l : List Bl} {i n : Nat} {b : Bool} (hb : LeastN l i n b) (h : (gB l n).used = true → ¬ ((gB l n).wear < (gB l i).wear ∨ ((gB l n).wear = (gB l i).wear ∧ n < i))) : LeastN l i (n + 1) b := by
  refine ⟨fun hz j hj hu => ?_, fun hz => hb.2 (fun j hj hu => hz j (by omega) hu)⟩
  by_cases e : j = n
  · rw [e] at hu ⊢; exact h hu
  · exact hb.1 hz j (by omega) hu
theorem FarN.yes {l : List Bl} {gap : Int} {i n : Nat} (h : gap < (gB l n).wear - (gB l i).wear) : FarN l gap i (n + 1) true := ⟨fun _ => ⟨n, by omega, h⟩, fun _ => rfl⟩
theorem FarN.no {l : List Bl} {gap : Int} {i n : Nat} {b : Bool} (hb : FarN l gap i n b) (h : ¬ gap < (gB l n).wear - (gB l i).wear) : FarN l gap i (n + 1) b := by
  refine ⟨fun hz => ?_, fun ⟨j, hj, hz⟩ => ?_⟩
  · obtain ⟨j, hj, hz⟩ := hb.1 hz
    exact ⟨j, by omega, hz⟩
  · by_cases e : j = n
    · subst e; exact absurd hz h
    · exact hb.2 ⟨j, by omega, hz⟩
theorem lev_of {l : List Bl} {gap : Int} {i : Nat} (hi : i < l.length) (hu : (gB l i).used = true) (h1 : LeastN l i l.length true) (h2 : FarN l gap i l.length true) : IsLev l gap i := by
  refine ⟨⟨hi, hu, fun j hj hju => ?_⟩, ?_⟩
  · have := h1.1 rfl j hj hju
    omega
  · exact h2.1 rfl
theorem not_lev {l : List Bl} {gap : Int} {i : Nat} {b c : Bool} (h1 : LeastN l i l.length b) (h2 : FarN l gap i l.length c) (h : (b && c) = false) : ¬ IsLev l gap i := by
  intro hz
  have e1 : b = true := h1.2 (fun j hj hu => by have := hz.1.2.2 j hj hu; omega)
  have e2 : c = true := h2.2 hz.2
  rw [e1, e2] at h
  cases h
/-- Where the search stands. -/
structure VS (w wr : World) (l : List Bl) (gap : Int) (i k : Nat) (b c : Bool) : Prop where
  bel : Below w.heap.size w wr
  le : LeastN l i k b
  fa : FarN l gap i k c
  not : ∀ q, q < i → ¬ IsLev l gap q
set_option maxRecDepth 20000 in
set_option maxHeartbeats 8000000 in
theorem rlevel_some (g off cap : Nat) (l : List Bl) (gap : Int) (w : World) (h64 : l.length ≤ 64) (hg : allG l 4096) (hat : ∀ i, i < l.length → BlAt w g off i (gB l i)) :
    Calls Tryd.prog 25 #[.slice (some ⟨g, off, none⟩) l.length cap, .int .i64 gap] w fun e w' => (∃ k, IsLv l gap k ∧ e = .returned (.int .i64 k)) ∧ Below w.heap.size w w' := by
  have HA : Hid (∀ wr, Below w.heap.size w wr → ∀ i, i < l.length → BlAt wr g off i (gB l i)) := fun wr hb i hi => (hat i hi).keep (S := fun _ => False) (Keep.of_below hb) (fun e => e)
  have HGd : Hid (∀ i, i < l.length → 0 ≤ (gB l i).wear ∧ (gB l i).wear ≤ 1000000000) := fun i hi => (hg i hi).2.2
  clear hat hg
  go_enter Tryd.func25, Tryd.ntmps25
  go_wp2
  go_loopw [5] (fun j wr => ∃ (i : Nat), i ≤ l.length ∧ j = .int .i64 i ∧ Hid (Below w.heap.size w wr ∧ ∀ q, q < i → ¬ IsLev l gap q)) (fun j _ => l.length - (intOf j).toNat)
  case atStart => exact ⟨0, Nat.zero_le _, rfl, Below.refl _ _, fun q hq => absurd hq (Nat.not_lt_zero _)⟩
  case round =>
    obtain ⟨i, hi, rfl, hR⟩ := hrel
    by_cases hlt : i < l.length
    · obtain ⟨c0, c1, c2⟩ := HA.out wr hR.out.1 i hlt
      have i0 : (0 : Int) ≤ (i : Int) := by omega
      have i1 : (i : Int) < (l.length : Int) := by omega
      cases hu : (gB l i).used with
      | false =>
        rw [hu] at c0
        have HS : Hid (Below w.heap.size w wr ∧ ∀ q, q < i + 1 → ¬ IsLev l gap q) := ⟨hR.out.1, fun q hq hz => by
          by_cases e : q = i
          · subst e
            have := hz.1.2.1
            rw [hu] at this
            cases this
          · exact hR.out.2 q (by omega) hz⟩
        clear hR hu
        go_wp2
        exact ⟨⟨i + 1, by omega, by go_num, HS.out⟩, by simp [intOf]; omega⟩
      | true =>
        rw [hu] at c0
        have H0 : Hid (VS w wr l gap i 0 true false) := ⟨hR.out.1, LeastN.zero l i, FarN.zero l gap i, hR.out.2⟩
        have HU : Hid ((gB l i).used = true) := hu
        obtain ⟨b0, b1⟩ := HGd.out i hlt
        clear hR hu c1 c2
        obtain ⟨wo, rfl⟩ : ∃ wo, wo = wr := ⟨_, rfl⟩
        go_wp2
        clear c0
        go_loopw [6, 7, 8] (fun s6 s7 j wr => ∃ (k : Nat) (b c : Bool), k ≤ l.length ∧ j = .int .i64 k ∧ s6 = .bool b ∧ s7 = .bool c ∧ Hid (VS w wr l gap i k b c)) (fun _ _ j _ => l.length - (intOf j).toNat)
        case atStart => exact ⟨0, true, false, Nat.zero_le _, rfl, rfl, rfl, H0.out⟩
        case round =>
          obtain ⟨k, b, c, hk, rfl, rfl, rfl, hR⟩ := hrel
          clear H0
          by_cases hkt : k < l.length
          · obtain ⟨d0, d1, d2⟩ := HA.out wr hR.out.bel k hkt
            obtain ⟨_, _, c2⟩ := HA.out wr hR.out.bel i hlt
            obtain ⟨b2, b3⟩ := HGd.out k hkt
            have k0 : (0 : Int) ≤ (k : Int) := by omega
            have k1 : (k : Int) < (l.length : Int) := by omega
            have HX : Hid (∀ wz b' c', LeastN l i (k + 1) b' → FarN l gap i (k + 1) c' → Below w.heap.size w wz → VS w wz l gap i (k + 1) b' c') := fun wz b' c' x y z => ⟨z, x, y, hR.out.not⟩
            have HF1 : Hid (gap < (gB l k).wear - (gB l i).wear → FarN l gap i (k + 1) true) := fun h => FarN.yes h
            have HF2 : Hid (¬ gap < (gB l k).wear - (gB l i).wear → FarN l gap i (k + 1) c) := fun h => hR.out.fa.no h
            have HL1 : Hid ((gB l k).used = true → ((gB l k).wear < (gB l i).wear ∨ ((gB l k).wear = (gB l i).wear ∧ k < i)) → LeastN l i (k + 1) false) := fun h1 h2 => LeastN.no (b := b) h1 h2
            have HL2 : Hid (((gB l k).used = true → ¬ ((gB l k).wear < (gB l i).wear ∨ ((gB l k).wear = (gB l i).wear ∧ k < i))) → LeastN l i (k + 1) b) := fun h => hR.out.le.yes h
            have HBl : Hid (Below w.heap.size w wr) := hR.out.bel
            clear hR d1
            generalize (gB l k).used = u at *
            generalize (gB l k).wear = we at *
            generalize (gB l i).wear = wi at *
            by_cases hf : gap < we - wi
            · cases u with
              | false =>
                go_wp2
                go_quiet (fail)
                go_wp2
                go_quiet (fail)
                go_wp2
                exact ⟨⟨k + 1, b, true, by omega, by go_num, rfl, rfl, HX.out _ _ _ (HL2.out (by simp)) (HF1.out hf) (below_drewN HBl.out _)⟩, by simp [intOf]; omega⟩
              | true =>
                by_cases h1 : we < wi
                · go_wp2
                  go_quiet (fail)
                  go_wp2
                  go_quiet (fail)
                  go_wp2
                  exact ⟨⟨k + 1, false, true, by omega, by go_num, rfl, rfl, HX.out _ _ _ (HL1.out (by simp) (Or.inl h1)) (HF1.out hf) (below_drewN HBl.out _)⟩, by simp [intOf]; omega⟩
                · have h1b : decide (we < wi) = false := decide_eq_false h1
                  by_cases h2 : we = wi
                  · subst h2
                    by_cases h3 : k < i
                    · have h3i : (k : Int) < (i : Int) := by omega
                      have h3b : decide ((k : Int) < (i : Int)) = true := decide_eq_true h3i
                      go_wp2
                      go_quiet (fail)
                      go_wp2
                      go_quiet (fail)
                      go_wp2
                      exact ⟨⟨k + 1, false, true, by omega, by go_num, rfl, rfl, HX.out _ _ _ (HL1.out (by simp) (by simp [h3])) (HF1.out hf) (below_drewN HBl.out _)⟩, by simp [intOf]; omega⟩
                    · have h3i : ¬ (k : Int) < (i : Int) := by omega
                      have h3b : decide ((k : Int) < (i : Int)) = false := decide_eq_false h3i
                      go_wp2
                      go_quiet (fail)
                      go_wp2
                      go_quiet (fail)
                      go_wp2
                      exact ⟨⟨k + 1, b, true, by omega, by go_num, rfl, rfl, HX.out _ _ _ (HL2.out (by simp [h3])) (HF1.out hf) (below_drewN HBl.out _)⟩, by simp [intOf]; omega⟩
                  · have h2b : (we == wi) = false := by rw [beq_eq_false_iff_ne]; exact h2
                    go_wp2
                    go_quiet (fail)
                    go_wp2
                    go_quiet (fail)
                    go_wp2
                    exact ⟨⟨k + 1, b, true, by omega, by go_num, rfl, rfl, HX.out _ _ _ (HL2.out (fun _ => by omega)) (HF1.out hf) (below_drewN HBl.out _)⟩, by simp [intOf]; omega⟩
            · cases u with
              | false =>
                go_wp2
                go_quiet (fail)
                go_wp2
                go_quiet (fail)
                go_wp2
                exact ⟨⟨k + 1, b, c, by omega, by go_num, rfl, rfl, HX.out _ _ _ (HL2.out (by simp)) (HF2.out hf) (below_drewN HBl.out _)⟩, by simp [intOf]; omega⟩
              | true =>
                by_cases h1 : we < wi
                · go_wp2
                  go_quiet (fail)
                  go_wp2
                  go_quiet (fail)
                  go_wp2
                  exact ⟨⟨k + 1, false, c, by omega, by go_num, rfl, rfl, HX.out _ _ _ (HL1.out (by simp) (Or.inl h1)) (HF2.out hf) (below_drewN HBl.out _)⟩, by simp [intOf]; omega⟩
                · have h1b : decide (we < wi) = false := decide_eq_false h1
                  by_cases h2 : we = wi
                  · subst h2
                    by_cases h3 : k < i
                    · have h3i : (k : Int) < (i : Int) := by omega
                      have h3b : decide ((k : Int) < (i : Int)) = true := decide_eq_true h3i
                      go_wp2
                      go_quiet (fail)
                      go_wp2
                      go_quiet (fail)
                      go_wp2
                      exact ⟨⟨k + 1, false, c, by omega, by go_num, rfl, rfl, HX.out _ _ _ (HL1.out (by simp) (by simp [h3])) (HF2.out hf) (below_drewN HBl.out _)⟩, by simp [intOf]; omega⟩
                    · have h3i : ¬ (k : Int) < (i : Int) := by omega
                      have h3b : decide ((k : Int) < (i : Int)) = false := decide_eq_false h3i
                      go_wp2
                      go_quiet (fail)
                      go_wp2
                      go_quiet (fail)
                      go_wp2
                      exact ⟨⟨k + 1, b, c, by omega, by go_num, rfl, rfl, HX.out _ _ _ (HL2.out (by simp [h3])) (HF2.out hf) (below_drewN HBl.out _)⟩, by simp [intOf]; omega⟩
                  · have h2b : (we == wi) = false := by rw [beq_eq_false_iff_ne]; exact h2
                    go_wp2
                    go_quiet (fail)
                    go_wp2
                    go_quiet (fail)
                    go_wp2
                    exact ⟨⟨k + 1, b, c, by omega, by go_num, rfl, rfl, HX.out _ _ _ (HL2.out (fun _ => by omega)) (HF2.out hf) (below_drewN HBl.out _)⟩, by simp [intOf]; omega⟩
          · obtain rfl : k = l.length := by omega
            clear hkt
            have HY : Hid (b = true → c = true → IsLev l gap i) := fun e1 e2 => lev_of hlt HU.out (e1 ▸ hR.out.le) (e2 ▸ hR.out.fa)
            have HN : Hid ((b && c) = false → ∀ q, q < i + 1 → ¬ IsLev l gap q) := fun e q hq hz => by
              by_cases e2 : q = i
              · subst e2
                exact not_lev hR.out.le hR.out.fa e hz
              · exact hR.out.not q (by omega) hz
            have HBl : Hid (Below w.heap.size w wr) := hR.out.bel
            clear hR
            cases b with
            | false =>
              go_wp2
              exact ⟨⟨i + 1, by omega, by go_num, HBl.out, HN.out (by simp)⟩, by simp [intOf]; omega⟩
            | true =>
              cases c with
              | false =>
                go_wp2
                exact ⟨⟨i + 1, by omega, by go_num, HBl.out, HN.out (by simp)⟩, by simp [intOf]; omega⟩
              | true =>
                go_wp2
                go_ret
                exact ⟨⟨(i : Int), Or.inr ⟨i, rfl, HY.out (by simp) (by simp)⟩, rfl⟩, HBl.out⟩
    · obtain rfl : i = l.length := by omega
      clear hlt
      go_wp2
      go_ret
      exact ⟨⟨-1, Or.inl ⟨rfl, fun q hz => hR.out.2 q hz.1.1 hz⟩, rfl⟩, hR.out.1⟩
set_option maxHeartbeats 1600000 in
theorem rlevel_none (a : Option Addr) (cap : Nat) (gap : Int) (w : World) : Calls Tryd.prog 25 #[.slice a 0 cap, .int .i64 gap] w fun e w' => e = .returned (.int .i64 (-1)) ∧ w' = w := by
  go_enter Tryd.func25, Tryd.ntmps25
  go_wp2
  go_loopw [5] (fun j wr => j = .int .i64 0 ∧ wr = w) (fun _ _ => 0)
  case atStart => exact ⟨rfl, rfl⟩
  case round =>
    obtain ⟨rfl, rfl⟩ := hrel
    go_wp2
    go_ret
    exact ⟨rfl, rfl⟩
theorem rlevel_any (a : Option Addr) (cap : Nat) (l : List Bl) (gap : Int) (w : World) (h64 : l.length ≤ 64) (hg : allG l 4096) (hB : BL w a l) :
    Calls Tryd.prog 25 #[.slice a l.length cap, .int .i64 gap] w fun e w' => (∃ k, IsLv l gap k ∧ e = .returned (.int .i64 k)) ∧ Below w.heap.size w w' := by
  rcases hB with rfl | ⟨g, off, rfl, hat⟩
  · exact (rlevel_none a cap gap w).mono fun e w' ⟨h1, h2⟩ => ⟨⟨-1, Or.inl ⟨rfl, fun i hi => absurd hi.1.1 (Nat.not_lt_zero _)⟩, h1⟩, h2 ▸ Below.refl _ _⟩
  · exact rlevel_some g off cap l gap w h64 hg hat
end Go.Proofs.YtgmobibogoebpafDoor
