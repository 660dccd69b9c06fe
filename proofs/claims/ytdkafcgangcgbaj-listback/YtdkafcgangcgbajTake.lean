/-
  What the small calls of package list give, and the walker's take.
-/
import Derived.Test.YtdkafcgangcgbajNum
import Derived.Test.YtdkafcgangcgbajSeg
import Derived.RegionTactic
namespace Go.Proofs.Ytdkafcgangcgbaj
open Go.RowKit
set_option linter.unusedVariables false

theorem tmod_dvd (x : Int) (k : Int) (hk : 0 < k) : (x.tmod k = 0) ↔ (x % k = 0) := by
  rw [← Int.dvd_iff_tmod_eq_zero, Int.dvd_iff_emod_eq_zero]
set_option maxRecDepth 20000 in
set_option maxHeartbeats 800000 in
theorem present_any (mb : Nat) (w : World) : Calls Try.prog 14 #[.pointer (some ⟨mb, 0, none⟩)] w fun e w' => e = .returned (.pointer (some ⟨mb, 0, none⟩)) ∧ w = w' := by
  have he : ∀ wz : World, (binOp .eql 24 (.pointer (some ⟨mb, 0, none⟩)) (.pointer none)).run Try.prog wz = .ok (.bool false) wz := fun _ => rfl
  go_enter Try.func14, Try.ntmps14
  go_wp2
  go_ret
  exact ⟨rfl, rfl⟩
set_option maxHeartbeats 800000 in
theorem mayMove_any (n : Int) (w : World) : Calls Try.prog 15 #[.int .i64 n] w fun e w' => e = .returned (.bool (decide (1 ≤ n ∧ n ≤ 2048))) ∧ w = w' := by
  by_cases h : 1 ≤ n
  · by_cases h2 : n ≤ 2048
    · rw [decide_eq_true (And.intro h h2)]
      go_enter Try.func15, Try.ntmps15
      go_wp2
      go_ret
      exact ⟨rfl, rfl⟩
    · rw [decide_eq_false (fun c => h2 c.2)]
      go_enter Try.func15, Try.ntmps15
      go_wp2
      go_ret
      exact ⟨rfl, rfl⟩
  · rw [decide_eq_false (fun c => h c.1)]
    go_enter Try.func15, Try.ntmps15
    go_wp2
    go_ret
    exact ⟨rfl, rfl⟩
/-- An address of a page? -/
abbrev pageA (x : Int) : Prop := 0 ≤ x ∧ x % 64 = 0
set_option maxHeartbeats 800000 in
theorem isPage_any (n : Int) (w : World) : Calls Try.prog 18 #[.int .i64 n] w fun e w' => e = .returned (.bool (decide (pageA n))) ∧ w = w' := by
  by_cases h : 0 ≤ n
  · have hm : n.tmod 64 = n % 64 := Int.tmod_eq_emod_of_nonneg h
    by_cases h2 : n % 64 = 0
    · rw [decide_eq_true (And.intro h h2)]
      have h3 : (n % 64 == 0) = true := by simpa using h2
      clear hm h2
      go_enter Try.func18, Try.ntmps18
      go_wp2
      go_ret
      exact ⟨rfl, rfl⟩
    · rw [decide_eq_false (fun c => h2 c.2)]
      have h3 : (n % 64 == 0) = false := by simpa using h2
      clear hm h2
      go_enter Try.func18, Try.ntmps18
      go_wp2
      go_ret
      exact ⟨rfl, rfl⟩
  · rw [decide_eq_false (fun c => h c.1)]
    go_enter Try.func18, Try.ntmps18
    go_wp2
    go_ret
    exact ⟨rfl, rfl⟩
set_option maxHeartbeats 800000 in
theorem isLast_any (n : Nat) (w : World) : Calls Try.prog 35 #[.int .i64 (n : Nat)] w fun e w' => e = .returned (.bool (decide (n % 64 = 56))) ∧ w = w' := by
  have hm : ((n : Nat) : Int).tmod 64 = ((n % 64 : Nat) : Int) := by rw [Int.tmod_eq_emod_of_nonneg (by omega)]; omega
  by_cases h2 : n % 64 = 56
  · rw [decide_eq_true h2]
    have h3 : (((n : Nat) : Int) % 64 == 56) = true := by simp; omega
    clear hm h2
    go_enter Try.func35, Try.ntmps35
    go_wp2
    go_ret
    exact ⟨rfl, rfl⟩
  · rw [decide_eq_false h2]
    have h3 : (((n : Nat) : Int) % 64 == 56) = false := by simp; omega
    clear hm h2
    go_enter Try.func35, Try.ntmps35
    go_wp2
    go_ret
    exact ⟨rfl, rfl⟩
set_option maxHeartbeats 1600000 in
/-- Whether a segment lies in the memory. -/
theorem lies_any (mb hb : Nat) (l : List Nat) (p n : Int) (w : World) (h : MW w mb hb l) (hp : p ≤ 9223372036854775807) :
    Calls Try.prog 27 #[.pointer (some ⟨mb, 0, none⟩), .agg #[.int .i64 p, .int .i64 n]] w fun e w' => e = .returned (.bool (decide (fits l.length p n))) ∧ Below w.heap.size w w' := by
  have hl := h.long
  have HB : Hid (Below w.heap.size w (w.alloc (.cells #[.int .i64 p, .int .i64 n] 35))) := alloc_below' w _
  have HS : Hid (∀ x, Calls Try.prog 33 #[.pointer (some ⟨mb, 0, none⟩)] ((w.alloc (.cells #[.int .i64 p, .int .i64 n] 35)).drewN x) fun e w' => e = .returned (.int .i64 (l.length : Nat)) ∧ (w.alloc (.cells #[.int .i64 p, .int .i64 n] 35)).drewN x = w') := fun x => size_any mb hb l _ (h.keep (S := fun _ => False) ((Keep.of_below HB.out).drewN x) (fun e => e) (fun e => e))
  clear h
  by_cases h1 : 0 ≤ p
  · by_cases h2 : 0 ≤ n
    · by_cases h3 : n ≤ (l.length : Int) - p
      · rw [decide_eq_true (show fits l.length p n from ⟨h1, h2, by omega⟩)]
        generalize l.length = L at *
        go_enter Try.func27, Try.ntmps27
        go_wp2
        go_quiet (first | exact (HS.out _).mono (fun _ _ ⟨he, hm⟩ => ⟨he, _, hm.symm⟩) | exact Calls.quiet_of_same (HS.out _))
        go_wp2
        go_ret
        exact ⟨rfl, below_drewN HB.out _⟩
      · rw [decide_eq_false (show ¬ fits l.length p n from fun c => h3 (by unfold fits at c; omega))]
        have d3 : decide (n ≤ (l.length : Int) - p) = false := decide_eq_false h3
        generalize l.length = L at *
        go_enter Try.func27, Try.ntmps27
        go_wp2
        go_quiet (first | exact (HS.out _).mono (fun _ _ ⟨he, hm⟩ => ⟨he, _, hm.symm⟩) | exact Calls.quiet_of_same (HS.out _))
        go_wp2
        go_ret
        exact ⟨rfl, below_drewN HB.out _⟩
    · rw [decide_eq_false (show ¬ fits l.length p n from fun c => h2 c.2.1)]
      have d2 : decide (0 ≤ n) = false := decide_eq_false h2
      clear HS
      go_enter Try.func27, Try.ntmps27
      go_wp2
      go_quiet (fail)
      go_wp2
      go_ret
      exact ⟨rfl, below_drewN HB.out _⟩
  · rw [decide_eq_false (show ¬ fits l.length p n from fun c => h1 c.1)]
    have d1 : decide (0 ≤ p) = false := decide_eq_false h1
    clear HS
    go_enter Try.func27, Try.ntmps27
    go_wp2
    go_quiet (fail)
    go_wp2
    go_ret
    exact ⟨rfl, below_drewN HB.out _⟩
end Go.Proofs.Ytdkafcgangcgbaj
