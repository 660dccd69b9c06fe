/-
  What the call of the document's Fits gives.
-/
import Derived.Test.YtdkafcgangcgbajTake
namespace Go.Proofs.Ytdkafcgangcgbaj
open Go.RowKit
set_option linter.unusedVariables false

set_option maxHeartbeats 800000 in
theorem rfits_any (L : Nat) (i n : Int) (w : World) (hL : L ≤ 16384) (hi : -9223372036854775808 ≤ i ∧ i ≤ 9223372036854775807) :
    Calls Try.prog 11 #[.int .i64 (L : Nat), .int .i64 i, .int .i64 n] w fun e w' => e = .returned (.bool (decide (fits L i n))) ∧ w = w' := by
  have hL2 : (L : Int) ≤ 16384 := by omega
  by_cases h1 : 0 ≤ i
  · by_cases h2 : 0 ≤ n
    · by_cases h3 : n ≤ (L : Int)
      · by_cases h4 : i ≤ (L : Int) - n
        · have HD : Hid (decide (fits L i n) = true) := decide_eq_true ⟨h1, h2, by omega⟩
          rw [HD.out]
          go_enter Try.func11, Try.ntmps11
          go_wp2
          go_ret
          exact ⟨rfl, rfl⟩
        · have HD : Hid (decide (fits L i n) = false) := decide_eq_false (fun e => h4 (by have := e.2.2; omega))
          rw [HD.out]
          go_enter Try.func11, Try.ntmps11
          go_wp2
          go_ret
          exact ⟨rfl, rfl⟩
      · have HD : Hid (decide (fits L i n) = false) := decide_eq_false (fun e => h3 (by have := e.2.2; omega))
        rw [HD.out]
        go_enter Try.func11, Try.ntmps11
        go_wp2
        go_ret
        exact ⟨rfl, rfl⟩
    · have HD : Hid (decide (fits L i n) = false) := decide_eq_false (fun e => h2 e.2.1)
      rw [HD.out]
      go_enter Try.func11, Try.ntmps11
      go_wp2
      go_ret
      exact ⟨rfl, rfl⟩
  · have HD : Hid (decide (fits L i n) = false) := decide_eq_false (fun e => h1 e.1)
    rw [HD.out]
    go_enter Try.func11, Try.ntmps11
    go_wp2
    go_ret
    exact ⟨rfl, rfl⟩
end Go.Proofs.Ytdkafcgangcgbaj
