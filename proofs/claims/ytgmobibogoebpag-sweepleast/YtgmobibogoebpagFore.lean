/-
  What the laws on package sweep ask first; a number below n.
-/
import Derived.Test.YtgmobibogoebpagChoose
import Derived.Test.YtgmobibogoebpagBoth
namespace Go.Proofs.Ytgmobibogoebpag
open Go.RowKit
set_option linter.unusedVariables false

theorem ret_int {k : IntKind} {a b : Int} (h : a = b) : Ending.returned (.int k a) = .returned (.int k b) := by rw [h]
set_option maxHeartbeats 800000 in
theorem pick_any (c : Int) (n : Nat) (w : World) (h1 : 1 ≤ n) (h2 : n ≤ 4611686018427387904) (hc : -9223372036854775808 ≤ c ∧ c ≤ 9223372036854775807) :
    Calls Try.prog 8 #[.int .i64 c, .int .i64 n] w fun e w' => (∃ k : Nat, k < n ∧ e = .returned (.int .i64 (k : Nat))) ∧ w' = w := by
  have hn0 : ¬ ((n : Int) = 0) := by omega
  by_cases h0 : 0 ≤ c
  · obtain ⟨m, rfl⟩ := Int.eq_ofNat_of_zero_le h0
    have HK : Hid (m % n < n) := Nat.mod_lt _ h1
    go_enter Try.func8, Try.ntmps8
    go_wp2
    go_ret
    exact ⟨⟨m % n, HK.out, by go_num⟩, rfl⟩
  · obtain ⟨m, hm⟩ := Int.eq_ofNat_of_zero_le (show 0 ≤ -(c + 1) by omega)
    have hc' : c = -((m : Int) + 1) := by omega
    subst hc'
    have HK : Hid (m % n < n) := Nat.mod_lt _ h1
    have hneg : -((m : Int) + 1) < 0 := by omega
    clear hm h0
    go_enter Try.func8, Try.ntmps8
    go_wp2
    go_ret
    refine ⟨⟨m % n, HK.out, ret_int ?_⟩, rfl⟩
    rw [show -((m : Int) + 1) + 1 = -(m : Int) by omega, Int.neg_tmod, Int.neg_neg, Int.tmod_eq_emod_of_nonneg (by omega)]
    simp
/-- The two blocks that the laws ask first. -/
def two : List Bl := [⟨true, 2, 0⟩, ⟨true, 1, 0⟩]
theorem two_fault : faultF two 4 false = 0 := by decide
theorem two_min : IsMin two 4 1 := by
  refine ⟨⟨by decide, rfl, by decide⟩, fun j hj => ?_⟩
  have h : j < 2 := hj.1
  have h2 : j = 0 ∨ j = 1 := by omega
  rcases h2 with rfl | rfl
  · right
    left
    decide
  · exact Or.inl rfl
/-- What Choose tells, briefly. -/
def good (l : List Bl) (p : Int) : Prop := faultF l p false = 0 ∧ ∃ k, IsMin l p k
theorem choose_two {e : Ending} {l : List Bl} {p : Int} (h : ChoosePost e l p) : (¬ good l p ∧ ∃ f : Nat, e = .returned (.tuple #[.int .i64 0, .iface 40 (.int .i64 (f : Int))])) ∨ (good l p ∧ ∃ k : Nat, IsMin l p k ∧ e = .returned (.tuple #[.int .i64 (k : Int), .nilIface])) := by
  rcases h with ⟨f, h1, h2, h3⟩ | ⟨h1, h2, h3⟩ | ⟨k, h1, h2, h3⟩
  · refine Or.inl ⟨fun hz => h2 (h1.trans hz.1), f, ?_⟩
    rw [h3, errI_ne h2]
  · refine Or.inl ⟨fun ⟨_, k, hk⟩ => h2 k hk.1, 4, ?_⟩
    rw [h3, errI_ne (by decide)]
  · exact Or.inr ⟨⟨h1, k, h2⟩, k, h2, h3⟩
theorem fore_any (w : World) : Calls Try.prog 5 #[.slice (some ⟨w.heap.size, 0, none⟩) 2 2, .int .i64 4] (w.alloc (.cells #[.bool true, .int .i64 2, .int .i64 0, .bool true, .int .i64 1, .int .i64 0] 29)) fun e w' => e = .returned (.tuple #[.int .i64 1, .nilIface]) ∧ Below w.heap.size w w' := by
  have hO : OwnB 29 (w.alloc (.cells #[.bool true, .int .i64 2, .int .i64 0, .bool true, .int .i64 1, .int .i64 0] 29)) w.heap.size (some ⟨w.heap.size, 0, none⟩) 2 two := OwnB.new _ w w.heap.size (Nat.le_refl _) two (by decide) _ rfl
  refine (choose_any (some ⟨w.heap.size, 0, none⟩) 2 two 4 _ hO.bl).mono ?_
  rintro e w' ⟨h1, h2⟩
  refine ⟨?_, (alloc_below' w _).trans (h2.mono (alloc_below' w _).size)⟩
  rcases choose_two h1 with ⟨h, _⟩ | ⟨_, k, h, h3⟩
  · exact absurd ⟨two_fault, 1, two_min⟩ h
  · rw [h3, h.one two_min]
    rfl
end Go.Proofs.Ytgmobibogoebpag
