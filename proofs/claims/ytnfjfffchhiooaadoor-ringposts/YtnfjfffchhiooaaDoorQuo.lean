/-
  Going round: quotients and rests as the program reckons them.
-/
import Derived.Test.YtnfjfffchhiooaaDoorBase
namespace Go.Proofs.YtnfjfffchhiooaaDoor
open Go.RowKit
set_option linter.unusedVariables false

theorem tmod_nat (a b : Nat) : Int.tmod (a : Int) (b : Int) = ((a % b : Nat) : Int) := by
  rw [Int.tmod_eq_emod_of_nonneg (by omega), Int.natCast_emod]
theorem tdiv_nat (a b : Nat) : Int.tdiv (a : Int) (b : Int) = ((a / b : Nat) : Int) := by
  rw [Int.tdiv_eq_ediv_of_nonneg (by omega), Int.natCast_ediv]
/-- What the program's words for a slot and its phase give. -/
theorem ph_facts (n q : Nat) (hn : 2 ≤ n) (hq : q ≤ 9223372036854775807) : ∃ (t d m : Nat), q % n = t ∧ t < n ∧ Int.tmod (q : Int) (n : Int) = (t : Int) ∧ (q : Int) % (n : Int) = (t : Int) ∧ Int.tdiv (q : Int) (n : Int) = (d : Int) ∧ (q : Int) / (n : Int) = (d : Int) ∧ wrap64 (d : Int) = (d : Int) ∧ IntKind.i64.wrap (d : Int) = (d : Int) ∧ Int.tmod (d : Int) 2 = (m : Int) ∧ (d : Int) % 2 = (m : Int) ∧ ((m = 0 ∧ phs n q = true) ∨ (¬ m = 0 ∧ phs n q = false)) := by
  have hd : q / n ≤ 9223372036854775807 := Nat.le_trans (Nat.div_le_self _ _) hq
  refine ⟨q % n, q / n, q / n % 2, rfl, Nat.mod_lt _ (by omega), tmod_nat _ _, (Int.natCast_emod _ _).symm, tdiv_nat _ _, (Int.natCast_ediv _ _).symm, ?_, ?_, tmod_nat _ 2, ?_, ?_⟩
  · generalize q / n = d at *
    exact IntWalk.wrap64_in _ ⟨by omega, by omega⟩
  · generalize q / n = d at *
    exact wrap_ok (by omega) (by omega)
  · generalize q / n = d
    omega
  · unfold phs
    by_cases h : q / n % 2 = 0
    · exact Or.inl ⟨h, decide_eq_true h⟩
    · exact Or.inr ⟨h, decide_eq_false h⟩
theorem nx_facts (n q : Nat) : Int.tmod ((q : Int) + 1) (n : Int) = (((q + 1) % n : Nat) : Int) ∧ ((q : Int) + 1) % (n : Int) = (((q + 1) % n : Nat) : Int) := by
  have e : (q : Int) + 1 = ((q + 1 : Nat) : Int) := by omega
  rw [e]
  exact ⟨tmod_nat _ _, (Int.natCast_emod _ _).symm⟩
end Go.Proofs.YtnfjfffchhiooaaDoor
