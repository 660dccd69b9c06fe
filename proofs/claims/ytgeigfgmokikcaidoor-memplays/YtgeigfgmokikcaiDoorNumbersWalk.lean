/-
  What the law MemNumbers gives: true, whatever the numbers.
-/
import Derived.Test.YtgeigfgmokikcaiDoorNum
namespace Go.Proofs.YtgeigfgmokikcaiDoor
open Go.RowKit
set_option linter.unusedVariables false

theorem fits_nat {L : Nat} {i : Int} {n : Nat} (h : fits L i (n : Nat)) : ∃ k : Nat, i = (k : Int) ∧ k + n ≤ L := by
  obtain ⟨h1, h2, h3⟩ := h
  obtain ⟨k, rfl⟩ := Int.eq_ofNat_of_zero_le h1
  exact ⟨k, rfl, by omega⟩
theorem num_zero : ∀ n, num (List.replicate n 0) = 0
  | 0 => rfl
  | n + 1 => by rw [List.replicate_succ]; show 0 + 256 * num (List.replicate n 0) = 0; rw [num_zero n]
theorem cut_zero (n i k : Nat) : ∃ m, cut (List.replicate n 0) i k = List.replicate m 0 := by
  unfold cut
  rw [List.drop_replicate, List.take_replicate]
  exact ⟨_, rfl⟩
/-- What Number tells of noughts. -/
theorem number_zero (mb hb n : Nat) (i : Int) (w : World) (h : MW w mb hb (List.replicate n 0)) (hi : -9223372036854775808 ≤ i ∧ i ≤ 9223372036854775807) :
    Calls Tryd.prog 13 #[.pointer (some ⟨mb, 0, none⟩), .int .i64 i] w fun e w' => (∃ er, e = .returned (.tuple #[.int .i64 0, er]) ∧ (er = .nilIface ∨ er = .iface 29 (.int .i64 1))) ∧ w = w' := by
  by_cases hf : fits (List.replicate n 0).length i ((8 : Nat) : Int)
  · obtain ⟨k, rfl, hk⟩ := fits_nat hf
    refine (number_yes mb hb _ k w h hk).mono ?_
    rintro e w' ⟨rfl, rfl⟩
    obtain ⟨m, hm⟩ := cut_zero n k 8
    rw [hm, num_zero]
    exact ⟨⟨.nilIface, rfl, Or.inl rfl⟩, rfl⟩
  · refine (number_no mb hb _ i w h hf hi).mono ?_
    rintro e w' ⟨rfl, rfl⟩
    exact ⟨⟨_, rfl, Or.inr rfl⟩, rfl⟩
end Go.Proofs.YtgeigfgmokikcaiDoor
