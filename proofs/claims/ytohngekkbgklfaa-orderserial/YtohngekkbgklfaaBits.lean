/-
  Bits of small numbers, as the walk spells them.
-/
import Derived.Test.YtohngekkbgklfaaCalls
import Derived.Laws.BitsAllLaws
namespace Go.Proofs.Ytohngekkbgklfaa
open Go.RowKit
set_option linter.unusedVariables false

theorem or_i64 (a b : Nat) (ha : a < 9223372036854775808) (hb : b < 9223372036854775808) : bits .or .i64 (a : Int) (b : Int) = ((a ||| b : Nat) : Int) := by
  have hx : a ||| b < 2 ^ 63 := Nat.or_lt_two_pow (by omega) (by omega)
  show IntKind.i64.wrap ((BitVec.ofInt 64 (a : Int) ||| BitVec.ofInt 64 (b : Int)).toNat : Int) = _
  rw [BitVec.toNat_or, ofInt_u64 a (by omega), ofInt_u64 b (by omega)]
  exact wrap_ok (by omega) (by omega)
theorem and_i64 (a b : Nat) (ha : a < 9223372036854775808) (hb : b < 9223372036854775808) : bits .and .i64 (a : Int) (b : Int) = ((a &&& b : Nat) : Int) := by
  have hx : a &&& b < 2 ^ 63 := Nat.and_lt_two_pow _ (by omega)
  show IntKind.i64.wrap ((BitVec.ofInt 64 (a : Int) &&& BitVec.ofInt 64 (b : Int)).toNat : Int) = _
  rw [BitVec.toNat_and, ofInt_u64 a (by omega), ofInt_u64 b (by omega)]
  exact wrap_ok (by omega) (by omega)
theorem andNot_i64 (a b : Nat) (ha : a < 9223372036854775808) (hb : b < 9223372036854775808) : bits .andNot .i64 (a : Int) (b : Int) = ((a &&& (18446744073709551615 - b) : Nat) : Int) := by
  have hx : a &&& (18446744073709551615 - b) < 2 ^ 63 := by
    rw [Nat.and_comm]
    exact Nat.and_lt_two_pow _ (by omega)
  show IntKind.i64.wrap ((BitVec.ofInt 64 (a : Int) &&& ~~~BitVec.ofInt 64 (b : Int)).toNat : Int) = _
  rw [BitVec.toNat_and, BitVec.toNat_not, ofInt_u64 a (by omega), ofInt_u64 b (by omega)]
  have e : 2 ^ 64 - 1 - b = 18446744073709551615 - b := by omega
  rw [e]
  exact wrap_ok (by omega) (by omega)
theorem pow_small {n : Nat} (hn : n < 10) : 2 ^ n < 1024 := Nat.lt_of_lt_of_le (Nat.pow_lt_pow_right (by omega) hn) (by decide)
theorem one_shl {n : Nat} (hn : n < 10) : IntKind.i64.wrap (1 * 2 ^ n) = ((2 ^ n : Nat) : Int) := by
  have h := pow_small hn
  have e : ((1 : Int) * 2 ^ n) = ((2 ^ n : Nat) : Int) := by simp
  rw [e]
  clear e
  generalize (2 : Nat) ^ n = q at *
  exact wrap_ok (by omega) (by omega)
theorem one_shl64 {n : Nat} (hn : n < 10) : wrap64 ((2 : Int) ^ n) = ((2 ^ n : Nat) : Int) := by
  have h := one_shl hn
  rw [Int.one_mul] at h
  rw [← h, IntKind.wrap_i64, wrap64]
/-- One bit more, in letters. -/
theorem or_bit {A k : Nat} (hA : A < 1024) (hk : k < 10) : ∃ p q : Nat, wrap64 ((2 : Int) ^ k) = (p : Int) ∧ bits .or .i64 (A : Int) (p : Int) = (q : Int) ∧ Hid (q = A ||| 2 ^ k) :=
  ⟨2 ^ k, A ||| 2 ^ k, one_shl64 hk, or_i64 A (2 ^ k) (by omega) (by have := pow_small hk; omega), rfl⟩
theorem lt_pow {n m : Nat} (h : n < 2 ^ m) (hm : m ≤ 10) : n < 1024 := Nat.lt_of_lt_of_le h (Nat.pow_le_pow_right (n := 2) (by omega) hm)
theorem and_shr {S i : Nat} (hS : S < 1024) : bits .and .i64 ((S : Int) / 2 ^ i) 1 = if S.testBit i = true then 1 else 0 := by
  have e : ((S : Int) / 2 ^ i) = ((S / 2 ^ i : Nat) : Int) := by simp
  have hq : S / 2 ^ i ≤ S := Nat.div_le_self _ _
  have e2 := and_i64 (S / 2 ^ i) 1 (by omega) (by omega)
  rw [e]
  refine Eq.trans e2 ?_
  rw [Nat.and_one_is_mod, Nat.testBit_eq_decide_div_mod_eq]
  by_cases h : S / 2 ^ i % 2 = 1
  · rw [h]; simp
  · have h0 : S / 2 ^ i % 2 = 0 := by omega
    rw [h0]; simp
theorem bit_yes {S i : Nat} (hS : S < 1024) (h : S.testBit i = true) : (bits .and .i64 ((S : Int) / 2 ^ i) 1 == 1) = true := by rw [and_shr hS, if_pos h]; rfl
theorem bit_no {S i : Nat} (hS : S < 1024) (h : S.testBit i = false) : (bits .and .i64 ((S : Int) / 2 ^ i) 1 == 1) = false := by
  rw [and_shr hS, if_neg (by rw [h]; simp)]; rfl
theorem sub_of {n A S : Nat} (hA : A < 2 ^ n) (hn : n ≤ 10) (hS : S < 1024) : subB n A S = true ↔ A &&& (18446744073709551615 - S) = 0 := by
  have ht : ∀ m, (A &&& (18446744073709551615 - S)).testBit m = (A.testBit m && (decide (m < 64) && !S.testBit m)) := fun m => by
    rw [Nat.testBit_and]
    have := Nat.testBit_two_pow_sub_succ (n := 64) (x := S) (by omega) m
    rw [show 2 ^ 64 - (S + 1) = 18446744073709551615 - S by omega] at this
    rw [this]
  unfold subB
  rw [List.all_eq_true]
  constructor
  · intro h
    apply Nat.eq_of_testBit_eq
    intro m
    rw [ht, Nat.zero_testBit]
    by_cases hm : m < n
    · have := h m (by simpa using hm)
      cases ha : A.testBit m
      · simp
      · cases hs : S.testBit m
        · rw [ha, hs] at this; cases this
        · simp
    · have : A.testBit m = false := Nat.testBit_lt_two_pow (Nat.lt_of_lt_of_le hA (Nat.pow_le_pow_right (by omega) (by omega)))
      rw [this]; rfl
  · intro h m hm
    have hm' : m < n := by simpa using hm
    have := ht m
    rw [h, Nat.zero_testBit] at this
    cases ha : A.testBit m
    · simp
    · cases hs : S.testBit m
      · rw [ha, hs, decide_eq_true (show m < 64 by omega)] at this
        cases this
      · simp
theorem not_yes {n A S : Nat} (hA : A < 2 ^ n) (hn : n ≤ 10) (hS : S < 1024) (h : subB n A S = false) : (bits .andNot .i64 (A : Int) (S : Int) != 0) = true := by
  have hA' := lt_pow hA hn
  rw [andNot_i64 A S (by omega) (by omega)]
  refine bne_iff_ne.2 (fun e => ?_)
  have := (sub_of hA hn hS).2 (by omega)
  rw [h] at this
  cases this
theorem not_no {n A S : Nat} (hA : A < 2 ^ n) (hn : n ≤ 10) (hS : S < 1024) (h : subB n A S = true) : (bits .andNot .i64 (A : Int) (S : Int) != 0) = false := by
  have hA' := lt_pow hA hn
  rw [andNot_i64 A S (by omega) (by omega), (sub_of hA hn hS).1 h]
  rfl
end Go.Proofs.Ytohngekkbgklfaa
