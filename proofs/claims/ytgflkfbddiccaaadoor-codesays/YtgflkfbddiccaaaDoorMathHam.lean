/-
  Plain mathematics of the check byte of a word of 64 bits: the check is linear, one turned bit is found, two are told; how many bits of a word are 1, counted as package math/bits counts. Nothing of the program is named here.
-/
import Derived.Test.YtgflkfbddiccaaaDoorMathCrc
namespace Go.Proofs.YtgflkfbddiccaaaDoor

/-- How many of the first so many bits are 1. -/
def pop : Nat → Nat → Nat
  | 0, _ => 0
  | f + 1, x => x % 2 + pop f (x / 2)
theorem pop_le : ∀ n x, pop n x ≤ n
  | 0, _ => Nat.le_refl _
  | n + 1, x => by have := pop_le n (x / 2); simp only [pop]; omega
theorem pop_xor : ∀ n a b, pop n (a ^^^ b) % 2 = (pop n a + pop n b) % 2
  | 0, _, _ => rfl
  | n + 1, a, b => by
    have ih := pop_xor n (a / 2) (b / 2)
    simp only [pop]
    rw [xor_div2, Nat.add_mod, ih, xor_mod2]
    omega
theorem pop_snoc : ∀ n x, pop (n + 1) x = pop n x + x / 2 ^ n % 2
  | 0, x => by simp [pop]
  | n + 1, x => by
    have ih := pop_snoc n (x / 2)
    have e : x / 2 / 2 ^ n = x / 2 ^ (n + 1) := by rw [Nat.div_div_eq_div_mul, Nat.pow_succ, Nat.mul_comm]
    rw [e] at ih
    show x % 2 + pop (n + 1) (x / 2) = x % 2 + pop n (x / 2) + x / 2 ^ (n + 1) % 2
    rw [ih]; omega
theorem pop_small (n m x : Nat) (h : x < 2 ^ n) : pop (n + m) x = pop n x := by
  induction m with
  | zero => rfl
  | succ m ih =>
    rw [← Nat.add_assoc, pop_snoc, ih]
    have : x / 2 ^ (n + m) = 0 := Nat.div_eq_of_lt (Nat.lt_of_lt_of_le h (Nat.pow_le_pow_right (by decide) (by omega)))
    rw [this]; rfl

def placesL : List Nat := [3, 5, 6, 7, 9, 10, 11, 12, 13, 14, 15, 17, 18, 19, 20, 21, 22, 23, 24, 25, 26, 27, 28, 29, 30, 31, 33, 34, 35, 36, 37, 38, 39, 40, 41, 42, 43, 44, 45, 46, 47, 48, 49, 50, 51, 52, 53, 54, 55, 56, 57, 58, 59, 60, 61, 62, 63, 65, 66, 67, 68, 69, 70, 71]
def placeAt (k : Nat) : Nat := placesL[k]?.getD 0
/-- What a bit of the word puts into the check. -/
def sig (k : Nat) : Nat := placeAt k + 128 * ((1 + pop 8 (placeAt k)) % 2)
def psum (x : Nat) : Nat → Nat
  | 0 => 0
  | k + 1 => if x / 2 ^ k % 2 = 1 then psum x k ^^^ placeAt k else psum x k
def csum (x : Nat) : Nat → Nat
  | 0 => 0
  | k + 1 => if x / 2 ^ k % 2 = 1 then csum x k ^^^ sig k else csum x k
def chk (x : Nat) : Nat := csum x 64

theorem placeAt_lt (k : Nat) : placeAt k < 128 := by
  by_cases h : k < 64
  · have : ∀ k : Fin 64, placeAt k < 128 := by decide +kernel
    exact this ⟨k, h⟩
  · unfold placeAt
    rw [List.getElem?_eq_none (show placesL.length ≤ k from by simp [placesL]; omega)]; decide
theorem sig_lt (k : Nat) : sig k < 256 := by have := placeAt_lt k; unfold sig; omega
theorem psum_lt (x : Nat) : ∀ k, psum x k < 128
  | 0 => by simp [psum]
  | k + 1 => by
    simp only [psum]
    split
    · exact Nat.xor_lt_two_pow (n := 7) (psum_lt x k) (placeAt_lt k)
    · exact psum_lt x k
theorem csum_lt (x : Nat) : ∀ k, csum x k < 256
  | 0 => by simp [csum]
  | k + 1 => by
    simp only [csum]
    split
    · exact Nat.xor_lt_two_pow (n := 8) (csum_lt x k) (sig_lt k)
    · exact csum_lt x k
theorem chk_lt (x : Nat) : chk x < 256 := csum_lt x 64
theorem xor_mod128 (a b : Nat) : (a ^^^ b) % 128 = a % 128 ^^^ b % 128 := Nat.xor_mod_two_pow (n := 7)
theorem xor_div128 (a b : Nat) : (a ^^^ b) / 128 = a / 128 ^^^ b / 128 := Nat.xor_div_two_pow (n := 7)
theorem csum_mod (x : Nat) : ∀ k, csum x k % 128 = psum x k
  | 0 => rfl
  | k + 1 => by
    have ih := csum_mod x k
    have hp := placeAt_lt k
    simp only [csum, psum]
    split
    · rw [xor_mod128, ih]; congr 1; unfold sig; omega
    · exact ih
theorem xor_bit (a b : Nat) (ha : a < 2) (hb : b < 2) : a ^^^ b = (a + b) % 2 := by
  rcases (by omega : a = 0 ∨ a = 1) with rfl | rfl <;> rcases (by omega : b = 0 ∨ b = 1) with rfl | rfl <;> rfl
theorem csum_div (x : Nat) : ∀ k, csum x k / 128 = (pop k x + pop 8 (psum x k)) % 2
  | 0 => by simp [csum, psum, pop]
  | k + 1 => by
    have ih := csum_div x k
    have hp := placeAt_lt k
    rw [pop_snoc]
    simp only [csum, psum]
    split
    · rename_i h
      have hc := csum_lt x k
      have hs := sig_lt k
      rw [xor_div128, xor_bit _ _ (by omega) (by omega), ih, h]
      have e := pop_xor 8 (psum x k) (placeAt k)
      have es : sig k / 128 = (1 + pop 8 (placeAt k)) % 2 := by unfold sig; omega
      rw [es]
      omega
    · rename_i h
      have : x / 2 ^ k % 2 = 0 := by omega
      rw [this, ih]; rfl
theorem chk_eq (x : Nat) : chk x = psum x 64 + 128 * ((pop 64 x + pop 8 (psum x 64)) % 2) := by
  have h1 := csum_mod x 64
  have h2 := csum_div x 64
  unfold chk
  omega
theorem pop8_split : ∀ y : Fin 256, pop 8 y.val = pop 8 (y.val % 128) + y.val / 128 := by decide +kernel
theorem pop_chk (x : Nat) : pop 8 (chk x) % 2 = pop 64 x % 2 := by
  have h := pop8_split ⟨chk x, chk_lt x⟩
  simp only at h
  have h1 := csum_mod x 64
  have h2 := csum_div x 64
  rw [h]
  unfold chk
  rw [h1, h2]
  omega
theorem xor_bitk (x y k : Nat) : (x ^^^ y) / 2 ^ k % 2 = (x / 2 ^ k % 2 + y / 2 ^ k % 2) % 2 := by
  rw [Nat.xor_div_two_pow, xor_mod2]
theorem csum_xor (x y : Nat) : ∀ k, csum (x ^^^ y) k = csum x k ^^^ csum y k
  | 0 => by simp [csum]
  | k + 1 => by
    have ih := csum_xor x y k
    simp only [csum]
    rw [xor_bitk, ih]
    rcases Nat.mod_two_eq_zero_or_one (x / 2 ^ k) with ha | ha <;> rcases Nat.mod_two_eq_zero_or_one (y / 2 ^ k) with hb | hb <;> simp [ha, hb]
    · rw [Nat.xor_assoc]
    · rw [Nat.xor_assoc, Nat.xor_comm (csum y k), Nat.xor_assoc]
    · rw [Nat.xor_assoc, ← Nat.xor_assoc (sig k), Nat.xor_comm (sig k) (csum y k), Nat.xor_assoc, Nat.xor_self, Nat.xor_zero]
theorem chk_xor (x y : Nat) : chk (x ^^^ y) = chk x ^^^ chk y := csum_xor x y 64
theorem chk_pow : ∀ i : Fin 64, chk (2 ^ i.val) = sig i.val := by decide +kernel
theorem chk_turn (x i : Nat) (h : i < 64) : chk (x ^^^ 2 ^ i) = chk x ^^^ sig i := by rw [chk_xor, chk_pow ⟨i, h⟩]

/-- The bit whose place is m. -/
def idxOf (m : Nat) : Option Nat := (List.range 64).find? fun k => placeAt k == m
theorem idxOf_at {k m : Nat} (h : k < 64) (e : placeAt k = m) : idxOf m = some k := by
  have : ∀ k : Fin 64, idxOf (placeAt k) = some k.val := by decide +kernel
  rw [← e]; exact this ⟨k, h⟩
theorem idxOf_none {m : Nat} (h : ∀ j, j < 64 → placeAt j ≠ m) : idxOf m = none := by
  unfold idxOf
  rw [List.find?_eq_none]
  intro k hk
  simp at hk ⊢
  exact h k hk
theorem idxOf_lt {m k : Nat} (h : idxOf m = some k) : k < 64 := by
  have := List.mem_of_find?_eq_some h
  simpa using this

/-- What a word was whose check parts from the right one by d, and how many bits were turned. -/
def mendD (x d : Nat) : Option (Nat × Nat) :=
  if pop 8 d % 2 = 0 then if d % 128 = 0 then some (x, 0) else none
  else if pop 8 (d % 128) ≤ 1 then some (x, 1)
  else match idxOf (d % 128) with
    | some i => some (x ^^^ 2 ^ i, 1)
    | none => none
theorem mendD_right (x : Nat) : mendD x 0 = some (x, 0) := rfl
theorem xor_swap3 (a b : Nat) : a ^^^ b ^^^ a = b := by rw [Nat.xor_comm a b, Nat.xor_assoc, Nat.xor_self, Nat.xor_zero]
theorem sig_odd : ∀ i : Fin 64, pop 8 (sig i.val) % 2 = 1 ∧ ¬ pop 8 (sig i.val % 128) ≤ 1 ∧ sig i.val % 128 = placeAt i.val := by decide +kernel
/-- One bit of the word was turned. -/
theorem mendD_word (x i : Nat) (h : i < 64) : mendD (x ^^^ 2 ^ i) (chk (x ^^^ 2 ^ i) ^^^ chk x) = some (x, 1) := by
  rw [chk_turn x i h, xor_swap3]
  obtain ⟨h1, h2, h3⟩ := sig_odd ⟨i, h⟩
  simp only at h1 h2 h3
  unfold mendD
  rw [if_neg (by omega), if_neg h2, h3, idxOf_at h rfl]
  simp [Nat.xor_assoc, Nat.xor_self]
theorem pow_odd : ∀ j : Fin 8, pop 8 (2 ^ j.val) % 2 = 1 ∧ pop 8 (2 ^ j.val % 128) ≤ 1 := by decide +kernel
/-- One bit of the check was turned. -/
theorem mendD_check (x j : Nat) (h : j < 8) : mendD x (chk x ^^^ (chk x ^^^ 2 ^ j)) = some (x, 1) := by
  rw [← Nat.xor_assoc, Nat.xor_self, Nat.zero_xor]
  obtain ⟨h1, h2⟩ := pow_odd ⟨j, h⟩
  simp only at h1 h2
  unfold mendD
  rw [if_neg (by omega), if_pos h2]

/-- What a bit of word and check puts into what parts: the first 64 are the word's. -/
def sig72 (k : Nat) : Nat := if k < 64 then sig k else 2 ^ (k - 64)
theorem sig72_two : ∀ i k : Fin 72, i ≠ k → pop 8 (sig72 i.val ^^^ sig72 k.val) % 2 = 0 ∧ ¬ (sig72 i.val ^^^ sig72 k.val) % 128 = 0 := by decide +kernel
theorem mendD_two (x i k : Nat) (hi : i < 72) (hk : k < 72) (hne : i ≠ k) : mendD x (sig72 i ^^^ sig72 k) = none := by
  obtain ⟨h1, h2⟩ := sig72_two ⟨i, hi⟩ ⟨k, hk⟩ (by simpa using hne)
  simp only at h1 h2
  unfold mendD
  rw [if_pos h1, if_neg h2]

end Go.Proofs.YtgflkfbddiccaaaDoor
