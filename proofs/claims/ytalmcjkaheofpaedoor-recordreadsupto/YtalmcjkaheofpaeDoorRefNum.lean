/-
  What the call of granaryref1.numberAt gives: the number that stands at a place and where it ends; -1, where there is none.
-/
import Derived.Test.YtalmcjkaheofpaeDoorRefB
namespace Go.Proofs.YtalmcjkaheofpaeDoor
open Go.RowKit
set_option linter.unusedVariables false

/-- What numberAt gives. -/
def NAPost (e : Ending) (bs : List Nat) (p : Nat) : Prop :=
  (∃ v k, rnum (bs.drop p) = some (v, k) ∧ p + k ≤ bs.length ∧ v ≤ mx ∧ e = .returned (.tuple #[.int .i64 (v : Nat), .int .i64 ((p + k : Nat) : Int)])) ∨ (rnum (bs.drop p) = none ∧ e = .returned (.tuple #[.int .i64 0, .int .i64 (-1)]))
theorem add_step {n B k : Nat} (hn : n < 2 ^ (7 * k)) (hk : k < 9) : wrap64 ((B : Int) % 128 * 2 ^ (7 * k)) = ((B % 128 * 2 ^ (7 * k) : Nat) : Int) := by
  have hP : 2 ^ (7 * k) ≤ 2 ^ 56 := Nat.pow_le_pow_right (by decide) (by omega)
  rw [show 2 ^ 56 = 72057594037927936 by decide] at hP
  have e1 : (B : Int) % 128 * 2 ^ (7 * k) = ((B % 128 * 2 ^ (7 * k) : Nat) : Int) := by simp
  have hm : B % 128 * 2 ^ (7 * k) ≤ 127 * 72057594037927936 := Nat.mul_le_mul (by omega) hP
  rw [e1]
  generalize B % 128 * 2 ^ (7 * k) = Z at hm
  simp only [wrap64]
  omega
theorem add_step2 {n B k : Nat} (hn : n < 2 ^ (7 * k)) (hk : k < 9) (hM : n + B % 128 * 2 ^ (7 * k) < 9223372036854775808) : wrap64 ((n : Int) + wrap64 ((B : Int) % 128 * 2 ^ (7 * k))) = ((n + B % 128 * 2 ^ (7 * k) : Nat) : Int) := by
  rw [add_step hn hk]
  generalize B % 128 * 2 ^ (7 * k) = Z at hM
  simp only [wrap64]
  omega
structure NS (bs : List Nat) (p k n : Nat) : Prop where
  eq : rnum (bs.drop p) = rnumF (9 - k) k n (bs.drop (p + k))
  lt : n < 2 ^ (7 * k)
theorem NS.step {bs : List Nat} {p k n : Nat} (h : NS bs p k n) (hk : k < 9) (hp : p + k < bs.length) :
    rnum (bs.drop p) = if 128 ≤ bs[p + k]?.getD 0 then rnumF (9 - (k + 1)) (k + 1) (n + bs[p + k]?.getD 0 % 128 * 2 ^ (7 * k)) (bs.drop (p + (k + 1))) else if (bs[p + k]?.getD 0 = 0 ∧ 0 < k) ∨ mx < n + bs[p + k]?.getD 0 % 128 * 2 ^ (7 * k) then none else some (n + bs[p + k]?.getD 0 % 128 * 2 ^ (7 * k), k + 1) := by
  rw [h.eq, drop_at bs (p + k) hp, show 9 - k = (9 - (k + 1)) + 1 by omega, rnumF_step]
  rfl
set_option maxRecDepth 20000 in
set_option maxHeartbeats 1600000 in
theorem numberAt_any (da : Option Addr) (bs : List Nat) (cap p : Nat) (w : World) (hL : Lies w da bs) (ha : AllB bs) (hl : bs.length ≤ 1073741824) (hp : p ≤ bs.length) :
    Calls Tryd.prog 22 #[.slice da bs.length cap, .int .i64 p] w fun e w' => NAPost e bs p ∧ w = w' := by
  have HA : Hid (AllB bs) := ha
  have HLi : Hid (Lies w da bs) := hL
  have H0 : Hid (NS bs p 0 0) := ⟨rfl, by decide⟩
  clear ha hL
  go_enter Tryd.func22, Tryd.ntmps22
  go_wp2
  go_loop [6, 7] (fun t j => ∃ k n : Nat, k ≤ 9 ∧ p + k ≤ bs.length ∧ j = .int .i64 k ∧ t = .int .i64 n ∧ Hid (NS bs p k n)) (fun _ j => 9 - (intOf j).toNat)
  case atStart => exact ⟨0, 0, by omega, by omega, rfl, rfl, H0⟩
  case round =>
    clear H0
    obtain ⟨k, n, hk, hpk, rfl, rfl, hr⟩ := hrel
    by_cases hlt : k < 9
    · by_cases hpl : p + k < bs.length
      · obtain hno | ⟨b, off, rfl, hc⟩ := HLi.out
        · rw [hno] at hpl; simp at hpl
        have hck := hc (p + k) hpl
        have hB := HA.out.at (p + k)
        have HS : Hid (_ = _) := hr.out.step hlt hpl
        have HL : Hid (_ < _) := @step_lt n (bs[p + k]?.getD 0) k hr.out.lt
        have hM : n + bs[p + k]?.getD 0 % 128 * 2 ^ (7 * k) < 9223372036854775808 := by
          have h1 := @step_lt n (bs[p + k]?.getD 0) k hr.out.lt
          have h2 : 2 ^ (7 * (k + 1)) ≤ 2 ^ 63 := Nat.pow_le_pow_right (by decide) (by omega)
          omega
        have HO : Hid (_ = _) := @add_step2 n (bs[p + k]?.getD 0) k hr.out.lt hlt hM
        clear hc hr HLi
        generalize bs[p + k]?.getD 0 = B at hck hB HS HO HL hM
        go_upto_region 9 with fail
        rw [HO.out]
        clear HO
        generalize n + B % 128 * 2 ^ (7 * k) = M at hM HS HL ⊢
        have HNo : Hid (rnum (bs.drop p) = none → NAPost (.returned (.tuple #[.int .i64 0, .int .i64 (-1)])) bs p) := fun e => Or.inr ⟨e, rfl⟩
        have HYes : Hid (rnum (bs.drop p) = some (M, k + 1) → NAPost (.returned (.tuple #[.int .i64 (M : Nat), .int .i64 ((p : Int) + (k : Int) + 1)])) bs p) := fun e => Or.inl ⟨M, k + 1, e, by omega, (rnum_back (HA.out.drop p) e).1, rfl⟩
        by_cases hb : 128 ≤ B
        · have hb' : (128 : Int) ≤ (B : Int) := by omega
          go_wp2
          go_round
          case rel => exact ⟨k + 1, M, by omega, by omega, by go_num, rfl, ⟨by rw [HS.out, if_pos hb], HL.out⟩⟩
          case measure => simp [intOf]; omega
        · have hb' : (B : Int) < (128 : Int) := by omega
          by_cases hbad : (B = 0 ∧ 0 < k) ∨ mx < M
          · have HP : Hid (NAPost (.returned (.tuple #[.int .i64 0, .int .i64 (-1)])) bs p) := HNo.out (by rw [HS.out, if_neg hb, if_pos hbad])
            clear HS HNo HYes
            rcases hbad with ⟨h1, h2⟩ | h1
            · subst h1
              go_wp2
              go_ret2
              exact ⟨HP.out, rfl⟩
            · have h1' : (4611686018427387904 : Int) < (M : Int) := by have := h1; unfold mx at this; omega
              clear h1
              by_cases h0 : B = 0
              · subst h0
                by_cases hk0 : 0 < k
                · go_wp2
                  go_ret2
                  exact ⟨HP.out, rfl⟩
                · go_wp2
                  go_ret2
                  exact ⟨HP.out, rfl⟩
              · have hB0 : ((B : Int) == 0) = false := by rw [beq_eq_false_iff_ne]; omega
                clear h0
                go_wp2
                go_ret2
                exact ⟨HP.out, rfl⟩
          · have HP : Hid (NAPost (.returned (.tuple #[.int .i64 (M : Nat), .int .i64 ((p : Int) + (k : Int) + 1)])) bs p) := HYes.out (by rw [HS.out, if_neg hb, if_neg hbad])
            have h1 : (M : Int) ≤ (4611686018427387904 : Int) := by
              have : ¬ mx < M := fun e => hbad (Or.inr e)
              unfold mx at this; omega
            have h2 : B = 0 → k = 0 := fun e => by
              by_cases hk0 : k = 0
              · exact hk0
              · exact absurd (Or.inl ⟨e, by omega⟩) hbad
            clear HS HNo HYes hbad
            by_cases h0 : B = 0
            · obtain rfl := h2 h0
              subst h0
              clear h2
              go_wp2
              go_ret2
              exact ⟨HP.out, rfl⟩
            · clear h2
              have hB0 : ((B : Int) == 0) = false := by rw [beq_eq_false_iff_ne]; omega
              clear h0
              go_wp2
              go_ret2
              exact ⟨HP.out, rfl⟩
      · have HP : Hid (NAPost (.returned (.tuple #[.int .i64 0, .int .i64 (-1)])) bs p) := by
          refine Or.inr ⟨?_, rfl⟩
          rw [hr.out.eq, show 9 - k = (9 - (k + 1)) + 1 by omega, List.drop_eq_nil_of_le (by omega)]
          rfl
        have hge : ((bs.length : Nat) : Int) ≤ (p : Int) + (k : Int) := by omega
        clear hr
        go_wp2
        go_ret2
        exact ⟨HP.out, rfl⟩
    · obtain rfl : k = 9 := by omega
      have HP : Hid (NAPost (.returned (.tuple #[.int .i64 0, .int .i64 (-1)])) bs p) := Or.inr ⟨by rw [hr.out.eq]; rfl, rfl⟩
      clear hr
      go_wp2
      go_ret2
      exact ⟨HP.out, rfl⟩
end Go.Proofs.YtalmcjkaheofpaeDoor
