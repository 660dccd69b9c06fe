/-
  What the calls of Number and SetNumber of package mem give.
-/
import Derived.Test.YtdkafcgangcgbajMem
namespace Go.Proofs.Ytdkafcgangcgbaj
open Go.RowKit
set_option linter.unusedVariables false

theorem bits_u64 {n : Nat} (h : n < 18446744073709551616) : (BitVec.ofInt 64 (n : Int)).toNat = n := by
  rw [BitVec.toNat_ofInt]
  omega
theorem or_u64 {a b : Nat} (ha : a < 18446744073709551616) (hb : b < 18446744073709551616) : bits .or .u64 (a : Int) (b : Int) = ((a ||| b : Nat) : Int) := by
  show IntKind.u64.wrap ((BitVec.ofInt 64 (a : Int) ||| BitVec.ofInt 64 (b : Int)).toNat : Int) = _
  rw [BitVec.toNat_or, bits_u64 ha, bits_u64 hb]
  have : a ||| b < 2 ^ 64 := Nat.or_lt_two_pow ha hb
  have e : IntKind.u64.wrap ((a ||| b : Nat) : Int) = ((a ||| b : Nat) : Int) % 18446744073709551616 := rfl
  rw [e]
  omega
theorem shl_lt (l : List Nat) (B : Nat) (hB : B < 256) (hk : l.length < 8) : B * 2 ^ (8 * l.length) < 18446744073709551616 := by
  have hp : 2 ^ (8 * l.length) * 256 ≤ 18446744073709551616 := by
    have : 2 ^ (8 * (l.length + 1)) ≤ 2 ^ 64 := Nat.pow_le_pow_right (by decide) (by omega)
    rw [pow8] at this
    omega
  generalize 2 ^ (8 * l.length) = P at *
  have h3 : B * P ≤ 255 * P := Nat.mul_le_mul_right _ (by omega)
  by_cases h4 : P = 0
  · subst h4; omega
  · omega
theorem num_lt8 (l : List Nat) (h : AllB l) (hk : l.length ≤ 8) : num l < 18446744073709551616 := by
  have h1 := num_lt l h
  have h2 : 2 ^ (8 * l.length) ≤ 2 ^ 64 := Nat.pow_le_pow_right (by decide) (by omega)
  omega
theorem or_numU (l : List Nat) (B : Nat) (hl : AllB l) (hB : B < 256) (hk : l.length < 8) : bits .or .u64 (num l : Nat) (IntKind.u64.wrap ((B : Int) * 2 ^ (8 * l.length))) = ((num (l ++ [B]) : Nat) : Int) := by
  have e : (B : Int) * 2 ^ (8 * l.length) = ((B * 2 ^ (8 * l.length) : Nat) : Int) := by simp
  have h1 := num_lt8 l hl (by omega)
  have h2 := shl_lt l B hB hk
  have e2 : IntKind.u64.wrap ((B * 2 ^ (8 * l.length) : Nat) : Int) = ((B * 2 ^ (8 * l.length) : Nat) : Int) % 18446744073709551616 := rfl
  rw [e, e2, show ((B * 2 ^ (8 * l.length) : Nat) : Int) % 18446744073709551616 = ((B * 2 ^ (8 * l.length) : Nat) : Int) by omega, or_u64 h1 h2, num_or l B hl]
set_option maxHeartbeats 800000 in
theorem number_no (mb hb : Nat) (l : List Nat) (i : Int) (w : World) (h : MW w mb hb l) (hf : ¬ fits l.length i 8) (hi : -9223372036854775808 ≤ i ∧ i ≤ 9223372036854775807) :
    Calls Try.prog 34 #[.pointer (some ⟨mb, 0, none⟩), .int .i64 i] w fun e w' => e = .returned (.tuple #[.int .i64 0, .iface 48 (.int .i64 1)]) ∧ w = w' := by
  have HP := place_no mb hb l i 8 w h hf hi
  clear h hf
  go_enter Try.func34, Try.ntmps34
  go_wp2_with fail
  refine HP.mono ?_
  rintro e w' ⟨rfl, rfl⟩
  clear HP
  go_wp2
  go_ret2
  exact ⟨rfl, rfl⟩
/-- What Number gives of a number. -/
def numV (x : Nat) : Ending := if x ≤ 4611686018427387904 then .returned (.tuple #[.int .i64 (x : Nat), .nilIface]) else .returned (.tuple #[.int .i64 0, .iface 48 (.int .i64 1)])
set_option maxHeartbeats 800000 in
theorem number_yes (mb hb : Nat) (l : List Nat) (i : Nat) (w : World) (h : MW w mb hb l) (hf : i + 8 ≤ l.length) :
    Calls Try.prog 34 #[.pointer (some ⟨mb, 0, none⟩), .int .i64 (i : Nat)] w fun e w' => e = numV (num (cut l i 8)) ∧ w = w' := by
  have HP : Hid (Calls Try.prog 26 #[.pointer (some ⟨mb, 0, none⟩), .int .i64 (i : Nat), .int .i64 8] w fun e w' => e = .returned (.tuple #[.slice (some ⟨hb, i, none⟩) 8 (l.length - i), .nilIface]) ∧ w = w') := by
    have := place_yes mb hb l i 8 w h hf
    rw [dropA_at (by omega)] at this
    exact this
  obtain ⟨X, HX⟩ : ∃ X, Hid (X = cut l i 8) := ⟨_, rfl⟩
  have hlen : Hid (X.length = 8) := by show X.length = 8; rw [HX.out]; exact cut_len hf
  have hA : AllB X := by rw [HX.out]; exact cut_all h.all i 8
  have hcell : ∀ k, k < 8 → w.cell? ⟨hb, i + k, none⟩ = some (.int .u8 ((X[k]?.getD 0 : Nat) : Int)) := fun k hk => by
    rw [HX.out, cut_at k hk]
    exact row_cell h.row (i + k) (by omega)
  have HV : Hid (numV (num (cut l i 8)) = numV (num X)) := by show _ = _; rw [HX.out]
  rw [HV.out]
  have hX8 : Hid (num (X.take 8) = num X ∧ num X < 18446744073709551616) := ⟨by rw [List.take_of_length_le (by rw [hlen.out]; exact Nat.le_refl _)], num_lt8 X hA (by rw [hlen.out]; exact Nat.le_refl _)⟩
  clear h hf HX HV
  generalize l.length - i = LI at *
  go_enter Try.func34, Try.ntmps34
  go_wp2_with fail
  refine HP.out.mono ?_
  rintro e w' ⟨rfl, rfl⟩
  clear HP
  go_wp2
  go_loop [8, 22] (fun t j => ∃ k : Nat, k ≤ 8 ∧ j = .int .i64 k ∧ t = .int .u64 ((num (X.take k) : Nat) : Int)) (fun _ j => 8 - (intOf j).toNat)
  case atStart => exact ⟨0, by omega, rfl, rfl⟩
  case round =>
    obtain ⟨k, hk, rfl, rfl⟩ := hrel
    by_cases hlt : k < 8
    · have hck := hcell k hlt
      have hzk := hA.at k
      have HS : Hid (bits .or .u64 ((num (X.take k) : Nat) : Int) (IntKind.u64.wrap (((X[k]?.getD 0 : Nat) : Int) * 2 ^ (8 * k))) = ((num (X.take (k + 1)) : Nat) : Int)) := by
        have hl : (X.take k).length = k := by rw [List.length_take, hlen.out]; omega
        have := or_numU (X.take k) (X[k]?.getD 0) (hA.take k) hzk (by omega)
        rw [hl] at this
        rw [take_snocN X k (by rw [hlen.out]; exact hlt)]
        exact this
      generalize num (X.take k) = V at HS ⊢
      generalize X[k]?.getD 0 = B at hck hzk HS
      clear hcell
      go_wp2
      go_round
      case rel => exact ⟨k + 1, by omega, by go_num, val_int HS.out⟩
      case measure => simp [intOf]; omega
    · obtain rfl : k = 8 := by omega
      rw [hX8.out.1]
      have hlt2 := hX8.out.2
      clear hX8 hcell hA hlen
      obtain ⟨V, HVV⟩ : ∃ V, Hid (num X = V) := ⟨_, rfl⟩
      rw [HVV.out] at hlt2 ⊢
      by_cases hbig : V ≤ 4611686018427387904
      · have HV : Hid (numV V = .returned (.tuple #[.int .i64 (V : Nat), .nilIface])) := by show _ = _; unfold numV; rw [if_pos hbig]
        have hb2 : ((V : Nat) : Int) ≤ 4611686018427387904 := by omega
        go_wp2
        go_ret2
        exact ⟨by rw [HVV.out, HV.out]; rfl, rfl⟩
      · have HV : Hid (numV V = .returned (.tuple #[.int .i64 0, .iface 48 (.int .i64 1)])) := by show _ = _; unfold numV; rw [if_neg hbig]
        have hb2 : (4611686018427387904 : Int) < ((V : Nat) : Int) := by omega
        go_wp2
        go_ret2
        exact ⟨by rw [HVV.out, HV.out]; rfl, rfl⟩
set_option maxHeartbeats 800000 in
theorem set_range (i x : Int) (v : Value) (w : World) (h : x < 0 ∨ 4611686018427387904 < x) :
    Calls Try.prog 29 #[v, .int .i64 i, .int .i64 x] w fun e w' => e = .returned (.iface 48 (.int .i64 1)) ∧ w = w' := by
  rcases h with h | h
  · go_enter Try.func29, Try.ntmps29
    go_wp2
    go_ret
    exact ⟨rfl, rfl⟩
  · have h0 : ¬ x < 0 := by omega
    go_enter Try.func29, Try.ntmps29
    go_wp2
    go_ret
    exact ⟨rfl, rfl⟩
set_option maxHeartbeats 800000 in
theorem set_no (mb hb : Nat) (l : List Nat) (i : Int) (x : Nat) (w : World) (h : MW w mb hb l) (hx : x ≤ 4611686018427387904) (hf : ¬ fits l.length i 8) (hi : -9223372036854775808 ≤ i ∧ i ≤ 9223372036854775807) :
    Calls Try.prog 29 #[.pointer (some ⟨mb, 0, none⟩), .int .i64 i, .int .i64 (x : Nat)] w fun e w' => e = .returned (.iface 48 (.int .i64 1)) ∧ w = w' := by
  have HP := place_no mb hb l i 8 w h hf hi
  have h1 : (x : Int) ≤ 4611686018427387904 := by omega
  clear h hf hx
  go_enter Try.func29, Try.ntmps29
  go_wp2_with fail
  refine HP.mono ?_
  rintro e w' ⟨rfl, rfl⟩
  clear HP
  go_wp2
  go_ret
  exact ⟨rfl, rfl⟩
set_option maxHeartbeats 800000 in
theorem set_yes (mb hb : Nat) (l : List Nat) (i x : Nat) (w : World) (h : MW w mb hb l) (hx : x ≤ 4611686018427387904) (hf : i + 8 ≤ l.length) :
    Calls Try.prog 29 #[.pointer (some ⟨mb, 0, none⟩), .int .i64 (i : Nat), .int .i64 (x : Nat)] w fun e w' => e = .returned .nilIface ∧ MW w' mb hb (lay l i (low 8 x)) ∧ Keep (fun b => b = hb) w w' := by
  have HP : Hid (Calls Try.prog 26 #[.pointer (some ⟨mb, 0, none⟩), .int .i64 (i : Nat), .int .i64 8] w fun e w' => e = .returned (.tuple #[.slice (some ⟨hb, i, none⟩) 8 (l.length - i), .nilIface]) ∧ w = w') := by
    have := place_yes mb hb l i 8 w h hf
    rw [dropA_at (by omega)] at this
    exact this
  have h1 : (x : Int) ≤ 4611686018427387904 := by omega
  have H0 : Hid (Row w hb (lay l i (low 0 x)) ∧ Keep (fun b => b = hb) w w) := ⟨by show Row w hb (lay l i []); rw [lay_nil]; exact h.row, Keep.refl _ _⟩
  have HF : Hid (∀ wz, Row wz hb (lay l i (low 8 x)) → Keep (fun b => b = hb) w wz → MW wz mb hb (lay l i (low 8 x))) := fun wz hr hk => h.turn hk hr (lay_len (by rw [low_len]; exact hf)) (lay_all i h.all (low_all _ _))
  have HStep : Hid (∀ wz k, k < 8 → Row wz hb (lay l i (low k x)) → (∃ u, wz.cell? ⟨hb, i + k, none⟩ = some u) ∧ wz.frozen? ⟨hb, i + k, none⟩ = false ∧ Row (wz.setCell ⟨hb, i + k, none⟩ (.int .u8 ((x : Int) / 2 ^ (8 * k) % 256))) hb (lay l i (low (k + 1) x))) := fun wz k hk hr => by
    have hl : i + (low k x).length ≤ l.length := by rw [low_len]; omega
    refine ⟨⟨_, row_cell hr (i + k) (by rw [lay_len hl]; omega)⟩, row_free hr _, ?_⟩
    rw [low_byte]
    have e := row_set hr (i + k) (x / 2 ^ (8 * k) % 256)
    have e2 := lay_set (l := l) (xs := low k x) (i := i) (x / 2 ^ (8 * k) % 256) (by rw [low_len]; omega)
    rw [low_len] at e2
    rw [e2, ← low_snoc] at e
    exact e
  clear h hf hx
  generalize l.length - i = LI at *
  go_enter Try.func29, Try.ntmps29
  go_wp2_with fail
  refine HP.out.mono ?_
  rintro e w' ⟨rfl, rfl⟩
  clear HP
  go_wp2
  go_loopw [28] (fun j wr => ∃ k : Nat, k ≤ 8 ∧ j = .int .i64 k ∧ Hid (Row wr hb (lay l i (low k x)) ∧ Keep (fun b => b = hb) w wr)) (fun j _ => 8 - (intOf j).toNat)
  case atStart => exact ⟨0, by omega, rfl, H0.out⟩
  case round =>
    clear H0
    obtain ⟨k, hk, rfl, hr⟩ := hrel
    by_cases hlt : k < 8
    · obtain ⟨⟨u, hcu⟩, hfz, hrow⟩ := HStep.out wr k hlt hr.out.1
      have HR : Hid (Row (wr.setCell ⟨hb, i + k, none⟩ (.int .u8 ((x : Int) / 2 ^ (8 * k) % 256))) hb (lay l i (low (k + 1) x)) ∧ Keep (fun b => b = hb) w (wr.setCell ⟨hb, i + k, none⟩ (.int .u8 ((x : Int) / 2 ^ (8 * k) % 256)))) := ⟨hrow, hr.out.2.set1 _ _⟩
      clear hrow hr HStep HF
      go_wp2
      go_roundw
      case rel => exact ⟨k + 1, by omega, by go_num, HR.out⟩
      case measure => simp [intOf]; omega
    · obtain rfl : k = 8 := by omega
      have HR : Hid (MW wr mb hb (lay l i (low 8 x)) ∧ Keep (fun b => b = hb) w wr) := ⟨HF.out wr hr.out.1 hr.out.2, hr.out.2⟩
      clear hr HStep HF
      go_wp2
      go_ret
      exact ⟨rfl, HR.out⟩
end Go.Proofs.Ytdkafcgangcgbaj
