/-
  What the law MemNumbers gives: true, whatever the numbers.
-/
import Derived.Test.YtgeigfgmokikcaiNum
namespace Go.Proofs.Ytgeigfgmokikcai
open Go.RowKit
set_option linter.unusedVariables false

theorem fits_nat {L : Nat} {i : Int} {n : Nat} (h : fits L i (n : Nat)) : ∃ k : Nat, i = (k : Int) ∧ k + n ≤ L := by
  obtain ⟨h1, h2, h3⟩ := h
  obtain ⟨k, rfl⟩ := Int.eq_ofNat_of_zero_le h1
  exact ⟨k, rfl, by omega⟩
theorem num_zero : ∀ n, num (List.replicate n 0) = 0
  | 0 => rfl
  | n + 1 => by rw [List.replicate_succ]; show 0 + 256 * num (List.replicate n 0) = 0; rw [num_zero n]
theorem cut_zero (n i k : Nat) : ∃ m, cut (List.replicate n 0) i k = List.replicate m 0 := by
  unfold cut
  rw [List.drop_replicate, List.take_replicate]
  exact ⟨_, rfl⟩
theorem numbers_bad (n a x : Int) (w : World) (h : n < 0 ∨ 16384 < n) :
    Calls Try.prog 4 #[.int .i64 n, .int .i64 a, .int .i64 x] w fun e w' => e = .returned (.bool true) ∧ Below w.heap.size w w' := by
  have HP := new_bad n w h
  rcases h with h | h
  · go_enter Try.func4, Try.ntmps4
    go_wp2_with fail
    refine HP.mono ?_
    rintro e w' ⟨rfl, rfl⟩
    clear HP
    go_wp2
    go_ret
    exact ⟨rfl, Below.refl _ _⟩
  · have h0 : ¬ n < 0 := by omega
    go_enter Try.func4, Try.ntmps4
    go_wp2_with fail
    refine HP.mono ?_
    rintro e w' ⟨rfl, rfl⟩
    clear HP
    go_wp2
    go_ret
    exact ⟨rfl, Below.refl _ _⟩
/-- What Number tells of noughts. -/
theorem number_zero (mb hb n : Nat) (i : Int) (w : World) (h : MW w mb hb (List.replicate n 0)) (hi : -9223372036854775808 ≤ i ∧ i ≤ 9223372036854775807) :
    Calls Try.prog 10 #[.pointer (some ⟨mb, 0, none⟩), .int .i64 i] w fun e w' => (∃ er, e = .returned (.tuple #[.int .i64 0, er]) ∧ (er = .nilIface ∨ er = .iface 37 (.int .i64 1))) ∧ w = w' := by
  by_cases hf : fits (List.replicate n 0).length i ((8 : Nat) : Int)
  · obtain ⟨k, rfl, hk⟩ := fits_nat hf
    refine (number_yes mb hb _ k w h hk).mono ?_
    rintro e w' ⟨rfl, rfl⟩
    obtain ⟨m, hm⟩ := cut_zero n k 8
    rw [hm, num_zero]
    exact ⟨⟨.nilIface, rfl, Or.inl rfl⟩, rfl⟩
  · refine (number_no mb hb _ i w h hf hi).mono ?_
    rintro e w' ⟨rfl, rfl⟩
    exact ⟨⟨_, rfl, Or.inr rfl⟩, rfl⟩
set_option maxRecDepth 20000 in
set_option maxHeartbeats 800000 in
/-- SetNumber was refused. -/
theorem numbers_no (n : Nat) (a x : Int) (w : World) (h : n ≤ 16384) (hi : -9223372036854775808 ≤ a ∧ a ≤ 9223372036854775807) (hno : x < 0 ∨ 4611686018427387904 < x ∨ ¬ fits n a 8) :
    Calls Try.prog 4 #[.int .i64 (n : Nat), .int .i64 a, .int .i64 x] w fun e w' => e = .returned (.bool true) ∧ Below w.heap.size w w' := by
  have HN : Hid (Calls Try.prog 5 #[.int .i64 n] w fun e w' => NewPost w w' e n) := new_yes n w h
  have HS : Hid (∀ wz mb hb, MW wz mb hb (List.replicate n 0) → Calls Try.prog 9 #[.pointer (some ⟨mb, 0, none⟩), .int .i64 a, .int .i64 x] wz fun e w' => e = .returned (.iface 37 (.int .i64 1)) ∧ wz = w') := fun wz mb hb hm => by
    by_cases hx : x < 0 ∨ 4611686018427387904 < x
    · exact set_range a x _ wz hx
    · obtain ⟨y, rfl⟩ := Int.eq_ofNat_of_zero_le (show 0 ≤ x by omega)
      exact set_no mb hb _ a y wz hm (by omega) (by rw [List.length_replicate]; exact ((hno.resolve_left (fun e => hx (Or.inl e))).resolve_left (fun e => hx (Or.inr e)))) hi
  have HZ : Hid (∀ wz mb hb, MW wz mb hb (List.replicate n 0) → Calls Try.prog 10 #[.pointer (some ⟨mb, 0, none⟩), .int .i64 a] wz fun e w' => (∃ er, e = .returned (.tuple #[.int .i64 0, er]) ∧ (er = .nilIface ∨ er = .iface 37 (.int .i64 1))) ∧ wz = w') := fun wz mb hb hm => number_zero mb hb n a wz hm hi
  clear h hno hi
  go_enter Try.func4, Try.ntmps4
  go_wp2_with fail
  refine HN.out.mono ?_
  rintro e w1 ⟨mb, hb, rfl, hm, b1, _, _⟩
  have HB : Hid (MW w1 mb hb (List.replicate n 0) ∧ Below w.heap.size w w1) := ⟨hm, b1⟩
  clear hm b1 HN
  go_wp2_with fail
  refine (HS.out w1 mb hb HB.out.1).mono ?_
  rintro e w2 ⟨rfl, rfl⟩
  go_wp2_with fail
  refine (HZ.out w1 mb hb HB.out.1).mono ?_
  rintro e w2 ⟨⟨er, rfl, rfl | rfl⟩, rfl⟩
  · clear HS HZ
    go_wp2
    go_ret
    exact ⟨rfl, HB.out.2⟩
  · clear HS HZ
    go_wp2
    go_ret
    exact ⟨rfl, HB.out.2⟩
set_option maxRecDepth 20000 in
set_option maxHeartbeats 800000 in
theorem numbers_yes (n a x : Nat) (w : World) (h : n ≤ 16384) (hx : x ≤ 4611686018427387904) (hf : a + 8 ≤ n) :
    Calls Try.prog 4 #[.int .i64 (n : Nat), .int .i64 (a : Nat), .int .i64 (x : Nat)] w fun e w' => e = .returned (.bool true) ∧ Below w.heap.size w w' := by
  have HN : Hid (Calls Try.prog 5 #[.int .i64 n] w fun e w' => NewPost w w' e n) := new_yes n w h
  have hl : a + 8 ≤ (List.replicate n 0).length := by rw [List.length_replicate]; exact hf
  obtain ⟨Y, HY⟩ : ∃ Y, Hid (Y = lay (List.replicate n 0) a (low 8 x)) := ⟨_, rfl⟩
  have hYl : a + 8 ≤ Y.length := by rw [HY.out, lay_len (by rw [low_len]; exact hl)]; exact hl
  have hcut : cut Y a 8 = low 8 x := by
    have := lay_cut (l := List.replicate n 0) (i := a) (xs := low 8 x) (by rw [low_len]; exact hl)
    rw [low_len] at this
    rw [HY.out]
    exact this
  have HS : Hid (∀ wz mb hb, MW wz mb hb (List.replicate n 0) → Calls Try.prog 9 #[.pointer (some ⟨mb, 0, none⟩), .int .i64 (a : Nat), .int .i64 (x : Nat)] wz fun e w' => e = .returned .nilIface ∧ MW w' mb hb Y ∧ Keep (fun b => b = hb) wz w') := fun wz mb hb hm => by
    rw [HY.out]
    exact set_yes mb hb _ a x wz hm hx hl
  have HZ : Hid (∀ wz mb hb, MW wz mb hb Y → Calls Try.prog 10 #[.pointer (some ⟨mb, 0, none⟩), .int .i64 (a : Nat)] wz fun e w' => e = .returned (.tuple #[.int .i64 (x : Nat), .nilIface]) ∧ wz = w') := fun wz mb hb hm => by
    have := number_yes mb hb Y a wz hm hYl
    rw [hcut, num_low 8 x (by omega)] at this
    unfold numV at this
    rw [if_pos hx] at this
    exact this
  have HR : Hid (∀ wz mb hb, MW wz mb hb Y → Calls Try.prog 7 #[.pointer (some ⟨mb, 0, none⟩), .int .i64 (a : Nat), .int .i64 8] wz fun e w' => ∃ g c, e = .returned (.tuple #[.slice (some ⟨g, 0, none⟩) 8 c, .nilIface]) ∧ (∀ k, k < 8 → w'.cell? ⟨g, k, none⟩ = some (.int .u8 ((x / 2 ^ (8 * k) % 256 : Nat) : Int))) ∧ Below wz.heap.size wz w') := fun wz mb hb hm => by
    refine (read_yes mb hb Y a 8 wz hm hYl).mono ?_
    rintro e w' ⟨a1, c1, rfl, o1, b1⟩
    rw [hcut] at o1 ⊢
    rw [low_len]
    rcases o1.lies with h0 | ⟨g, off, ha, hc⟩
    · have := congrArg List.length h0
      rw [low_len] at this
      simp at this
    · rcases o1.parts with ⟨h0, _, _⟩ | ⟨g', cur, ha', _⟩
      · rw [h0] at ha; cases ha
      · rw [ha'] at ha
        cases ha
        subst ha'
        refine ⟨g, c1, rfl, fun k hk => ?_, b1⟩
        have := hc k (by rw [low_len]; exact hk)
        rw [low_at 8 x k hk, Nat.zero_add] at this
        exact this
  have HX : Hid (x / 2 ^ (8 * 0) = x) := by show _ = _; simp
  have HD : Hid (∀ k, x / 2 ^ (8 * k) / 256 = x / 2 ^ (8 * (k + 1))) := fun k => by rw [Nat.div_div_eq_div_mul, pow8, Nat.mul_comm]
  have HD2 : Hid (∀ k, x / 2 ^ (8 * k) ≤ x) := fun k => Nat.div_le_self _ _
  clear h hf hl HY hYl hcut
  go_enter Try.func4, Try.ntmps4
  go_wp2_with fail
  refine HN.out.mono ?_
  rintro e w1 ⟨mb, hb, rfl, hm, b1, g1, g2⟩
  have HB1 : Hid (MW w1 mb hb (List.replicate n 0) ∧ Below w.heap.size w w1 ∧ w.heap.size ≤ hb) := ⟨hm, b1, g2⟩
  clear hm b1 HN g1 g2
  go_wp2_with fail
  refine (HS.out w1 mb hb HB1.out.1).mono ?_
  rintro e w2 ⟨rfl, m2, k2⟩
  have HB2 : Hid (MW w2 mb hb Y ∧ Below w.heap.size w w2) := ⟨m2, HB1.out.2.1.trans (k2.below HB1.out.2.1.size (fun k hk => by rw [hk]; exact HB1.out.2.2))⟩
  clear m2 k2 HB1 HS
  go_wp2_with fail
  refine (HZ.out w2 mb hb HB2.out.1).mono ?_
  rintro e w3 ⟨rfl, rfl⟩
  clear HZ
  go_wp2_with fail
  refine (HR.out w2 mb hb HB2.out.1).mono ?_
  rintro e w3 ⟨g, c, rfl, hc, b3⟩
  have HB3 : Hid (Below w.heap.size w w3) := HB2.out.2.trans (b3.mono HB2.out.2.size)
  have HC : Hid (∀ k, k < 8 → w3.cell? ⟨g, k, none⟩ = some (.int .u8 ((x / 2 ^ (8 * k) % 256 : Nat) : Int))) := hc
  clear HR HB2 b3 hc
  go_wp2
  go_loop [2, 14] (fun t j => ∃ k X : Nat, k ≤ 8 ∧ j = .int .i64 k ∧ t = .int .i64 (X : Nat) ∧ Hid (X = x / 2 ^ (8 * k))) (fun _ j => 8 - (intOf j).toNat)
  case atStart => exact ⟨0, x, by omega, rfl, rfl, HX.out.symm⟩
  case round =>
    obtain ⟨k, X, hk, rfl, rfl, hX⟩ := hrel
    by_cases hlt : k < 8
    · have hck := HC.out k hlt
      rw [← hX.out] at hck
      have hXx : X ≤ 4611686018427387904 := by rw [hX.out]; exact Nat.le_trans (HD2.out k) hx
      have HX2 : Hid (X / 256 = x / 2 ^ (8 * (k + 1))) := by show _ = _; rw [hX.out]; exact HD.out k
      have ht : (((X % 256 : Nat) : Int) != ((X : Nat) : Int) % 256) = false := by simp
      clear hX HX HD HD2 HC
      go_wp2
      go_round
      case rel => exact ⟨k + 1, X / 256, by omega, by go_num, by go_num, HX2.out⟩
      case measure => simp [intOf]; omega
    · obtain rfl : k = 8 := by omega
      go_wp2
      go_ret
      exact ⟨rfl, HB3.out⟩
theorem numbers_any (n a x : Int) (w : World) (hi : -9223372036854775808 ≤ a ∧ a ≤ 9223372036854775807) :
    Calls Try.prog 4 #[.int .i64 n, .int .i64 a, .int .i64 x] w fun e w' => e = .returned (.bool true) ∧ Below w.heap.size w w' := by
  by_cases h : n < 0 ∨ 16384 < n
  · exact numbers_bad n a x w h
  · obtain ⟨m, rfl⟩ := Int.eq_ofNat_of_zero_le (show 0 ≤ n by omega)
    by_cases hno : x < 0 ∨ 4611686018427387904 < x ∨ ¬ fits m a 8
    · exact numbers_no m a x w (by omega) hi hno
    · obtain ⟨y, rfl⟩ := Int.eq_ofNat_of_zero_le (show 0 ≤ x by omega)
      have hf : fits m a ((8 : Nat) : Int) := Classical.not_not.1 (fun e => hno (Or.inr (Or.inr e)))
      obtain ⟨k, rfl, hk⟩ := fits_nat hf
      exact numbers_yes m k y w (by omega) (by omega) hk
end Go.Proofs.Ytgeigfgmokikcai
