/-
  The walk of granarylaw1.CodeTells: it returns true, and nothing that was there has turned.
-/
import Derived.Test.YtgflkfbddiccaaaDoorTold
import Derived.Test.YtgflkfbddiccaaaDoorFact
namespace Go.Proofs.YtgflkfbddiccaaaDoor
open Go.RowKit
set_option linter.unusedVariables false

theorem lies_take {w : World} {b off : Nat} {bs : List Nat} (h : Lies w (some ⟨b, off, none⟩) bs) (n : Nat) : Lies w (some ⟨b, off, none⟩) (bs.take n) := by
  rcases h with rfl | ⟨b', off', hbo, hc⟩
  · exact Or.inl (by simp)
  · cases hbo
    refine Or.inr ⟨b, off, rfl, fun i hi => ?_⟩
    have hi' : i < n ∧ i < bs.length := by rw [List.length_take] at hi; omega
    rw [hc i hi'.2, List.getElem?_take, if_pos hi'.1]
/-- One word and its check, which part by d. -/
def Dist (xs ys : List Nat) (d : Nat) : Prop := AllB xs ∧ AllB ys ∧ xs.length = 8 ∧ ys.length = 1 ∧ chk (wordN xs 0) ^^^ ys[0]?.getD 0 = d
theorem dist_word {xs ys : List Nat} {d K : Nat} (h : Dist xs ys d) (hK : K < 64) : Dist (turnB xs (K / 8) (K % 8)) ys (d ^^^ sig72 K) := by
  obtain ⟨h1, h2, h3, h4, h5⟩ := h
  refine ⟨turnB_all h1 _ _ (by omega), h2, by rw [turnB_len, h3], h4, ?_⟩
  have e := wordN_turn h1 (K / 8) (K % 8) (by omega) (by omega)
  have e0 : K / 8 / 8 = 0 := by omega
  have e1 : 8 * (K / 8 % 8) + K % 8 = K := by omega
  rw [e0, e1] at e
  rw [e, chk_turn _ _ hK]
  unfold sig72
  rw [if_pos hK, ← h5, Nat.xor_assoc, Nat.xor_comm (sig K), ← Nat.xor_assoc]
theorem dist_check {xs ys : List Nat} {d K : Nat} (h : Dist xs ys d) (hK : 64 ≤ K) (hK2 : K < 72) : Dist xs (turnB ys ((K - 64) / 8) ((K - 64) % 8)) (d ^^^ sig72 K) := by
  obtain ⟨h1, h2, h3, h4, h5⟩ := h
  refine ⟨h1, turnB_all h2 _ _ (by omega), h3, by rw [turnB_len, h4], ?_⟩
  have e0 : (K - 64) / 8 = 0 := by omega
  have e1 : (K - 64) % 8 = K - 64 := by omega
  rw [e0, e1, turnB_at _ _ _ _ (by omega), if_pos rfl]
  unfold sig72
  rw [if_neg (by omega), ← h5, Nat.xor_assoc]
theorem pickN_small (K n : Nat) (h : K < n) : pickN (K : Int) n = K := by
  unfold pickN
  rw [if_neg (by omega), Int.emod_eq_of_lt (by omega) (by omega)]
  rfl
theorem turned_dist (b off cap b2 off2 cap2 K d : Nat) (xs ys : List Nat) (w : World) (hd : Dist xs ys d) (hK : K < 72) (hc : Lies w (some ⟨b, off, none⟩) xs) (hc2 : Lies w (some ⟨b2, off2, none⟩) ys) :
    Calls Tryd.prog 18 #[.slice (some ⟨b, off, none⟩) 8 cap, .slice (some ⟨b2, off2, none⟩) 1 cap2, .int .i64 K] w fun e w' => ∃ xs' ys' g3 c3 g4 c4, Dist xs' ys' (d ^^^ sig72 K) ∧ e = .returned (.tuple #[.slice (some ⟨g3, 0, none⟩) 8 c3, .slice (some ⟨g4, 0, none⟩) 1 c4]) ∧
      Lies w' (some ⟨g3, 0, none⟩) xs' ∧ Lies w' (some ⟨g4, 0, none⟩) ys' ∧ Below w.heap.size w w' := by
  have h3 := hd.2.2.1
  have h4 := hd.2.2.2.1
  have hp : pickN (K : Int) (8 * (xs.length + ys.length)) = K := pickN_small K _ (by omega)
  by_cases hk : K < 64
  · have h := turned_data b off cap xs b2 off2 ys cap2 K K w (by omega) (by omega) hd.1 (by omega) (by omega) (by omega) (by omega) hc hc2 hp (by omega)
    rw [h3, h4] at h
    refine h.mono fun e w' ⟨g3, c3, g4, c4, q1, q2, q3, q4⟩ => ⟨_, _, g3, c3, g4, c4, dist_word hd hk, ?_, q2.lies, q3.lies, q4⟩
    rw [turnB_len, h3, h4] at q1
    exact q1
  · have h := turned_check b off cap xs b2 off2 ys cap2 K K w (by omega) (by omega) hd.2.1 (by omega) (by omega) (by omega) (by omega) hc hc2 hp (by omega)
    have e64 : 8 * xs.length = 64 := by omega
    rw [e64] at h
    rw [h3, h4] at h
    refine h.mono fun e w' ⟨g3, c3, g4, c4, q1, q2, q3, q4⟩ => ⟨_, _, g3, c3, g4, c4, dist_check hd (by omega) hK, ?_, q2.lies, q3.lies, q4⟩
    rw [turnB_len, h3, h4] at q1
    exact q1
theorem mend_dist (a a2 : Option Addr) (cap cap2 d : Nat) (xs ys : List Nat) (w : World) (hd : Dist xs ys d) (hn : ∀ x, mendD x d = none) (hP : Plc w) (hc : Lies w a xs) (hcc : Lies w a2 ys) :
    Calls Tryd.prog 13 #[.slice a 8 cap, .slice a2 1 cap2] w fun e w' => e = .returned (.tuple #[.slice none 0 0, .int .i64 0, .iface 25 (.int .i64 8)]) ∧ Below w.heap.size w w' := by
  have h := mend_any a a2 cap cap2 1 xs ys w hd.1 hd.2.1 hd.2.2.1 hd.2.2.2.1 (by omega) hP hc hcc
  have e : mendL xs ys 1 = none := by
    rw [mendL, hd.2.2.2.2, hn, mendS_none]
  rw [e, hd.2.2.1, hd.2.2.2.1] at h
  exact h
theorem protect_one (a : Option Addr) (cap : Nat) (E : List Nat) (w : World) (hE : AllB E) (hl : E.length = 8) (hP : Plc w) (hc : Lies w a E) :
    Calls Tryd.prog 11 #[.slice a 8 cap] w fun e w' => ∃ ys, e = .returned (.tuple #[.slice (some ⟨w.heap.size, 0, none⟩) 1 1, .nilIface]) ∧ Dist E ys 0 ∧ Lies w' (some ⟨w.heap.size, 0, none⟩) ys ∧ Below w.heap.size w w' := by
  have h := protect_any a cap 1 E w hE (by omega) (by omega) hP hc
  rw [hl] at h
  refine h.mono fun e w' ⟨h1, h2, h3⟩ => ⟨_, h1, ⟨hE, chks_all E 1, hl, chks_len E 1, ?_⟩, h2.lies, h3⟩
  rw [chks_at _ _ _ (by omega), Nat.xor_self]

set_option maxHeartbeats 1600000 in
theorem tells_short (a : Option Addr) (n cap : Nat) (i' k' : Int) (w : World) (hn : n < 8) (hP : Plc w) :
    Calls Tryd.prog 5 #[.slice a n cap, .int .i64 i', .int .i64 k'] w fun e w' => e = .returned (.bool true) ∧ Below w.heap.size w w' := by
  go_enter Tryd.func5, Tryd.ntmps5
  go_wp2_with fail
  refine (fact_any w hP).mono ?_
  rintro e w1 ⟨rfl, hb1⟩
  go_wp2
  go_ret
  exact ⟨rfl, hb1⟩

set_option maxHeartbeats 4000000 in
theorem tells_long (b off cap : Nat) (D : List Nat) (i' k' : Int) (w : World) (hD : AllB D) (h8 : 8 ≤ D.length) (hm : D.length ≤ 140737488351232) (hcap : D.length ≤ cap) (hi : -9223372036854775808 ≤ i' ∧ i' < 9223372036854775808) (hk : -9223372036854775808 ≤ k' ∧ k' < 9223372036854775808)
    (hP : Plc w) (hE : EType w) (hL : Lies w (some ⟨b, off, none⟩) D) :
    Calls Tryd.prog 5 #[.slice (some ⟨b, off, none⟩) D.length cap, .int .i64 i', .int .i64 k'] w fun e w' => e = .returned (.bool true) ∧ Below w.heap.size w w' := by
  have hL8 := lies_take hL 8
  have hl8 : (D.take 8).length = 8 := by rw [List.length_take]; omega
  have hD8 : AllB (D.take 8) := hD.take 8
  generalize D.take 8 = E at hL8 hl8 hD8
  have HP : Hid (Plc w ∧ EType w) := ⟨hP, hE⟩
  have HL : Hid (E.length = 8) := hl8
  obtain ⟨X, HX⟩ : ∃ X, Hid (pickN i' 72 = X) := ⟨_, rfl⟩
  obtain ⟨Y, HY⟩ : ∃ Y, Hid (pickN k' 72 = Y) := ⟨_, rfl⟩
  have hX : X < 72 := by rw [← HX.out]; exact pickN_lt _ _ (by omega)
  have hY : Y < 72 := by rw [← HY.out]; exact pickN_lt _ _ (by omega)
  have pX := fun wx => pick_any i' 72 wx (by omega) (by omega) hi.1 hi.2
  have pY := fun wx => pick_any k' 72 wx (by omega) (by omega) hk.1 hk.2
  rw [HX.out] at pX
  rw [HY.out] at pY
  clear hi hk hP hE hl8 hD hL
  go_enter Tryd.func5, Tryd.ntmps5
  go_wp2_with fail
  refine (fact_any w HP.out.1).mono ?_
  rintro e w1 ⟨rfl, hb1⟩
  go_wp2_with fail
  refine (protect_one _ 8 E w1 hD8 HL.out (HP.out.1.below hb1 HP.out.1.pos) (hL8.below hb1)).mono ?_
  rintro e w2 ⟨ys, rfl, hdist, hLy, hb2⟩
  have hb02 := hb1.trans (hb2.mono hb1.size)
  replace hL8 := hL8.below hb02
  clear hb1 hb2
  go_wp2_with fail
  refine (pX _).mono ?_
  rintro e w3 ⟨rfl, rfl⟩
  go_wp2_with fail
  refine (pY _).mono ?_
  rintro e w3 ⟨rfl, rfl⟩
  clear pX pY
  by_cases hxy : X = Y
  · subst hxy
    go_wp2
    go_ret
    exact ⟨rfl, hb02⟩
  · have hne : (((X : Nat) : Int) == ((Y : Nat) : Int)) = false := by rw [beq_eq_false_iff_ne]; omega
    have HN : Hid (∀ x, mendD x (sig72 X ^^^ sig72 Y) = none) := fun x => mendD_two x X Y hX hY hxy
    clear hxy
    go_wp2_with fail
    refine (turned_dist b off 8 w1.heap.size 0 1 X 0 E ys w3 hdist hX hL8 hLy).mono ?_
    rintro e w4 ⟨xs4, ys4, g3, c3, g4, c4, hd4, rfl, hLx4, hLy4, hb4⟩
    have hb04 := hb02.trans (hb4.mono hb02.size)
    clear hb02 hb4 hL8 hLy hdist
    go_wp2_with fail
    refine (turned_dist g3 0 c3 g4 0 c4 Y _ xs4 ys4 w4 hd4 hY hLx4 hLy4).mono ?_
    rintro e w5 ⟨xs5, ys5, g5, c5, g6, c6, hd5, rfl, hLx5, hLy5, hb5⟩
    have hb05 := hb04.trans (hb5.mono hb04.size)
    rw [Nat.zero_xor] at hd5
    clear hb04 hb5 hLx4 hLy4 hd4
    go_wp2_with fail
    refine (mend_dist _ _ c5 c6 _ xs5 ys5 w5 hd5 HN.out (HP.out.1.below hb05 HP.out.1.pos) hLx5 hLy5).mono ?_
    rintro e w6 ⟨rfl, hb6⟩
    have hb06 := hb05.trans (hb6.mono hb05.size)
    clear hb05 hb6 hLx5 hLy5 hd5
    go_wp2_with fail
    refine (error_same 8 w6 (HP.out.2.below hb06 HP.out.2.pos)).mono ?_
    rintro e w7 ⟨rfl, hb7⟩
    go_wp2
    go_ret
    exact ⟨rfl, hb06.trans (hb7.mono hb06.size)⟩
theorem tells_any (a : Option Addr) (cap : Nat) (D : List Nat) (i' k' : Int) (w : World) (hD : AllB D) (hm : D.length ≤ 140737488351232) (hcap : D.length ≤ cap) (hi : -9223372036854775808 ≤ i' ∧ i' < 9223372036854775808) (hk : -9223372036854775808 ≤ k' ∧ k' < 9223372036854775808)
    (hP : Plc w) (hE : EType w) (hL : Lies w a D) :
    Calls Tryd.prog 5 #[.slice a D.length cap, .int .i64 i', .int .i64 k'] w fun e w' => e = .returned (.bool true) ∧ Below w.heap.size w w' := by
  by_cases h : D.length < 8
  · exact tells_short a D.length cap i' k' w h hP
  · have hL' := hL
    rcases hL' with h2 | ⟨b, off, rfl, _⟩
    · rw [h2] at h; exact absurd (show (0 : Nat) < 8 by omega) h
    · exact tells_long b off cap D i' k' w hD (by omega) hm hcap hi hk hP hE hL
end Go.Proofs.YtgflkfbddiccaaaDoor
