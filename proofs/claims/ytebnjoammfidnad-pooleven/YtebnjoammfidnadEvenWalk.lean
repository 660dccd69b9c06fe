/-
  The walk of granarylaw1.PoolEven: it returns true, and nothing that was there has turned.
-/
import Derived.Test.YtebnjoammfidnadFact
import Derived.Test.YtebnjoammfidnadMathEven
namespace Go.Proofs.Ytebnjoammfidnad
open Go.RowKit
set_option linter.unusedVariables false

def pickN (c : Int) (n : Nat) : Nat := ((if c < 0 then -(c + 1) else c) % (n : Int)).toNat
theorem pickN_lt (c : Int) (n : Nat) (h : 0 < n) : pickN c n < n := by
  unfold pickN
  have := Int.emod_nonneg (if c < 0 then -(c + 1) else c) (show (n : Int) ≠ 0 by omega)
  have := Int.emod_lt_of_pos (if c < 0 then -(c + 1) else c) (show (0 : Int) < n by omega)
  omega
set_option maxHeartbeats 400000 in
theorem pick_any (c : Int) (n : Nat) (w : World) (h0 : 0 < n) (hn : n < 9223372036854775808) (hc0 : -9223372036854775808 ≤ c) (hc1 : c < 9223372036854775808) :
    Calls Try.prog 7 #[.int .i64 c, .int .i64 n] w fun e w' => e = .returned (.int .i64 (pickN c n : Nat)) ∧ w' = w := by
  have e : ((pickN c n : Nat) : Int) = (if c < 0 then -(c + 1) else c) % (n : Int) := by
    unfold pickN
    exact Int.toNat_of_nonneg (Int.emod_nonneg _ (by omega))
  rw [e]
  by_cases h : c < 0
  · rw [if_pos h]
    go_enter Try.func7, Try.ntmps7
    go_wp2
    go_ret
    exact ⟨ret_int (by rw [← Int.tmod_eq_emod_of_nonneg (by omega), Int.neg_tmod]), rfl⟩
  · rw [if_neg h]
    go_enter Try.func7, Try.ntmps7
    go_wp2
    go_ret
    exact ⟨rfl, rfl⟩
set_option maxRecDepth 100000 in
set_option maxHeartbeats 1600000 in
theorem even_no (n sp times : Int) (w : World) (h : ¬ GoodN n sp) : Calls Try.prog 3 #[.int .i64 n, .int .i64 sp, .int .i64 times] w fun e w' => e = .returned (.bool true) ∧ Below w.heap.size w w' := by
  have HF : Hid (¬ GoodN n sp) := h
  clear h
  go_enter Try.func3, Try.ntmps3
  go_wp2_with fail
  refine (fact_any _).mono ?_
  rintro e w1 ⟨rfl, hb1⟩
  go_wp2_with fail
  refine (new_no n sp _ HF.out).mono ?_
  rintro e w2 ⟨rfl, rfl⟩
  go_wp2
  go_ret
  exact ⟨rfl, hb1⟩
set_option maxRecDepth 100000 in
set_option maxHeartbeats 4000000 in
theorem even_yes (n sp : Nat) (times : Int) (w : World) (h1 : 1 ≤ n) (h2 : n ≤ 64) (hsp : sp ≤ n) (hc0 : -9223372036854775808 ≤ times) (hc1 : times < 9223372036854775808) : Calls Try.prog 3 #[.int .i64 n, .int .i64 sp, .int .i64 times] w fun e w' => e = .returned (.bool true) ∧ Below w.heap.size w w' := by
  have HPK : Hid (∀ W, Calls Try.prog 7 #[.int .i64 times, .int .i64 ((400 : Nat) : Int)] W fun e w' => e = .returned (.int .i64 (pickN times 400 : Nat)) ∧ w' = W) := fun W => pick_any times 400 W (by omega) (by omega) hc0 hc1
  have hk := pickN_lt times 400 (by omega)
  generalize pickN times 400 = k at HPK hk
  clear hc0 hc1
  go_enter Try.func3, Try.ntmps3
  go_wp2_with fail
  refine (fact_any _).mono ?_
  rintro e w1 ⟨rfl, hb1⟩
  have HB1 : Hid (Below w.heap.size w w1) := hb1
  clear hb1
  go_wp2_with fail
  refine (new_yes n sp _ h1 h2 hsp).mono ?_
  rintro e w2 ⟨pb, bb, rfl, hp2, hb2⟩
  have H2 : Hid (PA n sp (fun b => b < w1.heap.size) w2 pb bb fresh ∧ Below w1.heap.size w1 w2) := ⟨hp2, hb2⟩
  clear hp2 hb2
  go_wp2_with fail
  refine (HPK.out _).mono ?_
  rintro e w3 ⟨rfl, rfl⟩
  go_wp2
  go_loopw [11] (fun j wr => ∃ (i : Nat) (s : St), i ≤ k ∧ j = .int .i64 i ∧ Hid (PA n sp (fun b => b < w1.heap.size) wr pb bb s ∧ Ev n i s ∧ Below w1.heap.size w1 wr)) (fun j _ => k - (intOf j).toNat)
  case atStart => exact ⟨0, fresh, Nat.zero_le _, rfl, H2.out.1, ev_zero n, H2.out.2⟩
  case round =>
    obtain ⟨i, s, hi, rfl, hR⟩ := hrel
    clear H2 HPK
    by_cases hlt : i < k
    · obtain ⟨b, s1, s2, e1, e2, hE2, hbn, hw1⟩ := ev_step (sp := sp) hR.out.2.1 h1
      have hT := take_any hR.out.1
      rw [e1] at hT
      have HT : Hid (Calls Try.prog 8 #[.pointer (some ⟨pb, 0, none⟩)] wr fun e w' => e = .returned (.tuple #[.int .i64 (b : Nat), .nilIface]) ∧ PA n sp (fun b => b < w1.heap.size) w' pb bb s1 ∧ Keep (fun b => ¬ b < w1.heap.size) wr w') := hT
      have HE : Hid (putF n sp s1 (b : Int) 0 = (0, s2) ∧ Ev n (i + 1) s2 ∧ ∀ x, s1.wn x ≤ i) := ⟨e2, hE2, hw1⟩
      clear hT e1 e2 hE2 hw1
      go_wp2_with fail
      refine HT.out.mono ?_
      rintro e w4 ⟨rfl, h4, hk4⟩
      have H4 : Hid (PA n sp (fun b => b < w1.heap.size) w4 pb bb s1 ∧ Below w1.heap.size w1 w4) := ⟨h4, hR.out.2.2.trans (hk4.base hR.out.2.2.size (fun b hb => hb))⟩
      clear h4 hk4 HT hR
      have hG := give_any H4.out.1 (b : Int) (fun x => by have := HE.out.2.2 x; omega)
      rw [HE.out.1] at hG
      have HG : Hid (Calls Try.prog 9 #[.pointer (some ⟨pb, 0, none⟩), .int .i64 (b : Int)] w4 fun e w' => e = .returned .nilIface ∧ PA n sp (fun b => b < w1.heap.size) w' pb bb s2 ∧ Keep (fun b => ¬ b < w1.heap.size) w4 w') := hG
      clear hG
      go_wp2_with fail
      refine HG.out.mono ?_
      rintro e w5 ⟨rfl, h5, hk5⟩
      have H5 : Hid (PA n sp (fun b => b < w1.heap.size) w5 pb bb s2 ∧ Ev n (i + 1) s2 ∧ Below w1.heap.size w1 w5) := ⟨h5, HE.out.2.1, H4.out.2.trans (hk5.base H4.out.2.size (fun b hb => hb))⟩
      clear h5 hk5 HG HE H4
      go_wp2
      exact ⟨⟨i + 1, s2, by omega, by go_num, H5.out⟩, by simp [intOf]; omega⟩
    · obtain rfl : i = k := by omega
      have HD : Hid (highK s.wn n ≤ lowK i s.wn n + 1 ∧ sumW s.wn n = i ∧ ∀ x, s.wn x ≤ i) := ⟨ev_done hR.out.2.1, hR.out.2.1.sum, hR.out.2.1.le⟩
      go_wp2
      go_loopw [14, 15, 16, 17] (fun lo hi su j wq => ∃ q : Nat, q ≤ n ∧ lo = .int .i64 (lowK i s.wn q : Nat) ∧ hi = .int .i64 (highK s.wn q : Nat) ∧ su = .int .i64 (sumW s.wn q : Nat) ∧ j = .int .i64 q ∧ wq = wr) (fun _ _ _ j _ => n - (intOf j).toNat)
      case atStart => exact ⟨0, Nat.zero_le _, rfl, rfl, rfl, rfl, rfl⟩
      case round =>
        obtain ⟨q, hq, rfl, rfl, rfl, rfl, rfl⟩ := hrel
        have l1 := low_le i s.wn q
        have l2 := high_le HD.out.2.2 q
        have l3 : sumW s.wn q ≤ 64 * 400 := Nat.le_trans (sumW_le HD.out.2.2 q) (Nat.mul_le_mul (by omega) (by omega))
        by_cases hlq : q < n
        · have HW : Hid (Calls Try.prog 10 #[.pointer (some ⟨pb, 0, none⟩), .int .i64 (q : Int)] wr fun e w' => e = .returned (.tuple #[.int .i64 (s.wn q : Int), .nilIface]) ∧ w' = wr) := pa_worn hR.out.1 q hlq
          have l4 := HD.out.2.2 q
          have HS : Hid (lowK i s.wn (q + 1) = (if s.wn q < lowK i s.wn q then s.wn q else lowK i s.wn q) ∧ highK s.wn (q + 1) = (if highK s.wn q < s.wn q then s.wn q else highK s.wn q) ∧ sumW s.wn (q + 1) = sumW s.wn q + s.wn q) := ⟨rfl, rfl, rfl⟩
          generalize lowK i s.wn q = lo at *
          generalize highK s.wn q = hi at *
          generalize sumW s.wn q = su at *
          generalize s.wn q = x at *
          have HR2 : Hid (PA n sp (fun b => b < w1.heap.size) wr pb bb s ∧ Ev n i s ∧ Below w1.heap.size w1 wr) := hR.out
          clear hR
          by_cases c1 : x < lo
          · by_cases c2 : hi < x
            · rw [if_pos c1, if_pos c2] at HS
              go_wp2_with fail
              refine HW.out.mono ?_
              rintro e w6 ⟨rfl, rfl⟩
              go_wp2
              exact ⟨⟨q + 1, by omega, by rw [HS.out.1], by rw [HS.out.2.1], by rw [HS.out.2.2]; go_num, by go_num, trivial⟩, by simp [intOf]; omega⟩
            · rw [if_pos c1, if_neg c2] at HS
              go_wp2_with fail
              refine HW.out.mono ?_
              rintro e w6 ⟨rfl, rfl⟩
              go_wp2
              exact ⟨⟨q + 1, by omega, by rw [HS.out.1], by rw [HS.out.2.1], by rw [HS.out.2.2]; go_num, by go_num, trivial⟩, by simp [intOf]; omega⟩
          · by_cases c2 : hi < x
            · rw [if_neg c1, if_pos c2] at HS
              go_wp2_with fail
              refine HW.out.mono ?_
              rintro e w6 ⟨rfl, rfl⟩
              go_wp2
              exact ⟨⟨q + 1, by omega, by rw [HS.out.1], by rw [HS.out.2.1], by rw [HS.out.2.2]; go_num, by go_num, trivial⟩, by simp [intOf]; omega⟩
            · rw [if_neg c1, if_neg c2] at HS
              go_wp2_with fail
              refine HW.out.mono ?_
              rintro e w6 ⟨rfl, rfl⟩
              go_wp2
              exact ⟨⟨q + 1, by omega, by rw [HS.out.1], by rw [HS.out.2.1], by rw [HS.out.2.2]; go_num, by go_num, trivial⟩, by simp [intOf]; omega⟩
        · obtain rfl : q = n := by omega
          have HF : Hid (Below w.heap.size w wr) := HB1.out.trans (hR.out.2.2.mono HB1.out.size)
          have d1 := HD.out.1
          have t1 : ((sumW s.wn q : Int) == (i : Int)) = true := by rw [beq_iff_eq, HD.out.2.1]
          generalize lowK i s.wn q = lo at *
          generalize highK s.wn q = hi at *
          generalize sumW s.wn q = su at *
          have t2 : decide ((hi : Int) - (lo : Int) ≤ 1) = true := decide_eq_true (by omega)
          clear hR HD
          go_wp2
          go_ret
          exact ⟨rfl, HF.out⟩
theorem even_any (n sp times : Int) (w : World) (hc : -9223372036854775808 ≤ times ∧ times < 9223372036854775808) : Calls Try.prog 3 #[.int .i64 n, .int .i64 sp, .int .i64 times] w fun e w' => e = .returned (.bool true) ∧ Below w.heap.size w w' := by
  by_cases h : GoodN n sp
  · obtain ⟨N, S, rfl, rfl, h1, h2, h3⟩ := goodN_nat h
    exact even_yes N S times w h1 h2 h3 hc.1 hc.2
  · exact even_no n sp times w h
end Go.Proofs.Ytebnjoammfidnad
