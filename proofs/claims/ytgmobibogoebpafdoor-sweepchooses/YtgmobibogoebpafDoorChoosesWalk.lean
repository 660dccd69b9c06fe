/-
  What the call of SweepChooses gives: true.
-/
import Derived.Test.YtgmobibogoebpafDoorAsk
import Derived.Test.YtgmobibogoebpafDoorChoose
import Derived.Test.YtgmobibogoebpafDoorLevel
import Derived.Test.YtgmobibogoebpafDoorRefLev
namespace Go.Proofs.YtgmobibogoebpafDoor
open Go.RowKit
set_option linter.unusedVariables false

theorem AS.choose {w wr : World} {a am : Option Addr} {l : List Bl} (h : AS w a am l wr) (cm : Nat) (p : Int) : Calls Tryd.prog 21 #[.slice am l.length cm, .int .i64 p] wr fun e w' => ChoosePost e l p ∧ Hid (AS w a am l w') :=
  (choose_any am cm l p wr h.bm).mono fun e w' ⟨h1, h2⟩ => ⟨h1, h.below h2⟩
theorem AS.level {w wr : World} {a am : Option Addr} {l : List Bl} (h : AS w a am l wr) (cm : Nat) (gap : Int) : Calls Tryd.prog 24 #[.slice am l.length cm, .int .i64 gap] wr fun e w' => LevelPost e l gap ∧ Hid (AS w a am l w') :=
  (level_any am cm l gap wr h.bm).mono fun e w' ⟨h1, h2⟩ => ⟨h1, h.below h2⟩
theorem AS.chooseNo {w wr : World} {a am : Option Addr} {l : List Bl} (h : AS w a am l wr) (cap : Nat) (p : Int) (h0 : faultF l p false = 0) (hn : ∀ i, ¬ can l p i) : Calls Tryd.prog 23 #[.slice a l.length cap, .int .i64 p] wr fun e w' => e = .returned (.int .i64 (-1)) ∧ Hid (AS w a am l w') := by
  obtain ⟨h1, _, _, _, h5⟩ := fault_zero h0
  refine (rchoose_any a cap l p wr h1 (fun i hi => (h5 i hi).2.1) h.bl).mono ?_
  rintro e w' ⟨⟨k, ⟨q1, _⟩ | ⟨i, _, q2⟩, q3⟩, q4⟩
  · exact ⟨by rw [q3, q1], h.below q4⟩
  · exact absurd q2.1 (hn i)
theorem AS.chooseYes {w wr : World} {a am : Option Addr} {l : List Bl} (h : AS w a am l wr) (cap : Nat) (p : Int) (k : Nat) (h0 : faultF l p false = 0) (hk : IsMin l p k) : Calls Tryd.prog 23 #[.slice a l.length cap, .int .i64 p] wr fun e w' => e = .returned (.int .i64 (k : Int)) ∧ Hid (AS w a am l w') := by
  obtain ⟨h1, _, _, _, h5⟩ := fault_zero h0
  refine (rchoose_any a cap l p wr h1 (fun i hi => (h5 i hi).2.1) h.bl).mono ?_
  rintro e w' ⟨⟨k', ⟨_, q1⟩ | ⟨i, q1, q2⟩, q3⟩, q4⟩
  · exact absurd hk.1 (q1 k)
  · exact ⟨by rw [q3, q1, q2.one hk], h.below q4⟩
theorem AS.levelNo {w wr : World} {a am : Option Addr} {l : List Bl} (h : AS w a am l wr) (cap : Nat) (gap : Int) (h0 : faultF l 4096 (decide (gap < 0)) = 0) (hn : ∀ i, ¬ IsLev l gap i) : Calls Tryd.prog 25 #[.slice a l.length cap, .int .i64 gap] wr fun e w' => e = .returned (.int .i64 (-1)) ∧ Hid (AS w a am l w') := by
  obtain ⟨h1, _, _, _, h5⟩ := fault_zero h0
  refine (rlevel_any a cap l gap wr h1 h5 h.bl).mono ?_
  rintro e w' ⟨⟨k, ⟨q1, _⟩ | ⟨i, _, q2⟩, q3⟩, q4⟩
  · exact ⟨by rw [q3, q1], h.below q4⟩
  · exact absurd q2 (hn i)
theorem AS.levelYes {w wr : World} {a am : Option Addr} {l : List Bl} (h : AS w a am l wr) (cap : Nat) (gap : Int) (k : Nat) (h0 : faultF l 4096 (decide (gap < 0)) = 0) (hk : IsLev l gap k) : Calls Tryd.prog 25 #[.slice a l.length cap, .int .i64 gap] wr fun e w' => e = .returned (.int .i64 (k : Int)) ∧ Hid (AS w a am l w') := by
  obtain ⟨h1, _, _, _, h5⟩ := fault_zero h0
  refine (rlevel_any a cap l gap wr h1 h5 h.bl).mono ?_
  rintro e w' ⟨⟨k', ⟨_, q1⟩ | ⟨i, q1, q2⟩, q3⟩, q4⟩
  · exact absurd hk (q1 k)
  · exact ⟨by rw [q3, q1, q2.one hk], h.below q4⟩
set_option maxRecDepth 20000 in
set_option maxHeartbeats 16000000 in
theorem chooses_any (a : Option Addr) (cap : Nat) (l : List Bl) (p gap : Int) (w : World) (hE : EType w) (h24 : l.length * 24 ≤ 140737488355328) (hB : BL w a l) :
    Calls Tryd.prog 6 #[.slice a l.length cap, .int .i64 p, .int .i64 gap] w fun e w' => e = .returned (.bool true) ∧ Below w.heap.size w w' := by
  have H0 := both_any a cap l w h24 hB
  have HSt : Hid (∀ w1 am cm, OwnB 88 w1 w.heap.size am cm l → Below w.heap.size w w1 → AS w a am l w1) := fun w1 am cm h1 h2 => AS.start hE hB h1 h2
  clear hE h24 hB
  go_enter Tryd.func6, Tryd.ntmps6
  go_wp2_with fail
  refine H0.mono ?_
  rintro e w1 ⟨am, cm, rfl, ho1, hb1⟩
  have HA1 : Hid (AS w a am l w1) := HSt.out _ _ _ ho1 hb1
  have H1 := HA1.out.choose cm p
  clear H0 HSt ho1 hb1 HA1
  go_wp2_with fail
  refine H1.mono ?_
  rintro e w2 ⟨hcp, HA2⟩
  clear H1
  rcases hcp with ⟨f, hf, hn, rfl⟩ | ⟨hf, hn, rfl⟩ | ⟨k, hf, hk, rfl⟩
  · have HB := HA2.out.fault cap p false f hf.symm
    have hb : ((f : Int) == 0) = false := by rw [beq_eq_false_iff_ne]; omega
    have hc : ((f : Int) != 0) = true := bne_iff_ne.2 (by omega)
    rw [errI_ne hn]
    clear HA2 hf hn
    go_wp2_with fail
    refine HB.mono ?_
    rintro e w3 ⟨rfl, HA3⟩
    have HC := HA3.out.same f
    clear HB HA3
    go_wp2_with fail
    refine HC.mono ?_
    rintro e w4 ⟨rfl, HA⟩
    clear HC
    have HL := HA.out.level cm gap
    clear HA
    go_wp2_with fail
    refine HL.mono ?_
    rintro e wa ⟨hlp, HAa⟩
    clear HL
    rcases hlp with ⟨f2, hf2, hn2, rfl⟩ | ⟨hf2, hn2, rfl⟩ | ⟨k2, hf2, hk2, rfl⟩
    · have HB := HAa.out.fault cap 4096 (decide (gap < 0)) f2 hf2.symm
      have hb2 : ((f2 : Int) == 0) = false := by rw [beq_eq_false_iff_ne]; omega
      have hc2 : ((f2 : Int) != 0) = true := bne_iff_ne.2 (by omega)
      rw [errI_ne hn2]
      clear HAa hf2 hn2
      go_wp2_with fail
      refine HB.mono ?_
      rintro e wb ⟨rfl, HAb⟩
      have HC := HAb.out.same f2
      clear HB HAb
      go_wp2_with fail
      refine HC.mono ?_
      rintro e wc ⟨rfl, HAc⟩
      clear HC
      go_wp2
      go_ret
      exact ⟨rfl, HAc.out.bel⟩
    · have HB := HAa.out.fault cap 4096 (decide (gap < 0)) 0 hf2
      rw [errI_ne (by decide)]
      clear HAa
      go_wp2_with fail
      refine HB.mono ?_
      rintro e wb ⟨rfl, HAb⟩
      have HC := HAb.out.levelNo cap gap hf2 hn2
      clear HB HAb hf2 hn2
      go_wp2_with fail
      refine HC.mono ?_
      rintro e wc ⟨rfl, HAc⟩
      have HD := HAc.out.four
      clear HC HAc
      go_wp2_with fail
      refine HD.mono ?_
      rintro e wd ⟨rfl, HAd⟩
      clear HD
      go_wp2
      go_ret
      exact ⟨rfl, HAd.out.bel⟩
    · have HB := HAa.out.fault cap 4096 (decide (gap < 0)) 0 hf2
      clear HAa
      go_wp2_with fail
      refine HB.mono ?_
      rintro e wb ⟨rfl, HAb⟩
      have HC := HAb.out.levelYes cap gap k2 hf2 hk2
      clear HB HAb hf2 hk2
      go_wp2_with fail
      refine HC.mono ?_
      rintro e wc ⟨rfl, HAc⟩
      have HD := HAc.out.nil
      have hkn2 : ¬ (k2 : Int) < 0 := by omega
      clear HC HAc
      go_wp2_with fail
      refine HD.mono ?_
      rintro e wd ⟨rfl, HAd⟩
      clear HD
      go_wp2
      go_ret
      exact ⟨rfl, HAd.out.bel⟩
  · have HB := HA2.out.fault cap p false 0 hf
    rw [errI_ne (by decide)]
    clear HA2
    go_wp2_with fail
    refine HB.mono ?_
    rintro e w3 ⟨rfl, HA3⟩
    have HC := HA3.out.chooseNo cap p hf hn
    clear HB HA3 hf hn
    go_wp2_with fail
    refine HC.mono ?_
    rintro e w4 ⟨rfl, HA4⟩
    have HD := HA4.out.four
    clear HC HA4
    go_wp2_with fail
    refine HD.mono ?_
    rintro e w5 ⟨rfl, HA⟩
    clear HD
    have HL := HA.out.level cm gap
    clear HA
    go_wp2_with fail
    refine HL.mono ?_
    rintro e wa ⟨hlp, HAa⟩
    clear HL
    rcases hlp with ⟨f2, hf2, hn2, rfl⟩ | ⟨hf2, hn2, rfl⟩ | ⟨k2, hf2, hk2, rfl⟩
    · have HB := HAa.out.fault cap 4096 (decide (gap < 0)) f2 hf2.symm
      have hb2 : ((f2 : Int) == 0) = false := by rw [beq_eq_false_iff_ne]; omega
      have hc2 : ((f2 : Int) != 0) = true := bne_iff_ne.2 (by omega)
      rw [errI_ne hn2]
      clear HAa hf2 hn2
      go_wp2_with fail
      refine HB.mono ?_
      rintro e wb ⟨rfl, HAb⟩
      have HC := HAb.out.same f2
      clear HB HAb
      go_wp2_with fail
      refine HC.mono ?_
      rintro e wc ⟨rfl, HAc⟩
      clear HC
      go_wp2
      go_ret
      exact ⟨rfl, HAc.out.bel⟩
    · have HB := HAa.out.fault cap 4096 (decide (gap < 0)) 0 hf2
      rw [errI_ne (by decide)]
      clear HAa
      go_wp2_with fail
      refine HB.mono ?_
      rintro e wb ⟨rfl, HAb⟩
      have HC := HAb.out.levelNo cap gap hf2 hn2
      clear HB HAb hf2 hn2
      go_wp2_with fail
      refine HC.mono ?_
      rintro e wc ⟨rfl, HAc⟩
      have HD := HAc.out.four
      clear HC HAc
      go_wp2_with fail
      refine HD.mono ?_
      rintro e wd ⟨rfl, HAd⟩
      clear HD
      go_wp2
      go_ret
      exact ⟨rfl, HAd.out.bel⟩
    · have HB := HAa.out.fault cap 4096 (decide (gap < 0)) 0 hf2
      clear HAa
      go_wp2_with fail
      refine HB.mono ?_
      rintro e wb ⟨rfl, HAb⟩
      have HC := HAb.out.levelYes cap gap k2 hf2 hk2
      clear HB HAb hf2 hk2
      go_wp2_with fail
      refine HC.mono ?_
      rintro e wc ⟨rfl, HAc⟩
      have HD := HAc.out.nil
      have hkn2 : ¬ (k2 : Int) < 0 := by omega
      clear HC HAc
      go_wp2_with fail
      refine HD.mono ?_
      rintro e wd ⟨rfl, HAd⟩
      clear HD
      go_wp2
      go_ret
      exact ⟨rfl, HAd.out.bel⟩
  · have HB := HA2.out.fault cap p false 0 hf
    clear HA2
    go_wp2_with fail
    refine HB.mono ?_
    rintro e w3 ⟨rfl, HA3⟩
    have HC := HA3.out.chooseYes cap p k hf hk
    clear HB HA3 hf hk
    go_wp2_with fail
    refine HC.mono ?_
    rintro e w4 ⟨rfl, HA4⟩
    have HD := HA4.out.nil
    have hkn : ¬ (k : Int) < 0 := by omega
    clear HC HA4
    go_wp2_with fail
    refine HD.mono ?_
    rintro e w5 ⟨rfl, HA⟩
    clear HD
    have HL := HA.out.level cm gap
    clear HA
    go_wp2_with fail
    refine HL.mono ?_
    rintro e wa ⟨hlp, HAa⟩
    clear HL
    rcases hlp with ⟨f2, hf2, hn2, rfl⟩ | ⟨hf2, hn2, rfl⟩ | ⟨k2, hf2, hk2, rfl⟩
    · have HB := HAa.out.fault cap 4096 (decide (gap < 0)) f2 hf2.symm
      have hb2 : ((f2 : Int) == 0) = false := by rw [beq_eq_false_iff_ne]; omega
      have hc2 : ((f2 : Int) != 0) = true := bne_iff_ne.2 (by omega)
      rw [errI_ne hn2]
      clear HAa hf2 hn2
      go_wp2_with fail
      refine HB.mono ?_
      rintro e wb ⟨rfl, HAb⟩
      have HC := HAb.out.same f2
      clear HB HAb
      go_wp2_with fail
      refine HC.mono ?_
      rintro e wc ⟨rfl, HAc⟩
      clear HC
      go_wp2
      go_ret
      exact ⟨rfl, HAc.out.bel⟩
    · have HB := HAa.out.fault cap 4096 (decide (gap < 0)) 0 hf2
      rw [errI_ne (by decide)]
      clear HAa
      go_wp2_with fail
      refine HB.mono ?_
      rintro e wb ⟨rfl, HAb⟩
      have HC := HAb.out.levelNo cap gap hf2 hn2
      clear HB HAb hf2 hn2
      go_wp2_with fail
      refine HC.mono ?_
      rintro e wc ⟨rfl, HAc⟩
      have HD := HAc.out.four
      clear HC HAc
      go_wp2_with fail
      refine HD.mono ?_
      rintro e wd ⟨rfl, HAd⟩
      clear HD
      go_wp2
      go_ret
      exact ⟨rfl, HAd.out.bel⟩
    · have HB := HAa.out.fault cap 4096 (decide (gap < 0)) 0 hf2
      clear HAa
      go_wp2_with fail
      refine HB.mono ?_
      rintro e wb ⟨rfl, HAb⟩
      have HC := HAb.out.levelYes cap gap k2 hf2 hk2
      clear HB HAb hf2 hk2
      go_wp2_with fail
      refine HC.mono ?_
      rintro e wc ⟨rfl, HAc⟩
      have HD := HAc.out.nil
      have hkn2 : ¬ (k2 : Int) < 0 := by omega
      clear HC HAc
      go_wp2_with fail
      refine HD.mono ?_
      rintro e wd ⟨rfl, HAd⟩
      clear HD
      go_wp2
      go_ret
      exact ⟨rfl, HAd.out.bel⟩
end Go.Proofs.YtgmobibogoebpafDoor
