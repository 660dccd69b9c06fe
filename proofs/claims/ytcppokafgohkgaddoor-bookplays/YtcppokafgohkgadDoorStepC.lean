/-
  What the call of granarylaw1.bookStep gives: calls of Of and of Live.
-/
import Derived.Test.YtcppokafgohkgadDoorStepB
namespace Go.Proofs.YtcppokafgohkgadDoor
open Go.RowKit
set_option linter.unusedVariables false

set_option maxRecDepth 100000 in
set_option maxHeartbeats 4000000 in
theorem step4 {L P B bb ab ob rb g cap : Nat} {w wr : World} {s : Bk} (h : PS L P B bb ab ob rb g cap w wr s) (hE : ∀ w', Below B w w' → EType w') (x y : Int) : Steps L P B bb ab ob rb g cap w wr 4 x y := by
  have HE : Hid (∀ w', Below B w w' → EType w') := hE
  have HN : Hid (PH L P B bb ab ob rb g cap wr.heap.size x y w (wr.alloc (.cells #[.int .i64 4, .int .i64 x, .int .i64 y] 48)) s s.pa) := h.box 4 x y
  have HI : Hid (Inv L P s) := h.bs.bo.inv
  clear h hE
  unfold Steps
  by_cases h1 : inB P x = false
  · have HT : Hid (tellF P s.lb x = (0, 1)) := tellF_no h1
    have hw := out_ways h1
    clear h1
    rcases hw with t1 | ⟨t1, t2⟩
    all_goals
      go_enter Tryd.func18, Tryd.ntmps18
      go_wp2_with fail
      generalize wr.alloc (.cells #[.int .i64 4, .int .i64 x, .int .i64 y] 48) = wa at HN ⊢
      generalize wr.heap.size = nb at *
      have HA := of_any HN.out.bs.bo x
      rw [HT.out] at HA
      have HA2 : Hid (Calls Tryd.prog 22 #[.pointer (some ⟨bb, 0, none⟩), .int .i64 x] wa fun e w' => e = .returned (.tuple #[.int .i64 0, .iface 37 (.int .i64 1)]) ∧ w' = wa) := HA
      clear HA
      refine HA2.out.mono ?_
      rintro e w2 ⟨rfl, rfl⟩
      clear HA2
      have k1 := HN.out.k1
      have c1 := HN.out.ra.c1
      have hp2 := HN.out.ra.p2
      go_wp2
      go_quiet (fail)
      go_wp2_with fail
      refine (error_same 1 _ (HE.out _ (HN.out.drewN _).bs.bel)).mono ?_
      rintro e w4 ⟨rfl, hb4⟩
      have H4 : Hid (PS L P B bb ab ob rb g cap w w4 s) := ((HN.out.drewN _).below hb4).done
      clear hb4 HN
      go_wp2
      go_ret
      exact ⟨rfl, _, H4.out⟩
  · have h1' : inB P x = true := by simpa using h1
    obtain ⟨p, rfl, hp⟩ := inB_nat h1'
    have t1 : decide ((p : Int) < 0) = false := decide_eq_false (by omega)
    have t2 : decide ((P : Int) ≤ (p : Int)) = false := decide_eq_false (by omega)
    clear h1 h1'
    rcases HI.out.o p hp with e | ⟨q0, hq, e1, e2⟩
    · have HT : Hid (tellF P s.lb (p : Int) = (0, 4)) := tellF_none hp e
      have HRO : Hid (∀ W, PH L P B bb ab ob rb g cap wr.heap.size (p : Int) y w W s s.pa → Calls Tryd.prog 32 #[.pointer (some ⟨rb, 0, none⟩), .int .i64 (p : Int)] W fun e w' => e = .returned (.int .i64 (-1)) ∧ w' = W) := fun W hW => by
        have := rof_any hW.ra HI.out p hp
        rw [e] at this
        exact this
      clear e
      go_enter Tryd.func18, Tryd.ntmps18
      go_wp2_with fail
      generalize wr.alloc (.cells #[.int .i64 4, .int .i64 (p : Int), .int .i64 y] 48) = wa at HN ⊢
      generalize wr.heap.size = nb at *
      have HA := of_any HN.out.bs.bo (p : Int)
      rw [HT.out] at HA
      have HA2 : Hid (Calls Tryd.prog 22 #[.pointer (some ⟨bb, 0, none⟩), .int .i64 (p : Int)] wa fun e w' => e = .returned (.tuple #[.int .i64 0, .iface 37 (.int .i64 4)]) ∧ w' = wa) := HA
      clear HA
      refine HA2.out.mono ?_
      rintro e w2 ⟨rfl, rfl⟩
      clear HA2
      have k1 := HN.out.k1
      have c1 := HN.out.ra.c1
      have hp2 := HN.out.ra.p2
      go_wp2
      go_quiet (fail)
      go_wp2_with fail
      refine (HRO.out _ (HN.out.drewN _)).mono ?_
      rintro e w3 ⟨rfl, rfl⟩
      go_wp2_with fail
      refine (error_same 4 _ (HE.out _ (HN.out.drewN _).bs.bel)).mono ?_
      rintro e w4 ⟨rfl, hb4⟩
      have H4 : Hid (PS L P B bb ab ob rb g cap w w4 s) := ((HN.out.drewN _).below hb4).done
      clear hb4 HN
      go_wp2
      go_ret
      exact ⟨rfl, _, H4.out⟩
    · have HT : Hid (tellF P s.lb (p : Int) = ((q0 : Int), 0)) := by
        have := tellF_some (f := s.lb) hp (by rw [e1]; omega)
        rw [e1] at this
        exact this
      have HRO : Hid (∀ W, PH L P B bb ab ob rb g cap wr.heap.size (p : Int) y w W s s.pa → Calls Tryd.prog 32 #[.pointer (some ⟨rb, 0, none⟩), .int .i64 (p : Int)] W fun e w' => e = .returned (.int .i64 (q0 : Int)) ∧ w' = W) := fun W hW => by
        have := rof_any hW.ra HI.out p hp
        rw [e1] at this
        exact this
      have t3 : decide ((q0 : Int) < 0) = false := decide_eq_false (by omega)
      clear e1 e2
      go_enter Tryd.func18, Tryd.ntmps18
      go_wp2_with fail
      generalize wr.alloc (.cells #[.int .i64 4, .int .i64 (p : Int), .int .i64 y] 48) = wa at HN ⊢
      generalize wr.heap.size = nb at *
      have HA := of_any HN.out.bs.bo (p : Int)
      rw [HT.out] at HA
      have HA2 : Hid (Calls Tryd.prog 22 #[.pointer (some ⟨bb, 0, none⟩), .int .i64 (p : Int)] wa fun e w' => e = .returned (.tuple #[.int .i64 (q0 : Int), .nilIface]) ∧ w' = wa) := HA
      clear HA
      refine HA2.out.mono ?_
      rintro e w2 ⟨rfl, rfl⟩
      clear HA2
      have k1 := HN.out.k1
      have c1 := HN.out.ra.c1
      have hp2 := HN.out.ra.p2
      go_wp2
      go_quiet (fail)
      go_wp2_with fail
      refine (HRO.out _ (HN.out.drewN _)).mono ?_
      rintro e w3 ⟨rfl, rfl⟩
      go_wp2
      go_ret
      exact ⟨rfl, _, (HN.out.drewN _).done⟩
set_option maxRecDepth 100000 in
set_option maxHeartbeats 4000000 in
theorem step5 {L P B bb ab ob rb g cap : Nat} {w wr : World} {s : Bk} (h : PS L P B bb ab ob rb g cap w wr s) (hE : ∀ w', Below B w w' → EType w') (kd : Int) (h1 : kd ≠ 1) (h2 : kd ≠ 2) (h3 : kd ≠ 3) (h4 : kd ≠ 4) (x y : Int) : Steps L P B bb ab ob rb g cap w wr kd x y := by
  have HE : Hid (∀ w', Below B w w' → EType w') := hE
  have HN : Hid (PH L P B bb ab ob rb g cap wr.heap.size x y w (wr.alloc (.cells #[.int .i64 kd, .int .i64 x, .int .i64 y] 48)) s s.pa) := h.box kd x y
  have HI : Hid (Inv L P s) := h.bs.bo.inv
  clear h hE
  unfold Steps
  have z1 : (kd == 1) = false := by rw [beq_eq_false_iff_ne]; exact h1
  have z2 : (kd == 2) = false := by rw [beq_eq_false_iff_ne]; exact h2
  have z3 : (kd == 3) = false := by rw [beq_eq_false_iff_ne]; exact h3
  have z4 : (kd == 4) = false := by rw [beq_eq_false_iff_ne]; exact h4
  clear h1 h2 h3 h4
  by_cases hxy : x < 0 ∨ (P : Int) < y ∨ y < x
  · have HT : Hid (liveF P s x y = (0, 1)) := liveF_no hxy
    have hw : decide (x < 0) = true ∨ (decide (x < 0) = false ∧ decide (y < x) = true) ∨ (decide (x < 0) = false ∧ decide (y < x) = false ∧ decide ((P : Int) < y) = true) := by
      simp only [decide_eq_true_eq, decide_eq_false_iff_not]
      omega
    clear hxy
    rcases hw with t1 | ⟨t1, t2⟩ | ⟨t1, t2, t3⟩
    all_goals
      go_enter Tryd.func18, Tryd.ntmps18
      go_wp2_with fail
      generalize wr.alloc (.cells #[.int .i64 kd, .int .i64 x, .int .i64 y] 48) = wa at HN ⊢
      generalize wr.heap.size = nb at *
      have HA := live_any HN.out.bs.bo x y
      rw [HT.out] at HA
      have HA2 : Hid (Calls Tryd.prog 23 #[.pointer (some ⟨bb, 0, none⟩), .int .i64 x, .int .i64 y] wa fun e w' => e = .returned (.tuple #[.int .i64 0, .iface 37 (.int .i64 1)]) ∧ w' = wa) := HA
      clear HA
      refine HA2.out.mono ?_
      rintro e w2 ⟨rfl, rfl⟩
      clear HA2
      have k1 := HN.out.k1
      have k2 := HN.out.k2
      have c1 := HN.out.ra.c1
      have hp2 := HN.out.ra.p2
      go_wp2
      go_quiet (fail)
      go_wp2_with fail
      refine (error_same 1 _ (HE.out _ (HN.out.drewN _).bs.bel)).mono ?_
      rintro e w4 ⟨rfl, hb4⟩
      have H4 : Hid (PS L P B bb ab ob rb g cap w w4 s) := ((HN.out.drewN _).below hb4).done
      clear hb4 HN
      go_wp2
      go_ret
      exact ⟨rfl, _, H4.out⟩
  · obtain ⟨f, rfl⟩ : ∃ f : Nat, x = (f : Int) := ⟨x.toNat, by omega⟩
    obtain ⟨k, rfl⟩ : ∃ k : Nat, y = (f : Int) + (k : Int) := ⟨(y - (f : Int)).toNat, by omega⟩
    have hk : f + k ≤ P := by omega
    have HT : Hid (liveF P s (f : Int) ((f : Int) + (k : Int)) = (cntN (fun i => s.lb (f + i)) k, 0)) := liveF_some hk
    have HRL : Hid (∀ W, PH L P B bb ab ob rb g cap wr.heap.size (f : Int) ((f : Int) + (k : Int)) w W s s.pa → Calls Tryd.prog 33 #[.pointer (some ⟨rb, 0, none⟩), .int .i64 (f : Int), .int .i64 ((f : Int) + (k : Int))] W fun e w' => e = .returned (.int .i64 (cntN (fun i => s.lb (f + i)) k : Int)) ∧ w' = W) := fun W hW => by
      have := rlive_any hW.ra (f : Int) ((f : Int) + (k : Int))
      rw [live_same HI.out f k hk] at this
      exact this
    have t1 : decide ((f : Int) < 0) = false := decide_eq_false (by omega)
    have t2 : decide ((f : Int) + (k : Int) < (f : Int)) = false := decide_eq_false (by omega)
    have t3 : decide ((P : Int) < (f : Int) + (k : Int)) = false := decide_eq_false (by omega)
    clear hxy HI
    generalize cntN (fun i => s.lb (f + i)) k = X at *
    generalize hy : (f : Int) + (k : Int) = y at *
    clear hy
    go_enter Tryd.func18, Tryd.ntmps18
    go_wp2_with fail
    generalize wr.alloc (.cells #[.int .i64 kd, .int .i64 (f : Int), .int .i64 y] 48) = wa at HN ⊢
    generalize wr.heap.size = nb at *
    have HA := live_any HN.out.bs.bo (f : Int) y
    rw [HT.out] at HA
    have HA2 : Hid (Calls Tryd.prog 23 #[.pointer (some ⟨bb, 0, none⟩), .int .i64 (f : Int), .int .i64 y] wa fun e w' => e = .returned (.tuple #[.int .i64 (X : Int), .nilIface]) ∧ w' = wa) := HA
    clear HA
    refine HA2.out.mono ?_
    rintro e w2 ⟨rfl, rfl⟩
    clear HA2
    have k1 := HN.out.k1
    have k2 := HN.out.k2
    have c1 := HN.out.ra.c1
    have hp2 := HN.out.ra.p2
    go_wp2
    go_quiet (fail)
    go_wp2_with fail
    refine (HRL.out _ (HN.out.drewN _)).mono ?_
    rintro e w3 ⟨rfl, rfl⟩
    go_wp2
    go_ret
    exact ⟨rfl, _, (HN.out.drewN _).done⟩
theorem step_any {L P B bb ab ob rb g cap : Nat} {w wr : World} {s : Bk} (h : PS L P B bb ab ob rb g cap w wr s) (hE : ∀ w', Below B w w' → EType w') (kd x y : Int) : Steps L P B bb ab ob rb g cap w wr kd x y := by
  by_cases h1 : kd = 1
  · subst h1; exact step1 h hE x y
  by_cases h2 : kd = 2
  · subst h2; exact step2 h hE x y
  by_cases h3 : kd = 3
  · subst h3; exact step3 h hE x y
  by_cases h4 : kd = 4
  · subst h4; exact step4 h hE x y
  exact step5 h hE kd h1 h2 h3 h4 x y
end Go.Proofs.YtcppokafgohkgadDoor
