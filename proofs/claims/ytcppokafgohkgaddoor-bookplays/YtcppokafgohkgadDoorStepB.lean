/-
  What the call of granarylaw1.bookStep gives: the other kinds of calls.
-/
import Derived.Test.YtcppokafgohkgadDoorStep
namespace Go.Proofs.YtcppokafgohkgadDoor
open Go.RowKit
set_option linter.unusedVariables false

theorem PH.drewN {L P B bb ab ob rb g cap nb : Nat} {x y : Int} {w wr : World} {s : Bk} {f : Nat → Int} (h : PH L P B bb ab ob rb g cap nb x y w wr s f) (q : Nat) : PH L P B bb ab ob rb g cap nb x y w (wr.drewN q) s f := h.below (below_drewN (Below.refl _ _) q)
/-- Which way a number is out of range. -/
theorem out_ways {n : Nat} {x : Int} (h : inB n x = false) : decide (x < 0) = true ∨ (decide (x < 0) = false ∧ decide ((n : Int) ≤ x) = true) := by
  rcases inB_no h with e | e
  · exact Or.inl (decide_eq_true e)
  · by_cases e2 : x < 0
    · exact Or.inl (decide_eq_true e2)
    · exact Or.inr ⟨decide_eq_false e2, decide_eq_true e⟩
set_option maxRecDepth 100000 in
set_option maxHeartbeats 4000000 in
theorem step2 {L P B bb ab ob rb g cap : Nat} {w wr : World} {s : Bk} (h : PS L P B bb ab ob rb g cap w wr s) (hE : ∀ w', Below B w w' → EType w') (x y : Int) : Steps L P B bb ab ob rb g cap w wr 2 x y := by
  have HE : Hid (∀ w', Below B w w' → EType w') := hE
  have HN : Hid (PH L P B bb ab ob rb g cap wr.heap.size x y w (wr.alloc (.cells #[.int .i64 2, .int .i64 x, .int .i64 y] 48)) s s.pa) := h.box 2 x y
  clear h hE
  unfold Steps
  by_cases h1 : inB L x = false
  · have HDF : Hid (dropF L s x = (1, s)) := if_pos h1
    have hw := out_ways h1
    clear h1
    rcases hw with t1 | ⟨t1, t2⟩
    all_goals
      go_enter Tryd.func18, Tryd.ntmps18
      go_wp2_with fail
      generalize wr.alloc (.cells #[.int .i64 2, .int .i64 x, .int .i64 y] 48) = wa at HN ⊢
      generalize wr.heap.size = nb at *
      have HD := drop_any HN.out.bs.bo x
      rw [HDF.out] at HD
      have HD2 : Hid (Calls Tryd.prog 21 #[.pointer (some ⟨bb, 0, none⟩), .int .i64 x] wa fun e w' => e = .returned (.iface 37 (.int .i64 1)) ∧ BO L P w' bb ab ob s ∧ Keep (BT ab ob) wa w') := HD
      clear HD HDF
      refine HD2.out.mono ?_
      rintro e w2 ⟨rfl, h2, hk2⟩
      have H2 : Hid (PH L P B bb ab ob rb g cap nb x y w w2 s s.pa) := HN.out.prog h2 hk2
      clear h2 hk2 HD2 HN
      have k1 := H2.out.k1
      have c0 := H2.out.ra.c0
      have hl2 := H2.out.ra.l2
      go_wp2
      go_quiet (fail)
      go_wp2_with fail
      refine (error_same 1 _ (HE.out _ (H2.out.drewN _).bs.bel)).mono ?_
      rintro e w4 ⟨rfl, hb4⟩
      have H4 : Hid (PS L P B bb ab ob rb g cap w w4 s) := ((H2.out.drewN _).below hb4).done
      clear hb4 H2
      go_wp2
      go_ret
      exact ⟨rfl, _, H4.out⟩
  · have h1' : inB L x = true := by simpa using h1
    obtain ⟨l, rfl, hl⟩ := inB_nat h1'
    have HDF : Hid (dropF L s (l : Int) = (0, leaveF s l)) := if_neg h1
    have t1 : decide ((l : Int) < 0) = false := decide_eq_false (by omega)
    have t2 : decide ((L : Int) ≤ (l : Int)) = false := decide_eq_false (by omega)
    clear h1 h1'
    go_enter Tryd.func18, Tryd.ntmps18
    go_wp2_with fail
    generalize wr.alloc (.cells #[.int .i64 2, .int .i64 (l : Int), .int .i64 y] 48) = wa at HN ⊢
    generalize wr.heap.size = nb at *
    have HD := drop_any HN.out.bs.bo (l : Int)
    rw [HDF.out] at HD
    have HD2 : Hid (Calls Tryd.prog 21 #[.pointer (some ⟨bb, 0, none⟩), .int .i64 (l : Int)] wa fun e w' => e = .returned .nilIface ∧ BO L P w' bb ab ob (leaveF s l) ∧ Keep (BT ab ob) wa w') := HD
    clear HD HDF
    refine HD2.out.mono ?_
    rintro e w2 ⟨rfl, h2, hk2⟩
    have H2 : Hid (PH L P B bb ab ob rb g cap nb (l : Int) y w w2 (leaveF s l) s.pa) := HN.out.prog h2 hk2
    clear h2 hk2 HD2 HN
    have k1 := H2.out.k1
    have c0 := H2.out.ra.c0
    have hl2 := H2.out.ra.l2
    have q := H2.out.ra.ro.cell l hl
    have f := H2.out.ra.ro.free l
    have HF : Hid (∀ n, PS L P B bb ab ob rb g cap w ((w2.drewN n).setCell ⟨g, l, none⟩ (.int .i64 (-1))) (leaveF s l)) := fun n => by
      have h3 := H2.out.drewN n
      have h4 : PH L P B bb ab ob rb g cap nb (l : Int) y w ((w2.drewN n).setCell ⟨g, l, none⟩ (.int .i64 (-1))) (leaveF s l) (leaveF s l).pa := h3.ref (h3.ra.set l (-1) hl) ((Keep.refl _ _).set1 _ _)
      exact h4.done
    generalize s.pa l = v at q
    clear H2
    go_wp2
    go_quiet (fail)
    go_wp2
    go_region
    all_goals
      go_wp2
      go_ret
      exact ⟨rfl, _, HF.out _⟩
set_option maxRecDepth 100000 in
set_option maxHeartbeats 4000000 in
theorem step3 {L P B bb ab ob rb g cap : Nat} {w wr : World} {s : Bk} (h : PS L P B bb ab ob rb g cap w wr s) (hE : ∀ w', Below B w w' → EType w') (x y : Int) : Steps L P B bb ab ob rb g cap w wr 3 x y := by
  have HE : Hid (∀ w', Below B w w' → EType w') := hE
  have HN : Hid (PH L P B bb ab ob rb g cap wr.heap.size x y w (wr.alloc (.cells #[.int .i64 3, .int .i64 x, .int .i64 y] 48)) s s.pa) := h.box 3 x y
  have HI : Hid (Inv L P s) := h.bs.bo.inv
  clear h hE
  unfold Steps
  by_cases h1 : inB L x = false
  · have HT : Hid (tellF L s.pa x = (0, 1)) := tellF_no h1
    have hw := out_ways h1
    clear h1
    rcases hw with t1 | ⟨t1, t2⟩
    all_goals
      go_enter Tryd.func18, Tryd.ntmps18
      go_wp2_with fail
      generalize wr.alloc (.cells #[.int .i64 3, .int .i64 x, .int .i64 y] 48) = wa at HN ⊢
      generalize wr.heap.size = nb at *
      have HA := at_any HN.out.bs.bo x
      rw [HT.out] at HA
      have HA2 : Hid (Calls Tryd.prog 20 #[.pointer (some ⟨bb, 0, none⟩), .int .i64 x] wa fun e w' => e = .returned (.tuple #[.int .i64 0, .iface 37 (.int .i64 1)]) ∧ w' = wa) := HA
      clear HA
      refine HA2.out.mono ?_
      rintro e w2 ⟨rfl, rfl⟩
      clear HA2
      have k1 := HN.out.k1
      have c0 := HN.out.ra.c0
      have hl2 := HN.out.ra.l2
      go_wp2
      go_quiet (fail)
      go_wp2_with fail
      refine (error_same 1 _ (HE.out _ (HN.out.drewN _).bs.bel)).mono ?_
      rintro e w4 ⟨rfl, hb4⟩
      have H4 : Hid (PS L P B bb ab ob rb g cap w w4 s) := ((HN.out.drewN _).below hb4).done
      clear hb4 HN
      go_wp2
      go_ret
      exact ⟨rfl, _, H4.out⟩
  · have h1' : inB L x = true := by simpa using h1
    obtain ⟨l, rfl, hl⟩ := inB_nat h1'
    have t1 : decide ((l : Int) < 0) = false := decide_eq_false (by omega)
    have t2 : decide ((L : Int) ≤ (l : Int)) = false := decide_eq_false (by omega)
    clear h1 h1'
    rcases HI.out.a l hl with e | ⟨q0, hq, e1, e2⟩
    · have HT : Hid (tellF L s.pa (l : Int) = (0, 4)) := tellF_none hl e
      have HQ : Hid (s.pa l = -1) := e
      clear e
      go_enter Tryd.func18, Tryd.ntmps18
      go_wp2_with fail
      generalize wr.alloc (.cells #[.int .i64 3, .int .i64 (l : Int), .int .i64 y] 48) = wa at HN ⊢
      generalize wr.heap.size = nb at *
      have HA := at_any HN.out.bs.bo (l : Int)
      rw [HT.out] at HA
      have HA2 : Hid (Calls Tryd.prog 20 #[.pointer (some ⟨bb, 0, none⟩), .int .i64 (l : Int)] wa fun e w' => e = .returned (.tuple #[.int .i64 0, .iface 37 (.int .i64 4)]) ∧ w' = wa) := HA
      clear HA
      refine HA2.out.mono ?_
      rintro e w2 ⟨rfl, rfl⟩
      clear HA2
      have k1 := HN.out.k1
      have c0 := HN.out.ra.c0
      have hl2 := HN.out.ra.l2
      have q := HN.out.ra.ro.cell l hl
      rw [HQ.out] at q
      go_wp2
      go_quiet (fail)
      go_wp2
      go_quiet (fail)
      go_wp2_with fail
      refine (error_same 4 _ (HE.out _ (HN.out.drewN _).bs.bel)).mono ?_
      rintro e w4 ⟨rfl, hb4⟩
      have H4 : Hid (PS L P B bb ab ob rb g cap w w4 s) := ((HN.out.drewN _).below hb4).done
      clear hb4 HN
      go_wp2
      go_ret
      exact ⟨rfl, _, H4.out⟩
    · have HT : Hid (tellF L s.pa (l : Int) = ((q0 : Int), 0)) := by
        have := tellF_some (f := s.pa) hl (by rw [e1]; omega)
        rw [e1] at this
        exact this
      have HQ : Hid (s.pa l = (q0 : Int)) := e1
      have t3 : decide ((q0 : Int) < 0) = false := decide_eq_false (by omega)
      clear e1 e2
      go_enter Tryd.func18, Tryd.ntmps18
      go_wp2_with fail
      generalize wr.alloc (.cells #[.int .i64 3, .int .i64 (l : Int), .int .i64 y] 48) = wa at HN ⊢
      generalize wr.heap.size = nb at *
      have HA := at_any HN.out.bs.bo (l : Int)
      rw [HT.out] at HA
      have HA2 : Hid (Calls Tryd.prog 20 #[.pointer (some ⟨bb, 0, none⟩), .int .i64 (l : Int)] wa fun e w' => e = .returned (.tuple #[.int .i64 (q0 : Int), .nilIface]) ∧ w' = wa) := HA
      clear HA
      refine HA2.out.mono ?_
      rintro e w2 ⟨rfl, rfl⟩
      clear HA2
      have k1 := HN.out.k1
      have c0 := HN.out.ra.c0
      have hl2 := HN.out.ra.l2
      have q := HN.out.ra.ro.cell l hl
      rw [HQ.out] at q
      go_wp2
      go_quiet (fail)
      go_wp2
      go_quiet (fail)
      go_wp2
      go_quiet (fail)
      go_wp2
      go_ret
      exact ⟨rfl, _, (((HN.out.drewN _).drewN _).drewN _).done⟩
end Go.Proofs.YtcppokafgohkgadDoor
