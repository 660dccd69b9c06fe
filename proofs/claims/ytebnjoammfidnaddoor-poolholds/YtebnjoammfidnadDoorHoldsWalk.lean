/-
  The walk of granarylaw1.PoolHolds: it returns true, and nothing that was there has turned.
-/
import Derived.Test.YtebnjoammfidnadDoorFact
import Derived.Test.YtebnjoammfidnadDoorTold
namespace Go.Proofs.YtebnjoammfidnadDoor
open Go.RowKit
set_option linter.unusedVariables false

/-- What lies there between two calls. -/
structure HS (n sp B pb bb : Nat) (w1 wr : World) (i : Nat) (s : St) : Prop where
  pa : PA n sp (fun b => b < B) wr pb bb s
  bel : Below B w1 wr
  le : ∀ k, s.wn k ≤ i
theorem HS.below {n sp B pb bb i : Nat} {w1 wr w' : World} {s : St} (h : HS n sp B pb bb w1 wr i s) (hb : Below wr.heap.size wr w') (hB : B ≤ wr.heap.size) : HS n sp B pb bb w1 w' i s := ⟨h.pa.below hb, h.bel.trans (hb.mono hB), h.le⟩
/-- What a call did: nothing, told so; or something, of a pool that was not latched. -/
def Did (n sp : Nat) (s s5 : St) (ec : Nat) : Prop := (sp < cnt s.st 2 n ∧ ec = 9 ∧ s5 = s) ∨ (¬ sp < cnt s.st 2 n ∧ ec ≠ 0 ∧ s5 = s) ∨ (¬ sp < cnt s.st 2 n ∧ ec = 0)
theorem did_take (n sp : Nat) (s : St) : Did n sp s (takeF n sp s).2 (takeF n sp s).1.2 := by
  unfold Did
  by_cases h : sp < cnt s.st 2 n
  · left; unfold takeF; rw [if_pos h]; exact ⟨h, rfl, rfl⟩
  · right
    rcases takeF_cases n sp s with ⟨h1, h2, _⟩ | ⟨_, b, _, e⟩
    · exact Or.inl ⟨h, h1, h2⟩
    · exact Or.inr ⟨h, by rw [e]⟩
theorem did_put (n sp : Nat) (s : St) (b : Int) (v : Nat) : Did n sp s (putF n sp s b v).2 (putF n sp s b v).1 := by
  unfold Did
  by_cases h : sp < cnt s.st 2 n
  · left; unfold putF; rw [if_pos h]; exact ⟨h, rfl, rfl⟩
  · right
    rcases putF_cases n sp s b v with ⟨h1, h2⟩ | ⟨_, k, _, _, _, e⟩
    · exact Or.inl ⟨h, h1, h2⟩
    · exact Or.inr ⟨h, by rw [e]⟩
set_option maxRecDepth 100000 in
set_option maxHeartbeats 1600000 in
theorem holds_no (n sp : Int) (a2 : Option Addr) (n2 cap2 : Nat) (w : World) (h : ¬ GoodN n sp) : Calls Tryd.prog 3 #[.int .i64 n, .int .i64 sp, .slice a2 n2 cap2] w fun e w' => e = .returned (.bool true) ∧ Below w.heap.size w w' := by
  have HF : Hid (¬ GoodN n sp) := h
  clear h
  go_enter Tryd.func3, Tryd.ntmps3
  go_wp2_with fail
  refine (fact_any _).mono ?_
  rintro e w1 ⟨rfl, hb1⟩
  go_wp2_with fail
  refine (new_no n sp _ HF.out).mono ?_
  rintro e w2 ⟨rfl, rfl⟩
  go_wp2
  go_ret
  exact ⟨rfl, hb1⟩
set_option maxRecDepth 100000 in
set_option maxHeartbeats 8000000 in
theorem holds_yes (n sp : Nat) (a2 : Option Addr) (n2 cap2 : Nat) (w : World) (h1 : 1 ≤ n) (h2 : n ≤ 64) (hsp : sp ≤ n) (hE : EType w) (hS : Script w a2 n2) (hl2 : n2 ≤ 9223372036854775807) : Calls Tryd.prog 3 #[.int .i64 n, .int .i64 sp, .slice a2 n2 cap2] w fun e w' => e = .returned (.bool true) ∧ Below w.heap.size w w' := by
  have HSC : Hid (Script w a2 n2) := hS
  have HE : Hid (EType w) := hE
  clear hS hE
  go_enter Tryd.func3, Tryd.ntmps3
  go_wp2_with fail
  refine (fact_any _).mono ?_
  rintro e w1 ⟨rfl, hb1⟩
  have HB1 : Hid (Below w.heap.size w w1) := hb1
  have HS1 : Hid (Script w1 a2 n2) := HSC.out.below hb1 (Nat.le_refl _)
  have HE1 : Hid (∀ w', Below w1.heap.size w1 w' → EType w') := fun w' hb => (HE.out.below hb1 HE.out.pos).below hb (Nat.lt_of_lt_of_le HE.out.pos hb1.size)
  clear hb1 HSC HE
  go_wp2_with fail
  refine (new_yes n sp _ h1 h2 hsp).mono ?_
  rintro e w2 ⟨pb, bb, rfl, hp2, hb2⟩
  have H2 : Hid (HS n sp w1.heap.size pb bb w1 w2 0 fresh) := ⟨hp2, hb2, fun _ => Nat.le_refl _⟩
  clear hp2 hb2
  go_wp2
  go_loopw [10] (fun j wq => ∃ (i : Nat) (s : St), i ≤ n2 ∧ j = .int .i64 i ∧ Hid (HS n sp w1.heap.size pb bb w1 wq i s)) (fun j _ => n2 - (intOf j).toNat)
  case atStart => exact ⟨0, fresh, Nat.zero_le _, rfl, H2.out⟩
  case round =>
    obtain ⟨i, s, hi, rfl, hR⟩ := hrel
    clear H2
    by_cases hlt2 : i < n2
    · obtain ⟨sb, so, ha2, o, hO⟩ := HS1.out.slice hlt2
      have hOr := hO.below hR.out.bel (Nat.le_refl _)
      have k0 := hOr.k0
      have k1 := hOr.k1
      clear hO hOr
      rw [ha2]
      generalize o.kind = kd at k0
      generalize o.block = bl at k1
      have HN : Hid (HS n sp w1.heap.size pb bb w1 (wr.alloc (.cells #[.int .i64 kd, .int .i64 bl] 30)) i s ∧ (wr.alloc (.cells #[.int .i64 kd, .int .i64 bl] 30)).cell? ⟨wr.heap.size, 0, none⟩ = some (.int .i64 kd) ∧ (wr.alloc (.cells #[.int .i64 kd, .int .i64 bl] 30)).cell? ⟨wr.heap.size, 1, none⟩ = some (.int .i64 bl)) :=
        ⟨hR.out.below ((Below.refl _ _).alloc (Nat.le_refl _) _) hR.out.bel.size, by simp, by simp⟩
      clear hR
      go_wp2_with fail
      generalize wr.alloc (.cells #[.int .i64 kd, .int .i64 bl] 30) = wa at HN ⊢
      generalize wr.heap.size = nb at *
      clear k0 k1
      have hC := pa_count HN.out.1.pa
      have HL := pa_latched HN.out.1.pa
      have hok := HN.out.1.pa.pos.2.2
      have lx0 := cnt_le s.st 0 n
      have lx1 := cnt_le s.st 1 n
      have lx2 := cnt_le s.st 2 n
      have HCN : Hid (Calls Tryd.prog 6 #[.pointer (some ⟨pb, 0, none⟩)] wa fun e w' => e = .returned (.tuple #[.int .i64 (cnt s.st 0 n : Int), .int .i64 (cnt s.st 1 n : Int), .int .i64 (cnt s.st 2 n : Int)]) ∧ Below wa.heap.size wa w') := hC
      clear hC HL hok
      refine HCN.out.mono ?_
      rintro e w3 ⟨rfl, hb3⟩
      have H3 : Hid (HS n sp w1.heap.size pb bb w1 w3 i s ∧ w3.cell? ⟨nb, 0, none⟩ = some (.int .i64 kd) ∧ w3.cell? ⟨nb, 1, none⟩ = some (.int .i64 bl)) :=
        ⟨HN.out.1.below hb3 HN.out.1.bel.size, by rw [hb3.cell (p := ⟨nb, 0, none⟩) (World.block_lt_of_cell? wa _ HN.out.2.1)]; exact HN.out.2.1, by rw [hb3.cell (p := ⟨nb, 1, none⟩) (World.block_lt_of_cell? wa _ HN.out.2.2)]; exact HN.out.2.2⟩
      clear hb3 HN HCN
      go_wp2_with fail
      refine (pa_latched H3.out.1.pa).mono ?_
      rintro e w4 ⟨rfl, hb4⟩
      have H4 : Hid (HS n sp w1.heap.size pb bb w1 w4 i s) := H3.out.1.below hb4 H3.out.1.bel.size
      have k0 := (hb4.cell (p := ⟨nb, 0, none⟩) (World.block_lt_of_cell? w3 _ H3.out.2.1)).trans H3.out.2.1
      have k1 := (hb4.cell (p := ⟨nb, 1, none⟩) (World.block_lt_of_cell? w3 _ H3.out.2.2)).trans H3.out.2.2
      clear hb4 H3
      by_cases hk1 : kd = 1
      · subst hk1
        have hT := take_any H4.out.pa
        have HD : Hid (Did n sp s (takeF n sp s).2 (takeF n sp s).1.2) := did_take n sp s
        have HW : Hid (∀ x, (takeF n sp s).2.wn x ≤ i + 1) := fun x => by rw [takeF_wn]; exact Nat.le_succ_of_le (H4.out.le x)
        generalize takeF n sp s = q at *
        obtain ⟨⟨b, ec⟩, s5⟩ := q
        have HT : Hid (Calls Tryd.prog 8 #[.pointer (some ⟨pb, 0, none⟩)] w4 fun e w' => e = .returned (.tuple #[.int .i64 (b : Nat), errI ec]) ∧ PA n sp (fun b => b < w1.heap.size) w' pb bb s5 ∧ Keep (fun b => ¬ b < w1.heap.size) w4 w') := hT
        clear hT
        rcases HD.out with ⟨hl, rfl, rfl⟩ | ⟨hl, he, rfl⟩ | ⟨hl, rfl⟩
        · rw [lat_yes hl]
          rw [errI_ne (by decide)] at HT
          clear HD hl
          go_wp2_with fail
          refine HT.out.mono ?_
          rintro e w5 ⟨rfl, h5, hk5⟩
          have H5 : Hid (HS n sp w1.heap.size pb bb w1 w5 (i + 1) s5) := ⟨h5, H4.out.bel.trans (hk5.base H4.out.bel.size (fun b hb => hb)), HW.out⟩
          clear h5 hk5 HT H4 HW k0 k1
          have hsum := cnt_sum s5.st n H5.out.pa.pos.2.2
          have HC5 : Hid (Calls Tryd.prog 6 #[.pointer (some ⟨pb, 0, none⟩)] w5 fun e w' => e = .returned (.tuple #[.int .i64 (cnt s5.st 0 n : Int), .int .i64 (cnt s5.st 1 n : Int), .int .i64 (cnt s5.st 2 n : Int)]) ∧ Below w5.heap.size w5 w') := pa_count H5.out.pa
          have HSUM : Hid (cnt s5.st 0 n + cnt s5.st 1 n + cnt s5.st 2 n = n) := hsum
          have ts : (((cnt s5.st 0 n : Int) + (cnt s5.st 1 n : Int) + (cnt s5.st 2 n : Int)) != (n : Int)) = false := by rw [bne_eq_false_iff_eq]; omega
          have ly0 := cnt_le s5.st 0 n
          have ly1 := cnt_le s5.st 1 n
          have ly2 := cnt_le s5.st 2 n
          clear hsum
          generalize cnt s5.st 0 n = y0 at *
          generalize cnt s5.st 1 n = y1 at *
          generalize cnt s5.st 2 n = y2 at *
          have tz0 : ¬ ((y0 : Int) < 0) := by omega
          have tz1 : ¬ ((y1 : Int) < 0) := by omega
          have tz2 : ¬ ((y2 : Int) < 0) := by omega
          go_wp2_with fail
          refine HC5.out.mono ?_
          rintro e w6 ⟨rfl, hb6⟩
          have H6 : Hid (HS n sp w1.heap.size pb bb w1 w6 (i + 1) s5) := H5.out.below hb6 H5.out.bel.size
          clear hb6 H5 HC5
          go_wp2_with fail
          refine (error_same 9 w6 (HE1.out w6 H6.out.bel)).mono ?_
          rintro e w7 ⟨rfl, hb7⟩
          have H7 : Hid (HS n sp w1.heap.size pb bb w1 w7 (i + 1) s5) := H6.out.below hb7 H6.out.bel.size
          clear hb7 H6
          go_wp2
          exact ⟨⟨i + 1, s5, by omega, by go_num, H7.out⟩, by simp [intOf]; omega⟩
        · rw [lat_no hl]
          rw [errI_ne he] at HT
          clear HD hl he
          go_wp2_with fail
          refine HT.out.mono ?_
          rintro e w5 ⟨rfl, h5, hk5⟩
          have H5 : Hid (HS n sp w1.heap.size pb bb w1 w5 (i + 1) s5) := ⟨h5, H4.out.bel.trans (hk5.base H4.out.bel.size (fun b hb => hb)), HW.out⟩
          clear h5 hk5 HT H4 HW k0 k1
          have hsum := cnt_sum s5.st n H5.out.pa.pos.2.2
          have HC5 : Hid (Calls Tryd.prog 6 #[.pointer (some ⟨pb, 0, none⟩)] w5 fun e w' => e = .returned (.tuple #[.int .i64 (cnt s5.st 0 n : Int), .int .i64 (cnt s5.st 1 n : Int), .int .i64 (cnt s5.st 2 n : Int)]) ∧ Below w5.heap.size w5 w') := pa_count H5.out.pa
          have HSUM : Hid (cnt s5.st 0 n + cnt s5.st 1 n + cnt s5.st 2 n = n) := hsum
          have ts : (((cnt s5.st 0 n : Int) + (cnt s5.st 1 n : Int) + (cnt s5.st 2 n : Int)) != (n : Int)) = false := by rw [bne_eq_false_iff_eq]; omega
          have ly0 := cnt_le s5.st 0 n
          have ly1 := cnt_le s5.st 1 n
          have ly2 := cnt_le s5.st 2 n
          clear hsum
          generalize cnt s5.st 0 n = y0 at *
          generalize cnt s5.st 1 n = y1 at *
          generalize cnt s5.st 2 n = y2 at *
          have tz0 : ¬ ((y0 : Int) < 0) := by omega
          have tz1 : ¬ ((y1 : Int) < 0) := by omega
          have tz2 : ¬ ((y2 : Int) < 0) := by omega
          go_wp2_with fail
          refine HC5.out.mono ?_
          rintro e w6 ⟨rfl, hb6⟩
          have H6 : Hid (HS n sp w1.heap.size pb bb w1 w6 (i + 1) s5) := H5.out.below hb6 H5.out.bel.size
          clear hb6 H5 HC5
          go_wp2
          exact ⟨⟨i + 1, s5, by omega, by go_num, H6.out⟩, by simp [intOf]; omega⟩
        · rw [lat_no hl]
          rw [errI0] at HT
          clear HD hl
          generalize cnt s.st 0 n = x0 at *
          generalize cnt s.st 1 n = x1 at *
          generalize cnt s.st 2 n = x2 at *
          go_wp2_with fail
          refine HT.out.mono ?_
          rintro e w5 ⟨rfl, h5, hk5⟩
          have H5 : Hid (HS n sp w1.heap.size pb bb w1 w5 (i + 1) s5) := ⟨h5, H4.out.bel.trans (hk5.base H4.out.bel.size (fun b hb => hb)), HW.out⟩
          clear h5 hk5 HT H4 HW k0 k1
          have hsum := cnt_sum s5.st n H5.out.pa.pos.2.2
          have HC5 : Hid (Calls Tryd.prog 6 #[.pointer (some ⟨pb, 0, none⟩)] w5 fun e w' => e = .returned (.tuple #[.int .i64 (cnt s5.st 0 n : Int), .int .i64 (cnt s5.st 1 n : Int), .int .i64 (cnt s5.st 2 n : Int)]) ∧ Below w5.heap.size w5 w') := pa_count H5.out.pa
          have HSUM : Hid (cnt s5.st 0 n + cnt s5.st 1 n + cnt s5.st 2 n = n) := hsum
          have ts : (((cnt s5.st 0 n : Int) + (cnt s5.st 1 n : Int) + (cnt s5.st 2 n : Int)) != (n : Int)) = false := by rw [bne_eq_false_iff_eq]; omega
          have ly0 := cnt_le s5.st 0 n
          have ly1 := cnt_le s5.st 1 n
          have ly2 := cnt_le s5.st 2 n
          clear hsum
          generalize cnt s5.st 0 n = y0 at *
          generalize cnt s5.st 1 n = y1 at *
          generalize cnt s5.st 2 n = y2 at *
          have tz0 : ¬ ((y0 : Int) < 0) := by omega
          have tz1 : ¬ ((y1 : Int) < 0) := by omega
          have tz2 : ¬ ((y2 : Int) < 0) := by omega
          go_wp2_with fail
          refine HC5.out.mono ?_
          rintro e w6 ⟨rfl, hb6⟩
          have H6 : Hid (HS n sp w1.heap.size pb bb w1 w6 (i + 1) s5) := H5.out.below hb6 H5.out.bel.size
          clear hb6 H5 HC5
          go_wp2
          all_goals exact ⟨⟨i + 1, s5, by omega, by go_num, H6.out⟩, by simp [intOf]; omega⟩
      have t1 : (kd == 1) = false := by rw [beq_eq_false_iff_ne]; exact hk1
      by_cases hk2 : kd = 2
      · subst hk2
        have hT := give_any H4.out.pa bl (fun x => by have := H4.out.le x; omega)
        have HD : Hid (Did n sp s (putF n sp s bl 0).2 (putF n sp s bl 0).1) := did_put n sp s bl 0
        have HW : Hid (∀ x, (putF n sp s bl 0).2.wn x ≤ i + 1) := putF_wn n sp s bl 0 i H4.out.le
        generalize putF n sp s bl 0 = q at *
        obtain ⟨ec, s5⟩ := q
        have HT : Hid (Calls Tryd.prog 9 #[.pointer (some ⟨pb, 0, none⟩), .int .i64 bl] w4 fun e w' => e = .returned (errI ec) ∧ PA n sp (fun b => b < w1.heap.size) w' pb bb s5 ∧ Keep (fun b => ¬ b < w1.heap.size) w4 w') := hT
        clear hT hk1
        rcases HD.out with ⟨hl, rfl, rfl⟩ | ⟨hl, he, rfl⟩ | ⟨hl, rfl⟩
        · rw [lat_yes hl]
          rw [errI_ne (by decide)] at HT
          clear HD hl
          go_wp2_with fail
          refine HT.out.mono ?_
          rintro e w5 ⟨rfl, h5, hk5⟩
          have H5 : Hid (HS n sp w1.heap.size pb bb w1 w5 (i + 1) s5) := ⟨h5, H4.out.bel.trans (hk5.base H4.out.bel.size (fun b hb => hb)), HW.out⟩
          clear h5 hk5 HT H4 HW k0 k1
          have hsum := cnt_sum s5.st n H5.out.pa.pos.2.2
          have HC5 : Hid (Calls Tryd.prog 6 #[.pointer (some ⟨pb, 0, none⟩)] w5 fun e w' => e = .returned (.tuple #[.int .i64 (cnt s5.st 0 n : Int), .int .i64 (cnt s5.st 1 n : Int), .int .i64 (cnt s5.st 2 n : Int)]) ∧ Below w5.heap.size w5 w') := pa_count H5.out.pa
          have HSUM : Hid (cnt s5.st 0 n + cnt s5.st 1 n + cnt s5.st 2 n = n) := hsum
          have ts : (((cnt s5.st 0 n : Int) + (cnt s5.st 1 n : Int) + (cnt s5.st 2 n : Int)) != (n : Int)) = false := by rw [bne_eq_false_iff_eq]; omega
          have ly0 := cnt_le s5.st 0 n
          have ly1 := cnt_le s5.st 1 n
          have ly2 := cnt_le s5.st 2 n
          clear hsum
          generalize cnt s5.st 0 n = y0 at *
          generalize cnt s5.st 1 n = y1 at *
          generalize cnt s5.st 2 n = y2 at *
          have tz0 : ¬ ((y0 : Int) < 0) := by omega
          have tz1 : ¬ ((y1 : Int) < 0) := by omega
          have tz2 : ¬ ((y2 : Int) < 0) := by omega
          go_wp2_with fail
          refine HC5.out.mono ?_
          rintro e w6 ⟨rfl, hb6⟩
          have H6 : Hid (HS n sp w1.heap.size pb bb w1 w6 (i + 1) s5) := H5.out.below hb6 H5.out.bel.size
          clear hb6 H5 HC5
          go_wp2_with fail
          refine (error_same 9 w6 (HE1.out w6 H6.out.bel)).mono ?_
          rintro e w7 ⟨rfl, hb7⟩
          have H7 : Hid (HS n sp w1.heap.size pb bb w1 w7 (i + 1) s5) := H6.out.below hb7 H6.out.bel.size
          clear hb7 H6
          go_wp2
          exact ⟨⟨i + 1, s5, by omega, by go_num, H7.out⟩, by simp [intOf]; omega⟩
        · rw [lat_no hl]
          rw [errI_ne he] at HT
          clear HD hl he
          go_wp2_with fail
          refine HT.out.mono ?_
          rintro e w5 ⟨rfl, h5, hk5⟩
          have H5 : Hid (HS n sp w1.heap.size pb bb w1 w5 (i + 1) s5) := ⟨h5, H4.out.bel.trans (hk5.base H4.out.bel.size (fun b hb => hb)), HW.out⟩
          clear h5 hk5 HT H4 HW k0 k1
          have hsum := cnt_sum s5.st n H5.out.pa.pos.2.2
          have HC5 : Hid (Calls Tryd.prog 6 #[.pointer (some ⟨pb, 0, none⟩)] w5 fun e w' => e = .returned (.tuple #[.int .i64 (cnt s5.st 0 n : Int), .int .i64 (cnt s5.st 1 n : Int), .int .i64 (cnt s5.st 2 n : Int)]) ∧ Below w5.heap.size w5 w') := pa_count H5.out.pa
          have HSUM : Hid (cnt s5.st 0 n + cnt s5.st 1 n + cnt s5.st 2 n = n) := hsum
          have ts : (((cnt s5.st 0 n : Int) + (cnt s5.st 1 n : Int) + (cnt s5.st 2 n : Int)) != (n : Int)) = false := by rw [bne_eq_false_iff_eq]; omega
          have ly0 := cnt_le s5.st 0 n
          have ly1 := cnt_le s5.st 1 n
          have ly2 := cnt_le s5.st 2 n
          clear hsum
          generalize cnt s5.st 0 n = y0 at *
          generalize cnt s5.st 1 n = y1 at *
          generalize cnt s5.st 2 n = y2 at *
          have tz0 : ¬ ((y0 : Int) < 0) := by omega
          have tz1 : ¬ ((y1 : Int) < 0) := by omega
          have tz2 : ¬ ((y2 : Int) < 0) := by omega
          go_wp2_with fail
          refine HC5.out.mono ?_
          rintro e w6 ⟨rfl, hb6⟩
          have H6 : Hid (HS n sp w1.heap.size pb bb w1 w6 (i + 1) s5) := H5.out.below hb6 H5.out.bel.size
          clear hb6 H5 HC5
          go_wp2
          exact ⟨⟨i + 1, s5, by omega, by go_num, H6.out⟩, by simp [intOf]; omega⟩
        · rw [lat_no hl]
          rw [errI0] at HT
          clear HD hl
          generalize cnt s.st 0 n = x0 at *
          generalize cnt s.st 1 n = x1 at *
          generalize cnt s.st 2 n = x2 at *
          go_wp2_with fail
          refine HT.out.mono ?_
          rintro e w5 ⟨rfl, h5, hk5⟩
          have H5 : Hid (HS n sp w1.heap.size pb bb w1 w5 (i + 1) s5) := ⟨h5, H4.out.bel.trans (hk5.base H4.out.bel.size (fun b hb => hb)), HW.out⟩
          clear h5 hk5 HT H4 HW k0 k1
          have hsum := cnt_sum s5.st n H5.out.pa.pos.2.2
          have HC5 : Hid (Calls Tryd.prog 6 #[.pointer (some ⟨pb, 0, none⟩)] w5 fun e w' => e = .returned (.tuple #[.int .i64 (cnt s5.st 0 n : Int), .int .i64 (cnt s5.st 1 n : Int), .int .i64 (cnt s5.st 2 n : Int)]) ∧ Below w5.heap.size w5 w') := pa_count H5.out.pa
          have HSUM : Hid (cnt s5.st 0 n + cnt s5.st 1 n + cnt s5.st 2 n = n) := hsum
          have ts : (((cnt s5.st 0 n : Int) + (cnt s5.st 1 n : Int) + (cnt s5.st 2 n : Int)) != (n : Int)) = false := by rw [bne_eq_false_iff_eq]; omega
          have ly0 := cnt_le s5.st 0 n
          have ly1 := cnt_le s5.st 1 n
          have ly2 := cnt_le s5.st 2 n
          clear hsum
          generalize cnt s5.st 0 n = y0 at *
          generalize cnt s5.st 1 n = y1 at *
          generalize cnt s5.st 2 n = y2 at *
          have tz0 : ¬ ((y0 : Int) < 0) := by omega
          have tz1 : ¬ ((y1 : Int) < 0) := by omega
          have tz2 : ¬ ((y2 : Int) < 0) := by omega
          go_wp2_with fail
          refine HC5.out.mono ?_
          rintro e w6 ⟨rfl, hb6⟩
          have H6 : Hid (HS n sp w1.heap.size pb bb w1 w6 (i + 1) s5) := H5.out.below hb6 H5.out.bel.size
          clear hb6 H5 HC5
          go_wp2
          all_goals exact ⟨⟨i + 1, s5, by omega, by go_num, H6.out⟩, by simp [intOf]; omega⟩
      have t2 : (kd == 2) = false := by rw [beq_eq_false_iff_ne]; exact hk2
      clear hk1 hk2
      have hT := retire_any H4.out.pa bl
      have HD : Hid (Did n sp s (putF n sp s bl 2).2 (putF n sp s bl 2).1) := did_put n sp s bl 2
      have HW : Hid (∀ x, (putF n sp s bl 2).2.wn x ≤ i + 1) := putF_wn n sp s bl 2 i H4.out.le
      generalize putF n sp s bl 2 = q at *
      obtain ⟨ec, s5⟩ := q
      have HT : Hid (Calls Tryd.prog 10 #[.pointer (some ⟨pb, 0, none⟩), .int .i64 bl] w4 fun e w' => e = .returned (errI ec) ∧ PA n sp (fun b => b < w1.heap.size) w' pb bb s5 ∧ Keep (fun b => ¬ b < w1.heap.size) w4 w') := hT
      clear hT
      rcases HD.out with ⟨hl, rfl, rfl⟩ | ⟨hl, he, rfl⟩ | ⟨hl, rfl⟩
      · rw [lat_yes hl]
        rw [errI_ne (by decide)] at HT
        clear HD hl
        go_wp2_with fail
        refine HT.out.mono ?_
        rintro e w5 ⟨rfl, h5, hk5⟩
        have H5 : Hid (HS n sp w1.heap.size pb bb w1 w5 (i + 1) s5) := ⟨h5, H4.out.bel.trans (hk5.base H4.out.bel.size (fun b hb => hb)), HW.out⟩
        clear h5 hk5 HT H4 HW k0 k1
        have hsum := cnt_sum s5.st n H5.out.pa.pos.2.2
        have HC5 : Hid (Calls Tryd.prog 6 #[.pointer (some ⟨pb, 0, none⟩)] w5 fun e w' => e = .returned (.tuple #[.int .i64 (cnt s5.st 0 n : Int), .int .i64 (cnt s5.st 1 n : Int), .int .i64 (cnt s5.st 2 n : Int)]) ∧ Below w5.heap.size w5 w') := pa_count H5.out.pa
        have HSUM : Hid (cnt s5.st 0 n + cnt s5.st 1 n + cnt s5.st 2 n = n) := hsum
        have ts : (((cnt s5.st 0 n : Int) + (cnt s5.st 1 n : Int) + (cnt s5.st 2 n : Int)) != (n : Int)) = false := by rw [bne_eq_false_iff_eq]; omega
        have ly0 := cnt_le s5.st 0 n
        have ly1 := cnt_le s5.st 1 n
        have ly2 := cnt_le s5.st 2 n
        clear hsum
        generalize cnt s5.st 0 n = y0 at *
        generalize cnt s5.st 1 n = y1 at *
        generalize cnt s5.st 2 n = y2 at *
        have tz0 : ¬ ((y0 : Int) < 0) := by omega
        have tz1 : ¬ ((y1 : Int) < 0) := by omega
        have tz2 : ¬ ((y2 : Int) < 0) := by omega
        go_wp2_with fail
        refine HC5.out.mono ?_
        rintro e w6 ⟨rfl, hb6⟩
        have H6 : Hid (HS n sp w1.heap.size pb bb w1 w6 (i + 1) s5) := H5.out.below hb6 H5.out.bel.size
        clear hb6 H5 HC5
        go_wp2_with fail
        refine (error_same 9 w6 (HE1.out w6 H6.out.bel)).mono ?_
        rintro e w7 ⟨rfl, hb7⟩
        have H7 : Hid (HS n sp w1.heap.size pb bb w1 w7 (i + 1) s5) := H6.out.below hb7 H6.out.bel.size
        clear hb7 H6
        go_wp2
        exact ⟨⟨i + 1, s5, by omega, by go_num, H7.out⟩, by simp [intOf]; omega⟩
      · rw [lat_no hl]
        rw [errI_ne he] at HT
        clear HD hl he
        go_wp2_with fail
        refine HT.out.mono ?_
        rintro e w5 ⟨rfl, h5, hk5⟩
        have H5 : Hid (HS n sp w1.heap.size pb bb w1 w5 (i + 1) s5) := ⟨h5, H4.out.bel.trans (hk5.base H4.out.bel.size (fun b hb => hb)), HW.out⟩
        clear h5 hk5 HT H4 HW k0 k1
        have hsum := cnt_sum s5.st n H5.out.pa.pos.2.2
        have HC5 : Hid (Calls Tryd.prog 6 #[.pointer (some ⟨pb, 0, none⟩)] w5 fun e w' => e = .returned (.tuple #[.int .i64 (cnt s5.st 0 n : Int), .int .i64 (cnt s5.st 1 n : Int), .int .i64 (cnt s5.st 2 n : Int)]) ∧ Below w5.heap.size w5 w') := pa_count H5.out.pa
        have HSUM : Hid (cnt s5.st 0 n + cnt s5.st 1 n + cnt s5.st 2 n = n) := hsum
        have ts : (((cnt s5.st 0 n : Int) + (cnt s5.st 1 n : Int) + (cnt s5.st 2 n : Int)) != (n : Int)) = false := by rw [bne_eq_false_iff_eq]; omega
        have ly0 := cnt_le s5.st 0 n
        have ly1 := cnt_le s5.st 1 n
        have ly2 := cnt_le s5.st 2 n
        clear hsum
        generalize cnt s5.st 0 n = y0 at *
        generalize cnt s5.st 1 n = y1 at *
        generalize cnt s5.st 2 n = y2 at *
        have tz0 : ¬ ((y0 : Int) < 0) := by omega
        have tz1 : ¬ ((y1 : Int) < 0) := by omega
        have tz2 : ¬ ((y2 : Int) < 0) := by omega
        go_wp2_with fail
        refine HC5.out.mono ?_
        rintro e w6 ⟨rfl, hb6⟩
        have H6 : Hid (HS n sp w1.heap.size pb bb w1 w6 (i + 1) s5) := H5.out.below hb6 H5.out.bel.size
        clear hb6 H5 HC5
        go_wp2
        exact ⟨⟨i + 1, s5, by omega, by go_num, H6.out⟩, by simp [intOf]; omega⟩
      · rw [lat_no hl]
        rw [errI0] at HT
        clear HD hl
        generalize cnt s.st 0 n = x0 at *
        generalize cnt s.st 1 n = x1 at *
        generalize cnt s.st 2 n = x2 at *
        go_wp2_with fail
        refine HT.out.mono ?_
        rintro e w5 ⟨rfl, h5, hk5⟩
        have H5 : Hid (HS n sp w1.heap.size pb bb w1 w5 (i + 1) s5) := ⟨h5, H4.out.bel.trans (hk5.base H4.out.bel.size (fun b hb => hb)), HW.out⟩
        clear h5 hk5 HT H4 HW k0 k1
        have hsum := cnt_sum s5.st n H5.out.pa.pos.2.2
        have HC5 : Hid (Calls Tryd.prog 6 #[.pointer (some ⟨pb, 0, none⟩)] w5 fun e w' => e = .returned (.tuple #[.int .i64 (cnt s5.st 0 n : Int), .int .i64 (cnt s5.st 1 n : Int), .int .i64 (cnt s5.st 2 n : Int)]) ∧ Below w5.heap.size w5 w') := pa_count H5.out.pa
        have HSUM : Hid (cnt s5.st 0 n + cnt s5.st 1 n + cnt s5.st 2 n = n) := hsum
        have ts : (((cnt s5.st 0 n : Int) + (cnt s5.st 1 n : Int) + (cnt s5.st 2 n : Int)) != (n : Int)) = false := by rw [bne_eq_false_iff_eq]; omega
        have ly0 := cnt_le s5.st 0 n
        have ly1 := cnt_le s5.st 1 n
        have ly2 := cnt_le s5.st 2 n
        clear hsum
        generalize cnt s5.st 0 n = y0 at *
        generalize cnt s5.st 1 n = y1 at *
        generalize cnt s5.st 2 n = y2 at *
        have tz0 : ¬ ((y0 : Int) < 0) := by omega
        have tz1 : ¬ ((y1 : Int) < 0) := by omega
        have tz2 : ¬ ((y2 : Int) < 0) := by omega
        go_wp2_with fail
        refine HC5.out.mono ?_
        rintro e w6 ⟨rfl, hb6⟩
        have H6 : Hid (HS n sp w1.heap.size pb bb w1 w6 (i + 1) s5) := H5.out.below hb6 H5.out.bel.size
        clear hb6 H5 HC5
        go_wp2
        all_goals exact ⟨⟨i + 1, s5, by omega, by go_num, H6.out⟩, by simp [intOf]; omega⟩
    · obtain rfl : i = n2 := by omega
      have HF : Hid (Below w.heap.size w wr) := HB1.out.trans (hR.out.bel.mono HB1.out.size)
      clear hR
      go_wp2
      go_ret
      exact ⟨rfl, HF.out⟩
theorem holds_any (n sp : Int) (a2 : Option Addr) (n2 cap2 : Nat) (w : World) (hE : EType w) (hS : Script w a2 n2) (hl2 : n2 ≤ 9223372036854775807) : Calls Tryd.prog 3 #[.int .i64 n, .int .i64 sp, .slice a2 n2 cap2] w fun e w' => e = .returned (.bool true) ∧ Below w.heap.size w w' := by
  by_cases h : GoodN n sp
  · obtain ⟨N, S, rfl, rfl, h1, h2, h3⟩ := goodN_nat h
    exact holds_yes N S a2 n2 cap2 w h1 h2 h3 hE hS hl2
  · exact holds_no n sp a2 n2 cap2 w h
end Go.Proofs.YtebnjoammfidnadDoor
