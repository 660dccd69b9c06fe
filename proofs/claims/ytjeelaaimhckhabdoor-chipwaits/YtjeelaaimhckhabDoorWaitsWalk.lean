/-
  The walk of granarylaw1.ChipWaits: it returns true, and nothing that was there has turned.
-/
import Derived.Test.YtjeelaaimhckhabDoorAids
namespace Go.Proofs.YtjeelaaimhckhabDoor
open Go.RowKit
set_option linter.unusedVariables false

/-- A copy of one call of a script, in a block of its own. -/
structure OBox (w : World) (b : Nat) (o : OpD) : Prop where
  c0 : w.cell? ⟨b, 0, none⟩ = some (.int .i64 o.kind)
  c1 : w.cell? ⟨b, 1, none⟩ = some (.int .i64 o.die)
  c2 : w.cell? ⟨b, 2, none⟩ = some (.int .i64 o.block)
  c3 : w.cell? ⟨b, 3, none⟩ = some (.int .i64 o.page)
  c4 : w.cell? ⟨b, 4, none⟩ = some (.slice o.a o.bs.length o.cap)
  c5 : w.cell? ⟨b, 5, none⟩ = some (.int .i64 o.fault)
theorem OBox.new (w : World) (o : OpD) : OBox (w.alloc (.cells #[.int .i64 o.kind, .int .i64 o.die, .int .i64 o.block, .int .i64 o.page, .slice o.a o.bs.length o.cap, .int .i64 o.fault] 38)) w.heap.size o :=
  ⟨by simp, by simp, by simp, by simp, by simp, by simp⟩
theorem OBox.keep {w w' : World} {b : Nat} {o : OpD} {S : Nat → Prop} (h : OBox w b o) (hk : Keep S w w') (hs : ¬ S b) : OBox w' b o := by
  have hc : ∀ q, w'.cell? ⟨b, q, none⟩ = w.cell? ⟨b, q, none⟩ := fun q => hk.cell (p := ⟨b, q, none⟩) (show b < w.heap.size from World.block_lt_of_cell? w ⟨b, 0, none⟩ h.c0) hs
  exact ⟨by rw [hc]; exact h.c0, by rw [hc]; exact h.c1, by rw [hc]; exact h.c2, by rw [hc]; exact h.c3, by rw [hc]; exact h.c4, by rw [hc]; exact h.c5⟩
theorem OBox.below {w w' : World} {b : Nat} {o : OpD} (h : OBox w b o) (hb : Below w.heap.size w w') : OBox w' b o := h.keep (S := fun _ => False) (Keep.of_below hb) (fun e => e)
/-- What Program of a blank chip's first page with a torn fault answers: an error that is not 7; or 7, and the first half is written. -/
theorem torn_cases (D B P Y : Nat) (die block : Int) (bs : List Nat) :
    ((progF D B P Y (blank (P * Y)) die block 0 bs 2).1 ≠ 7 ∧ (progF D B P Y (blank (P * Y)) die block 0 bs 2).1 ≠ 0) ∨
    (Here D B die block ∧ bs.length = Y ∧ progF D B P Y (blank (P * Y)) die block 0 bs 2 = (7, { putSt (blank (P * Y)) (kOf B die block) 0 Y (bs.take (Y / 2)) with off := true })) := by
  unfold progF
  rw [if_neg (show ¬ (blank (P * Y)).off = true by simp [blank])]
  by_cases hh : ¬ (0 ≤ die ∧ die < D ∧ 0 ≤ block ∧ block < B)
  · rw [if_pos hh]; exact Or.inl ⟨by simp, by simp⟩
  rw [if_neg hh]
  by_cases hp : ¬ ((0 : Int) ≤ 0 ∧ (0 : Int) < P) ∨ ¬ ((0 : Int) ≤ 2 ∧ (2 : Int) ≤ 2)
  · rw [if_pos hp]; exact Or.inl ⟨by simp, by simp⟩
  rw [if_neg hp]
  by_cases hn : bs.length ≠ Y
  · rw [if_pos hn]; exact Or.inl ⟨by simp, by simp⟩
  rw [if_neg hn, if_neg (show ¬ (blank (P * Y)).bad (kOf B die block) = true by simp [blank]), if_neg (show ¬ (0 : Int) ≠ (((blank (P * Y)).next (kOf B die block) : Nat) : Int) by simp [blank]), if_neg (by omega), if_neg (by omega)]
  exact Or.inr ⟨Classical.not_not.1 hh, Classical.not_not.1 hn, rfl⟩
/-- What is read of a page of which the first half was written. -/
theorem half_page {bs : List Nat} {Y L : Nat} (hl : bs.length = Y) (hL : Y ≤ L) (i : Nat) (hi : i < Y) :
    (pageOf (splice (List.replicate L 255) (0 * Y) (bs.take (Y / 2))) (0 * Y) Y)[i]?.getD 0 = if i < Y / 2 then bs[i]?.getD 0 else 255 := by
  have hlen : (bs.take (Y / 2)).length = Y / 2 := by rw [List.length_take]; omega
  unfold pageOf splice
  rw [Nat.zero_mul, List.drop_zero, List.take_zero, List.nil_append, List.getElem?_take, if_pos hi, hlen, Nat.zero_add]
  by_cases h : i < Y / 2
  · rw [if_pos h, List.getElem?_append_left (by omega), List.getElem?_take, if_pos h]
  · rw [if_neg h, List.getElem?_append_right (by omega), List.getElem?_drop, List.getElem?_replicate, if_pos (by omega)]
    rfl
set_option maxRecDepth 100000 in
set_option maxHeartbeats 1600000 in
theorem waits_no (g0 g1 g2 g3 : Int) (die block : Int) (a a2 : Option Addr) (bs : List Nat) (cap n2 cap2 : Nat) (w : World) (hE : EType w) (h : ¬ GeoI g0 g1 g2 g3) :
    Calls Tryd.prog 6 #[.agg #[.int .i64 g0, .int .i64 g1, .int .i64 g2, .int .i64 g3], .int .i64 die, .int .i64 block, .slice a bs.length cap, .slice a2 n2 cap2] w fun e w' => e = .returned (.bool true) ∧ Below w.heap.size w w' := by
  have HE : Hid (EType w) := hE
  clear hE
  go_enter Tryd.func6, Tryd.ntmps6
  go_wp2_with fail
  refine (fact_any _ (HE.out.below ((Below.refl _ _).alloc (Nat.le_refl _) _) HE.out.pos)).mono ?_
  rintro e w1 ⟨rfl, hb1⟩
  have hg := fun o => hb1.cell (p := ⟨w.heap.size, o, none⟩) (by simp)
  have q0 := hg 0
  have q1 := hg 1
  have q2 := hg 2
  have q3 := hg 3
  simp at q0 q1 q2 q3
  have hB : Below w.heap.size w w1 := ((Below.refl _ _).alloc (Nat.le_refl _) _).trans (hb1.mono (by simp))
  clear hb1 hg
  go_wp2_with fail
  refine (new_no g0 g1 g2 g3 _ h).mono ?_
  rintro e w2 ⟨rfl, hb2⟩
  go_wp2
  go_ret
  exact ⟨rfl, hB.trans (hb2.mono hB.size)⟩
set_option maxRecDepth 100000 in
set_option maxHeartbeats 8000000 in
theorem waits_yes {D B P Y : Nat} (die block : Int) (a a2 : Option Addr) (bs : List Nat) (cap n2 cap2 : Nat) (w : World) (hG : Geo D B P Y) (hE : EType w) (hA : AllB bs) (hm : bs.length ≤ 140737488351232) (hc : bs.length ≤ cap) (hL : Lies w a bs) (hm2 : n2 ≤ 140737488351232) (hS : Script w a2 n2) :
    Calls Tryd.prog 6 #[.agg #[.int .i64 D, .int .i64 B, .int .i64 P, .int .i64 Y], .int .i64 die, .int .i64 block, .slice a bs.length cap, .slice a2 n2 cap2] w fun e w' => e = .returned (.bool true) ∧ Below w.heap.size w w' := by
  have HE : Hid (EType w) := hE
  have HG : Hid (Geo D B P Y) := hG
  have HS : Hid (Script w a2 n2) := hS
  have HL : Hid (Lies w a bs ∧ AllB bs ∧ bs.length ≤ cap) := ⟨hL, hA, hc⟩
  have y1 := hG.y1
  have y0 := hG.y0
  clear hE hG hS hL hA hc
  go_enter Tryd.func6, Tryd.ntmps6
  go_wp2_with fail
  have hw0 : Below w.heap.size w (w.alloc (.cells #[.int .i64 (D : Int), .int .i64 (B : Int), .int .i64 (P : Int), .int .i64 (Y : Int)] 23)) := (Below.refl _ _).alloc (Nat.le_refl _) _
  have q0 : (w.alloc (.cells #[.int .i64 (D : Int), .int .i64 (B : Int), .int .i64 (P : Int), .int .i64 (Y : Int)] 23)).cell? ⟨w.heap.size, 0, none⟩ = some (.int .i64 (D : Int)) := by simp
  have q1 : (w.alloc (.cells #[.int .i64 (D : Int), .int .i64 (B : Int), .int .i64 (P : Int), .int .i64 (Y : Int)] 23)).cell? ⟨w.heap.size, 1, none⟩ = some (.int .i64 (B : Int)) := by simp
  have q2 : (w.alloc (.cells #[.int .i64 (D : Int), .int .i64 (B : Int), .int .i64 (P : Int), .int .i64 (Y : Int)] 23)).cell? ⟨w.heap.size, 2, none⟩ = some (.int .i64 (P : Int)) := by simp
  have q3 : (w.alloc (.cells #[.int .i64 (D : Int), .int .i64 (B : Int), .int .i64 (P : Int), .int .i64 (Y : Int)] 23)).cell? ⟨w.heap.size, 3, none⟩ = some (.int .i64 (Y : Int)) := by simp
  generalize w.alloc (.cells #[.int .i64 (D : Int), .int .i64 (B : Int), .int .i64 (P : Int), .int .i64 (Y : Int)] 23) = w0 at hw0 q0 q1 q2 q3 ⊢
  have HW0 : Hid (Below w.heap.size w w0) := hw0
  have HQ : Hid (w0.cell? ⟨w.heap.size, 0, none⟩ = some (.int .i64 (D : Int)) ∧ w0.cell? ⟨w.heap.size, 1, none⟩ = some (.int .i64 (B : Int)) ∧ w0.cell? ⟨w.heap.size, 2, none⟩ = some (.int .i64 (P : Int)) ∧ w0.cell? ⟨w.heap.size, 3, none⟩ = some (.int .i64 (Y : Int))) := ⟨q0, q1, q2, q3⟩
  have HE0 : Hid (EType w0) := HE.out.below HW0.out HE.out.pos
  have HS0 : Hid (Script w0 a2 n2) := HS.out.below HW0.out
  clear hw0 q0 q1 q2 q3 HE HS
  refine (fact_any _ HE0.out).mono ?_
  rintro e w1 ⟨rfl, hb1⟩
  have hlt0 : Hid (w.heap.size < w0.heap.size) := World.block_lt_of_cell? w0 ⟨w.heap.size, 0, none⟩ HQ.out.1
  have q0 := (hb1.cell (p := ⟨w.heap.size, 0, none⟩) hlt0.out).trans HQ.out.1
  have q1 := (hb1.cell (p := ⟨w.heap.size, 1, none⟩) hlt0.out).trans HQ.out.2.1
  have q2 := (hb1.cell (p := ⟨w.heap.size, 2, none⟩) hlt0.out).trans HQ.out.2.2.1
  have q3 := (hb1.cell (p := ⟨w.heap.size, 3, none⟩) hlt0.out).trans HQ.out.2.2.2
  have HB1 : Hid (Below w0.heap.size w0 w1) := hb1
  clear hb1
  go_wp2_with fail
  refine (new_yes _ HG.out).mono ?_
  rintro e w2 ⟨cb, bb, pb, rfl, h2, hge, hb2⟩
  have HGE : Hid (∀ b, Mine (D * B) cb bb pb b → w0.heap.size ≤ b) := fun b hb => Nat.le_trans HB1.out.size (hge b hb)
  have HB2 : Hid (CH D B P Y w2 cb bb pb (blank (P * Y)) ∧ Below w0.heap.size w0 w2) := ⟨h2, HB1.out.trans (hb2.mono HB1.out.size)⟩
  clear h2 hge hb2 q0 q1 q2 q3 HB1
  have HL0 : Hid (Lies w0 a bs) := HL.out.1.below HW0.out
  go_wp2_with fail
  refine (program_any die block 0 2 a bs cap w2 HG.out HB2.out.1 HL.out.2.1 HL.out.2.2 (HL0.out.below HB2.out.2)).mono ?_
  rintro e w3 ⟨rfl, h3, hk3⟩
  have K3 : Hid (Below w0.heap.size w0 w3) := HB2.out.2.trans (hk3.below HB2.out.2.size HGE.out)
  rcases torn_cases D B P Y die block bs with ⟨h7, h0⟩ | ⟨hh, hlY, hF⟩
  · generalize (progF D B P Y (blank (P * Y)) die block 0 bs 2).1 = c at h7 h0 ⊢
    clear h3 hk3 HB2
    go_wp2_with fail
    refine (error_any c 7 w3 (HE0.out.below K3.out HE0.out.pos)).mono ?_
    rintro e w4 ⟨rfl, hb4⟩
    rw [decide_eq_false h7]
    have e1 : errI c = .iface 30 (.int .i64 (c : Int)) := if_neg h0
    rw [e1]
    have HB : Hid (Below w.heap.size w w4) := HW0.out.trans ((K3.out.trans (hb4.mono K3.out.size)).mono HW0.out.size)
    clear e1 h7 h0 hb4
    go_wp2
    go_ret
    exact ⟨rfl, HB.out⟩
  rw [hF] at h3 ⊢
  have H3 : Hid (CH D B P Y w3 cb bb pb { putSt (blank (P * Y)) (kOf B die block) 0 Y (bs.take (Y / 2)) with off := true }) := h3
  have HH : Hid (Here D B die block ∧ bs.length = Y) := ⟨hh, hlY⟩
  rcases HL0.out with hno | ⟨ab, ao, haa, hcc⟩
  · rw [hno] at hlY
    simp at hlY
    omega
  subst haa
  have HCC : Hid (∀ i, i < bs.length → w0.cell? ⟨ab, ao + i, none⟩ = some (.int .u8 ((bs[i]?.getD 0 : Nat) : Int))) := hcc
  clear hcc
  clear h3 hk3 hh hF HB2 hlY
  dsimp only
  go_wp2_with fail
  refine (error_any 7 7 w3 (HE0.out.below K3.out HE0.out.pos)).mono ?_
  rintro e w4 ⟨rfl, hb4⟩
  have H4 : Hid (CH D B P Y w4 cb bb pb { putSt (blank (P * Y)) (kOf B die block) 0 Y (bs.take (Y / 2)) with off := true } ∧ Below w0.heap.size w0 w4) := ⟨H3.out.below HG.out.n.1 hb4, K3.out.trans (hb4.mono K3.out.size)⟩
  clear hb4 H3 K3
  obtain ⟨s, HSt⟩ : ∃ s : St, Hid (({ putSt (blank (P * Y)) (kOf B die block) 0 Y (bs.take (Y / 2)) with off := true } : St) = s) := ⟨_, rfl⟩
  rw [HSt.out] at H4
  have HOff : Hid (s.off = true) := by rw [← HSt.out]; rfl
  rw [decide_eq_true rfl]
  go_wp2
  go_loopw [15] (fun j wr => ∃ i : Nat, i ≤ n2 ∧ j = .int .i64 i ∧ Hid (CH D B P Y wr cb bb pb s ∧ Below w0.heap.size w0 wr)) (fun j _ => n2 - (intOf j).toNat)
  case atStart => exact ⟨0, by omega, rfl, H4.out⟩
  case round =>
    obtain ⟨i, hi, rfl, hR⟩ := hrel
    clear H4
    by_cases hlt : i < n2
    · obtain ⟨sb, so, ha2, o, hO⟩ := (HS0.out.below hR.out.2).slice hlt
      have k0 := hO.k0
      have k1 := hO.k1
      have k2 := hO.k2
      have k3 := hO.k3
      have k4 := hO.k4
      have k5 := hO.k5
      clear hO
      rw [ha2]
      have HA : Hid (∀ ob : Obj, Below wr.heap.size wr (wr.alloc ob)) := fun ob => (Below.refl _ _).alloc (Nat.le_refl _) ob
      have HC3 : ∀ ob, Hid (CH D B P Y (wr.alloc ob) cb bb pb s ∧ Below w0.heap.size w0 (wr.alloc ob)) := fun ob => ⟨hR.out.1.below HG.out.n.1 (HA.out ob), hR.out.2.trans ((HA.out ob).mono hR.out.2.size)⟩
      have HOB := OBox.new wr o
      replace HOB : Hid (OBox (wr.alloc (.cells #[.int .i64 o.kind, .int .i64 o.die, .int .i64 o.block, .int .i64 o.page, .slice o.a o.bs.length o.cap, .int .i64 o.fault] 38)) wr.heap.size o) := HOB
      have HC := HC3 (.cells #[.int .i64 o.kind, .int .i64 o.die, .int .i64 o.block, .int .i64 o.page, .slice o.a o.bs.length o.cap, .int .i64 o.fault] 38)
      clear HC3
      go_wp2_with fail
      generalize wr.alloc (.cells #[.int .i64 o.kind, .int .i64 o.die, .int .i64 o.block, .int .i64 o.page, .slice o.a o.bs.length o.cap, .int .i64 o.fault] 38) = w5 at HOB HC ⊢
      refine (off_any _ HC.out.1).mono ?_
      rintro e w6 ⟨rfl, rfl⟩
      rw [HOff.out]
      clear k0 k1 k2 k3 k4 k5
      have z1 := HOB.out.c1
      have z2 := HOB.out.c2
      have z3 := HOB.out.c3
      have z4 := HOB.out.c4
      have z5 := HOB.out.c5
      go_wp2_with fail
      refine (program_off o.die o.block o.page o.fault o.a o.bs.length o.cap _ HG.out HC.out.1 HOff.out).mono ?_
      rintro e w7 ⟨rfl, rfl⟩
      go_wp2_with fail
      refine (erase_off o.die o.block o.fault _ HG.out HC.out.1 HOff.out).mono ?_
      rintro e w8 ⟨rfl, rfl⟩
      go_wp2_with fail
      refine (read_off o.die o.block o.page _ HC.out.1 HOff.out).mono ?_
      rintro e w9 ⟨rfl, rfl⟩
      clear z1 z2 z3 z4 z5 HOB
      go_wp2_with fail
      refine (error_same 7 _ (HE0.out.below HC.out.2 HE0.out.pos)).mono ?_
      rintro e w10 ⟨rfl, hb10⟩
      have H10 : Hid (CH D B P Y w10 cb bb pb s ∧ Below w0.heap.size w0 w10) := ⟨HC.out.1.below HG.out.n.1 hb10, HC.out.2.trans (hb10.mono HC.out.2.size)⟩
      clear hb10 HC
      go_wp2_with fail
      refine (error_same 7 _ (HE0.out.below H10.out.2 HE0.out.pos)).mono ?_
      rintro e w11 ⟨rfl, hb11⟩
      have H11 : Hid (CH D B P Y w11 cb bb pb s ∧ Below w0.heap.size w0 w11) := ⟨H10.out.1.below HG.out.n.1 hb11, H10.out.2.trans (hb11.mono H10.out.2.size)⟩
      clear hb11 H10
      go_wp2_with fail
      refine (error_same 7 _ (HE0.out.below H11.out.2 HE0.out.pos)).mono ?_
      rintro e w12 ⟨rfl, hb12⟩
      have H12 : Hid (CH D B P Y w12 cb bb pb s ∧ Below w0.heap.size w0 w12) := ⟨H11.out.1.below HG.out.n.1 hb12, H11.out.2.trans (hb12.mono H11.out.2.size)⟩
      clear hb12 H11
      go_wp2
      go_roundw
      case rel => exact ⟨i + 1, by omega, by go_num, H12.out⟩
      case measure => simp [intOf]; omega
    · obtain rfl : i = n2 := by omega
      go_wp2_with fail
      refine (on_any _ hR.out.1).mono ?_
      rintro e w5 ⟨rfl, h5, hk5⟩
      have H5 : Hid (CH D B P Y w5 cb bb pb { s with off := false } ∧ Below w0.heap.size w0 w5) := ⟨h5, hR.out.2.trans (hk5.below hR.out.2.size HGE.out)⟩
      clear h5 hk5
      go_wp2_with fail
      refine (next_some die block _ HG.out H5.out.1 rfl HH.out.1).mono ?_
      rintro e w6 ⟨rfl, hb6⟩
      have H6 : Hid (CH D B P Y w6 cb bb pb { s with off := false } ∧ Below w0.heap.size w0 w6) := ⟨H5.out.1.below HG.out.n.1 hb6, H5.out.2.trans (hb6.mono H5.out.2.size)⟩
      clear hb6 H5
      go_wp2_with fail
      refine (wear_some die block _ HG.out H6.out.1 rfl HH.out.1).mono ?_
      rintro e w7 ⟨rfl, hb7⟩
      have H7 : Hid (CH D B P Y w7 cb bb pb { s with off := false } ∧ Below w0.heap.size w0 w7) := ⟨H6.out.1.below HG.out.n.1 hb7, H6.out.2.trans (hb7.mono H6.out.2.size)⟩
      clear hb7 H6
      go_wp2_with fail
      have hp0 := HG.out.p0
      refine (read_some die block 0 _ HG.out H7.out.1 rfl HH.out.1 (by omega)).mono ?_
      rintro e w8 ⟨g, rfl, hg1, hg2, hg3, hb8⟩
      have hB8 : Below w0.heap.size w0 w8 := H7.out.2.trans (hb8.mono H7.out.2.size)
      have hnx : s.next (kOf B die block) = 1 := by rw [← HSt.out]; exact upd_same _ _ _
      have hwx : s.wear (kOf B die block) = 0 := by rw [← HSt.out]; rfl
      have hbx : s.bytes (kOf B die block) = splice (List.replicate (P * Y) 255) (0 * Y) (bs.take (Y / 2)) := by rw [← HSt.out]; exact upd_same _ _ _
      dsimp only at hg2 hg3 ⊢
      rw [hnx, hwx]
      rw [hbx] at hg2 hg3
      have HPG : Hid (∀ i, i < Y → w8.cell? ⟨g, i, none⟩ = some (.int .u8 (((if i < Y / 2 then bs[i]?.getD 0 else 255 : Nat)) : Int))) := fun i hi => by
        have hPY := HG.out.p0
        have : Y ≤ P * Y := by have := Nat.mul_le_mul_right Y hPY; omega
        rw [row_cell hg2 i (by rw [hg3]; exact hi), half_page HH.out.2 this i hi]
      have q3 := (hB8.cell (p := ⟨w.heap.size, 3, none⟩) hlt0.out).trans HQ.out.2.2.2
      have HB8 : Hid (Below w0.heap.size w0 w8) := hB8
      have HLY : Hid (bs.length = Y) := HH.out.2
      clear hg1 hg2 hg3 hb8 hB8 hnx hwx hbx H7
      go_wp2
      go_loopw [30] (fun j wr => ∃ i : Nat, i ≤ Y ∧ j = .int .i64 i ∧ Hid (Below w8.heap.size w8 wr)) (fun j _ => Y - (intOf j).toNat)
      case atStart => exact ⟨0, by omega, rfl, Below.refl _ _⟩
      case round =>
        obtain ⟨i, hi, rfl, hR2⟩ := hrel
        by_cases hlt2 : i < Y
        · have hc0 := HPG.out i hlt2
          have hglt : g < w8.heap.size := World.block_lt_of_cell? w8 ⟨g, i, none⟩ hc0
          have hc1 := (hR2.out.cell (p := ⟨g, i, none⟩) hglt).trans hc0
          obtain ⟨M, HM⟩ : ∃ M, Hid (Y / 2 = M) := ⟨_, rfl⟩
          have hdiv : (Y : Int) / 2 = (M : Int) := by rw [← HM.out]; omega
          have hMY : M ≤ Y := by rw [← HM.out]; omega
          rw [HM.out] at hc1
          have hibs : i < bs.length := by rw [HLY.out]; exact hlt2
          have hd0 := HCC.out i hibs
          have hd1 := ((HB8.out.trans (hR2.out.mono HB8.out.size)).cell (p := ⟨ab, ao + i, none⟩) (World.block_lt_of_cell? w0 _ hd0)).trans hd0
          have hib : (i : Int) < (bs.length : Int) := by omega
          clear hc0 hd0
          by_cases hh2 : i < M
          · rw [if_pos hh2] at hc1
            generalize bs[i]?.getD 0 = X at hc1 hd1
            have hiM : (i : Int) < (M : Int) := by omega
            go_wp2
            go_quiet (fail)
            have HR3 : Hid (∀ n, Below w8.heap.size w8 (wr.drewN n)) := fun n => below_drewN hR2.out n
            go_wp2
            refine ⟨?_, by simp [intOf]; omega⟩
            iterate 36 apply Exists.intro
            refine ⟨?_, by rfl⟩
            exact ⟨i + 1, by omega, by go_num, HR3.out _⟩
          · rw [if_neg hh2] at hc1
            generalize bs[i]?.getD 0 = X at hc1 hd1
            have hiM : ¬ (i : Int) < (M : Int) := by omega
            go_wp2
            have hd : decide ((i : Int) < (M : Int)) = false := by simpa using hiM
            go_quiet (fail)
            have HR3 : Hid (∀ n, Below w8.heap.size w8 (wr.drewN n)) := fun n => below_drewN hR2.out n
            go_wp2
            refine ⟨?_, by simp [intOf]; omega⟩
            iterate 36 apply Exists.intro
            refine ⟨?_, by rfl⟩
            exact ⟨i + 1, by omega, by go_num, HR3.out _⟩
        · obtain rfl : i = Y := by omega
          have HB : Hid (Below w.heap.size w wr) := HW0.out.trans ((HB8.out.trans (hR2.out.mono HB8.out.size)).mono HW0.out.size)
          go_wp2
          go_ret
          exact ⟨rfl, HB.out⟩
theorem waits_any (g0 g1 g2 g3 : Int) (die block : Int) (a a2 : Option Addr) (bs : List Nat) (cap n2 cap2 : Nat) (w : World) (hE : EType w) (hA : AllB bs) (hm : bs.length ≤ 140737488351232) (hc : bs.length ≤ cap) (hL : Lies w a bs) (hm2 : n2 ≤ 140737488351232) (hS : Script w a2 n2) :
    Calls Tryd.prog 6 #[.agg #[.int .i64 g0, .int .i64 g1, .int .i64 g2, .int .i64 g3], .int .i64 die, .int .i64 block, .slice a bs.length cap, .slice a2 n2 cap2] w fun e w' => e = .returned (.bool true) ∧ Below w.heap.size w w' := by
  by_cases h : GeoI g0 g1 g2 g3
  · obtain ⟨D, B, P, Y, rfl, rfl, rfl, rfl, hG⟩ := h.nat
    exact waits_yes die block a a2 bs cap n2 cap2 w hG hE hA hm hc hL hm2 hS
  · exact waits_no g0 g1 g2 g3 die block a a2 bs cap n2 cap2 w hE h
end Go.Proofs.YtjeelaaimhckhabDoor
