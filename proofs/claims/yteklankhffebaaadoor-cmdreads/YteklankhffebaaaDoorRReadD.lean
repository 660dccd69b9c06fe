/-
  What the call of the document's DoneRead gives of 16 bytes.
-/
import Derived.Test.YteklankhffebaaaDoorRRead
namespace Go.Proofs.YteklankhffebaaaDoor
open Go.RowKit
set_option linter.unusedVariables false

set_option maxRecDepth 20000 in
set_option maxHeartbeats 1600000 in
theorem doneRead_yes (b o c : Nat) (l : List Nat) (w : World) (hln : l.length = 16) (hA : AllB l) (hc : ∀ i, i < 16 → w.cell? ⟨b, o + i, none⟩ = some (.int .u8 ((l[i]?.getD 0 : Nat) : Int))) : Calls Tryd.prog 16 #[.slice (some ⟨b, o, none⟩) 16 c] w fun e w' => RDPost w w' e l := by
  have hbl : b < w.heap.size := World.block_lt_of_cell? w _ (hc 0 (by decide))
  have HP1 : Hid (∀ w', Below w.heap.size w w' → RDPost w w' (.returned (.tuple #[doneV ((rdN DF l 0 : Nat) : Int) ((rdN DF l 1 : Nat) : Int) ((rdN DF l 2 : Nat) : Int) ((rdN DF l 3 : Nat) : Int) (phB l), .int .i64 0])) l) := fun w' hb => ⟨hb, .inr ⟨hln, rfl⟩⟩
  have HR0 : Hid (rdN DF l 0 = l[0]?.getD 0 + 256 * l[1]?.getD 0) := num2 (l := l) (a := 0) (by omega)
  have HR1 : Hid (rdN DF l 1 = l[2]?.getD 0 + 256 * l[3]?.getD 0) := num2 (l := l) (a := 2) (by omega)
  have HR2 : Hid (rdN DF l 2 = l[4]?.getD 0 + 256 * l[5]?.getD 0) := num2 (l := l) (a := 4) (by omega)
  have HR3 : Hid (rdN DF l 3 = l[6]?.getD 0) := num1 (l := l) (a := 6) (by omega)
  have HP7 : Hid (phB l = decide (l[7]?.getD 0 % 2 = 1)) := (rfl : phB l = _)
  have HB7 : Hid (∀ wz, Below w.heap.size w wz → wz.cell? ⟨b, o + 6, none⟩ = some (.int .u8 ((l[6]?.getD 0 : Nat) : Int)) ∧ wz.cell? ⟨b, o + 7, none⟩ = some (.int .u8 ((l[7]?.getD 0 : Nat) : Int))) := fun wz h => ⟨(h.cell (p := ⟨b, o + 6, none⟩) hbl).trans (hc 6 (by decide)), (h.cell (p := ⟨b, o + 7, none⟩) hbl).trans (hc 7 (by decide))⟩
  have c0 := hc 0 (by decide)
  have b0 := hA.at 0
  have c1 := hc 1 (by decide)
  have b1 := hA.at 1
  have c2 := hc 2 (by decide)
  have b2 := hA.at 2
  have c3 := hc 3 (by decide)
  have b3 := hA.at 3
  have c4 := hc 4 (by decide)
  have b4 := hA.at 4
  have c5 := hc 5 (by decide)
  have b5 := hA.at 5
  have c6 := hc 6 (by decide)
  have b6 := hA.at 6
  have c7 := hc 7 (by decide)
  have b7 := hA.at 7
  obtain ⟨y0, hy0⟩ : ∃ y : Nat, Hid (l[0]?.getD 0 = y) := ⟨l[0]?.getD 0, (rfl : l[0]?.getD 0 = l[0]?.getD 0)⟩
  rw [hy0.out] at c0 b0
  obtain ⟨y1, hy1⟩ : ∃ y : Nat, Hid (l[1]?.getD 0 = y) := ⟨l[1]?.getD 0, (rfl : l[1]?.getD 0 = l[1]?.getD 0)⟩
  rw [hy1.out] at c1 b1
  obtain ⟨y2, hy2⟩ : ∃ y : Nat, Hid (l[2]?.getD 0 = y) := ⟨l[2]?.getD 0, (rfl : l[2]?.getD 0 = l[2]?.getD 0)⟩
  rw [hy2.out] at c2 b2
  obtain ⟨y3, hy3⟩ : ∃ y : Nat, Hid (l[3]?.getD 0 = y) := ⟨l[3]?.getD 0, (rfl : l[3]?.getD 0 = l[3]?.getD 0)⟩
  rw [hy3.out] at c3 b3
  obtain ⟨y4, hy4⟩ : ∃ y : Nat, Hid (l[4]?.getD 0 = y) := ⟨l[4]?.getD 0, (rfl : l[4]?.getD 0 = l[4]?.getD 0)⟩
  rw [hy4.out] at c4 b4
  obtain ⟨y5, hy5⟩ : ∃ y : Nat, Hid (l[5]?.getD 0 = y) := ⟨l[5]?.getD 0, (rfl : l[5]?.getD 0 = l[5]?.getD 0)⟩
  rw [hy5.out] at c5 b5
  obtain ⟨y6, hy6⟩ : ∃ y : Nat, Hid (l[6]?.getD 0 = y) := ⟨l[6]?.getD 0, (rfl : l[6]?.getD 0 = l[6]?.getD 0)⟩
  rw [hy6.out] at c6 b6
  obtain ⟨y7, hy7⟩ : ∃ y : Nat, Hid (l[7]?.getD 0 = y) := ⟨l[7]?.getD 0, (rfl : l[7]?.getD 0 = l[7]?.getD 0)⟩
  rw [hy7.out] at c7 b7
  rw [Nat.add_zero] at c0
  rw [hy0.out, hy1.out] at HR0
  rw [hy2.out, hy3.out] at HR1
  rw [hy4.out, hy5.out] at HR2
  rw [hy6.out] at HR3
  rw [hy7.out] at HP7
  rw [hy6.out, hy7.out] at HB7
  rw [HR0.out, HR1.out, HR2.out, HR3.out, HP7.out] at HP1
  clear hc hA HR0 HR1 HR2 HR3 hln HP7 c6 c7
  clear hy0
  clear hy1
  clear hy2
  clear hy3
  clear hy4
  clear hy5
  clear hy6
  clear hy7
  have HB0 : Hid (Below w.heap.size w (((w.alloc (.cells #[.int .i64 0, .int .i64 0, .int .i64 0, .int .i64 0, .bool false] 25)).alloc (.cells #[.int .i64 ((y0 : Int) + 256 * (y1 : Int)), .int .i64 ((y2 : Int) + 256 * (y3 : Int)), .int .i64 ((y4 : Int) + 256 * (y5 : Int)), .int .i64 0, .bool false] 25)).drew) ∧ Stc (((w.alloc (.cells #[.int .i64 0, .int .i64 0, .int .i64 0, .int .i64 0, .bool false] 25)).alloc (.cells #[.int .i64 ((y0 : Int) + 256 * (y1 : Int)), .int .i64 ((y2 : Int) + 256 * (y3 : Int)), .int .i64 ((y4 : Int) + 256 * (y5 : Int)), .int .i64 0, .bool false] 25)).drew) w.heap.size 25 [.int .i64 0, .int .i64 0, .int .i64 0, .int .i64 0, .bool false] ∧ Stc (((w.alloc (.cells #[.int .i64 0, .int .i64 0, .int .i64 0, .int .i64 0, .bool false] 25)).alloc (.cells #[.int .i64 ((y0 : Int) + 256 * (y1 : Int)), .int .i64 ((y2 : Int) + 256 * (y3 : Int)), .int .i64 ((y4 : Int) + 256 * (y5 : Int)), .int .i64 0, .bool false] 25)).drew) (w.heap.size + 1) 25 [.int .i64 ((y0 : Int) + 256 * (y1 : Int)), .int .i64 ((y2 : Int) + 256 * (y3 : Int)), .int .i64 ((y4 : Int) + 256 * (y5 : Int)), .int .i64 0, .bool false]) := by
    refine ⟨below_drewN ((alloc_below' w _).trans ((alloc_below' _ _).mono (by simp))) 1, ?_, ?_⟩
    · exact Stc.keep (S := fun _ => False) (w := w.alloc (.cells #[.int .i64 0, .int .i64 0, .int .i64 0, .int .i64 0, .bool false] 25)) (heap_alloc_new w _) ((Keep.of_below (alloc_below' _ _)).drewN 1) (fun e => e)
    · have := heap_alloc_new (w.alloc (.cells #[.int .i64 0, .int .i64 0, .int .i64 0, .int .i64 0, .bool false] 25)) (.cells #[.int .i64 ((y0 : Int) + 256 * (y1 : Int)), .int .i64 ((y2 : Int) + 256 * (y3 : Int)), .int .i64 ((y4 : Int) + 256 * (y5 : Int)), .int .i64 0, .bool false] 25)
      rw [show (w.alloc (.cells #[.int .i64 0, .int .i64 0, .int .i64 0, .int .i64 0, .bool false] 25)).heap.size = w.heap.size + 1 by simp] at this
      exact this
  go_enter Tryd.func16, Tryd.ntmps16
  go_upto_region 3 with fail
  go_cut [4] (fun v wx => v = .pointer (some ⟨w.heap.size + 1, 0, none⟩) ∧ Hid (Below w.heap.size w wx ∧ Stc wx w.heap.size 25 [.int .i64 0, .int .i64 0, .int .i64 0, .int .i64 0, .bool false] ∧ Stc wx (w.heap.size + 1) 25 [.int .i64 ((y0 : Int) + 256 * (y1 : Int)), .int .i64 ((y2 : Int) + 256 * (y3 : Int)), .int .i64 ((y4 : Int) + 256 * (y5 : Int)), .int .i64 0, .bool false]))
  case first =>
    clear HP1 HB7
    have HSS : Hid (∀ wz, Below w.heap.size w wz → (fun w' => w'.cell? ⟨b, o, none⟩ = some (.int .u8 (y0 : Nat)) ∧ w'.cell? ⟨b, o + 1, none⟩ = some (.int .u8 (y1 : Nat)) ∧ w'.cell? ⟨b, o + 2, none⟩ = some (.int .u8 (y2 : Nat)) ∧ w'.cell? ⟨b, o + 3, none⟩ = some (.int .u8 (y3 : Nat)) ∧ w'.cell? ⟨b, o + 4, none⟩ = some (.int .u8 (y4 : Nat)) ∧ w'.cell? ⟨b, o + 5, none⟩ = some (.int .u8 (y5 : Nat))) wz) := fun wz h => ⟨(h.cell (p := ⟨b, o, none⟩) hbl).trans c0, (h.cell (p := ⟨b, o + 1, none⟩) hbl).trans c1, (h.cell (p := ⟨b, o + 2, none⟩) hbl).trans c2, (h.cell (p := ⟨b, o + 3, none⟩) hbl).trans c3, (h.cell (p := ⟨b, o + 4, none⟩) hbl).trans c4, (h.cell (p := ⟨b, o + 5, none⟩) hbl).trans c5⟩
    have v0 : IntKind.i64.wrap (y0 : Int) = (y0 : Int) := wrap_ok (by omega) (by omega)
    have v1 : IntKind.i64.wrap (y1 : Int) = (y1 : Int) := wrap_ok (by omega) (by omega)
    have v2 : IntKind.i64.wrap (y2 : Int) = (y2 : Int) := wrap_ok (by omega) (by omega)
    have v3 : IntKind.i64.wrap (y3 : Int) = (y3 : Int) := wrap_ok (by omega) (by omega)
    have v4 : IntKind.i64.wrap (y4 : Int) = (y4 : Int) := wrap_ok (by omega) (by omega)
    have v5 : IntKind.i64.wrap (y5 : Int) = (y5 : Int) := wrap_ok (by omega) (by omega)
    have x1 : IntKind.i64.wrap (256 * (y1 : Int)) = 256 * (y1 : Int) := wrap_ok (by omega) (by omega)
    have x3 : IntKind.i64.wrap (256 * (y3 : Int)) = 256 * (y3 : Int) := wrap_ok (by omega) (by omega)
    have x5 : IntKind.i64.wrap (256 * (y5 : Int)) = 256 * (y5 : Int) := wrap_ok (by omega) (by omega)
    have z0 : IntKind.i64.wrap ((y0 : Int) + 256 * (y1 : Int)) = (y0 : Int) + 256 * (y1 : Int) := wrap_ok (by omega) (by omega)
    have z2 : IntKind.i64.wrap ((y2 : Int) + 256 * (y3 : Int)) = (y2 : Int) + 256 * (y3 : Int) := wrap_ok (by omega) (by omega)
    have z4 : IntKind.i64.wrap ((y4 : Int) + 256 * (y5 : Int)) = (y4 : Int) + 256 * (y5 : Int) := wrap_ok (by omega) (by omega)
    go_region_held3 (fun w' => w'.cell? ⟨b, o, none⟩ = some (.int .u8 (y0 : Nat)) ∧ w'.cell? ⟨b, o + 1, none⟩ = some (.int .u8 (y1 : Nat)) ∧ w'.cell? ⟨b, o + 2, none⟩ = some (.int .u8 (y2 : Nat)) ∧ w'.cell? ⟨b, o + 3, none⟩ = some (.int .u8 (y3 : Nat)) ∧ w'.cell? ⟨b, o + 4, none⟩ = some (.int .u8 (y4 : Nat)) ∧ w'.cell? ⟨b, o + 5, none⟩ = some (.int .u8 (y5 : Nat))) (first | exact HSS.out _ (below_drewN (alloc_below' w _) _) | exact HSS.out _ (below_drewN ((alloc_below' w _).trans ((alloc_below' _ _).mono (by simp))) _) | exact HSS.out _ (alloc_below' w _) | exact HSS.out _ ((alloc_below' w _).trans ((alloc_below' _ _).mono (by simp))) | assumption | go_keep) (fail)
    all_goals (go_wp2_with fail; go_meet; exact ⟨rfl, HB0.out⟩)
  case rest =>
  obtain ⟨W2, rfl⟩ : ∃ wz, wz = wc := ⟨_, rfl⟩
  obtain ⟨rfl, HB2⟩ := hcut
  clear HB0 c0 c1 c2 c3 c4 c5
  obtain ⟨k6, k7⟩ := HB7.out W2 HB2.out.1
  clear HB7
  have hcr : (((y7 : Nat) : Int) % 2 == 1) = decide (y7 % 2 = 1) := by
    by_cases h : y7 % 2 = 1
    · rw [decide_eq_true h]; simp; omega
    · rw [decide_eq_false h]; simp; omega
  obtain ⟨ph, Hph⟩ : ∃ ph, Hid (decide (y7 % 2 = 1) = ph) := ⟨_, rfl⟩
  rw [Hph.out] at hcr HP1
  obtain ⟨Y0, HY0⟩ : ∃ Y : Int, Hid ((y0 : Int) + 256 * (y1 : Int) = Y) := ⟨_, rfl⟩
  obtain ⟨Y1, HY1⟩ : ∃ Y : Int, Hid ((y2 : Int) + 256 * (y3 : Int) = Y) := ⟨_, rfl⟩
  obtain ⟨Y2, HY2⟩ : ∃ Y : Int, Hid ((y4 : Int) + 256 * (y5 : Int) = Y) := ⟨_, rfl⟩
  rw [HY0.out, HY1.out, HY2.out] at HB2
  have q0 : W2.cell? ⟨w.heap.size + 1, 0, none⟩ = some (.int .i64 Y0) := HB2.out.2.2.cell 0
  have g0 := HB2.out.2.2.free 0
  have r0 : W2.cell? ⟨w.heap.size, 0, none⟩ = some (.int .i64 0) := HB2.out.2.1.cell 0
  have f0 := HB2.out.2.1.free 0
  have q1 : W2.cell? ⟨w.heap.size + 1, 1, none⟩ = some (.int .i64 Y1) := HB2.out.2.2.cell 1
  have g1 := HB2.out.2.2.free 1
  have r1 : W2.cell? ⟨w.heap.size, 1, none⟩ = some (.int .i64 0) := HB2.out.2.1.cell 1
  have f1 := HB2.out.2.1.free 1
  have q2 : W2.cell? ⟨w.heap.size + 1, 2, none⟩ = some (.int .i64 Y2) := HB2.out.2.2.cell 2
  have g2 := HB2.out.2.2.free 2
  have r2 : W2.cell? ⟨w.heap.size, 2, none⟩ = some (.int .i64 0) := HB2.out.2.1.cell 2
  have f2 := HB2.out.2.1.free 2
  have q3 : W2.cell? ⟨w.heap.size + 1, 3, none⟩ = some (.int .i64 0) := HB2.out.2.2.cell 3
  have g3 := HB2.out.2.2.free 3
  have r3 : W2.cell? ⟨w.heap.size, 3, none⟩ = some (.int .i64 0) := HB2.out.2.1.cell 3
  have f3 := HB2.out.2.1.free 3
  have q4 : W2.cell? ⟨w.heap.size + 1, 4, none⟩ = some (.bool false) := HB2.out.2.2.cell 4
  have g4 := HB2.out.2.2.free 4
  have r4 : W2.cell? ⟨w.heap.size, 4, none⟩ = some (.bool false) := HB2.out.2.1.cell 4
  have f4 := HB2.out.2.1.free 4
  go_wp2_with fail
  have hk3 : Keep (fun b => b = w.heap.size + 1) W2 ((W2.setCell ⟨w.heap.size + 1, 3, none⟩ (.int .i64 (y6 : Nat))).setCell ⟨w.heap.size + 1, 4, none⟩ (.bool ph)) := ((Keep.refl _ _).set1 _ _).set1 _ _
  have hz := five_set (HB2.out.2.1.keep hk3 (by omega)) (.int .i64 Y0) (.int .i64 Y1) (.int .i64 Y2) (.int .i64 (y6 : Nat)) (.bool ph)
  refine bodyPost_ret (v := .tuple #[doneV Y0 Y1 Y2 (y6 : Nat) ph, .int .i64 0]) (by simp [results, Tryd.results16, go_sem, hz.cell 0, hz.cell 1, hz.cell 2, hz.cell 3, hz.cell 4]) rfl ?_
  have hE := HP1.out _ (below_five (HB2.out.1.trans (hk3.below HB2.out.1.size (fun b hb => by omega))) (Nat.le_refl _) (.int .i64 Y0) (.int .i64 Y1) (.int .i64 Y2) (.int .i64 (y6 : Nat)) (.bool ph))
  rw [← HY0.out, ← HY1.out, ← HY2.out]
  rw [← HY0.out, ← HY1.out, ← HY2.out] at hE
  simpa using hE
end Go.Proofs.YteklankhffebaaaDoor
