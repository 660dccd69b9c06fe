/-
  What the calls of package cmd give: Decode of 64 bytes; DecodeDone.
-/
import Derived.Test.YteklankhffebaaaDoorFour
namespace Go.Proofs.YteklankhffebaaaDoor
open Go.RowKit
set_option linter.unusedVariables false

/-- A completion as a value. -/
abbrev doneV (id q h st : Int) (ph : Bool) : Value := .agg #[.int .i64 id, .int .i64 q, .int .i64 h, .int .i64 st, .bool ph]
/-- The phase that some bytes bear. -/
def phB (l : List Nat) : Bool := decide (l[7]?.getD 0 % 2 = 1)
theorem fit_DF {l : List Nat} (hA : AllB l) : fitL DF l 4 := fun j hj => by
  have h2 : ∀ a, num (cut l a 2) ≤ 65535 := fun a => by
    have h := num_lt (cut l a 2) (cut_all hA a 2)
    have hl : (cut l a 2).length ≤ 2 := by unfold cut; rw [List.length_take]; omega
    have : 2 ^ (8 * (cut l a 2).length) ≤ 2 ^ 16 := Nat.pow_le_pow_right (by decide) (by omega)
    omega
  have h1 : num (cut l 6 1) ≤ 255 := by
    have h := num_lt (cut l 6 1) (cut_all hA 6 1)
    have hl : (cut l 6 1).length ≤ 1 := by unfold cut; rw [List.length_take]; omega
    have : 2 ^ (8 * (cut l 6 1).length) ≤ 2 ^ 8 := Nat.pow_le_pow_right (by decide) (by omega)
    omega
  have : j = 0 ∨ j = 1 ∨ j = 2 ∨ j = 3 := by omega
  rcases this with rfl | rfl | rfl | rfl
  · exact h2 0
  · exact h2 2
  · exact h2 4
  · exact h1
/-- What DecodeDone gives. -/
def DDPost (w w' : World) (e : Ending) (l : List Nat) : Prop :=
  Below w.heap.size w w' ∧ ((l.length ≠ 16 ∧ e = .returned (.tuple #[doneV 0 0 0 0 false, .iface 31 (.int .i64 2)])) ∨ (l.length = 16 ∧ e = .returned (.tuple #[doneV ((rdN DF l 0 : Nat) : Int) ((rdN DF l 1 : Nat) : Int) ((rdN DF l 2 : Nat) : Int) ((rdN DF l 3 : Nat) : Int) (phB l), .nilIface])))
set_option maxRecDepth 20000 in
set_option maxHeartbeats 3200000 in
theorem decode_yes (b o c : Nat) (l : List Nat) (w : World) (hln : l.length = 64) (hA : AllB l) (hc : ∀ i, i < 64 → w.cell? ⟨b, o + i, none⟩ = some (.int .u8 ((l[i]?.getD 0 : Nat) : Int))) : Calls Tryd.prog 13 #[.slice (some ⟨b, o, none⟩) 64 c] w fun e w' => DPost w w' e l := by
  obtain ⟨Z, HZ⟩ : ∃ Z, Hid (Z = Obj.cells #[.int .i64 0, .int .i64 0, .int .i64 0, .int .i64 0, .int .i64 0, .int .i64 0] 23) := ⟨_, rfl⟩
  have hbl : b < w.heap.size := World.block_lt_of_cell? w _ (hc 0 (by decide))
  have HB : Hid (Below w.heap.size w ((w.alloc Z).alloc Z)) := (alloc_below' w _).trans ((alloc_below' _ _).mono (by simp))
  have HT : Hid (Stc ((w.alloc Z).alloc Z) w.heap.size 23 [.int .i64 0, .int .i64 0, .int .i64 0, .int .i64 0, .int .i64 0, .int .i64 0]) := by
    show Stc _ _ _ _
    refine Stc.keep (S := fun _ => False) (w := w.alloc Z) ?_ (Keep.of_below (alloc_below' _ _)) (fun e => e)
    rw [HZ.out]
    exact heap_alloc_new w _
  have HT2 : Hid (Stc ((w.alloc Z).alloc Z) (w.heap.size + 1) 23 [.int .i64 0, .int .i64 0, .int .i64 0, .int .i64 0, .int .i64 0, .int .i64 0]) := by
    show Stc _ _ _ _
    have := heap_alloc_new (w.alloc Z) Z
    rw [show (w.alloc Z).heap.size = w.heap.size + 1 by simp] at this
    unfold Stc
    rw [this, HZ.out]
  have HF : Hid (Calls Tryd.prog 18 #[.pointer (some ⟨w.heap.size + 1, 0, none⟩)] ((w.alloc Z).alloc Z) fun e w' => ∃ g, e = .returned (.slice (some ⟨g, 0, none⟩) 6 6) ∧ Calls Tryd.prog 22 #[.slice (some ⟨b, o, none⟩) 64 c, .int .i64 64, .slice (some ⟨g, 0, none⟩) 6 6] w' fun e w2 => Below w.heap.size w w2 ∧ Stc w2 w.heap.size 23 [.int .i64 0, .int .i64 0, .int .i64 0, .int .i64 0, .int .i64 0, .int .i64 0] ∧ ((fitL CF l 6 ∧ e = .returned .nilIface ∧ Stc w2 (w.heap.size + 1) 23 [.int .i64 ((rdN CF l 0 : Nat) : Int), .int .i64 ((rdN CF l 1 : Nat) : Int), .int .i64 ((rdN CF l 2 : Nat) : Int), .int .i64 ((rdN CF l 3 : Nat) : Int), .int .i64 ((rdN CF l 4 : Nat) : Int), .int .i64 ((rdN CF l 5 : Nat) : Int)]) ∨ (¬ fitL CF l 6 ∧ e = .returned (.iface 31 (.int .i64 1))))) := by
    refine (cfields_any (w.heap.size + 1) _).mono ?_
    rintro e w' ⟨rfl, hfl, hb⟩
    have hb0 : Below w.heap.size w w' := HB.out.trans (hb.mono HB.out.size)
    have hk0 : Keep (fun _ => False) ((w.alloc Z).alloc Z) w' := Keep.of_below hb
    refine ⟨_, rfl, ?_⟩
    refine (read_yes _ 0 (w.heap.size + 1) 64 b o CF l [.int .i64 0, .int .i64 0, .int .i64 0, .int .i64 0, .int .i64 0, .int .i64 0] 23 6 c w' hfl (HT2.out.keep hk0 (fun e => e)) (by simp) (by decide) hln hA (fun i hi => (hb0.cell (p := ⟨b, o + i, none⟩) hbl).trans (hc i hi)) (by omega) okCF).mono ?_
    rintro e2 w2 ⟨hk2, h⟩
    refine ⟨hb0.trans (hk2.below hb0.size (fun k hk => by omega)), (HT.out.keep hk0 (fun e => e)).keep hk2 (by omega), ?_⟩
    rcases h with ⟨h1, h2, h3⟩ | ⟨h1, h2⟩
    · exact .inl ⟨h1, h2, h3⟩
    · exact .inr ⟨h1, h2⟩
  rw [HZ.out] at HF
  clear HB HT HT2 hc hA hbl
  go_enter Tryd.func13, Tryd.ntmps13
  go_wp2_with fail
  refine HF.out.mono ?_
  rintro e w1 ⟨g, rfl, HR⟩
  clear HF
  go_wp2_with fail
  refine HR.mono ?_
  rintro e w2 ⟨hb, hs, ⟨hfit, rfl, hs2⟩ | ⟨hfit, rfl⟩⟩
  · have HH : Hid (Below w.heap.size w w2 ∧ Stc w2 w.heap.size 23 [.int .i64 0, .int .i64 0, .int .i64 0, .int .i64 0, .int .i64 0, .int .i64 0]) := ⟨hb, hs⟩
    have HP : Hid (∀ w', Below w.heap.size w w' → DPost w w' (.returned (.tuple #[cmdV ((rdN CF l 0 : Nat) : Int) ((rdN CF l 1 : Nat) : Int) ((rdN CF l 2 : Nat) : Int) ((rdN CF l 3 : Nat) : Int) ((rdN CF l 4 : Nat) : Int) ((rdN CF l 5 : Nat) : Int), .nilIface])) l) := fun w' h => ⟨h, .inr (.inr ⟨hln, hfit, rfl⟩)⟩
    have q0 : w2.cell? ⟨w.heap.size + 1, 0, none⟩ = some (.int .i64 ((rdN CF l 0 : Nat) : Int)) := hs2.cell 0
    have q1 : w2.cell? ⟨w.heap.size + 1, 1, none⟩ = some (.int .i64 ((rdN CF l 1 : Nat) : Int)) := hs2.cell 1
    have q2 : w2.cell? ⟨w.heap.size + 1, 2, none⟩ = some (.int .i64 ((rdN CF l 2 : Nat) : Int)) := hs2.cell 2
    have q3 : w2.cell? ⟨w.heap.size + 1, 3, none⟩ = some (.int .i64 ((rdN CF l 3 : Nat) : Int)) := hs2.cell 3
    have q4 : w2.cell? ⟨w.heap.size + 1, 4, none⟩ = some (.int .i64 ((rdN CF l 4 : Nat) : Int)) := hs2.cell 4
    have q5 : w2.cell? ⟨w.heap.size + 1, 5, none⟩ = some (.int .i64 ((rdN CF l 5 : Nat) : Int)) := hs2.cell 5
    have r0 : w2.cell? ⟨w.heap.size, 0, none⟩ = some (.int .i64 0) := HH.out.2.cell 0
    have r1 : w2.cell? ⟨w.heap.size, 1, none⟩ = some (.int .i64 0) := HH.out.2.cell 1
    have r2 : w2.cell? ⟨w.heap.size, 2, none⟩ = some (.int .i64 0) := HH.out.2.cell 2
    have r3 : w2.cell? ⟨w.heap.size, 3, none⟩ = some (.int .i64 0) := HH.out.2.cell 3
    have r4 : w2.cell? ⟨w.heap.size, 4, none⟩ = some (.int .i64 0) := HH.out.2.cell 4
    have r5 : w2.cell? ⟨w.heap.size, 5, none⟩ = some (.int .i64 0) := HH.out.2.cell 5
    have f0 := HH.out.2.free 0
    have f1 := HH.out.2.free 1
    have f2 := HH.out.2.free 2
    have f3 := HH.out.2.free 3
    have f4 := HH.out.2.free 4
    have f5 := HH.out.2.free 5
    obtain ⟨y0, hy0⟩ : ∃ y, Hid (rdN CF l 0 = y) := ⟨_, rfl⟩
    rw [hy0.out] at q0 HP
    obtain ⟨y1, hy1⟩ : ∃ y, Hid (rdN CF l 1 = y) := ⟨_, rfl⟩
    rw [hy1.out] at q1 HP
    obtain ⟨y2, hy2⟩ : ∃ y, Hid (rdN CF l 2 = y) := ⟨_, rfl⟩
    rw [hy2.out] at q2 HP
    obtain ⟨y3, hy3⟩ : ∃ y, Hid (rdN CF l 3 = y) := ⟨_, rfl⟩
    rw [hy3.out] at q3 HP
    obtain ⟨y4, hy4⟩ : ∃ y, Hid (rdN CF l 4 = y) := ⟨_, rfl⟩
    rw [hy4.out] at q4 HP
    obtain ⟨y5, hy5⟩ : ∃ y, Hid (rdN CF l 5 = y) := ⟨_, rfl⟩
    rw [hy5.out] at q5 HP
    clear HR hb hs hs2 hfit hln
    go_wp2_with fail
    have hz := six_set HH.out.2 (.int .i64 (y0 : Nat)) (.int .i64 (y1 : Nat)) (.int .i64 (y2 : Nat)) (.int .i64 (y3 : Nat)) (.int .i64 (y4 : Nat)) (.int .i64 (y5 : Nat))
    refine bodyPost_ret (v := .tuple #[cmdV (y0 : Nat) (y1 : Nat) (y2 : Nat) (y3 : Nat) (y4 : Nat) (y5 : Nat), .nilIface]) (by simp [results, Tryd.results13, go_sem, hz.cell 0, hz.cell 1, hz.cell 2, hz.cell 3, hz.cell 4, hz.cell 5]) rfl ?_
    exact HP.out _ (below_six HH.out.1 (Nat.le_refl _) _ _ _ _ _ _)
  · have HH : Hid (Below w.heap.size w w2 ∧ Stc w2 w.heap.size 23 [.int .i64 0, .int .i64 0, .int .i64 0, .int .i64 0, .int .i64 0, .int .i64 0]) := ⟨hb, hs⟩
    have HP : Hid (∀ w', Below w.heap.size w w' → DPost w w' (.returned (.tuple #[cmdV 0 0 0 0 0 0, .iface 31 (.int .i64 1)])) l) := fun w' h => ⟨h, .inr (.inl ⟨hln, hfit, rfl⟩)⟩
    have r0 : w2.cell? ⟨w.heap.size, 0, none⟩ = some (.int .i64 0) := HH.out.2.cell 0
    have r1 : w2.cell? ⟨w.heap.size, 1, none⟩ = some (.int .i64 0) := HH.out.2.cell 1
    have r2 : w2.cell? ⟨w.heap.size, 2, none⟩ = some (.int .i64 0) := HH.out.2.cell 2
    have r3 : w2.cell? ⟨w.heap.size, 3, none⟩ = some (.int .i64 0) := HH.out.2.cell 3
    have r4 : w2.cell? ⟨w.heap.size, 4, none⟩ = some (.int .i64 0) := HH.out.2.cell 4
    have r5 : w2.cell? ⟨w.heap.size, 5, none⟩ = some (.int .i64 0) := HH.out.2.cell 5
    have f0 := HH.out.2.free 0
    have f1 := HH.out.2.free 1
    have f2 := HH.out.2.free 2
    have f3 := HH.out.2.free 3
    have f4 := HH.out.2.free 4
    have f5 := HH.out.2.free 5
    clear HR hb hs hfit hln
    go_wp2_with fail
    have hz := six_set HH.out.2 (.int .i64 0) (.int .i64 0) (.int .i64 0) (.int .i64 0) (.int .i64 0) (.int .i64 0)
    refine bodyPost_ret (v := .tuple #[cmdV 0 0 0 0 0 0, .iface 31 (.int .i64 1)]) (by simp [results, Tryd.results13, go_sem, hz.cell 0, hz.cell 1, hz.cell 2, hz.cell 3, hz.cell 4, hz.cell 5]) rfl ?_
    exact HP.out _ (below_six HH.out.1 (Nat.le_refl _) _ _ _ _ _ _)
set_option maxRecDepth 20000 in
set_option maxHeartbeats 3200000 in
theorem decodeDone_no (a : Option Addr) (L c : Nat) (w : World) (hL : L ≤ 140737488355328) (h : L ≠ 16) : Calls Tryd.prog 15 #[.slice a L c] w fun e w' => e = .returned (.tuple #[doneV 0 0 0 0 false, .iface 31 (.int .i64 2)]) ∧ Below w.heap.size w w' := by
  obtain ⟨Z, HZ⟩ : ∃ Z, Hid (Z = Obj.cells #[.int .i64 0, .int .i64 0, .int .i64 0, .int .i64 0, .bool false] 25) := ⟨_, rfl⟩
  have HB : Hid (Below w.heap.size w ((w.alloc Z).alloc Z)) := (alloc_below' w _).trans ((alloc_below' _ _).mono (by simp))
  have HT : Hid (Stc ((w.alloc Z).alloc Z) w.heap.size 25 [.int .i64 0, .int .i64 0, .int .i64 0, .int .i64 0, .bool false]) := by
    show Stc _ _ _ _
    refine Stc.keep (S := fun _ => False) (w := w.alloc Z) ?_ (Keep.of_below (alloc_below' _ _)) (fun e => e)
    rw [HZ.out]
    exact heap_alloc_new w _
  have HF : Hid (Calls Tryd.prog 21 #[.pointer (some ⟨w.heap.size + 1, 0, none⟩)] ((w.alloc Z).alloc Z) fun e w' => ∃ g, e = .returned (.slice (some ⟨g, 0, none⟩) 4 4) ∧ Below w.heap.size w w' ∧ Stc w' w.heap.size 25 [.int .i64 0, .int .i64 0, .int .i64 0, .int .i64 0, .bool false]) := by
    refine (dfields_any (w.heap.size + 1) _).mono ?_
    rintro e w' ⟨rfl, hfl, hb⟩
    exact ⟨_, rfl, HB.out.trans (hb.mono HB.out.size), HT.out.keep (Keep.of_below (S := fun _ => False) hb) (fun e => e)⟩
  rw [HZ.out] at HF
  clear HB HT
  go_enter Tryd.func15, Tryd.ntmps15
  go_wp2_with fail
  refine HF.out.mono ?_
  rintro e w1 ⟨g, rfl, hb, hs⟩
  have HR := read_no a L c 16 (.slice (some ⟨g, 0, none⟩) 4 4) w1 (by decide) hL h
  have HH : Hid (Below w.heap.size w w1 ∧ Stc w1 w.heap.size 25 [.int .i64 0, .int .i64 0, .int .i64 0, .int .i64 0, .bool false]) := ⟨hb, hs⟩
  clear HF hb hs h
  go_wp2_with fail
  refine HR.mono ?_
  rintro e w2 ⟨rfl, rfl⟩
  clear HR
  have r0 : w1.cell? ⟨w.heap.size, 0, none⟩ = some (.int .i64 0) := HH.out.2.cell 0
  have r1 : w1.cell? ⟨w.heap.size, 1, none⟩ = some (.int .i64 0) := HH.out.2.cell 1
  have r2 : w1.cell? ⟨w.heap.size, 2, none⟩ = some (.int .i64 0) := HH.out.2.cell 2
  have r3 : w1.cell? ⟨w.heap.size, 3, none⟩ = some (.int .i64 0) := HH.out.2.cell 3
  have r4 : w1.cell? ⟨w.heap.size, 4, none⟩ = some (.bool false) := HH.out.2.cell 4
  have f0 := HH.out.2.free 0
  have f1 := HH.out.2.free 1
  have f2 := HH.out.2.free 2
  have f3 := HH.out.2.free 3
  have f4 := HH.out.2.free 4
  go_wp2_with fail
  have hz := five_set HH.out.2 (.int .i64 0) (.int .i64 0) (.int .i64 0) (.int .i64 0) (.bool false)
  refine bodyPost_ret (v := .tuple #[doneV 0 0 0 0 false, .iface 31 (.int .i64 2)]) (by simp [results, Tryd.results15, go_sem, hz.cell 0, hz.cell 1, hz.cell 2, hz.cell 3, hz.cell 4]) rfl ?_
  exact ⟨rfl, below_five HH.out.1 (Nat.le_refl _) _ _ _ _ _⟩
set_option maxRecDepth 20000 in
set_option maxHeartbeats 3200000 in
theorem decodeDone_yes (b o c : Nat) (l : List Nat) (w : World) (hln : l.length = 16) (hA : AllB l) (hc : ∀ i, i < 16 → w.cell? ⟨b, o + i, none⟩ = some (.int .u8 ((l[i]?.getD 0 : Nat) : Int))) : Calls Tryd.prog 15 #[.slice (some ⟨b, o, none⟩) 16 c] w fun e w' => DDPost w w' e l := by
  obtain ⟨Z, HZ⟩ : ∃ Z, Hid (Z = Obj.cells #[.int .i64 0, .int .i64 0, .int .i64 0, .int .i64 0, .bool false] 25) := ⟨_, rfl⟩
  have hbl : b < w.heap.size := World.block_lt_of_cell? w _ (hc 0 (by decide))
  have HB : Hid (Below w.heap.size w ((w.alloc Z).alloc Z)) := (alloc_below' w _).trans ((alloc_below' _ _).mono (by simp))
  have HT : Hid (Stc ((w.alloc Z).alloc Z) w.heap.size 25 [.int .i64 0, .int .i64 0, .int .i64 0, .int .i64 0, .bool false]) := by
    show Stc _ _ _ _
    refine Stc.keep (S := fun _ => False) (w := w.alloc Z) ?_ (Keep.of_below (alloc_below' _ _)) (fun e => e)
    rw [HZ.out]
    exact heap_alloc_new w _
  have HT2 : Hid (Stc ((w.alloc Z).alloc Z) (w.heap.size + 1) 25 [.int .i64 0, .int .i64 0, .int .i64 0, .int .i64 0, .bool false]) := by
    show Stc _ _ _ _
    have := heap_alloc_new (w.alloc Z) Z
    rw [show (w.alloc Z).heap.size = w.heap.size + 1 by simp] at this
    unfold Stc
    rw [this, HZ.out]
  have HF : Hid (Calls Tryd.prog 21 #[.pointer (some ⟨w.heap.size + 1, 0, none⟩)] ((w.alloc Z).alloc Z) fun e w' => ∃ g, e = .returned (.slice (some ⟨g, 0, none⟩) 4 4) ∧ Calls Tryd.prog 22 #[.slice (some ⟨b, o, none⟩) 16 c, .int .i64 16, .slice (some ⟨g, 0, none⟩) 4 4] w' fun e w2 => Below w.heap.size w w2 ∧ Stc w2 w.heap.size 25 [.int .i64 0, .int .i64 0, .int .i64 0, .int .i64 0, .bool false] ∧ ((fitL DF l 4 ∧ e = .returned .nilIface ∧ Stc w2 (w.heap.size + 1) 25 [.int .i64 ((rdN DF l 0 : Nat) : Int), .int .i64 ((rdN DF l 1 : Nat) : Int), .int .i64 ((rdN DF l 2 : Nat) : Int), .int .i64 ((rdN DF l 3 : Nat) : Int), .bool false]) ∨ (¬ fitL DF l 4 ∧ e = .returned (.iface 31 (.int .i64 1))))) := by
    refine (dfields_any (w.heap.size + 1) _).mono ?_
    rintro e w' ⟨rfl, hfl, hb⟩
    have hb0 : Below w.heap.size w w' := HB.out.trans (hb.mono HB.out.size)
    have hk0 : Keep (fun _ => False) ((w.alloc Z).alloc Z) w' := Keep.of_below hb
    refine ⟨_, rfl, ?_⟩
    refine (read_yes _ 0 (w.heap.size + 1) 16 b o DF l [.int .i64 0, .int .i64 0, .int .i64 0, .int .i64 0, .bool false] 25 4 c w' hfl (HT2.out.keep hk0 (fun e => e)) (by simp) (by decide) hln hA (fun i hi => (hb0.cell (p := ⟨b, o + i, none⟩) hbl).trans (hc i hi)) (by omega) okDF).mono ?_
    rintro e2 w2 ⟨hk2, h⟩
    refine ⟨hb0.trans (hk2.below hb0.size (fun k hk => by omega)), (HT.out.keep hk0 (fun e => e)).keep hk2 (by omega), ?_⟩
    rcases h with ⟨h1, h2, h3⟩ | ⟨h1, h2⟩
    · exact .inl ⟨h1, h2, h3⟩
    · exact .inr ⟨h1, h2⟩
  rw [HZ.out] at HF
  have HPh : Hid (∀ w2, Below w.heap.size w w2 → w2.cell? ⟨b, o + 7, none⟩ = some (.int .u8 ((l[7]?.getD 0 : Nat) : Int))) := fun w2 hb => (hb.cell (p := ⟨b, o + 7, none⟩) hbl).trans (hc 7 (by decide))
  have HA7 : l[7]?.getD 0 < 256 := hA.at 7
  have HFit : Hid (fitL DF l 4) := fit_DF hA
  have HP7 : Hid (phB l = decide (l[7]?.getD 0 % 2 = 1)) := rfl
  clear HB HT HT2 hc hA hbl
  go_enter Tryd.func15, Tryd.ntmps15
  go_wp2_with fail
  refine HF.out.mono ?_
  rintro e w1 ⟨g, rfl, HR⟩
  clear HF
  go_wp2_with fail
  refine HR.mono ?_
  rintro e w2 ⟨hb, hs, ⟨hfit, rfl, hs2⟩ | ⟨hfit, rfl⟩⟩
  · obtain ⟨B, HBv⟩ : ∃ B : Nat, Hid (l[7]?.getD 0 = B) := ⟨l[7]?.getD 0, (rfl : l[7]?.getD 0 = l[7]?.getD 0)⟩
    have hph := HPh.out w2 hb
    rw [HBv.out] at hph HA7
    have hcr : (((B : Nat) : Int) % 2 == 1) = decide (B % 2 = 1) := by
      by_cases h : B % 2 = 1
      · rw [decide_eq_true h]; simp; omega
      · rw [decide_eq_false h]; simp; omega
    obtain ⟨ph, Hph⟩ : ∃ ph, Hid (decide (B % 2 = 1) = ph) := ⟨_, rfl⟩
    rw [Hph.out] at hcr
    have HP : Hid (∀ w', Below w.heap.size w w' → DDPost w w' (.returned (.tuple #[doneV ((rdN DF l 0 : Nat) : Int) ((rdN DF l 1 : Nat) : Int) ((rdN DF l 2 : Nat) : Int) ((rdN DF l 3 : Nat) : Int) ph, .nilIface])) l) := fun w' h => ⟨h, .inr ⟨hln, by rw [← Hph.out, ← HBv.out, ← HP7.out]⟩⟩
    have hs3 : ∀ u, Stc (w2.setCell ⟨w.heap.size + 1, 4, none⟩ u) w.heap.size 25 [.int .i64 0, .int .i64 0, .int .i64 0, .int .i64 0, .bool false] := fun u => hs.keep ((Keep.refl (fun b => b = w.heap.size + 1) w2).set1 4 u) (by omega)
    have HH : Hid (∀ u, Below w.heap.size w (w2.setCell ⟨w.heap.size + 1, 4, none⟩ u) ∧ Stc (w2.setCell ⟨w.heap.size + 1, 4, none⟩ u) w.heap.size 25 [.int .i64 0, .int .i64 0, .int .i64 0, .int .i64 0, .bool false]) := fun u => ⟨hb.setCell (by simp) u, hs3 u⟩
    have q4 : w2.cell? ⟨w.heap.size + 1, 4, none⟩ = some (.bool false) := hs2.cell 4
    have g4 := hs2.free 4
    have HS2 : Hid (∀ u, Stc (w2.setCell ⟨w.heap.size + 1, 4, none⟩ u) (w.heap.size + 1) 25 [.int .i64 ((rdN DF l 0 : Nat) : Int), .int .i64 ((rdN DF l 1 : Nat) : Int), .int .i64 ((rdN DF l 2 : Nat) : Int), .int .i64 ((rdN DF l 3 : Nat) : Int), u]) := fun u => hs2.set 4 u
    obtain ⟨y0, hy0⟩ : ∃ y, Hid (rdN DF l 0 = y) := ⟨_, rfl⟩
    rw [hy0.out] at HS2 HP
    obtain ⟨y1, hy1⟩ : ∃ y, Hid (rdN DF l 1 = y) := ⟨_, rfl⟩
    rw [hy1.out] at HS2 HP
    obtain ⟨y2, hy2⟩ : ∃ y, Hid (rdN DF l 2 = y) := ⟨_, rfl⟩
    rw [hy2.out] at HS2 HP
    obtain ⟨y3, hy3⟩ : ∃ y, Hid (rdN DF l 3 = y) := ⟨_, rfl⟩
    rw [hy3.out] at HS2 HP
    have q0 : w2.cell? ⟨w.heap.size + 1, 0, none⟩ = some (.int .i64 ((y0 : Nat) : Int)) := by rw [← hy0.out]; exact hs2.cell 0
    have q1 : w2.cell? ⟨w.heap.size + 1, 1, none⟩ = some (.int .i64 ((y1 : Nat) : Int)) := by rw [← hy1.out]; exact hs2.cell 1
    have q2 : w2.cell? ⟨w.heap.size + 1, 2, none⟩ = some (.int .i64 ((y2 : Nat) : Int)) := by rw [← hy2.out]; exact hs2.cell 2
    have q3 : w2.cell? ⟨w.heap.size + 1, 3, none⟩ = some (.int .i64 ((y3 : Nat) : Int)) := by rw [← hy3.out]; exact hs2.cell 3
    have r0 : w2.cell? ⟨w.heap.size, 0, none⟩ = some (.int .i64 0) := hs.cell 0
    have r1 : w2.cell? ⟨w.heap.size, 1, none⟩ = some (.int .i64 0) := hs.cell 1
    have r2 : w2.cell? ⟨w.heap.size, 2, none⟩ = some (.int .i64 0) := hs.cell 2
    have r3 : w2.cell? ⟨w.heap.size, 3, none⟩ = some (.int .i64 0) := hs.cell 3
    have r4 : w2.cell? ⟨w.heap.size, 4, none⟩ = some (.bool false) := hs.cell 4
    have f0 := hs.free 0
    have f1 := hs.free 1
    have f2 := hs.free 2
    have f3 := hs.free 3
    have f4 := hs.free 4
    clear HR hb hs hs2 hfit hln HPh HP7 hs3 HFit HS2
    go_wp2_with fail
    have hz := five_set (HH.out (.bool ph)).2 (.int .i64 (y0 : Nat)) (.int .i64 (y1 : Nat)) (.int .i64 (y2 : Nat)) (.int .i64 (y3 : Nat)) (.bool ph)
    refine bodyPost_ret (v := .tuple #[doneV (y0 : Nat) (y1 : Nat) (y2 : Nat) (y3 : Nat) ph, .nilIface]) (by simp [results, Tryd.results15, go_sem, hz.cell 0, hz.cell 1, hz.cell 2, hz.cell 3, hz.cell 4]) rfl ?_
    exact HP.out _ (below_five (HH.out (.bool ph)).1 (Nat.le_refl _) _ _ _ _ _)
  · exact absurd HFit.out hfit
/-- What EncodeDone writes. -/
def doneL (v : List Int) (ph : Bool) : List Nat := if ph then (wrt DF v 16 4).set 7 1 else wrt DF v 16 4
/-- What EncodeDone gives. -/
def EDPost (w w' : World) (e : Ending) (v : List Int) (ph : Bool) : Prop :=
  Below w.heap.size w w' ∧ ((holdL DF v 4 ∧ ∃ g, w.heap.size ≤ g ∧ e = .returned (.tuple #[.slice (some ⟨g, 0, none⟩) 16 16, .nilIface]) ∧ Row w' g (doneL v ph)) ∨ (¬ holdL DF v 4 ∧ e = .returned (.tuple #[.slice none 0 0, .iface 31 (.int .i64 1)])))
set_option maxRecDepth 20000 in
set_option maxHeartbeats 1600000 in
theorem encodeDone_any (id q h st : Int) (ph : Bool) (w : World) : Calls Tryd.prog 10 #[doneV id q h st ph] w fun e w' => EDPost w w' e [id, q, h, st] ph := by
  obtain ⟨v, Hv⟩ : ∃ v, Hid (v = [id, q, h, st]) := ⟨_, rfl⟩
  rw [← Hv.out]
  have HT : Hid (Stc (w.alloc (.cells #[.int .i64 id, .int .i64 q, .int .i64 h, .int .i64 st, .bool ph] 25)) w.heap.size 25 [.int .i64 id, .int .i64 q, .int .i64 h, .int .i64 st, .bool ph]) := heap_alloc_new w _
  have HC : Hid (CV (w.alloc (.cells #[.int .i64 id, .int .i64 q, .int .i64 h, .int .i64 st, .bool ph] 25)) w.heap.size v) := by
    show CV _ _ _
    rw [Hv.out]
    exact cv_of (t := 25) _ [.bool ph] HT.out
  have HL : Hid (v.length = 4) := by show _ = _; rw [Hv.out]; rfl
  have HB : Hid (Below w.heap.size w (w.alloc (.cells #[.int .i64 id, .int .i64 q, .int .i64 h, .int .i64 st, .bool ph] 25))) := alloc_below' w _
  have HF : Hid (Calls Tryd.prog 21 #[.pointer (some ⟨w.heap.size, 0, none⟩)] (w.alloc (.cells #[.int .i64 id, .int .i64 q, .int .i64 h, .int .i64 st, .bool ph] 25)) fun e w' => ∃ g, e = .returned (.slice (some ⟨g, 0, none⟩) 4 4) ∧ Calls Tryd.prog 17 #[.int .i64 16, .slice (some ⟨g, 0, none⟩) 4 4] w' fun e w2 => Below w.heap.size w w2 ∧ w2.cell? ⟨w.heap.size, 4, none⟩ = some (.bool ph) ∧ ((holdL DF v 4 ∧ ∃ g, w.heap.size ≤ g ∧ e = .returned (.tuple #[.slice (some ⟨g, 0, none⟩) 16 16, .nilIface]) ∧ Row w2 g (wrt DF v 16 4)) ∨ (¬ holdL DF v 4 ∧ e = .returned (.tuple #[.slice none 0 0, .iface 31 (.int .i64 1)])))) := by
    refine (dfields_any w.heap.size _).mono ?_
    rintro e w' ⟨rfl, hfl, hb⟩
    have hb0 : Below w.heap.size w w' := HB.out.trans (hb.mono HB.out.size)
    have hk0 := Keep.of_below (S := fun _ => False) hb
    refine ⟨_, rfl, ?_⟩
    have hcv : CV w' w.heap.size v := HC.out.keep hk0 (fun e => e)
    refine (write_any _ 0 w.heap.size 16 DF v 4 w' hfl hcv (by rw [HL.out]; exact Nat.le_refl _) (World.block_lt_of_cell? w' _ (hcv 0 (by rw [HL.out]; omega))) (hfl 0 (by decide)).lt okDF).mono ?_
    rintro e2 w2 ⟨hb2, h⟩
    refine ⟨hb0.trans (hb2.mono hb0.size), ((HT.out.keep hk0 (fun e => e)).keep (Keep.of_below (S := fun _ => False) hb2) (fun e => e)).cell 4, ?_⟩
    rcases h with ⟨h1, h2, h3⟩ | ⟨h1, h2⟩
    · exact .inl ⟨h1, _, hb0.size, h2, h3⟩
    · exact .inr ⟨h1, h2⟩
  clear HC HL HB HT
  go_enter Tryd.func10, Tryd.ntmps10
  go_wp2_with fail
  refine HF.out.mono ?_
  rintro e w1 ⟨g, rfl, HW⟩
  clear HF
  go_wp2_with fail
  refine HW.mono ?_
  rintro e w2 ⟨hb, hph, ⟨h1, g2, hg, rfl, h3⟩ | ⟨h1, rfl⟩⟩
  · have hl : (wrt DF v 16 4).length = 16 := wrt_len okDF 4 (by decide)
    have hc7 := row_cell h3 7 (by rw [hl]; decide)
    have hf7 := row_free h3 7
    cases ph with
    | true =>
      have HE : Hid (EDPost w (w2.setCell ⟨g2, 7, none⟩ (.int .u8 1)) (.returned (.tuple #[.slice (some ⟨g2, 0, none⟩) 16 16, .nilIface])) v true) := ⟨hb.setCell hg _, .inl ⟨h1, g2, hg, rfl, row_set h3 7 1⟩⟩
      clear HW hb h1 hg h3 hl
      go_wp2
      go_ret2
      exact HE.out
    | false =>
      have HE : Hid (EDPost w w2 (.returned (.tuple #[.slice (some ⟨g2, 0, none⟩) 16 16, .nilIface])) v false) := ⟨hb, .inl ⟨h1, g2, hg, rfl, h3⟩⟩
      clear HW hb h1 hg h3 hl
      go_wp2
      go_ret2
      exact HE.out
  · have HE : Hid (EDPost w w2 (.returned (.tuple #[.slice none 0 0, .iface 31 (.int .i64 1)])) v ph) := ⟨hb, .inr ⟨h1, rfl⟩⟩
    clear HW hb h1 hph
    go_wp2
    go_ret2
    exact HE.out
end Go.Proofs.YteklankhffebaaaDoor
