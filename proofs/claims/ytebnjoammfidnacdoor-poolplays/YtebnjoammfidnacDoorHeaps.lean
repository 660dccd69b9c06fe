/-
  What the calls of container/heap's Push and Pop give of a heap of a pool's free blocks.
-/
import Derived.Test.YtebnjoammfidnacDoorUpDown
namespace Go.Proofs.YtebnjoammfidnacDoor
open Go.RowKit
set_option linter.unusedVariables false

/-- Of block pb nothing but its third cell has turned. -/
structure PbK (pb : Nat) (w w' : World) : Prop where
  cell : ∀ o, o ≠ 2 → w'.cell? ⟨pb, o, none⟩ = w.cell? ⟨pb, o, none⟩
  free : ∀ o, w'.frozen? ⟨pb, o, none⟩ = w.frozen? ⟨pb, o, none⟩
theorem PbK.trans {pb : Nat} {a b c : World} (h : PbK pb a b) (k : PbK pb b c) : PbK pb a c := ⟨fun o ho => (k.cell o ho).trans (h.cell o ho), fun o => (k.free o).trans (h.free o)⟩
theorem PbK.of_keep {S : Nat → Prop} {pb : Nat} {w w' : World} (h : Keep S w w') (hl : pb < w.heap.size) (hs : ¬ S pb) : PbK pb w w' := ⟨fun o _ => h.cell (p := ⟨pb, o, none⟩) hl hs, fun o => h.frozen (p := ⟨pb, o, none⟩) hl hs⟩
theorem PbK.set (pb : Nat) (w : World) (u : Value) : PbK pb w (w.setCell ⟨pb, 2, none⟩ u) := ⟨fun o ho => far _ (fun e => ho e.2.symm), fun o => by rw [World.frozen?_setCell]⟩
theorem HP.pushed {w w1 : World} {pb bb cap cap1 g x : Nat} {a : Option Addr} {wn : Nat → Nat} {L : List Nat} (h : HP w pb bb a cap wn L) (h1 : OwnP w1 (some ⟨g, 0, none⟩) cap1 bb (L ++ [x])) (hk : Keep (blk a) w w1) (hg : blk a g ∨ w.heap.size ≤ g)
    (hx : w.cell? ⟨bb, x * 3, none⟩ = some (.int .i64 (x : Int)) ∧ w.cell? ⟨bb, x * 3 + 1, none⟩ = some (.int .i64 (wn x : Int))) :
    HP (w1.setCell ⟨pb, 2, none⟩ (.slice (some ⟨g, 0, none⟩) (L.length + 1) cap1)) pb bb (some ⟨g, 0, none⟩) cap1 wn (L ++ [x]) ∧ Keep (fun b => b = pb ∨ blk a b) w (w1.setCell ⟨pb, 2, none⟩ (.slice (some ⟨g, 0, none⟩) (L.length + 1) cap1)) ∧ PbK pb w (w1.setCell ⟨pb, 2, none⟩ (.slice (some ⟨g, 0, none⟩) (L.length + 1) cap1)) := by
  have hpb := h.lt
  have hbb : bb < w.heap.size := World.block_lt_of_cell? w _ hx.1
  have gne : g ≠ pb ∧ g ≠ bb := by
    rcases hg with hg | hg
    · exact h.ne g hg
    · exact ⟨by omega, by omega⟩
  have hkp : ∀ o, w1.cell? ⟨pb, o, none⟩ = w.cell? ⟨pb, o, none⟩ := fun o => hk.cell (p := ⟨pb, o, none⟩) hpb (fun e => (h.ne _ e).1 rfl)
  have hkb : ∀ o, w1.cell? ⟨bb, o, none⟩ = w.cell? ⟨bb, o, none⟩ := fun o => hk.cell (p := ⟨bb, o, none⟩) hbb (fun e => (h.ne _ e).2 rfl)
  have hn := h.n0
  have hk1 : Keep (fun b => b = pb) w1 (w1.setCell ⟨pb, 2, none⟩ (.slice (some ⟨g, 0, none⟩) (L.length + 1) cap1)) := (Keep.refl _ _).set1 _ _
  refine ⟨⟨?_, ?_, h1.keep hk1 (fun b hb e => gne.1 (by rw [← blk_some hb]; exact e)), fun y hy => ?_, fun b hb => by rw [blk_some hb]; exact gne, hn⟩, (hk.mono fun b hb => Or.inr hb).trans (hk1.mono fun b hb => Or.inl hb), (PbK.of_keep hk hpb (fun e => (h.ne _ e).1 rfl)).trans (PbK.set _ _ _)⟩
  · rw [World.cell?_setCell_same _ _ _ ((hkp 2).trans h.c2), List.length_append]; rfl
  · rw [World.frozen?_setCell, hk.frozen (p := ⟨pb, 2, none⟩) hpb (fun e => (h.ne _ e).1 rfl)]; exact h.fp
  · rw [far _ (by omega), far _ (by omega), hkb, hkb]
    rcases List.mem_append.1 hy with hy | hy
    · exact h.nw y hy
    · rw [List.mem_singleton.1 hy]; exact hx
set_option maxRecDepth 100000 in
set_option maxHeartbeats 2000000 in
theorem hpush_any {w : World} {pb bb cap x : Nat} {a : Option Addr} {wn : Nat → Nat} {L : List Nat} (h : HP w pb bb a cap wn L) (hL : L.length ≤ 63) (hh : Heap wn L L.length)
    (hx : w.cell? ⟨bb, x * 3, none⟩ = some (.int .i64 (x : Int)) ∧ w.cell? ⟨bb, x * 3 + 1, none⟩ = some (.int .i64 (wn x : Int))) :
    Calls Tryd.prog 17 #[.iface 56 (.pointer (some ⟨pb, 2, none⟩)), .iface 57 (.pointer (some ⟨bb, x * 3, none⟩))] w fun e w' => e = .returned (.tuple #[]) ∧
      ∃ g cap1 M, HP w' pb bb (some ⟨g, 0, none⟩) cap1 wn M ∧ M.Perm (L ++ [x]) ∧ Heap wn M M.length ∧ Keep (fun b => b = pb ∨ blk a b) w w' ∧ (blk a g ∨ w.heap.size ≤ g) ∧ PbK pb w w' := by
  have m1 := method_push ⟨pb, 2, none⟩
  have HC : Hid (Calls Tryd.prog 56 #[.pointer (some ⟨pb, 2, none⟩), .iface 57 (.pointer (some ⟨bb, x * 3, none⟩))] w fun e w' => e = .returned (.tuple #[]) ∧
      ∃ g cap1 w1, OwnP w1 (some ⟨g, 0, none⟩) cap1 bb (L ++ [x]) ∧ Keep (blk a) w w1 ∧ (blk a g ∨ w.heap.size ≤ g) ∧ w' = w1.setCell ⟨pb, 2, none⟩ (.slice (some ⟨g, 0, none⟩) (L.length + 1) cap1)) := push_cells w pb cap bb x a L hL h.c2 h.fp h.own (fun b hb => (h.ne b hb).1)
  have H0 : Hid (HP w pb bb a cap wn L ∧ Heap wn L L.length ∧ w.cell? ⟨bb, x * 3, none⟩ = some (.int .i64 (x : Int)) ∧ w.cell? ⟨bb, x * 3 + 1, none⟩ = some (.int .i64 (wn x : Int))) := ⟨h, hh, hx⟩
  clear h hh hx
  go_enter Tryd.func17, Tryd.ntmps17
  go_wp2_with fail
  refine HC.out.mono ?_
  rintro e w2 ⟨rfl, g, cap1, w1, h1, hk1, hg, rfl⟩
  have H1 := H0.out.1.pushed h1 hk1 hg H0.out.2.2
  have HG : Hid (blk a g ∨ w.heap.size ≤ g) := hg
  clear h1 hk1 hg HC
  generalize w1.setCell ⟨pb, 2, none⟩ (.slice (some ⟨g, 0, none⟩) (L.length + 1) cap1) = w3 at *
  have H2 : Hid (HP w3 pb bb (some ⟨g, 0, none⟩) cap1 wn (L ++ [x]) ∧ Keep (fun b => b = pb ∨ blk a b) w w3 ∧ PbK pb w w3) := H1
  have c2 := H1.1.c2
  rw [List.length_append, List.length_singleton] at c2
  have m2 := method_len ⟨pb, 2, none⟩ w3 (some ⟨g, 0, none⟩) (L.length + 1) cap1 c2
  clear H1 m1 c2
  go_wp2_with fail
  refine (len_any _ _ _ _).mono ?_
  rintro e w4 ⟨rfl, rfl⟩
  have HU : Hid (Calls Tryd.prog 24 #[.iface 56 (.pointer (some ⟨pb, 2, none⟩)), .int .i64 (L.length : Nat)] w4 fun e w' => e = .returned (.tuple #[]) ∧ ∃ M, HP w' pb bb (some ⟨g, 0, none⟩) cap1 wn M ∧ M.Perm (L ++ [x]) ∧ Heap wn M M.length ∧ Keep (fun b => b = g) w4 w') :=
    up_any H2.out.1 (by rw [List.length_append, List.length_singleton]; omega) L.length (by rw [List.length_append, List.length_singleton]; omega) (up_start x H0.out.2.1)
  clear m2
  go_wp2_with fail
  refine HU.out.mono ?_
  rintro e w5 ⟨rfl, M, h5, hp5, hh5, hk5⟩
  have HF : Hid (HP w5 pb bb (some ⟨g, 0, none⟩) cap1 wn M ∧ M.Perm (L ++ [x]) ∧ Heap wn M M.length ∧ Keep (fun b => b = pb ∨ blk a b) w w5 ∧ PbK pb w w5) := by
    refine ⟨h5, hp5, hh5, ?_, H2.out.2.2.trans (PbK.of_keep hk5 H2.out.1.lt (fun e => (H2.out.1.ne g ⟨_, rfl, rfl⟩).1 e.symm))⟩
    have k1 : Keep (fun b => (b = pb ∨ blk a b) ∨ w.heap.size ≤ b) w w4 := H2.out.2.1.mono fun b hb => Or.inl hb
    have k2 : Keep (fun b => (b = pb ∨ blk a b) ∨ w.heap.size ≤ b) w4 w5 := hk5.mono fun b hb => by
      have hb' : b = g := hb
      subst hb'
      exact HG.out.imp Or.inr id
    exact (k1.trans k2).mono' fun b hb h => h.elim id (fun h => by omega)
  clear h5 hp5 hh5 hk5 HU
  go_wp2
  go_end0
  exact ⟨rfl, g, cap1, M, HF.out.1, HF.out.2.1, HF.out.2.2.1, HF.out.2.2.2.1, HG.out, HF.out.2.2.2.2⟩
set_option maxRecDepth 100000 in
set_option maxHeartbeats 2000000 in
theorem hpop_any {w : World} {pb bb cap g m : Nat} {wn : Nat → Nat} {L : List Nat} (h : HP w pb bb (some ⟨g, 0, none⟩) cap wn L) (hm : L.length = m + 1) (hL : m ≤ 63) (hh : Heap wn L L.length) :
    Calls Tryd.prog 20 #[.iface 56 (.pointer (some ⟨pb, 2, none⟩))] w fun e w' => e = .returned (.iface 57 (.pointer (some ⟨bb, nth L 0 * 3, none⟩))) ∧
      ∃ M, HP w' pb bb (some ⟨g, 0, none⟩) cap wn (M.take m) ∧ M.Perm L ∧ M.length = m + 1 ∧ nth M m = nth L 0 ∧ Heap wn M m ∧ Keep (fun b => b = pb ∨ b = g) w w' ∧ PbK pb w w' := by
  have c2 := h.c2
  rw [hm] at c2
  have m1 := method_len ⟨pb, 2, none⟩ w (some ⟨g, 0, none⟩) (m + 1) cap c2
  have m2 := method_swap ⟨pb, 2, none⟩ w (some ⟨g, 0, none⟩) (m + 1) cap c2
  have HS : Hid (Calls Tryd.prog 54 #[.slice (some ⟨g, 0, none⟩) (m + 1) cap, .int .i64 ((0 : Nat) : Int), .int .i64 (m : Int)] w fun e w' => e = .returned (.tuple #[]) ∧ HP w' pb bb (some ⟨g, 0, none⟩) cap wn (sw L 0 m) ∧ Keep (fun b => b = g) w w') := by
    have := swap_any h (by omega) 0 m (by omega) (by omega)
    rw [hm] at this
    exact this
  have HM : Hid (L.length = m + 1) := hm
  have H0 : Hid (HP w pb bb (some ⟨g, 0, none⟩) cap wn L ∧ Heap wn L L.length) := ⟨h, hh⟩
  clear h hh hm c2
  go_enter Tryd.func20, Tryd.ntmps20
  go_wp2_with fail
  refine (len_any _ _ _ _).mono ?_
  rintro e w1 ⟨rfl, rfl⟩
  clear m1
  go_wp2_with fail
  refine HS.out.mono ?_
  rintro e w2 ⟨rfl, h2, hk2⟩
  have H2 : Hid (HP w2 pb bb (some ⟨g, 0, none⟩) cap wn (sw L 0 m) ∧ Keep (fun b => b = pb ∨ b = g) w1 w2 ∧ PbK pb w1 w2) := ⟨h2, hk2.mono fun b hb => Or.inr hb, PbK.of_keep hk2 H0.out.1.lt (fun e => (H0.out.1.ne g ⟨_, rfl, rfl⟩).1 e.symm)⟩
  clear h2 hk2 HS m2
  have HD : Hid (Calls Tryd.prog 26 #[.iface 56 (.pointer (some ⟨pb, 2, none⟩)), .int .i64 0, .int .i64 m] w2 fun e w' => (∃ b, e = .returned (.bool b)) ∧ DnE pb bb g cap wn (sw L 0 m) m w2 w') :=
    down_any H2.out.1 (by rw [sw_len, HM.out]; omega) (by rw [sw_len, HM.out]; omega) (dn_start HM.out H0.out.2)
  go_wp2_with fail
  refine HD.out.mono ?_
  rintro e w3 ⟨⟨b, rfl⟩, M, h3, hp3, hl3, hn3, hh3, hk3⟩
  have HL0 : Hid (M.length = m + 1) := by show M.length = m + 1; rw [hl3, sw_len, HM.out]
  have HN : Hid (nth M m = nth L 0) := by
    show nth M m = nth L 0
    rw [hn3, sw_at (by rw [HM.out]; omega) (by rw [HM.out]; omega), if_pos rfl]
  have H3 : Hid (HP w3 pb bb (some ⟨g, 0, none⟩) cap wn M ∧ M.Perm L ∧ Heap wn M m ∧ Keep (fun b => b = pb ∨ b = g) w1 w3 ∧ PbK pb w1 w3) := ⟨h3, hp3.trans (sw_perm (by rw [HM.out]; omega) (by rw [HM.out]; omega)), hh3, H2.out.2.1.trans (hk3.mono fun b hb => Or.inr hb), H2.out.2.2.trans (PbK.of_keep hk3 H2.out.1.lt (fun e => (H2.out.1.ne g ⟨_, rfl, rfl⟩).1 e.symm))⟩
  clear h3 hp3 hl3 hn3 hh3 hk3 HD
  have c2 := H3.out.1.c2
  rw [HL0.out] at c2
  obtain ⟨g', hg', hc1, hc2⟩ := H3.out.1.own.some' (by rw [HL0.out]; omega)
  have cx : w3.cell? ⟨g, m, none⟩ = some (.pointer (some ⟨bb, nth L 0 * 3, none⟩)) := by
    have := H3.out.1.own.cell (k := m) (by rw [HL0.out]; omega)
    rw [HN.out] at this
    exact this
  have HPC : Hid (Calls Tryd.prog 55 #[.pointer (some ⟨pb, 2, none⟩)] w3 fun e w' => e = .returned (.iface 57 (.pointer (some ⟨bb, nth L 0 * 3, none⟩))) ∧ w' = w3.setCell ⟨pb, 2, none⟩ (.slice (some ⟨g, 0, none⟩) m cap)) :=
    pop_cells w3 pb g cap m _ (by omega) (by rw [HL0.out] at hc1; omega) (by unfold maxLen at hc2; omega) c2 H3.out.1.fp cx
  have HH : Hid (HP (w3.setCell ⟨pb, 2, none⟩ (.slice (some ⟨g, 0, none⟩) m cap)) pb bb (some ⟨g, 0, none⟩) cap wn (M.take m) ∧ Keep (fun b => b = pb ∨ b = g) w1 (w3.setCell ⟨pb, 2, none⟩ (.slice (some ⟨g, 0, none⟩) m cap)) ∧ PbK pb w1 (w3.setCell ⟨pb, 2, none⟩ (.slice (some ⟨g, 0, none⟩) m cap))) := ⟨H3.out.1.pop (by rw [HL0.out]; omega), H3.out.2.2.2.1.set (p := ⟨pb, 2, none⟩) (Or.inl rfl) _, H3.out.2.2.2.2.trans (PbK.set _ _ _)⟩
  have m4 := method_pop ⟨pb, 2, none⟩
  clear c2 hg' hc1 hc2 cx
  go_wp2_with fail
  refine HPC.out.mono ?_
  rintro e w5 ⟨rfl, rfl⟩
  clear m4 HPC
  go_wp2
  go_ret
  exact ⟨rfl, M, HH.out.1, H3.out.2.1, HL0.out, HN.out, H3.out.2.2.1, HH.out.2.1, HH.out.2.2⟩
end Go.Proofs.YtebnjoammfidnacDoor
