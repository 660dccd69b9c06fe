/- Part of the proof. -/
import Derived.Test.YtobpjijdebnaoaaDoorF1
namespace Go.Proofs.YtobpjijdebnaoaaDoorF
open Go.Proofs.YtobpjijdebnaoaaDoorM
open Go.RowKit
set_option linter.unusedVariables false
theorem mkB_at (n i : Nat) (h : i < n) : (mkB n)[i]? = some (.int .u8 0) := by
  simp [mkB, bv, h]
/-- The frame's own block. -/
abbrev boxF (k l s : Int) (a : Option Addr) (m c : Nat) : Obj := .cells #[.int .i64 k, .int .i64 l, .int .i64 s, .slice a m c] 24
structure BoxAt (w : World) (b : Nat) (k l s : Int) (a : Option Addr) (m c : Nat) : Prop where
  c0 : w.cell? ⟨b, 0, none⟩ = some (.int .i64 k)
  c1 : w.cell? ⟨b, 1, none⟩ = some (.int .i64 l)
  c2 : w.cell? ⟨b, 2, none⟩ = some (.int .i64 s)
  c3 : w.cell? ⟨b, 3, none⟩ = some (.slice a m c)
theorem box_new (w : World) (k l s : Int) (a : Option Addr) (m c : Nat) : BoxAt (w.alloc (boxF k l s a m c)) w.heap.size k l s a m c :=
  ⟨World.cell?_alloc_at _ _ _ 0 rfl, World.cell?_alloc_at _ _ _ 1 rfl, World.cell?_alloc_at _ _ _ 2 rfl, World.cell?_alloc_at _ _ _ 3 rfl⟩
theorem BoxAt.keep {S : Nat → Prop} {w w' : World} {b : Nat} {k l s : Int} {a : Option Addr} {m c : Nat} (h : BoxAt w b k l s a m c) (hk : Keep S w w') (hs : ¬ S b) : BoxAt w' b k l s a m c := by
  have lt : b < w.heap.size := World.block_lt_of_cell? w ⟨b, 0, none⟩ h.c0
  exact ⟨by rw [hk.cell (p := ⟨b, 0, none⟩) lt hs]; exact h.c0, by rw [hk.cell (p := ⟨b, 1, none⟩) lt hs]; exact h.c1, by rw [hk.cell (p := ⟨b, 2, none⟩) lt hs]; exact h.c2, by rw [hk.cell (p := ⟨b, 3, none⟩) lt hs]; exact h.c3⟩
theorem BoxAt.below {w w' : World} {b : Nat} {k l s : Int} {a : Option Addr} {m c : Nat} (h : BoxAt w b k l s a m c) (hb : Below w.heap.size w w') : BoxAt w' b k l s a m c := h.keep (S := fun _ => False) (Keep.of_below hb) (fun e => e)
set_option maxHeartbeats 3200000 in
theorem pack_good (n k l s : Nat) (a : Option Addr) (cap : Nat) (data : List Nat) (w : World) (h : FOk n k l s data.length) (hA : AllB data) (hL : Lies w a data) :
    Calls Tryd.prog 5 #[.int .i64 n, FV k l s a data.length cap] w fun e w' => ∃ g, e = .returned (.tuple #[.slice (some ⟨g, 0, none⟩) n n, .nilIface]) ∧ w.heap.size ≤ g ∧ Row w' g (packL n k l s data) ∧ Below w.heap.size w w' := by
  have h24 := h.n0
  have h4096 := h.n1
  have hk1 := h.k1
  have hl1 := h.l1
  have hs1 := h.s1
  have hd1 := h.d1
  have HF : Hid (AllB data) := hA
  have hbx : Below w.heap.size w (w.alloc (boxF k l s a data.length cap)) := (Below.refl _ _).alloc (Nat.le_refl _) _
  have HC : Hid (∀ w', Below (w.alloc (boxF k l s a data.length cap)).heap.size (w.alloc (boxF k l s a data.length cap)) w' → BoxAt w' w.heap.size k l s a data.length cap ∧ Below w.heap.size w w' ∧ w.heap.size < w'.heap.size ∧ Lies w' a data) := fun w' hb =>
    ⟨(box_new w k l s a data.length cap).below hb, hbx.trans (hb.mono hbx.size), by have := hb.size; simp at this; omega, hL.below (hbx.trans (hb.mono hbx.size))⟩
  have hs := fun wx => isSize_any (n : Int) wx
  rw [size_yes (n := (n : Int)) (by omega)] at hs
  have hnm := fun wx => isNamed_yes k l s a data.length cap wx ⟨by have := h.k0; omega, by omega, by omega⟩
  have hmk := fun wz => made_bytes n (by omega) wz
  have hm0 := mkB_at n 0 (by omega)
  have hm1 := mkB_at n 1 (by omega)
  have k8 : (k : Int) % 256 = (k : Int) := by omega
  have l6 : (6 : Int) ≤ (n : Int) := by omega
  have l14 : (14 : Int) ≤ (n : Int) := by omega
  have l16 : (16 : Int) ≤ (n : Int) := by omega
  have l20 : (20 : Int) ≤ (n : Int) := by omega
  have n2 : ¬ n = 2 := by omega
  have n6 : ¬ n = 6 := by omega
  have n14 : ¬ n = 14 := by omega
  have n16 : ¬ n = 16 := by omega
  have n20 : ¬ n = 20 := by omega
  obtain ⟨L2, HL2⟩ : ∃ L, Hid (L = ((List.replicate n 0).set 0 165).set 1 k ∧ L.length = n) := ⟨_, rfl, by simp⟩
  obtain ⟨L3, HL3⟩ : ∃ L, Hid (L = splice L2 2 (low 4 l) ∧ L.length = n) := ⟨_, rfl, by rw [splice_len (by rw [low_len, HL2.out.2]; omega)]; exact HL2.out.2⟩
  obtain ⟨L4, HL4⟩ : ∃ L, Hid (L = splice L3 6 (low 8 s) ∧ L.length = n) := ⟨_, rfl, by rw [splice_len (by rw [low_len, HL3.out.2]; omega)]; exact HL3.out.2⟩
  obtain ⟨L5, HL5⟩ : ∃ L, Hid (L = splice L4 14 (low 2 data.length) ∧ L.length = n) := ⟨_, rfl, by rw [splice_len (by rw [low_len, HL4.out.2]; omega)]; exact HL4.out.2⟩
  obtain ⟨L6, HL6⟩ : ∃ L, Hid (L = splice L5 20 data ∧ L.length = n) := ⟨_, rfl, by rw [splice_len (by rw [HL5.out.2]; omega)]; exact HL5.out.2⟩
  obtain ⟨L7, HL7⟩ : ∃ L, Hid (L6.set (n - 1) 90 = L ∧ L.length = n ∧ AllB L ∧ L = bodyL n 0 k l s data) := by
    refine ⟨_, rfl, by rw [List.length_set]; exact HL6.out.2, ?_, ?_⟩
    all_goals rw [show L6.set (n - 1) 90 = bodyL n 0 k l s data by rw [HL6.out.1, HL5.out.1, HL4.out.1, HL3.out.1, HL2.out.1]; exact page_built hd1]
    exact bodyL_all n 0 k l s data (by omega) HF.out
  obtain ⟨C, HCC⟩ : ∃ C, Hid (crcOf L7 = C ∧ C < 4294967296) := ⟨_, rfl, crcOf_lt HL7.out.2.2.1⟩
  obtain ⟨PG, HPG⟩ : ∃ L, Hid (splice L7 16 (low 4 C) = L ∧ L = packL n k l s data) := ⟨_, rfl, by rw [← HCC.out.1, HL7.out.2.2.2]; exact page_summed⟩
  clear h hL hbx hA
  go_enter Tryd.func5, Tryd.ntmps5
  go_wp2_with fail
  refine (hs _).mono ?_
  rintro e w1 ⟨rfl, rfl⟩
  go_wp2_with fail
  refine (hnm _).mono ?_
  rintro e w1 ⟨rfl, hb1⟩
  have H1 : Hid (BoxAt w1 w.heap.size k l s a data.length cap ∧ Below w.heap.size w w1 ∧ w.heap.size < w1.heap.size ∧ Lies w1 a data) := HC.out _ hb1
  have c0 := H1.out.1.c0
  have c1 := H1.out.1.c1
  have c2 := H1.out.1.c2
  have c3 := H1.out.1.c3
  have lt1 := H1.out.2.2.1
  clear hb1 hs hnm HC
  have HR2 : Hid (Row (w1.alloc (.cells (((mkB n).setIfInBounds 0 (.int .u8 165)).setIfInBounds 1 (.int .u8 (k : Int))) 5)) w1.heap.size L2 ∧ Below w1.heap.size w1 (w1.alloc (.cells (((mkB n).setIfInBounds 0 (.int .u8 165)).setIfInBounds 1 (.int .u8 (k : Int))) 5))) := by
    refine ⟨?_, (Below.refl _ _).alloc (Nat.le_refl _) _⟩
    unfold Row
    rw [heap_alloc_new, HL2.out.1]
    apply congrArg some
    apply congrArg (fun c => Obj.cells c 5 (0, 0))
    apply Array.toList_inj.1
    simp [mkB, List.map_set, bv]
  have HG : Hid (∀ wa wb, Below w1.heap.size w1 wa → Keep (fun b => b = w1.heap.size) wa wb → Below w1.heap.size w1 wb) := fun wa wb h1 h2 => h1.trans (h2.below h1.size (fun q hq => by have e : q = w1.heap.size := hq; omega))
  go_upto_region 8 with fail
  go_cut [] (fun wx => Hid (Row wx w1.heap.size L3 ∧ Below w1.heap.size w1 wx))
  case first =>
    go_region_with (go_at_call 14; refine (put_any w1.heap.size 2 4 (n - 2) l L2 _ (by omega) (by omega) (by have := HL2.out.2; omega) HR2.out.1.drew).mono ?_; rintro e w' ⟨rfl, hr, hk⟩)
    all_goals
      rw [← HL3.out.1] at hr
      have HH : Hid (Row w' w1.heap.size L3 ∧ Below w1.heap.size w1 w') := ⟨hr, HG.out _ _ HR2.out.2.drew hk⟩
      clear hr hk
      go_wp2_with fail
      go_meet
      exact HH
  case rest =>
  obtain ⟨w3, rfl⟩ : ∃ w3, w3 = wc := ⟨_, rfl⟩
  have HR3 : Hid (Row w3 w1.heap.size L3 ∧ Below w1.heap.size w1 w3) := hcut
  have c0 := (H1.out.1.below HR3.out.2).c0
  have c1 := (H1.out.1.below HR3.out.2).c1
  have c2 := (H1.out.1.below HR3.out.2).c2
  have c3 := (H1.out.1.below HR3.out.2).c3
  clear hcut HR2
  go_upto_region 9 with fail
  go_cut [] (fun wx => Hid (Row wx w1.heap.size L4 ∧ Below w1.heap.size w1 wx))
  case first =>
    go_region_with (go_at_call 14; refine (put_any w1.heap.size 6 8 (n - 6) s L3 _ (by omega) (by omega) (by have := HL3.out.2; omega) HR3.out.1.drew).mono ?_; rintro e w' ⟨rfl, hr, hk⟩)
    all_goals
      rw [← HL4.out.1] at hr
      have HH : Hid (Row w' w1.heap.size L4 ∧ Below w1.heap.size w1 w') := ⟨hr, HG.out _ _ HR3.out.2.drew hk⟩
      clear hr hk
      go_wp2_with fail
      go_meet
      exact HH
  case rest =>
  obtain ⟨w4, rfl⟩ : ∃ w4, w4 = wc := ⟨_, rfl⟩
  have HR4 : Hid (Row w4 w1.heap.size L4 ∧ Below w1.heap.size w1 w4) := hcut
  have c0 := (H1.out.1.below HR4.out.2).c0
  have c1 := (H1.out.1.below HR4.out.2).c1
  have c2 := (H1.out.1.below HR4.out.2).c2
  have c3 := (H1.out.1.below HR4.out.2).c3
  clear hcut HR3
  go_upto_region 10 with fail
  go_cut [] (fun wx => Hid (Row wx w1.heap.size L5 ∧ Below w1.heap.size w1 wx))
  case first =>
    go_region_with (go_at_call 14; refine (put_any w1.heap.size 14 2 (n - 14) data.length L4 _ (by omega) (by omega) (by have := HL4.out.2; omega) HR4.out.1.drew).mono ?_; rintro e w' ⟨rfl, hr, hk⟩)
    all_goals
      rw [← HL5.out.1] at hr
      have HH : Hid (Row w' w1.heap.size L5 ∧ Below w1.heap.size w1 w') := ⟨hr, HG.out _ _ HR4.out.2.drew hk⟩
      clear hr hk
      go_wp2_with fail
      go_meet
      exact HH
  case rest =>
  obtain ⟨w5, rfl⟩ : ∃ w5, w5 = wc := ⟨_, rfl⟩
  have HR5 : Hid (Row w5 w1.heap.size L5 ∧ Below w1.heap.size w1 w5) := hcut
  have c0 := (H1.out.1.below HR5.out.2).c0
  have c1 := (H1.out.1.below HR5.out.2).c1
  have c2 := (H1.out.1.below HR5.out.2).c2
  have c3 := (H1.out.1.below HR5.out.2).c3
  clear hcut HR4
  go_upto_region 11 with fail
  go_cut [] (fun wx => Hid (Row wx w1.heap.size L6 ∧ Below w1.heap.size w1 wx))
  case first =>
    go_region_law (refine copy_lies (by rfl) (.tmp 49) (.tmp 51) (by rfl) w1.heap.size 20 (n - 20) (n - 20) a cap L5 data (by rfl) (by rfl) HR5.out.1.drew (by omega) ((H1.out.2.2.2.below HR5.out.2).below ((Below.refl _ _).drew)) (by have := HL5.out.2; omega) ?_; intro w' hr hk)
    all_goals
      rw [← HL6.out.1] at hr
      have HH : Hid (Row w' w1.heap.size L6 ∧ Below w1.heap.size w1 w') := ⟨hr.out, HG.out _ _ HR5.out.2.drew hk⟩
      clear hr hk
      go_wp2_with fail
      go_meet
      exact HH
  case rest =>
  obtain ⟨w6, rfl⟩ : ∃ w6, w6 = wc := ⟨_, rfl⟩
  have HR6 : Hid (Row w6 w1.heap.size L6 ∧ Below w1.heap.size w1 w6) := hcut
  clear hcut HR5
  have hf := row_free HR6.out.1 (n - 1)
  have hc6 := row_cell HR6.out.1 (n - 1) (by have := HL6.out.2; omega)
  generalize L6[n - 1]?.getD 0 = X at hc6
  have HR7 : Hid (Row (w6.setCell ⟨w1.heap.size, n - 1, none⟩ (.int .u8 90)) w1.heap.size L7 ∧ Below w1.heap.size w1 (w6.setCell ⟨w1.heap.size, n - 1, none⟩ (.int .u8 90))) := by
    refine ⟨?_, HR6.out.2.setCell (Nat.le_refl _) _⟩
    rw [← HL7.out.1]
    exact row_set HR6.out.1 (n - 1) 90
  have tn : ((n : Int) - 1).toNat = n - 1 := by omega
  have l1 : (0 : Int) ≤ (n : Int) - 1 := by omega
  have l2 : (n : Int) - 1 < (n : Int) := by omega
  clear HR6
  go_upto_region 12 with fail
  go_cut [] (fun wx => Hid (Row wx w1.heap.size L7 ∧ Below w1.heap.size w1 wx))
  case first =>
    go_wp2_with fail
    go_meet
    exact HR7
  case rest =>
  obtain ⟨w7, rfl⟩ : ∃ w7, w7 = wc := ⟨_, rfl⟩
  have HR8 : Hid (Row w7 w1.heap.size L7 ∧ Below w1.heap.size w1 w7) := hcut
  clear hcut HR7 tn l1 l2 hf hc6
  have hcb : C < 4294967296 := HCC.out.2
  have hwr : IntKind.i64.wrap (C : Int) = (C : Int) := by rw [IntKind.wrap_i64]; omega
  have hc0 : (0 : Int) ≤ (C : Int) := by omega
  have hc1 : (C : Int) < 4294967296 := by omega
  have hcrc : Calls Tryd.prog 15 #[.slice (some ⟨w1.heap.size, 0, none⟩) n n] w7.drew fun e w' => e = .returned (.int .u32 C) ∧ w' = w7.drew := by
    have := crc_any (some ⟨w1.heap.size, 0, none⟩) L7 n w7.drew (by rw [HL7.out.2.1]; unfold maxLen; omega) HL7.out.2.2.1 (row_lies HR8.out.1.drew)
    rw [HL7.out.2.1, HCC.out.1] at this
    exact this
  have hput := put_any w1.heap.size 16 4 (n - 16) C L7 w7.drew (by omega) (by omega) (by have := HL7.out.2.1; omega) HR8.out.1.drew
  rw [HPG.out.1] at hput
  go_upto_region 13 with fail
  go_cut [] (fun wx => Hid (Row wx w1.heap.size PG ∧ Below w1.heap.size w1 wx))
  case first =>
    go_region_with (first | (go_at_call 15; refine hcrc.mono ?_; rintro e w' ⟨rfl, rfl⟩) | (go_at_call 14; refine hput.mono ?_; rintro e w' ⟨rfl, hr, hk⟩))
    all_goals
      have HH : Hid (Row w' w1.heap.size PG ∧ Below w1.heap.size w1 w') := ⟨hr, HG.out _ _ HR8.out.2.drew hk⟩
      clear hr hk
      go_wp2_with fail
      go_meet
      exact HH
  case rest =>
  have HR9 : Hid (w.heap.size ≤ w1.heap.size ∧ Row wc w1.heap.size PG ∧ Below w.heap.size w wc) := ⟨by omega, hcut.out.1, H1.out.2.1.trans (hcut.out.2.mono H1.out.2.1.size)⟩
  have HPE : Hid (PG = packL n k l s data) := HPG.out.2
  clear hcut HR8 hcrc hput
  go_wp2
  go_ret2
  rw [← HPE.out]
  exact ⟨_, rfl, HR9.out⟩
end Go.Proofs.YtobpjijdebnaoaaDoorF
