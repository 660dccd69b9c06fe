/-
  The walk of CmdWrites.
-/
import Derived.Test.YteklankhffebaaaDoorCBackS
import Derived.Test.YteklankhffebaaaDoorRFault
import Derived.Test.YteklankhffebaaaDoorROf
import Derived.Test.YteklankhffebaaaDoorBytes
import Derived.Test.YteklankhffebaaaDoorTold
namespace Go.Proofs.YteklankhffebaaaDoor
open Go.RowKit
set_option linter.unusedVariables false

set_option maxRecDepth 100000 in
set_option maxHeartbeats 3200000 in
theorem cwrites_any (op id lba cnt fst snd di dq dh ds : Int) (ph : Bool) (w : World) (hE : EType w) :
    Calls Tryd.prog 3 #[cmdV op id lba cnt fst snd, doneV di dq dh ds ph] w fun e w' => e = .returned (.bool true) ∧ Below w.heap.size w w' := by
  have HET : Hid (∀ wz, Below w.heap.size w wz → EType wz) := fun wz hb => EType.below hE hb hE.pos
  have HCB0 : Hid (CB w ((w.alloc (.cells #[.int .i64 op, .int .i64 id, .int .i64 lba, .int .i64 cnt, .int .i64 fst, .int .i64 snd] 23)).alloc (.cells #[.int .i64 di, .int .i64 dq, .int .i64 dh, .int .i64 ds, .bool ph] 25)) op id lba cnt fst snd di dq dh ds ph) := by
    refine ⟨(alloc_below' w _).trans ((alloc_below' _ _).mono (by simp)), ?_, ?_⟩
    · exact Stc.keep (S := fun _ => False) (w := w.alloc (.cells #[.int .i64 op, .int .i64 id, .int .i64 lba, .int .i64 cnt, .int .i64 fst, .int .i64 snd] 23)) (heap_alloc_new w _) (Keep.of_below (alloc_below' _ _)) (fun e => e)
    · have := heap_alloc_new (w.alloc (.cells #[.int .i64 op, .int .i64 id, .int .i64 lba, .int .i64 cnt, .int .i64 fst, .int .i64 snd] 23)) (.cells #[.int .i64 di, .int .i64 dq, .int .i64 dh, .int .i64 ds, .bool ph] 25)
      rw [show (w.alloc (.cells #[.int .i64 op, .int .i64 id, .int .i64 lba, .int .i64 cnt, .int .i64 fst, .int .i64 snd] 23)).heap.size = w.heap.size + 1 by simp] at this
      exact this
  have HE1 := encode_any op id lba cnt fst snd ((w.alloc (.cells #[.int .i64 op, .int .i64 id, .int .i64 lba, .int .i64 cnt, .int .i64 fst, .int .i64 snd] 23)).alloc (.cells #[.int .i64 di, .int .i64 dq, .int .i64 dh, .int .i64 ds, .bool ph] 25))
  clear hE
  go_enter Tryd.func3, Tryd.ntmps3
  go_wp2_with fail
  refine HE1.mono ?_
  rintro e w1 ⟨hb1, ⟨hh1, g1, hg1, rfl, hr1⟩ | ⟨hh1, rfl⟩⟩
  · have HCB1 : Hid (CB w w1 op id lba cnt fst snd di dq dh ds ph) := HCB0.out.below hb1
    have hC := holdC hh1
    have HF1 := cfault_yes op id lba cnt fst snd w1 hC
    have c0 := HCB1.out.c.cell 0
    have c1 := HCB1.out.c.cell 1
    have c2 := HCB1.out.c.cell 2
    have c3 := HCB1.out.c.cell 3
    have c4 := HCB1.out.c.cell 4
    have c5 := HCB1.out.c.cell 5
    simp only [List.getElem?_cons_zero, List.getElem?_cons_succ] at c0 c1 c2 c3 c4 c5
    have HR1 : Hid (Row w1 g1 (wrt CF [op, id, lba, cnt, fst, snd] 64 6)) := hr1
    clear HE1 HCB0 hh1 hg1 hr1 hb1
    go_wp2_with fail
    refine HF1.mono ?_
    rintro e w2 ⟨rfl, hb2⟩
    have HCB2 : Hid (CB w w2 op id lba cnt fst snd di dq dh ds ph) := HCB1.out.below hb2
    have HR2 : Hid (Row w2 g1 (wrt CF [op, id, lba, cnt, fst, snd] 64 6)) := HR1.out.below hb2
    have HN := error_nil 0 w2
    clear HF1 HCB1 HR1 hb2 c0 c1 c2 c3 c4 c5
    go_wp2_with fail
    refine HN.mono ?_
    rintro e w7 ⟨rfl, rfl⟩
    obtain ⟨n0, hn0⟩ := Int.eq_ofNat_of_zero_le hC.1.1
    obtain ⟨n1, hn1⟩ := Int.eq_ofNat_of_zero_le hC.2.1.1
    obtain ⟨n2, hn2⟩ := Int.eq_ofNat_of_zero_le hC.2.2.1.1
    obtain ⟨n3, hn3⟩ := Int.eq_ofNat_of_zero_le hC.2.2.2.1.1
    obtain ⟨n4, hn4⟩ := Int.eq_ofNat_of_zero_le hC.2.2.2.2.1.1
    obtain ⟨n5, hn5⟩ := Int.eq_ofNat_of_zero_le hC.2.2.2.2.2.1
    have HO3 : Hid (Calls Tryd.prog 8 #[cmdV op id lba cnt fst snd] w2 fun e w' => ∃ a c L, e = .returned (.slice a L.length c) ∧ L = wrt CF [op, id, lba, cnt, fst, snd] 64 6 ∧ L.length = 64 ∧ Lies w' a L ∧ Below w2.heap.size w2 w') := by
      rw [hn0, hn1, hn2, hn3, hn4, hn5]
      refine (commandOf_any n0 n1 n2 n3 n4 n5 w2 (by omega)).mono ?_
      rintro e w' ⟨a, c, rfl, ho, hb⟩
      exact ⟨a, c, _, rfl, rfl, wrt_len okCF 6 (by decide), ho.lies, hb⟩
    have c0 := HCB2.out.c.cell 0
    have c1 := HCB2.out.c.cell 1
    have c2 := HCB2.out.c.cell 2
    have c3 := HCB2.out.c.cell 3
    have c4 := HCB2.out.c.cell 4
    have c5 := HCB2.out.c.cell 5
    simp only [List.getElem?_cons_zero, List.getElem?_cons_succ] at c0 c1 c2 c3 c4 c5
    clear hn0 hn1 hn2 hn3 hn4 hn5 hC HN
    go_wp2_with fail
    refine HO3.out.mono ?_
    rintro e w3 ⟨a3, k3, L3, rfl, hL3, hl3, hi3, hb3⟩
    have HBy0 : Hid (Calls Tryd.prog 9 #[.slice (some ⟨g1, 0, none⟩) 64 64, .slice a3 L3.length k3] w3 fun e w' => e = .returned (.bool true) ∧ CB w w' op id lba cnt fst snd di dq dh ds ph) := by
      have hr8 : Row w3 g1 L3 := by rw [hL3]; exact HR2.out.below hb3
      have hB := bytes_any (some ⟨g1, 0, none⟩) a3 L3 L3 64 k3 w3 (by omega) (by omega) (row_lies hr8) hi3
      rw [decide_eq_true rfl] at hB
      rw [show (Value.slice (some ⟨g1, 0, none⟩) L3.length 64) = .slice (some ⟨g1, 0, none⟩) 64 64 by rw [hl3]] at hB
      exact hB.mono fun e w' ⟨h1, h2⟩ => ⟨h1, (HCB2.out.below hb3).below h2⟩
    clear HO3 HCB2 HR2 hL3 hl3 hi3 hb3 c0 c1 c2 c3 c4 c5
    go_wp2_with fail
    refine HBy0.out.mono ?_
    rintro e w4 ⟨rfl, hCB4⟩
    have HCB : Hid (CB w w4 op id lba cnt fst snd di dq dh ds ph) := hCB4
    clear HBy0 hCB4
    have HE2 : Hid (Calls Tryd.prog 10 #[doneV di dq dh ds ph] w4 fun e w' => EDPost w4 w' e [di, dq, dh, ds] ph) := encodeDone_any di dq dh ds ph _
    have d0 := HCB.out.d.cell 0
    have d1 := HCB.out.d.cell 1
    have d2 := HCB.out.d.cell 2
    have d3 := HCB.out.d.cell 3
    have d4 := HCB.out.d.cell 4
    simp only [List.getElem?_cons_zero, List.getElem?_cons_succ] at d0 d1 d2 d3 d4
    go_wp2_with fail
    refine HE2.out.mono ?_
    rintro e w5 ⟨hb5, ⟨hh5, g5, hg5, rfl, hr5⟩ | ⟨hh5, rfl⟩⟩
    · have HCB5 : Hid (CB w w5 op id lba cnt fst snd di dq dh ds ph) := HCB.out.below hb5
      have hD := holdD hh5
      have HF5 := dfault_yes di dq dh ds ph w5 hD
      have d0 := HCB5.out.d.cell 0
      have d1 := HCB5.out.d.cell 1
      have d2 := HCB5.out.d.cell 2
      have d3 := HCB5.out.d.cell 3
      have d4 := HCB5.out.d.cell 4
      simp only [List.getElem?_cons_zero, List.getElem?_cons_succ] at d0 d1 d2 d3 d4
      have HR5 : Hid (Row w5 g5 (doneL [di, dq, dh, ds] ph)) := hr5
      clear HE2 HCB hh5 hg5 hr5 hb5
      go_wp2_with fail
      refine HF5.mono ?_
      rintro e w6 ⟨rfl, hb6⟩
      have HCB6 : Hid (CB w w6 op id lba cnt fst snd di dq dh ds ph) := HCB5.out.below hb6
      have HR6 : Hid (Row w6 g5 (doneL [di, dq, dh, ds] ph)) := HR5.out.below hb6
      have HN := error_nil 0 w6
      clear HF5 HCB5 HR5 hb6 d0 d1 d2 d3 d4
      go_wp2_with fail
      refine HN.mono ?_
      rintro e w7 ⟨rfl, rfl⟩
      obtain ⟨ni, hni⟩ := Int.eq_ofNat_of_zero_le hD.1.1
      obtain ⟨nq, hnq⟩ := Int.eq_ofNat_of_zero_le hD.2.1.1
      obtain ⟨nh, hnh⟩ := Int.eq_ofNat_of_zero_le hD.2.2.1.1
      obtain ⟨ns, hns⟩ := Int.eq_ofNat_of_zero_le hD.2.2.2.1
      have HO7 : Hid (Calls Tryd.prog 12 #[doneV di dq dh ds ph] w6 fun e w' => ∃ a c L, e = .returned (.slice a L.length c) ∧ L = doneL [di, dq, dh, ds] ph ∧ L.length = 16 ∧ Lies w' a L ∧ Below w6.heap.size w6 w') := by
        rw [hni, hnq, hnh, hns]
        refine (doneOf_any ni nq nh ns ph w6 (by omega)).mono ?_
        rintro e w' ⟨a, c, rfl, ho, hb⟩
        exact ⟨a, c, _, rfl, rfl, doneL_len, ho.lies, hb⟩
      have d0 := HCB6.out.d.cell 0
      have d1 := HCB6.out.d.cell 1
      have d2 := HCB6.out.d.cell 2
      have d3 := HCB6.out.d.cell 3
      have d4 := HCB6.out.d.cell 4
      simp only [List.getElem?_cons_zero, List.getElem?_cons_succ] at d0 d1 d2 d3 d4
      clear hni hnq hnh hns hD HN
      go_wp2_with fail
      refine HO7.out.mono ?_
      rintro e w8 ⟨a8, c8, L8, rfl, hL8, hl8, hi8, hb8⟩
      have HBy : Hid (Calls Tryd.prog 9 #[.slice (some ⟨g5, 0, none⟩) 16 16, .slice a8 L8.length c8] w8 fun e w' => e = .returned (.bool true) ∧ Below w.heap.size w w') := by
        have hr8 : Row w8 g5 L8 := by rw [hL8]; exact HR6.out.below hb8
        have hB := bytes_any (some ⟨g5, 0, none⟩) a8 L8 L8 16 c8 w8 (by omega) (by omega) (row_lies hr8) hi8
        rw [decide_eq_true rfl] at hB
        rw [show (Value.slice (some ⟨g5, 0, none⟩) L8.length 16) = .slice (some ⟨g5, 0, none⟩) 16 16 by rw [hl8]] at hB
        exact hB.mono fun e w' ⟨h1, h2⟩ => ⟨h1, (HCB6.out.below hb8).bel.trans (h2.mono (HCB6.out.below hb8).bel.size)⟩
      clear HO7 HCB6 HR6 hL8 hl8 hi8 hb8 d0 d1 d2 d3 d4
      go_wp2_with fail
      refine HBy.out.mono ?_
      rintro e w9 ⟨rfl, hb9⟩
      have HB9 : Hid (Below w.heap.size w w9) := hb9
      clear HBy hb9
      go_wp2
      go_ret
      exact ⟨rfl, HB9.out⟩
    · have HCB5 : Hid (CB w w5 op id lba cnt fst snd di dq dh ds ph) := HCB.out.below hb5
      have HF5 := dfault_no di dq dh ds ph w5 (fun q => hh5 (holdD_of q))
      have d0 := HCB5.out.d.cell 0
      have d1 := HCB5.out.d.cell 1
      have d2 := HCB5.out.d.cell 2
      have d3 := HCB5.out.d.cell 3
      have d4 := HCB5.out.d.cell 4
      simp only [List.getElem?_cons_zero, List.getElem?_cons_succ] at d0 d1 d2 d3 d4
      clear HE2 HCB hh5 hb5
      go_wp2_with fail
      refine HF5.mono ?_
      rintro e w6 ⟨rfl, hb6⟩
      have HCB6 : Hid (CB w w6 op id lba cnt fst snd di dq dh ds ph) := HCB5.out.below hb6
      have HN := error_same 1 w6 (HET.out w6 HCB6.out.bel)
      clear HF5 HCB5 hb6 d0 d1 d2 d3 d4
      go_wp2_with fail
      refine HN.mono ?_
      rintro e w7 ⟨rfl, hb7⟩
      have HBy : Hid (Calls Tryd.prog 9 #[.slice none 0 0, .slice none 0 0] w7 fun e w' => e = .returned (.bool true) ∧ Below w.heap.size w w') := by
        have hB := bytes_any none none [] [] 0 0 w7 (by simp) (by simp) (.inl rfl) (.inl rfl)
        rw [decide_eq_true rfl] at hB
        exact hB.mono fun e w' ⟨h1, h2⟩ => ⟨h1, (HCB6.out.below hb7).bel.trans (h2.mono (HCB6.out.below hb7).bel.size)⟩
      clear HN HCB6 hb7
      go_wp2_with fail
      refine HBy.out.mono ?_
      rintro e w9 ⟨rfl, hb9⟩
      have HB9 : Hid (Below w.heap.size w w9) := hb9
      clear HBy hb9
      go_wp2
      go_ret
      exact ⟨rfl, HB9.out⟩
  · have HCB1 : Hid (CB w w1 op id lba cnt fst snd di dq dh ds ph) := HCB0.out.below hb1
    have HF1 := cfault_no op id lba cnt fst snd w1 (fun q => hh1 (holdC_of q))
    have c0 := HCB1.out.c.cell 0
    have c1 := HCB1.out.c.cell 1
    have c2 := HCB1.out.c.cell 2
    have c3 := HCB1.out.c.cell 3
    have c4 := HCB1.out.c.cell 4
    have c5 := HCB1.out.c.cell 5
    simp only [List.getElem?_cons_zero, List.getElem?_cons_succ] at c0 c1 c2 c3 c4 c5
    clear HE1 HCB0 hh1 hb1
    go_wp2_with fail
    refine HF1.mono ?_
    rintro e w2 ⟨rfl, hb2⟩
    have HCB2 : Hid (CB w w2 op id lba cnt fst snd di dq dh ds ph) := HCB1.out.below hb2
    have HN := error_same 1 w2 (HET.out w2 HCB2.out.bel)
    clear HF1 HCB1 hb2 c0 c1 c2 c3 c4 c5
    go_wp2_with fail
    refine HN.mono ?_
    rintro e w3 ⟨rfl, hb3⟩
    have HBy0 : Hid (Calls Tryd.prog 9 #[.slice none 0 0, .slice none 0 0] w3 fun e w' => e = .returned (.bool true) ∧ CB w w' op id lba cnt fst snd di dq dh ds ph) := by
      have hB := bytes_any none none [] [] 0 0 w3 (by simp) (by simp) (.inl rfl) (.inl rfl)
      rw [decide_eq_true rfl] at hB
      exact hB.mono fun e w' ⟨h1, h2⟩ => ⟨h1, (HCB2.out.below hb3).below h2⟩
    clear HN HCB2 hb3
    go_wp2_with fail
    refine HBy0.out.mono ?_
    rintro e w4 ⟨rfl, hCB4⟩
    have HCB : Hid (CB w w4 op id lba cnt fst snd di dq dh ds ph) := hCB4
    clear HBy0 hCB4
    have HE2 : Hid (Calls Tryd.prog 10 #[doneV di dq dh ds ph] w4 fun e w' => EDPost w4 w' e [di, dq, dh, ds] ph) := encodeDone_any di dq dh ds ph _
    have d0 := HCB.out.d.cell 0
    have d1 := HCB.out.d.cell 1
    have d2 := HCB.out.d.cell 2
    have d3 := HCB.out.d.cell 3
    have d4 := HCB.out.d.cell 4
    simp only [List.getElem?_cons_zero, List.getElem?_cons_succ] at d0 d1 d2 d3 d4
    go_wp2_with fail
    refine HE2.out.mono ?_
    rintro e w5 ⟨hb5, ⟨hh5, g5, hg5, rfl, hr5⟩ | ⟨hh5, rfl⟩⟩
    · have HCB5 : Hid (CB w w5 op id lba cnt fst snd di dq dh ds ph) := HCB.out.below hb5
      have hD := holdD hh5
      have HF5 := dfault_yes di dq dh ds ph w5 hD
      have d0 := HCB5.out.d.cell 0
      have d1 := HCB5.out.d.cell 1
      have d2 := HCB5.out.d.cell 2
      have d3 := HCB5.out.d.cell 3
      have d4 := HCB5.out.d.cell 4
      simp only [List.getElem?_cons_zero, List.getElem?_cons_succ] at d0 d1 d2 d3 d4
      have HR5 : Hid (Row w5 g5 (doneL [di, dq, dh, ds] ph)) := hr5
      clear HE2 HCB hh5 hg5 hr5 hb5
      go_wp2_with fail
      refine HF5.mono ?_
      rintro e w6 ⟨rfl, hb6⟩
      have HCB6 : Hid (CB w w6 op id lba cnt fst snd di dq dh ds ph) := HCB5.out.below hb6
      have HR6 : Hid (Row w6 g5 (doneL [di, dq, dh, ds] ph)) := HR5.out.below hb6
      have HN := error_nil 0 w6
      clear HF5 HCB5 HR5 hb6 d0 d1 d2 d3 d4
      go_wp2_with fail
      refine HN.mono ?_
      rintro e w7 ⟨rfl, rfl⟩
      obtain ⟨ni, hni⟩ := Int.eq_ofNat_of_zero_le hD.1.1
      obtain ⟨nq, hnq⟩ := Int.eq_ofNat_of_zero_le hD.2.1.1
      obtain ⟨nh, hnh⟩ := Int.eq_ofNat_of_zero_le hD.2.2.1.1
      obtain ⟨ns, hns⟩ := Int.eq_ofNat_of_zero_le hD.2.2.2.1
      have HO7 : Hid (Calls Tryd.prog 12 #[doneV di dq dh ds ph] w6 fun e w' => ∃ a c L, e = .returned (.slice a L.length c) ∧ L = doneL [di, dq, dh, ds] ph ∧ L.length = 16 ∧ Lies w' a L ∧ Below w6.heap.size w6 w') := by
        rw [hni, hnq, hnh, hns]
        refine (doneOf_any ni nq nh ns ph w6 (by omega)).mono ?_
        rintro e w' ⟨a, c, rfl, ho, hb⟩
        exact ⟨a, c, _, rfl, rfl, doneL_len, ho.lies, hb⟩
      have d0 := HCB6.out.d.cell 0
      have d1 := HCB6.out.d.cell 1
      have d2 := HCB6.out.d.cell 2
      have d3 := HCB6.out.d.cell 3
      have d4 := HCB6.out.d.cell 4
      simp only [List.getElem?_cons_zero, List.getElem?_cons_succ] at d0 d1 d2 d3 d4
      clear hni hnq hnh hns hD HN
      go_wp2_with fail
      refine HO7.out.mono ?_
      rintro e w8 ⟨a8, c8, L8, rfl, hL8, hl8, hi8, hb8⟩
      have HBy : Hid (Calls Tryd.prog 9 #[.slice (some ⟨g5, 0, none⟩) 16 16, .slice a8 L8.length c8] w8 fun e w' => e = .returned (.bool true) ∧ Below w.heap.size w w') := by
        have hr8 : Row w8 g5 L8 := by rw [hL8]; exact HR6.out.below hb8
        have hB := bytes_any (some ⟨g5, 0, none⟩) a8 L8 L8 16 c8 w8 (by omega) (by omega) (row_lies hr8) hi8
        rw [decide_eq_true rfl] at hB
        rw [show (Value.slice (some ⟨g5, 0, none⟩) L8.length 16) = .slice (some ⟨g5, 0, none⟩) 16 16 by rw [hl8]] at hB
        exact hB.mono fun e w' ⟨h1, h2⟩ => ⟨h1, (HCB6.out.below hb8).bel.trans (h2.mono (HCB6.out.below hb8).bel.size)⟩
      clear HO7 HCB6 HR6 hL8 hl8 hi8 hb8 d0 d1 d2 d3 d4
      go_wp2_with fail
      refine HBy.out.mono ?_
      rintro e w9 ⟨rfl, hb9⟩
      have HB9 : Hid (Below w.heap.size w w9) := hb9
      clear HBy hb9
      go_wp2
      go_ret
      exact ⟨rfl, HB9.out⟩
    · have HCB5 : Hid (CB w w5 op id lba cnt fst snd di dq dh ds ph) := HCB.out.below hb5
      have HF5 := dfault_no di dq dh ds ph w5 (fun q => hh5 (holdD_of q))
      have d0 := HCB5.out.d.cell 0
      have d1 := HCB5.out.d.cell 1
      have d2 := HCB5.out.d.cell 2
      have d3 := HCB5.out.d.cell 3
      have d4 := HCB5.out.d.cell 4
      simp only [List.getElem?_cons_zero, List.getElem?_cons_succ] at d0 d1 d2 d3 d4
      clear HE2 HCB hh5 hb5
      go_wp2_with fail
      refine HF5.mono ?_
      rintro e w6 ⟨rfl, hb6⟩
      have HCB6 : Hid (CB w w6 op id lba cnt fst snd di dq dh ds ph) := HCB5.out.below hb6
      have HN := error_same 1 w6 (HET.out w6 HCB6.out.bel)
      clear HF5 HCB5 hb6 d0 d1 d2 d3 d4
      go_wp2_with fail
      refine HN.mono ?_
      rintro e w7 ⟨rfl, hb7⟩
      have HBy : Hid (Calls Tryd.prog 9 #[.slice none 0 0, .slice none 0 0] w7 fun e w' => e = .returned (.bool true) ∧ Below w.heap.size w w') := by
        have hB := bytes_any none none [] [] 0 0 w7 (by simp) (by simp) (.inl rfl) (.inl rfl)
        rw [decide_eq_true rfl] at hB
        exact hB.mono fun e w' ⟨h1, h2⟩ => ⟨h1, (HCB6.out.below hb7).bel.trans (h2.mono (HCB6.out.below hb7).bel.size)⟩
      clear HN HCB6 hb7
      go_wp2_with fail
      refine HBy.out.mono ?_
      rintro e w9 ⟨rfl, hb9⟩
      have HB9 : Hid (Below w.heap.size w w9) := hb9
      clear HBy hb9
      go_wp2
      go_ret
      exact ⟨rfl, HB9.out⟩
end Go.Proofs.YteklankhffebaaaDoor
