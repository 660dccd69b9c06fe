/-
  The walk of CmdBack.
-/
import Derived.Test.YteklankhffebaaaMathCmd
namespace Go.Proofs.Yteklankhffebaaa
open Go.RowKit
set_option linter.unusedVariables false

/-- What lies there between the calls. -/
structure CB (w wx : World) (op id lba cnt fst snd di dq dh ds : Int) (ph : Bool) : Prop where
  bel : Below w.heap.size w wx
  c : Stc wx w.heap.size 23 [.int .i64 op, .int .i64 id, .int .i64 lba, .int .i64 cnt, .int .i64 fst, .int .i64 snd]
  d : Stc wx (w.heap.size + 1) 25 [.int .i64 di, .int .i64 dq, .int .i64 dh, .int .i64 ds, .bool ph]
theorem CB.below {w wx wy : World} {op id lba cnt fst snd di dq dh ds : Int} {ph : Bool} (h : CB w wx op id lba cnt fst snd di dq dh ds ph) (hb : Below wx.heap.size wx wy) : CB w wy op id lba cnt fst snd di dq dh ds ph :=
  ⟨h.bel.trans (hb.mono h.bel.size), h.c.keep (Keep.of_below (S := fun _ => False) hb) (fun e => e), h.d.keep (Keep.of_below (S := fun _ => False) hb) (fun e => e)⟩
set_option maxRecDepth 100000 in
set_option maxHeartbeats 3200000 in
theorem cback_any (op id lba cnt fst snd di dq dh ds : Int) (ph : Bool) (w : World) :
    Calls Try.prog 3 #[cmdV op id lba cnt fst snd, doneV di dq dh ds ph] w fun e w' => e = .returned (.bool true) ∧ Below w.heap.size w w' := by
  have HE : Hid (Calls Try.prog 5 #[doneV 258 0 0 0 true] ((w.alloc (.cells #[.int .i64 op, .int .i64 id, .int .i64 lba, .int .i64 cnt, .int .i64 fst, .int .i64 snd] 23)).alloc (.cells #[.int .i64 di, .int .i64 dq, .int .i64 dh, .int .i64 ds, .bool ph] 25)) fun e w' => ∃ g, e = .returned (.tuple #[.slice (some ⟨g, 0, none⟩) 16 16, .nilIface]) ∧ CB w w' op id lba cnt fst snd di dq dh ds ph ∧ w'.cell? ⟨g, 0, none⟩ = some (.int .u8 2) ∧ w'.cell? ⟨g, 1, none⟩ = some (.int .u8 1) ∧ w'.cell? ⟨g, 7, none⟩ = some (.int .u8 1)) := by
    have h0 : CB w ((w.alloc (.cells #[.int .i64 op, .int .i64 id, .int .i64 lba, .int .i64 cnt, .int .i64 fst, .int .i64 snd] 23)).alloc (.cells #[.int .i64 di, .int .i64 dq, .int .i64 dh, .int .i64 ds, .bool ph] 25)) op id lba cnt fst snd di dq dh ds ph := by
      refine ⟨(alloc_below' w _).trans ((alloc_below' _ _).mono (by simp)), ?_, ?_⟩
      · exact Stc.keep (S := fun _ => False) (w := w.alloc (.cells #[.int .i64 op, .int .i64 id, .int .i64 lba, .int .i64 cnt, .int .i64 fst, .int .i64 snd] 23)) (heap_alloc_new w _) (Keep.of_below (alloc_below' _ _)) (fun e => e)
      · have := heap_alloc_new (w.alloc (.cells #[.int .i64 op, .int .i64 id, .int .i64 lba, .int .i64 cnt, .int .i64 fst, .int .i64 snd] 23)) (.cells #[.int .i64 di, .int .i64 dq, .int .i64 dh, .int .i64 ds, .bool ph] 25)
        rw [show (w.alloc (.cells #[.int .i64 op, .int .i64 id, .int .i64 lba, .int .i64 cnt, .int .i64 fst, .int .i64 snd] 23)).heap.size = w.heap.size + 1 by simp] at this
        exact this
    refine (encodeDone_any 258 0 0 0 true _).mono ?_
    rintro e w' ⟨hb, ⟨h1, g, hg, rfl, hr⟩ | ⟨h1, rfl⟩⟩
    · exact ⟨g, rfl, h0.below hb, row_cell hr 0 (by rw [doneL_len]; decide), row_cell hr 1 (by rw [doneL_len]; decide), row_cell hr 7 (by rw [doneL_len]; decide)⟩
    · exact absurd (holdD_of (by decide)) h1
  go_enter Try.func3, Try.ntmps3
  go_wp2_with fail
  refine HE.out.mono ?_
  rintro e w1 ⟨g, rfl, hCB, b0, b1, b7⟩
  have HCB1 : Hid (CB w w1 op id lba cnt fst snd di dq dh ds ph) := hCB
  have HE1 : Hid (Calls Try.prog 6 #[cmdV op id lba cnt fst snd] w1 fun e w' => (holdL CF [op, id, lba, cnt, fst, snd] 6 ∧ ∃ g, e = .returned (.tuple #[.slice (some ⟨g, 0, none⟩) 64 64, .nilIface]) ∧ CB w w' op id lba cnt fst snd di dq dh ds ph ∧ Row w' g (wrt CF [op, id, lba, cnt, fst, snd] 64 6)) ∨ (e = .returned (.tuple #[.slice none 0 0, .iface 51 (.int .i64 1)]) ∧ CB w w' op id lba cnt fst snd di dq dh ds ph)) := by
    refine (encode_any op id lba cnt fst snd w1).mono ?_
    rintro e w' ⟨hb, ⟨h1, g, hg, rfl, hr⟩ | ⟨h1, rfl⟩⟩
    · exact .inl ⟨h1, g, rfl, hCB.below hb, hr⟩
    · exact .inr ⟨rfl, hCB.below hb⟩
  have c0 := HCB1.out.c.cell 0
  have c1 := HCB1.out.c.cell 1
  have c2 := HCB1.out.c.cell 2
  have c3 := HCB1.out.c.cell 3
  have c4 := HCB1.out.c.cell 4
  have c5 := HCB1.out.c.cell 5
  simp only [List.getElem?_cons_zero, List.getElem?_cons_succ] at c0 c1 c2 c3 c4 c5
  clear HE hCB HCB1
  go_wp2_with fail
  refine HE1.out.mono ?_
  rintro e w2 (⟨hh, g2, rfl, hCB, hrow⟩ | ⟨rfl, hCB⟩)
  · have HD : Hid (Calls Try.prog 7 #[.slice (some ⟨g2, 0, none⟩) 64 64] w2 fun e w' => e = .returned (.tuple #[cmdV op id lba cnt fst snd, .nilIface]) ∧ CB w w' op id lba cnt fst snd di dq dh ds ph) := by
      have hl : (wrt CF [op, id, lba, cnt, fst, snd] 64 6).length = 64 := wrt_len okCF 6 (by decide)
      refine (decode_yes g2 0 64 _ w2 hl (wrt_all 6) (fun i hi => by rw [Nat.zero_add]; exact row_cell hrow i (by rw [hl]; exact hi))).mono ?_
      rintro e w' ⟨hb, h⟩
      have hf := fitC hh (fun _ _ => rfl)
      obtain ⟨b0, b1, b2, b3, b4, b5⟩ := backC hh
      refine ⟨?_, hCB.below hb⟩
      rcases h with ⟨h, _⟩ | ⟨_, h, _⟩ | ⟨_, _, h⟩
      · exact absurd hl h
      · exact absurd hf h
      · rw [h, b0, b1, b2, b3, b4, b5]
    clear HE1 hh hCB hrow c0 c1 c2 c3 c4 c5 b0 b1 b7
    go_wp2_with fail
    refine HD.out.mono ?_
    rintro e w3 ⟨rfl, hCB⟩
    have q0 : ∀ o, (w3.alloc o).cell? ⟨w.heap.size, 0, none⟩ = some (.int .i64 op) := fun o => (hCB.c.keep (Keep.of_below (S := fun _ => False) (alloc_below' w3 o)) (fun e => e)).cell 0
    have q1 : ∀ o, (w3.alloc o).cell? ⟨w.heap.size, 1, none⟩ = some (.int .i64 id) := fun o => (hCB.c.keep (Keep.of_below (S := fun _ => False) (alloc_below' w3 o)) (fun e => e)).cell 1
    have q2 : ∀ o, (w3.alloc o).cell? ⟨w.heap.size, 2, none⟩ = some (.int .i64 lba) := fun o => (hCB.c.keep (Keep.of_below (S := fun _ => False) (alloc_below' w3 o)) (fun e => e)).cell 2
    have q3 : ∀ o, (w3.alloc o).cell? ⟨w.heap.size, 3, none⟩ = some (.int .i64 cnt) := fun o => (hCB.c.keep (Keep.of_below (S := fun _ => False) (alloc_below' w3 o)) (fun e => e)).cell 3
    have q4 : ∀ o, (w3.alloc o).cell? ⟨w.heap.size, 4, none⟩ = some (.int .i64 fst) := fun o => (hCB.c.keep (Keep.of_below (S := fun _ => False) (alloc_below' w3 o)) (fun e => e)).cell 4
    have q5 : ∀ o, (w3.alloc o).cell? ⟨w.heap.size, 5, none⟩ = some (.int .i64 snd) := fun o => (hCB.c.keep (Keep.of_below (S := fun _ => False) (alloc_below' w3 o)) (fun e => e)).cell 5
    have HCB : Hid (CB w (w3.alloc (.cells #[.int .i64 op, .int .i64 id, .int .i64 lba, .int .i64 cnt, .int .i64 fst, .int .i64 snd] 23)) op id lba cnt fst snd di dq dh ds ph) := hCB.below (alloc_below' w3 _)
    have hge := fun x y => guard_cmd .neq x y
    have heq := neq_cmd op id lba cnt fst snd
    clear HD hCB
    have HE2 : Hid (Calls Try.prog 5 #[doneV di dq dh ds ph] (w3.alloc (.cells #[.int .i64 op, .int .i64 id, .int .i64 lba, .int .i64 cnt, .int .i64 fst, .int .i64 snd] 23)) fun e w' => (holdL DF [di, dq, dh, ds] 4 ∧ ∃ g, e = .returned (.tuple #[.slice (some ⟨g, 0, none⟩) 16 16, .nilIface]) ∧ CB w w' op id lba cnt fst snd di dq dh ds ph ∧ Row w' g (doneL [di, dq, dh, ds] ph)) ∨ (e = .returned (.tuple #[.slice none 0 0, .iface 51 (.int .i64 1)]) ∧ Below w.heap.size w w')) := by
      refine (encodeDone_any di dq dh ds ph _).mono ?_
      rintro e w' ⟨hb, ⟨h1, g, hg, rfl, hr⟩ | ⟨h1, rfl⟩⟩
      · exact .inl ⟨h1, g, rfl, HCB.out.below hb, hr⟩
      · exact .inr ⟨rfl, (HCB.out.below hb).bel⟩
    have e0 := HCB.out.d.cell 0
    have e1 := HCB.out.d.cell 1
    have e2 := HCB.out.d.cell 2
    have e3 := HCB.out.d.cell 3
    have e4 := HCB.out.d.cell 4
    simp only [List.getElem?_cons_zero, List.getElem?_cons_succ] at e0 e1 e2 e3 e4
    clear HCB
    go_wp2_with fail
    refine HE2.out.mono ?_
    rintro e w6 (⟨hh, g6, rfl, hCB, hrow⟩ | ⟨rfl, hb⟩)
    · have HD : Hid (Calls Try.prog 8 #[.slice (some ⟨g6, 0, none⟩) 16 16] w6 fun e w' => e = .returned (.tuple #[doneV di dq dh ds ph, .nilIface]) ∧ CB w w' op id lba cnt fst snd di dq dh ds ph) := by
        refine (decodeDone_yes g6 0 16 _ w6 doneL_len doneL_all (fun i hi => by rw [Nat.zero_add]; exact row_cell hrow i (by rw [doneL_len]; exact hi))).mono ?_
        rintro e w' ⟨hb, h⟩
        obtain ⟨b0, b1, b2, b3, b4⟩ := backD (ph := ph) hh
        refine ⟨?_, hCB.below hb⟩
        rcases h with ⟨h, _⟩ | ⟨_, h⟩
        · exact absurd doneL_len h
        · rw [h, b0, b1, b2, b3, b4]
      clear HE2 hh hCB hrow e0 e1 e2 e3 e4
      go_wp2_with fail
      refine HD.out.mono ?_
      rintro e w7 ⟨rfl, hCB⟩
      have q0 : ∀ o, (w7.alloc o).cell? ⟨w.heap.size + 1, 0, none⟩ = some (.int .i64 di) := fun o => (hCB.d.keep (Keep.of_below (S := fun _ => False) (alloc_below' w7 o)) (fun e => e)).cell 0
      have q1 : ∀ o, (w7.alloc o).cell? ⟨w.heap.size + 1, 1, none⟩ = some (.int .i64 dq) := fun o => (hCB.d.keep (Keep.of_below (S := fun _ => False) (alloc_below' w7 o)) (fun e => e)).cell 1
      have q2 : ∀ o, (w7.alloc o).cell? ⟨w.heap.size + 1, 2, none⟩ = some (.int .i64 dh) := fun o => (hCB.d.keep (Keep.of_below (S := fun _ => False) (alloc_below' w7 o)) (fun e => e)).cell 2
      have q3 : ∀ o, (w7.alloc o).cell? ⟨w.heap.size + 1, 3, none⟩ = some (.int .i64 ds) := fun o => (hCB.d.keep (Keep.of_below (S := fun _ => False) (alloc_below' w7 o)) (fun e => e)).cell 3
      have q4 : ∀ o, (w7.alloc o).cell? ⟨w.heap.size + 1, 4, none⟩ = some (.bool ph) := fun o => (hCB.d.keep (Keep.of_below (S := fun _ => False) (alloc_below' w7 o)) (fun e => e)).cell 4
      have HB : Hid (∀ o, Below w.heap.size w (w7.alloc o)) := fun o => hCB.bel.trans ((alloc_below' w7 o).mono hCB.bel.size)
      have hge := fun x y => guard_done .eql x y
      have heq := eql_done di dq dh ds ph
      clear HD hCB
      go_wp2
      go_ret
      exact ⟨rfl, HB.out _⟩
    · have HB : Hid (Below w.heap.size w w6) := hb
      clear HE2 hb e0 e1 e2 e3 e4
      go_wp2
      go_ret
      exact ⟨rfl, HB.out⟩
  · have HCB : Hid (CB w w2 op id lba cnt fst snd di dq dh ds ph) := hCB
    clear HE1 hCB c0 c1 c2 c3 c4 c5 b0 b1 b7
    have HE2 : Hid (Calls Try.prog 5 #[doneV di dq dh ds ph] w2 fun e w' => (holdL DF [di, dq, dh, ds] 4 ∧ ∃ g, e = .returned (.tuple #[.slice (some ⟨g, 0, none⟩) 16 16, .nilIface]) ∧ CB w w' op id lba cnt fst snd di dq dh ds ph ∧ Row w' g (doneL [di, dq, dh, ds] ph)) ∨ (e = .returned (.tuple #[.slice none 0 0, .iface 51 (.int .i64 1)]) ∧ Below w.heap.size w w')) := by
      refine (encodeDone_any di dq dh ds ph _).mono ?_
      rintro e w' ⟨hb, ⟨h1, g, hg, rfl, hr⟩ | ⟨h1, rfl⟩⟩
      · exact .inl ⟨h1, g, rfl, HCB.out.below hb, hr⟩
      · exact .inr ⟨rfl, (HCB.out.below hb).bel⟩
    have e0 := HCB.out.d.cell 0
    have e1 := HCB.out.d.cell 1
    have e2 := HCB.out.d.cell 2
    have e3 := HCB.out.d.cell 3
    have e4 := HCB.out.d.cell 4
    simp only [List.getElem?_cons_zero, List.getElem?_cons_succ] at e0 e1 e2 e3 e4
    clear HCB
    go_wp2_with fail
    refine HE2.out.mono ?_
    rintro e w6 (⟨hh, g6, rfl, hCB, hrow⟩ | ⟨rfl, hb⟩)
    · have HD : Hid (Calls Try.prog 8 #[.slice (some ⟨g6, 0, none⟩) 16 16] w6 fun e w' => e = .returned (.tuple #[doneV di dq dh ds ph, .nilIface]) ∧ CB w w' op id lba cnt fst snd di dq dh ds ph) := by
        refine (decodeDone_yes g6 0 16 _ w6 doneL_len doneL_all (fun i hi => by rw [Nat.zero_add]; exact row_cell hrow i (by rw [doneL_len]; exact hi))).mono ?_
        rintro e w' ⟨hb, h⟩
        obtain ⟨b0, b1, b2, b3, b4⟩ := backD (ph := ph) hh
        refine ⟨?_, hCB.below hb⟩
        rcases h with ⟨h, _⟩ | ⟨_, h⟩
        · exact absurd doneL_len h
        · rw [h, b0, b1, b2, b3, b4]
      clear HE2 hh hCB hrow e0 e1 e2 e3 e4
      go_wp2_with fail
      refine HD.out.mono ?_
      rintro e w7 ⟨rfl, hCB⟩
      have q0 : ∀ o, (w7.alloc o).cell? ⟨w.heap.size + 1, 0, none⟩ = some (.int .i64 di) := fun o => (hCB.d.keep (Keep.of_below (S := fun _ => False) (alloc_below' w7 o)) (fun e => e)).cell 0
      have q1 : ∀ o, (w7.alloc o).cell? ⟨w.heap.size + 1, 1, none⟩ = some (.int .i64 dq) := fun o => (hCB.d.keep (Keep.of_below (S := fun _ => False) (alloc_below' w7 o)) (fun e => e)).cell 1
      have q2 : ∀ o, (w7.alloc o).cell? ⟨w.heap.size + 1, 2, none⟩ = some (.int .i64 dh) := fun o => (hCB.d.keep (Keep.of_below (S := fun _ => False) (alloc_below' w7 o)) (fun e => e)).cell 2
      have q3 : ∀ o, (w7.alloc o).cell? ⟨w.heap.size + 1, 3, none⟩ = some (.int .i64 ds) := fun o => (hCB.d.keep (Keep.of_below (S := fun _ => False) (alloc_below' w7 o)) (fun e => e)).cell 3
      have q4 : ∀ o, (w7.alloc o).cell? ⟨w.heap.size + 1, 4, none⟩ = some (.bool ph) := fun o => (hCB.d.keep (Keep.of_below (S := fun _ => False) (alloc_below' w7 o)) (fun e => e)).cell 4
      have HB : Hid (∀ o, Below w.heap.size w (w7.alloc o)) := fun o => hCB.bel.trans ((alloc_below' w7 o).mono hCB.bel.size)
      have hge := fun x y => guard_done .eql x y
      have heq := eql_done di dq dh ds ph
      clear HD hCB
      go_wp2
      go_ret
      exact ⟨rfl, HB.out _⟩
    · have HB : Hid (Below w.heap.size w w6) := hb
      clear HE2 hb e0 e1 e2 e3 e4
      go_wp2
      go_ret
      exact ⟨rfl, HB.out⟩
end Go.Proofs.Yteklankhffebaaa
