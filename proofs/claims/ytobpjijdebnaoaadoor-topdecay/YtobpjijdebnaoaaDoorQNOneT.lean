/- Part of the proof. -/
import Derived.Test.YtobpjijdebnaoaaDoorQ6
import Derived.Test.YtobpjijdebnaoaaDoorQC2
import Derived.Test.YtobpjijdebnaoaaDoorQFacts3
namespace Go.Proofs.YtobpjijdebnaoaaDoorQ
open Go.Proofs.YtobpjijdebnaoaaDoorM
open Go.RowKit
set_option linter.unusedVariables false
abbrev topPg (g : Nat) : Pg := ⟨some ⟨g, 0, none⟩, packL 24 1 1 1 [5], 24⟩
theorem top_tell : stP (packL 24 1 1 1 [5]) = 2 ∧ kdP (packL 24 1 1 1 [5]) = 1 ∧ lbP (packL 24 1 1 1 [5]) = 1 ∧ sqP (packL 24 1 1 1 [5]) = 1 := ⟨by kernel_rfl, by kernel_rfl, by kernel_rfl, by kernel_rfl⟩
theorem top_new (g : Nat) : newF [topPg g] = [⟨1, 0, 1, 1⟩] := by
  obtain ⟨t0, t1, t2, t3⟩ := top_tell
  have hc : cntP [topPg g] 0 = true := by
    unfold cntP
    rw [show (gP [topPg g] 0).p = packL 24 1 1 1 [5] from rfl, t0, t1]
    rfl
  have hf : flt [topPg g] 1 = [0] := by rw [flt_yes hc]; rfl
  have hd : fdP [topPg g] 0 = ⟨1, 0, 1, 1⟩ := by
    unfold fdP
    rw [show (gP [topPg g] 0).p = packL 24 1 1 1 [5] from rfl, t1, t2, t3]
  unfold newF
  rw [show [topPg g].length = 1 from rfl, hf, show srt (fdP [topPg g]) [0] = [0] by unfold srt; simp, List.map_cons, List.map_nil, hd]
  rfl
theorem top_all : AllB (packL 24 1 1 1 [5]) := fun x hx => by
  have h : (packL 24 1 1 1 [5]).all (fun x => decide (x < 256)) = true := by kernel_rfl
  exact of_decide_eq_true (List.all_eq_true.1 h x hx)
theorem top_ok : FOk 24 1 1 1 ([5] : List Nat).length := by
  constructor <;> decide
theorem top_len : (packL 24 1 1 1 [5]).length = 24 := by kernel_rfl
theorem top_pages {w1 : World} {g : Nat} (h : Row w1 g (packL 24 1 1 1 [5])) : Pgs (w1.alloc (.cells #[.slice (some ⟨g, 0, none⟩) 24 24] 22)) (some ⟨w1.heap.size, 0, none⟩) [topPg g] := by
  refine .inr ⟨w1.heap.size, 0, rfl, fun i hi => ?_⟩
  obtain rfl : i = 0 := by simp at hi; omega
  have hl := top_len
  refine ⟨?_, ⟨?_, ?_, ?_, ?_⟩⟩
  · rw [show gP [topPg g] 0 = topPg g from rfl]
    simp [hl]
  · show AllB (packL 24 1 1 1 [5])
    exact top_all
  · show Lies _ (some ⟨g, 0, none⟩) (packL 24 1 1 1 [5])
    exact (row_lies h).below (alloc_below' w1 _)
  · show (packL 24 1 1 1 [5]).length ≤ 24
    omega
  · show (packL 24 1 1 1 [5]).length ≤ 9223372036854775807
    omega
theorem Plc_below {w w' : World} {B : Nat} (h : YtobpjijdebnaoaaDoorQC.Plc w) (hb : Below B w w') (hB : 0 < B) : YtobpjijdebnaoaaDoorQC.Plc w' := by
  obtain ⟨t, fr, h⟩ := h
  exact ⟨t, fr, (hb.block 0 hB).trans h⟩
theorem Plc_pos {w : World} (h : YtobpjijdebnaoaaDoorQC.Plc w) : 0 < w.heap.size := by
  obtain ⟨t, fr, h⟩ := h
  exact heap_lt h
set_option maxRecDepth 100000 in
set_option maxHeartbeats 3200000 in
theorem one_any (w : World) (hP : YtobpjijdebnaoaaDoorQC.Plc w) : Calls (Al.progOf Tryd.prog) 4 #[] w fun e w' => e = .returned (.bool true) ∧ Below w.heap.size w w' := by
  have hpos := Plc_pos hP
  have hb0 := alloc_below' w (.cells #[.int .u8 5] 5)
  have HPk : Hid (Calls (Al.progOf Tryd.prog) 5 #[.int .i64 24, .agg #[.int .i64 1, .int .i64 1, .int .i64 1, .slice (some ⟨w.heap.size, 0, none⟩) 1 1]] (w.alloc (.cells #[.int .u8 5] 5)) fun e w' => ∃ g, e = .returned (.tuple #[.slice (some ⟨g, 0, none⟩) 24 24, .nilIface]) ∧ Row w' g (packL 24 1 1 1 [5]) ∧ Below w.heap.size w w') := by
    have hr : Row (w.alloc (.cells #[.int .u8 5] 5)) w.heap.size [5] := heap_alloc_new w _
    have := pack_good 24 1 1 1 (some ⟨w.heap.size, 0, none⟩) 1 [5] (w.alloc (.cells #[.int .u8 5] 5)) top_ok (fun x hx => by simp at hx; omega) (row_lies hr)
    refine this.mono ?_
    rintro e w' ⟨g, h1, h2, h3, h4⟩
    exact ⟨g, h1, h3, hb0.trans (h4.mono hb0.size)⟩
  have HNw : Hid (∀ w1 g, Row w1 g (packL 24 1 1 1 [5]) → Calls (Al.progOf Tryd.prog) 11 #[.slice (some ⟨w1.heap.size, 0, none⟩) 1 1, .int .i64 2] (w1.alloc (.cells #[.slice (some ⟨g, 0, none⟩) 24 24] 22)) fun e w' => ∃ g2 o2 c2, e = .returned (.tuple #[.slice (some ⟨g2, o2, none⟩) 1 c2, .nilIface]) ∧ w'.cell? ⟨g2, o2, none⟩ = some (.int .i64 1) ∧ Below w1.heap.size w1 w') := fun w1 g h1 => by
    have hb1 := alloc_below' w1 (.cells #[.slice (some ⟨g, 0, none⟩) 24 24] 22)
    refine (newest_any (some ⟨w1.heap.size, 0, none⟩) 1 [topPg g] 2 _ (by omega) (by omega) (by show 1 ≤ 4096; omega) (top_pages h1)).mono ?_
    rintro e w' ⟨a, cap, q1, q2, q3⟩
    rw [top_new] at q1 q2
    rcases q2.at with q | ⟨g2, o2, rfl, hat⟩
    · simp at q
    · have h0 := hat 0 (by decide)
      exact ⟨g2, o2, cap, q1, by have e := h0.1; simp only [Nat.zero_mul, Nat.add_zero] at e; exact e, hb1.trans (q3.mono hb1.size)⟩
  have HPr : Hid (∀ w2 g, Row w2 g (packL 24 1 1 1 [5]) → YtobpjijdebnaoaaDoorQC.Plc w2 → Calls (Al.progOf Tryd.prog) 6 #[.slice (some ⟨g, 0, none⟩) 24 24] w2 fun e w' => (∃ g3, e = .returned (.tuple #[.slice (some ⟨g3, 0, none⟩) 3 3, .nilIface])) ∧ Below w2.heap.size w2 w') := fun w2 g h2 hp2 => by
    have := YtobpjijdebnaoaaDoorQC.protect_any (some ⟨g, 0, none⟩) 24 3 (packL 24 1 1 1 [5]) w2 top_all (by rw [top_len]) (by decide) hp2 (row_lies h2)
    rw [top_len] at this
    exact this.mono fun e w' ⟨q1, _, q3⟩ => ⟨⟨_, q1⟩, q3⟩
  have HPl : Hid (∀ wz, Below w.heap.size w wz → YtobpjijdebnaoaaDoorQC.Plc wz) := fun wz hz => Plc_below hP hz hpos
  clear hP hb0
  go_enter Al.func4, Tryd.ntmps4
  go_wp2_with fail
  refine HPk.out.mono ?_
  rintro e w1 ⟨g, rfl, hr1, hb1⟩
  have HN1 := HNw.out w1 g hr1
  have H1 : Hid (Row w1 g (packL 24 1 1 1 [5]) ∧ Below w.heap.size w w1) := ⟨hr1, hb1⟩
  clear HPk HNw hr1 hb1
  go_wp2_with fail
  refine HN1.mono ?_
  rintro e w2 ⟨g2, o2, c2, rfl, hc2, hb2⟩
  have HP2 := HPr.out w2 g (H1.out.1.below hb2) (HPl.out w2 (H1.out.2.trans (hb2.mono H1.out.2.size)))
  have H2 : Hid (Below w.heap.size w w2 ∧ w2.cell? ⟨g2, o2, none⟩ = some (.int .i64 1)) := ⟨H1.out.2.trans (hb2.mono H1.out.2.size), hc2⟩
  clear HN1 hc2 hb2 H1 HPr HPl
  go_wp2_with fail
  refine HP2.mono ?_
  rintro e w3 ⟨⟨g3, rfl⟩, hb3⟩
  have c3 : w3.cell? ⟨g2, o2, none⟩ = some (.int .i64 1) := (hb3.cell (p := ⟨g2, o2, none⟩) (World.block_lt_of_cell? w2 _ H2.out.2)).trans H2.out.2
  have H3 : Hid (Below w.heap.size w w3) := H2.out.1.trans (hb3.mono H2.out.1.size)
  clear HP2 hb3 H2
  go_wp2
  go_ret
  exact ⟨rfl, H3.out⟩
end Go.Proofs.YtobpjijdebnaoaaDoorQ
