/-
  The walk over granarylaw1.FrameBack: whatever the arguments, it returns true, and nothing that was there has turned.
-/
import Derived.Test.YtfaphblninmioacLaw
namespace Go.Proofs.Ytfaphblninmioac
open Go.RowKit
set_option linter.unusedVariables false

set_option maxHeartbeats 1600000 in
theorem back_bad (q : Nat) (n k l s : Int) (a : Option Addr) (m cap : Nat) (w : World)
    (hP : ∀ wx, Calls Try.prog 12 #[.int .i64 n, FV k l s a m cap] wx fun e w' => e = .returned (.tuple #[.slice none 0 0, .iface 44 (.int .i64 (q : Int))]) ∧ Below wx.heap.size wx w') :
    Calls Try.prog 4 #[.int .i64 n, FV k l s a m cap] w fun e w' => e = .returned (.bool true) ∧ Below w.heap.size w w' := by
  have HA : Hid (Below w.heap.size w (w.alloc (boxF k l s a m cap)) ∧ BoxAt (w.alloc (boxF k l s a m cap)) w.heap.size k l s a m cap) := ⟨alloc_below' w _, box_new w k l s a m cap⟩
  go_enter Try.func4, Try.ntmps4
  go_wp2_with fail
  refine (fact_any _).mono ?_
  rintro e w1 ⟨rfl, hb1⟩
  have H1 : Hid (Below w.heap.size w w1 ∧ BoxAt w1 w.heap.size k l s a m cap) := ⟨HA.out.1.trans (hb1.mono HA.out.1.size), HA.out.2.below hb1⟩
  have c0 := H1.out.2.c0
  have c1 := H1.out.2.c1
  have c2 := H1.out.2.c2
  have c3 := H1.out.2.c3
  clear hb1 HA
  go_wp2_with fail
  refine (hP _).mono ?_
  rintro e w2 ⟨rfl, hb2⟩
  have H2 : Hid (Below w.heap.size w w2) := H1.out.1.trans (hb2.mono H1.out.1.size)
  clear hb2 H1 hP c0 c1 c2 c3
  go_wp2
  go_ret
  exact ⟨rfl, H2.out⟩
set_option maxHeartbeats 3200000 in
theorem back_good (n k l s : Nat) (a : Option Addr) (cap : Nat) (data : List Nat) (w : World) (h : FOk n k l s data.length) (hA : AllB data) (hL : Lies w a data) :
    Calls Try.prog 4 #[.int .i64 n, FV k l s a data.length cap] w fun e w' => e = .returned (.bool true) ∧ Below w.heap.size w w' := by
  have HA : Hid (Below w.heap.size w (w.alloc (boxF k l s a data.length cap)) ∧ BoxAt (w.alloc (boxF k l s a data.length cap)) w.heap.size k l s a data.length cap ∧ Lies (w.alloc (boxF k l s a data.length cap)) a data) := ⟨alloc_below' w _, box_new w k l s a data.length cap, hL.below (alloc_below' w _)⟩
  have hP := fun wx hx => pack_good n k l s a cap data wx h hA hx
  have HF : Hid (FOk n k l s data.length ∧ AllB data) := ⟨h, hA⟩
  have hn0 := h.n0
  have hn1 := h.n1
  have hd1 := h.d1
  have HPL : Hid ((packL n k l s data).length = n ∧ AllB (packL n k l s data) ∧ ValidP (packL n k l s data) ∧ (packL n k l s data)[0]?.getD 0 = 165) := ⟨packL_len n k l s data hd1, packL_all n k l s data (by have := h.k1; omega) hA, valid_pack h, pack_first n k l s data⟩
  have hOp := fun wx g hx => open_packed n k l s data g wx h hA hx
  have HN : Hid (n ≤ 4096) := hn1
  generalize packL n k l s data = PG at *
  clear h hA hL
  go_enter Try.func4, Try.ntmps4
  go_wp2_with fail
  refine (fact_any _).mono ?_
  rintro e w1 ⟨rfl, hb1⟩
  have H1 : Hid (Below w.heap.size w w1 ∧ BoxAt w1 w.heap.size k l s a data.length cap ∧ Lies w1 a data) := ⟨HA.out.1.trans (hb1.mono HA.out.1.size), HA.out.2.1.below hb1, HA.out.2.2.below hb1⟩
  have c0 := H1.out.2.1.c0
  have c1 := H1.out.2.1.c1
  have c2 := H1.out.2.1.c2
  have c3 := H1.out.2.1.c3
  clear hb1 HA
  go_wp2_with fail
  refine (hP _ H1.out.2.2).mono ?_
  rintro e w2 ⟨g, rfl, hg, hr, hb2⟩
  have H2 : Hid (Below w.heap.size w w2 ∧ BoxAt w2 w.heap.size k l s a data.length cap ∧ Lies w2 a data ∧ Row w2 g PG) := ⟨H1.out.1.trans (hb2.mono H1.out.1.size), H1.out.2.1.below hb2, H1.out.2.2.below hb2, hr⟩
  clear hb2 hg hr H1 hP c0 c1 c2 c3
  go_wp2_with fail
  refine (hOp _ _ H2.out.2.2.2).mono ?_
  rintro e w3 ⟨a1, d1, rfl, hO, hb3⟩
  have H3 : Hid (∀ o, Below w.heap.size w (w3.alloc o) ∧ BoxAt (w3.alloc o) w.heap.size k l s a data.length cap ∧ Lies (w3.alloc o) a data ∧ Lies (w3.alloc o) a1 data) := fun o => by
    have hx := alloc_below' w3 o
    have h0 := H2.out.1.trans (hb3.mono H2.out.1.size)
    exact ⟨h0.trans (hx.mono h0.size), (H2.out.2.1.below hb3).below hx, (H2.out.2.2.1.below hb3).below hx, hO.lies.below hx⟩
  clear hb3 hO H2 hOp
  have q0 := fun o => (H3.out o).2.1.c0
  have q1 := fun o => (H3.out o).2.1.c1
  have q2 := fun o => (H3.out o).2.1.c2
  have q3 := fun o => (H3.out o).2.1.c3
  have hfr := frames_any k l s k l s a a1 cap d1 data data (w3.alloc (boxF k l s a1 data.length d1)) (by omega) (by omega) (H3.out _).2.2.1 (H3.out _).2.2.2
  rw [decide_eq_true ⟨rfl, rfl, rfl, rfl⟩] at hfr
  go_wp2_with fail
  refine hfr.mono ?_
  rintro e w4 ⟨rfl, hb4⟩
  have H4 : Hid (Below w.heap.size w w4) := (H3.out _).1.trans (hb4.mono (H3.out _).1.size)
  clear hb4 H3 hfr q0 q1 q2 q3
  go_wp2
  go_ret
  exact ⟨rfl, H4.out⟩
theorem back_any (n k l s : Int) (a : Option Addr) (cap : Nat) (data : List Nat) (w : World) (hb : BytesIn w a cap data) :
    Calls Try.prog 4 #[.int .i64 n, FV k l s a data.length cap] w fun e w' => e = .returned (.bool true) ∧ Below w.heap.size w w' := by
  by_cases h : OkI n k l s data.length
  · obtain ⟨N, K, L, S, rfl, rfl, rfl, rfl, hF⟩ := h.nat
    exact back_good N K L S a cap data w hF hb.1 hb.2.1
  · obtain ⟨q, hq⟩ := pack_err n k l s a data.length cap (by have := hb.2.2.2.2; unfold maxLen at this; omega) h
    exact back_bad q n k l s a data.length cap w hq
end Go.Proofs.Ytfaphblninmioac
