/-
  The walk over granarylaw1.FrameTells: whatever the arguments, it returns true, and nothing that was there has turned.
-/
import Derived.Test.YtfaphblninmioacTurned
namespace Go.Proofs.Ytfaphblninmioac
open Go.RowKit
set_option linter.unusedVariables false

set_option maxHeartbeats 1600000 in
theorem tells_bad (q : Nat) (n k l s : Int) (a : Option Addr) (m cap : Nat) (at' : Int) (w : World)
    (hP : ∀ wx, Calls Try.prog 12 #[.int .i64 n, FV k l s a m cap] wx fun e w' => e = .returned (.tuple #[.slice none 0 0, .iface 44 (.int .i64 (q : Int))]) ∧ Below wx.heap.size wx w') :
    Calls Try.prog 5 #[.int .i64 n, FV k l s a m cap, .int .i64 at'] w fun e w' => e = .returned (.bool true) ∧ Below w.heap.size w w' := by
  have HA : Hid (Below w.heap.size w (w.alloc (boxF k l s a m cap)) ∧ BoxAt (w.alloc (boxF k l s a m cap)) w.heap.size k l s a m cap) := ⟨alloc_below' w _, box_new w k l s a m cap⟩
  go_enter Try.func5, Try.ntmps5
  go_wp2_with fail
  refine (fact_any _).mono ?_
  rintro e w1 ⟨rfl, hb1⟩
  have H1 : Hid (Below w.heap.size w w1 ∧ BoxAt w1 w.heap.size k l s a m cap) := ⟨HA.out.1.trans (hb1.mono HA.out.1.size), HA.out.2.below hb1⟩
  have c0 := H1.out.2.c0
  have c1 := H1.out.2.c1
  have c2 := H1.out.2.c2
  have c3 := H1.out.2.c3
  clear hb1 HA
  go_wp2_with fail
  refine (hP _).mono ?_
  rintro e w2 ⟨rfl, hb2⟩
  have H2 : Hid (Below w.heap.size w w2) := H1.out.1.trans (hb2.mono H1.out.1.size)
  clear hb2 H1 hP c0 c1 c2 c3
  go_wp2
  go_ret
  exact ⟨rfl, H2.out⟩
set_option maxHeartbeats 3200000 in
theorem tells_good (n k l s : Nat) (a : Option Addr) (cap : Nat) (data : List Nat) (at' : Int) (w : World) (ha : -9223372036854775808 ≤ at' ∧ at' ≤ 9223372036854775807) (h : FOk n k l s data.length) (hA : AllB data) (hL : Lies w a data) :
    Calls Try.prog 5 #[.int .i64 n, FV k l s a data.length cap, .int .i64 at'] w fun e w' => e = .returned (.bool true) ∧ Below w.heap.size w w' := by
  have HA : Hid (Below w.heap.size w (w.alloc (boxF k l s a data.length cap)) ∧ BoxAt (w.alloc (boxF k l s a data.length cap)) w.heap.size k l s a data.length cap ∧ Lies (w.alloc (boxF k l s a data.length cap)) a data) := ⟨alloc_below' w _, box_new w k l s a data.length cap, hL.below (alloc_below' w _)⟩
  have hP := fun wx hx => pack_good n k l s a cap data wx h hA hx
  have HF : Hid (FOk n k l s data.length ∧ AllB data) := ⟨h, hA⟩
  have hn0 := h.n0
  have hn1 := h.n1
  have hd1 := h.d1
  have HPL : Hid ((packL n k l s data).length = n ∧ AllB (packL n k l s data) ∧ ValidP (packL n k l s data) ∧ (packL n k l s data)[0]?.getD 0 = 165) := ⟨packL_len n k l s data hd1, packL_all n k l s data (by have := h.k1; omega) hA, valid_pack h, pack_first n k l s data⟩
  generalize packL n k l s data = PG at *
  clear h hA hL
  go_enter Try.func5, Try.ntmps5
  go_wp2_with fail
  refine (fact_any _).mono ?_
  rintro e w1 ⟨rfl, hb1⟩
  have H1 : Hid (Below w.heap.size w w1 ∧ BoxAt w1 w.heap.size k l s a data.length cap ∧ Lies w1 a data) := ⟨HA.out.1.trans (hb1.mono HA.out.1.size), HA.out.2.1.below hb1, HA.out.2.2.below hb1⟩
  have c0 := H1.out.2.1.c0
  have c1 := H1.out.2.1.c1
  have c2 := H1.out.2.1.c2
  have c3 := H1.out.2.1.c3
  clear hb1 HA
  go_wp2_with fail
  refine (hP _ H1.out.2.2).mono ?_
  rintro e w2 ⟨g, rfl, hg, hr, hb2⟩
  have H2 : Hid (Below w.heap.size w w2 ∧ BoxAt w2 w.heap.size k l s a data.length cap ∧ Lies w2 a data ∧ Row w2 g PG) := ⟨H1.out.1.trans (hb2.mono H1.out.1.size), H1.out.2.1.below hb2, H1.out.2.2.below hb2, hr⟩
  clear hb2 hg hr H1 hP c0 c1 c2 c3
  have hne : ((n : Int) == 0) = false := beq_no (by omega)
  obtain ⟨K, HK⟩ : ∃ K, Hid (pickN at' (8 * PG.length) = K ∧ K < 8 * PG.length) := ⟨_, rfl, pickN_lt _ _ (by rw [HPL.out.1]; omega)⟩
  have htu := turned_nil g 0 n PG K at' w2 (by rw [HPL.out.1]; omega) HPL.out.2.1 (by rw [HPL.out.1]; omega) (by omega) (by omega) (row_lies H2.out.2.2.2) HK.out.1
  rw [HPL.out.1] at htu
  obtain ⟨Q, HQ⟩ : ∃ Q, Hid (turnB PG (K / 8) (K % 8) = Q ∧ Q.length = n ∧ AllB Q ∧ ¬ ValidP Q) := ⟨_, rfl, by rw [turnB_len]; exact HPL.out.1, turnB_all HPL.out.2.1 (by omega), turn_broken HPL.out.2.2.1 HPL.out.2.1 (by have := HK.out.2; omega) (by omega)⟩
  rw [HQ.out.1] at htu
  go_wp2_with fail
  refine htu.mono ?_
  rintro e w3 ⟨g1, x1, g2, x2, rfl, hO1, hO2, hb3⟩
  have H3 : Hid (Below w.heap.size w w3 ∧ Lies w3 (some ⟨g1, 0, none⟩) Q ∧ Q.length ≤ x1) := ⟨H2.out.1.trans (hb3.mono H2.out.1.size), hO1.lies, by
    rcases hO1.2 with ⟨e, _⟩ | ⟨_, _, _, e, _, _, h6, _⟩
    · simp at e
    · simp at e; omega⟩
  clear hO1 hO2 hb3 H2 htu
  have hop := open_any (some ⟨g1, 0, none⟩) Q x1 w3 HQ.out.2.2.1 H3.out.2.1 H3.out.2.2 (by rw [HQ.out.2.1]; omega)
  have hop2 : Calls Try.prog 8 #[.slice (some ⟨g1, 0, none⟩) Q.length x1] w3 fun e w' => ∃ z : Nat, (z = 1 ∨ z = 3) ∧ e = .returned (.tuple #[F0, .int .i64 (z : Int)]) ∧ Below w3.heap.size w3 w' := hop.mono fun e w' hh => by
    rcases hh with ⟨_, h1, h2⟩ | ⟨_, h1, _⟩ | ⟨_, _, h1, h2⟩
    · exact ⟨1, Or.inl rfl, h1, h2⟩
    · exact absurd h1 HQ.out.2.2.2
    · exact ⟨3, Or.inr rfl, h1, h2⟩
  clear hop
  go_wp2_with fail
  refine hop2.mono ?_
  rintro e w4 ⟨z, hz, rfl, hb4⟩
  have hz2 : ((z : Int) != 2) = true := by rcases hz with rfl | rfl <;> rfl
  have H4 : Hid (Below w.heap.size w w4) := H3.out.1.trans (hb4.mono H3.out.1.size)
  clear hb4 H3 hop2 hz
  have hfr := frames_any 0 0 0 0 0 0 none none 0 0 [] [] (w4.alloc zeroF) (by simp) (by simp) (Or.inl rfl) (Or.inl rfl)
  rw [decide_eq_true ⟨rfl, rfl, rfl, rfl⟩] at hfr
  go_wp2_with fail
  refine hfr.mono ?_
  rintro e w5 ⟨rfl, hb5⟩
  have H5 : Hid (Below w.heap.size w w5) := by
    have h0 := H4.out.trans ((alloc_below' w4 zeroF).mono H4.out.size)
    exact h0.trans (hb5.mono h0.size)
  clear hb5 H4 hfr
  go_wp2
  go_ret
  exact ⟨rfl, H5.out⟩
theorem tells_any (n k l s : Int) (a : Option Addr) (cap : Nat) (data : List Nat) (at' : Int) (w : World) (hb : BytesIn w a cap data) (ha : -9223372036854775808 ≤ at' ∧ at' ≤ 9223372036854775807) :
    Calls Try.prog 5 #[.int .i64 n, FV k l s a data.length cap, .int .i64 at'] w fun e w' => e = .returned (.bool true) ∧ Below w.heap.size w w' := by
  by_cases h : OkI n k l s data.length
  · obtain ⟨N, K, L, S, rfl, rfl, rfl, rfl, hF⟩ := h.nat
    exact tells_good N K L S a cap data at' w ha hF hb.1 hb.2.1
  · obtain ⟨q, hq⟩ := pack_err n k l s a data.length cap (by have := hb.2.2.2.2; unfold maxLen at this; omega) h
    exact tells_bad q n k l s a data.length cap at' w hq
end Go.Proofs.Ytfaphblninmioac
