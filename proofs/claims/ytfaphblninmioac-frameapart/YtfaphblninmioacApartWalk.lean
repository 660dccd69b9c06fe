/-
  The walk over granarylaw1.FrameApart: whatever the arguments, it returns true, and nothing that was there has turned.
-/
import Derived.Test.YtfaphblninmioacLaw
namespace Go.Proofs.Ytfaphblninmioac
open Go.RowKit
set_option linter.unusedVariables false

/-- WHATEVER THE FRAME: what Pack gives, as far as the walk ahead of the test wants it. -/
theorem pack_some (n k l s : Int) (a : Option Addr) (cap : Nat) (data : List Nat) (hb : AllB data ∧ data.length ≤ maxLen) (wx : World) (hL : Lies wx a data) :
    Calls Try.prog 12 #[.int .i64 n, FV k l s a data.length cap] wx fun e w' => ∃ x y z er, e = .returned (.tuple #[.slice x y z, er]) ∧ Below wx.heap.size wx w' ∧ (¬ OkI n k l s data.length → ∃ c : Nat, er = .iface 44 (.int .i64 (c : Int))) ∧ (OkI n k l s data.length → er = .nilIface) := by
  by_cases h : OkI n k l s data.length
  · have h' := h
    obtain ⟨N, K, L, S, rfl, rfl, rfl, rfl, hF⟩ := h'.nat
    exact (pack_good N K L S a cap data wx hF hb.1 hL).mono fun e w' ⟨g, h1, _, _, h2⟩ => ⟨_, _, _, _, h1, h2, fun hn => absurd h hn, fun _ => rfl⟩
  · obtain ⟨q, hq⟩ := pack_err n k l s a data.length cap (by have := hb.2; unfold maxLen at this; omega) h
    exact (hq wx).mono fun e w' ⟨h1, h2⟩ => ⟨_, _, _, _, h1, h2, fun _ => ⟨q, rfl⟩, fun hn => absurd hn h⟩
set_option maxHeartbeats 1600000 in
theorem apart_idle (n k l s k' l' s' : Int) (a a' : Option Addr) (cap cap' : Nat) (data data' : List Nat) (w : World) (hb : AllB data ∧ data.length ≤ maxLen) (hb' : AllB data' ∧ data'.length ≤ maxLen) (hL : Lies w a data) (hL' : Lies w a' data') (hidle : ¬ OkI n k l s data.length ∨ ¬ OkI n k' l' s' data'.length) :
    Calls Try.prog 7 #[.int .i64 n, FV k l s a data.length cap, FV k' l' s' a' data'.length cap'] w fun e w' => e = .returned (.bool true) ∧ Below w.heap.size w w' := by
  have HI : Hid (¬ OkI n k l s data.length ∨ ¬ OkI n k' l' s' data'.length) := hidle
  have hP := pack_some n k l s a cap data hb
  have hP' := pack_some n k' l' s' a' cap' data' hb'
  clear hidle
  have hb1 := alloc_below' w (boxF k l s a data.length cap)
  have hb2 := alloc_below' (w.alloc (boxF k l s a data.length cap)) (boxF k' l' s' a' data'.length cap')
  have HA : Hid (Below w.heap.size w ((w.alloc (boxF k l s a data.length cap)).alloc (boxF k' l' s' a' data'.length cap')) ∧ BoxAt ((w.alloc (boxF k l s a data.length cap)).alloc (boxF k' l' s' a' data'.length cap')) w.heap.size k l s a data.length cap ∧ BoxAt ((w.alloc (boxF k l s a data.length cap)).alloc (boxF k' l' s' a' data'.length cap')) (w.heap.size + 1) k' l' s' a' data'.length cap' ∧ Lies ((w.alloc (boxF k l s a data.length cap)).alloc (boxF k' l' s' a' data'.length cap')) a data ∧ Lies ((w.alloc (boxF k l s a data.length cap)).alloc (boxF k' l' s' a' data'.length cap')) a' data') := by
    have hB := hb1.trans (hb2.mono hb1.size)
    refine ⟨hB, (box_new w k l s a data.length cap).below hb2, ?_, hL.below hB, hL'.below hB⟩
    have e := box_new (w.alloc (boxF k l s a data.length cap)) k' l' s' a' data'.length cap'
    rw [show (w.alloc (boxF k l s a data.length cap)).heap.size = w.heap.size + 1 by simp] at e
    exact e
  clear hb1 hb2 hL hL'
  go_enter Try.func7, Try.ntmps7
  go_wp2_with fail
  refine (fact_any _).mono ?_
  rintro e w1 ⟨rfl, hx1⟩
  have H1 : Hid (Below w.heap.size w w1 ∧ BoxAt w1 w.heap.size k l s a data.length cap ∧ BoxAt w1 (w.heap.size + 1) k' l' s' a' data'.length cap' ∧ Lies w1 a data ∧ Lies w1 a' data') := ⟨HA.out.1.trans (hx1.mono HA.out.1.size), HA.out.2.1.below hx1, HA.out.2.2.1.below hx1, HA.out.2.2.2.1.below hx1, HA.out.2.2.2.2.below hx1⟩
  have c0 := H1.out.2.1.c0
  have c1 := H1.out.2.1.c1
  have c2 := H1.out.2.1.c2
  have c3 := H1.out.2.1.c3
  clear hx1 HA
  go_wp2_with fail
  refine (hP _ H1.out.2.2.2.1).mono ?_
  rintro e w2 ⟨x1, y1, z1, r1, rfl, hx2, hE1, hN1⟩
  have H2 : Hid (Below w.heap.size w w2 ∧ BoxAt w2 (w.heap.size + 1) k' l' s' a' data'.length cap' ∧ Lies w2 a' data' ∧ (¬ OkI n k l s data.length → ∃ c : Nat, r1 = .iface 44 (.int .i64 (c : Int))) ∧ (OkI n k l s data.length → r1 = .nilIface)) := ⟨H1.out.1.trans (hx2.mono H1.out.1.size), H1.out.2.2.1.below hx2, H1.out.2.2.2.2.below hx2, hE1, hN1⟩
  clear hx2 hE1 hN1 H1 hP c0 c1 c2 c3
  have c0 := H2.out.2.1.c0
  have c1 := H2.out.2.1.c1
  have c2 := H2.out.2.1.c2
  have c3 := H2.out.2.1.c3
  go_wp2_with fail
  refine (hP' _ H2.out.2.2.1).mono ?_
  rintro e w3 ⟨x2, y2, z2, r2, rfl, hx3, hE2, hN2⟩
  have H3 : Hid (Below w.heap.size w w3 ∧ (¬ OkI n k' l' s' data'.length → ∃ c : Nat, r2 = .iface 44 (.int .i64 (c : Int)))) := ⟨H2.out.1.trans (hx3.mono H2.out.1.size), hE2⟩
  clear hx3 hE2 hN2 hP' c0 c1 c2 c3
  by_cases h1 : OkI n k l s data.length
  · have e1 := H2.out.2.2.2.2 h1
    obtain ⟨q, e2⟩ := H3.out.2 (by rcases HI.out with h | h; exact absurd h1 h; exact h)
    rw [e1, e2]
    clear h1 e1 e2 HI
    go_wp2
    go_ret
    exact ⟨rfl, H3.out.1⟩
  · obtain ⟨q, e1⟩ := H2.out.2.2.2.1 h1
    rw [e1]
    clear h1 e1 HI
    go_wp2
    go_ret
    exact ⟨rfl, H3.out.1⟩
set_option maxHeartbeats 3200000 in
theorem apart_good (n k l s k' l' s' : Nat) (a a' : Option Addr) (cap cap' : Nat) (data data' : List Nat) (w : World) (h : FOk n k l s data.length) (h' : FOk n k' l' s' data'.length) (hA : AllB data) (hA' : AllB data') (hL : Lies w a data) (hL' : Lies w a' data') :
    Calls Try.prog 7 #[.int .i64 n, FV k l s a data.length cap, FV k' l' s' a' data'.length cap'] w fun e w' => e = .returned (.bool true) ∧ Below w.heap.size w w' := by
  have hP := fun wx hx => pack_good n k l s a cap data wx h hA hx
  have hP' := fun wx hx => pack_good n k' l' s' a' cap' data' wx h' hA' hx
  have hn1 := h.n1
  have hd1 := h.d1
  have hd2 := h'.d1
  have HPL : Hid ((packL n k l s data).length = n ∧ (packL n k' l' s' data').length = n ∧ decide (packL n k l s data = packL n k' l' s' data') = decide ((k : Int) = k' ∧ (l : Int) = l' ∧ (s : Int) = s' ∧ data = data')) := by
    refine ⟨packL_len n k l s data hd1, packL_len n k' l' s' data' hd2, ?_⟩
    congr 1
    apply propext
    constructor
    · intro e
      obtain ⟨e1, e2, e3, e4⟩ := pack_inj h h' e
      exact ⟨by omega, by omega, by omega, e4⟩
    · rintro ⟨e1, e2, e3, e4⟩
      obtain rfl : k = k' := by omega
      obtain rfl : l = l' := by omega
      obtain rfl : s = s' := by omega
      rw [e4]
  generalize packL n k l s data = PG at *
  generalize packL n k' l' s' data' = PH at *
  clear h h' hA hA'
  have hb1 := alloc_below' w (boxF k l s a data.length cap)
  have hb2 := alloc_below' (w.alloc (boxF k l s a data.length cap)) (boxF k' l' s' a' data'.length cap')
  have HA : Hid (Below w.heap.size w ((w.alloc (boxF k l s a data.length cap)).alloc (boxF k' l' s' a' data'.length cap')) ∧ BoxAt ((w.alloc (boxF k l s a data.length cap)).alloc (boxF k' l' s' a' data'.length cap')) w.heap.size k l s a data.length cap ∧ BoxAt ((w.alloc (boxF k l s a data.length cap)).alloc (boxF k' l' s' a' data'.length cap')) (w.heap.size + 1) k' l' s' a' data'.length cap' ∧ Lies ((w.alloc (boxF k l s a data.length cap)).alloc (boxF k' l' s' a' data'.length cap')) a data ∧ Lies ((w.alloc (boxF k l s a data.length cap)).alloc (boxF k' l' s' a' data'.length cap')) a' data') := by
    have hB := hb1.trans (hb2.mono hb1.size)
    refine ⟨hB, (box_new w k l s a data.length cap).below hb2, ?_, hL.below hB, hL'.below hB⟩
    have e := box_new (w.alloc (boxF k l s a data.length cap)) k' l' s' a' data'.length cap'
    rw [show (w.alloc (boxF k l s a data.length cap)).heap.size = w.heap.size + 1 by simp] at e
    exact e
  clear hb1 hb2 hL hL'
  go_enter Try.func7, Try.ntmps7
  go_wp2_with fail
  refine (fact_any _).mono ?_
  rintro e w1 ⟨rfl, hx1⟩
  have H1 : Hid (Below w.heap.size w w1 ∧ BoxAt w1 w.heap.size k l s a data.length cap ∧ BoxAt w1 (w.heap.size + 1) k' l' s' a' data'.length cap' ∧ Lies w1 a data ∧ Lies w1 a' data') := ⟨HA.out.1.trans (hx1.mono HA.out.1.size), HA.out.2.1.below hx1, HA.out.2.2.1.below hx1, HA.out.2.2.2.1.below hx1, HA.out.2.2.2.2.below hx1⟩
  have c0 := H1.out.2.1.c0
  have c1 := H1.out.2.1.c1
  have c2 := H1.out.2.1.c2
  have c3 := H1.out.2.1.c3
  clear hx1 HA
  go_wp2_with fail
  refine (hP _ H1.out.2.2.2.1).mono ?_
  rintro e w2 ⟨g, rfl, _, hr, hx2⟩
  have H2 : Hid (Below w.heap.size w w2 ∧ BoxAt w2 w.heap.size k l s a data.length cap ∧ BoxAt w2 (w.heap.size + 1) k' l' s' a' data'.length cap' ∧ Lies w2 a data ∧ Lies w2 a' data' ∧ Row w2 g PG) := ⟨H1.out.1.trans (hx2.mono H1.out.1.size), H1.out.2.1.below hx2, H1.out.2.2.1.below hx2, H1.out.2.2.2.1.below hx2, H1.out.2.2.2.2.below hx2, hr⟩
  clear hx2 hr H1 hP c0 c1 c2 c3
  have c0 := H2.out.2.2.1.c0
  have c1 := H2.out.2.2.1.c1
  have c2 := H2.out.2.2.1.c2
  have c3 := H2.out.2.2.1.c3
  go_wp2_with fail
  refine (hP' _ H2.out.2.2.2.2.1).mono ?_
  rintro e w3 ⟨g', rfl, _, hr, hx3⟩
  have H3 : Hid (Below w.heap.size w w3 ∧ BoxAt w3 w.heap.size k l s a data.length cap ∧ BoxAt w3 (w.heap.size + 1) k' l' s' a' data'.length cap' ∧ Lies w3 a data ∧ Lies w3 a' data' ∧ Row w3 g PG ∧ Row w3 g' PH) := ⟨H2.out.1.trans (hx3.mono H2.out.1.size), H2.out.2.1.below hx3, H2.out.2.2.1.below hx3, H2.out.2.2.2.1.below hx3, H2.out.2.2.2.2.1.below hx3, H2.out.2.2.2.2.2.below hx3, hr⟩
  clear hx3 hr H2 hP' c0 c1 c2 c3
  have c0 := H3.out.2.1.c0
  have c1 := H3.out.2.1.c1
  have c2 := H3.out.2.1.c2
  have c3 := H3.out.2.1.c3
  have y0 := H3.out.2.2.1.c0
  have y1 := H3.out.2.2.1.c1
  have y2 := H3.out.2.2.1.c2
  have y3 := H3.out.2.2.1.c3
  have hfr := frames_any k l s k' l' s' a a' cap cap' data data' w3 (by omega) (by omega) H3.out.2.2.2.1 H3.out.2.2.2.2.1
  obtain ⟨r, HR⟩ : ∃ r, Hid (decide ((k : Int) = k' ∧ (l : Int) = l' ∧ (s : Int) = s' ∧ data = data') = r) := ⟨_, rfl⟩
  rw [HR.out] at hfr
  go_wp2_with fail
  refine hfr.mono ?_
  rintro e w4 ⟨rfl, hx4⟩
  have H4 : Hid (Below w.heap.size w w4 ∧ Lies w4 (some ⟨g, 0, none⟩) PG ∧ Lies w4 (some ⟨g', 0, none⟩) PH) := ⟨H3.out.1.trans (hx4.mono H3.out.1.size), row_lies (H3.out.2.2.2.2.2.1.below hx4), row_lies (H3.out.2.2.2.2.2.2.below hx4)⟩
  clear hx4 H3 hfr c0 c1 c2 c3 y0 y1 y2 y3
  have hby := bytes_any (some ⟨g, 0, none⟩) (some ⟨g', 0, none⟩) PG PH n n w4 (by rw [HPL.out.1]; omega) (by rw [HPL.out.2.1]; omega) H4.out.2.1 H4.out.2.2
  rw [HPL.out.2.2, HR.out, show (Value.slice (some ⟨g, 0, none⟩) PG.length n) = .slice (some ⟨g, 0, none⟩) n n by rw [HPL.out.1], show (Value.slice (some ⟨g', 0, none⟩) PH.length n) = .slice (some ⟨g', 0, none⟩) n n by rw [HPL.out.2.1]] at hby
  clear HR HPL
  go_wp2_with fail
  refine hby.mono ?_
  rintro e w5 ⟨rfl, hx5⟩
  have H5 : Hid (Below w.heap.size w w5) := H4.out.1.trans (hx5.mono H4.out.1.size)
  clear hx5 H4 hby
  cases r
  · go_wp2
    go_ret
    exact ⟨rfl, H5.out⟩
  · go_wp2
    go_ret
    exact ⟨rfl, H5.out⟩
theorem apart_any (n k l s : Int) (a : Option Addr) (cap : Nat) (data : List Nat) (k' l' s' : Int) (a' : Option Addr) (cap' : Nat) (data' : List Nat) (w : World) (hb : BytesIn w a cap data) (hb' : BytesIn w a' cap' data') :
    Calls Try.prog 7 #[.int .i64 n, FV k l s a data.length cap, FV k' l' s' a' data'.length cap'] w fun e w' => e = .returned (.bool true) ∧ Below w.heap.size w w' := by
  by_cases h : OkI n k l s data.length
  · by_cases h' : OkI n k' l' s' data'.length
    · obtain ⟨N, K, L, S, rfl, rfl, rfl, rfl, hF⟩ := h.nat
      obtain ⟨N', K', L', S', e, rfl, rfl, rfl, hF'⟩ := h'.nat
      obtain rfl : N = N' := by omega
      exact apart_good N K L S K' L' S' a a' cap cap' data data' w hF hF' hb.1 hb'.1 hb.2.1 hb'.2.1
    · exact apart_idle n k l s k' l' s' a a' cap cap' data data' w ⟨hb.1, hb.2.2.2.2⟩ ⟨hb'.1, hb'.2.2.2.2⟩ hb.2.1 hb'.2.1 (Or.inr h')
  · exact apart_idle n k l s k' l' s' a a' cap cap' data data' w ⟨hb.1, hb.2.2.2.2⟩ ⟨hb'.1, hb'.2.2.2.2⟩ hb.2.1 hb'.2.1 (Or.inl h)
end Go.Proofs.Ytfaphblninmioac
