/-
  The walk over granarylaw1.FramePacks: whatever the number of bytes and the frame, it returns true, and nothing that was there has turned.
-/
import Derived.Test.YtfaphblninmioabDoorBytes
import Derived.Test.YtfaphblninmioabDoorTold
namespace Go.Proofs.YtfaphblninmioabDoor
open Go.RowKit
set_option linter.unusedVariables false

set_option maxHeartbeats 1600000 in
theorem packs_bad (c : Nat) (n k l s : Int) (a : Option Addr) (m cap : Nat) (w : World) (hE : EType w) (h0 : c ≠ 0)
    (hP : ∀ wx, Calls Tryd.prog 24 #[.int .i64 n, FV k l s a m cap] wx fun e w' => e = .returned (.tuple #[.slice none 0 0, .iface 30 (.int .i64 (c : Int))]) ∧ Below wx.heap.size wx w')
    (hF : ∀ wx, Calls Tryd.prog 25 #[.int .i64 n, FV k l s a m cap] wx fun e w' => e = .returned (.int .i64 (c : Int)) ∧ Below wx.heap.size wx w') :
    Calls Tryd.prog 8 #[.int .i64 n, FV k l s a m cap] w fun e w' => e = .returned (.bool true) ∧ Below w.heap.size w w' := by
  have HA : Hid (Below w.heap.size w (w.alloc (boxF k l s a m cap)) ∧ BoxAt (w.alloc (boxF k l s a m cap)) w.heap.size k l s a m cap) := ⟨alloc_below w _, box_new w k l s a m cap⟩
  have HE : Hid (EType w) := hE
  have hn0 : ((c : Int) != 0) = true := by simp; omega
  clear hE h0
  go_enter Tryd.func8, Tryd.ntmps8
  go_wp2_with fail
  refine (hP _).mono ?_
  rintro e w1 ⟨rfl, hb1⟩
  have H1 : Hid (Below w.heap.size w w1 ∧ BoxAt w1 w.heap.size k l s a m cap) := ⟨HA.out.1.trans (hb1.mono HA.out.1.size), HA.out.2.below hb1⟩
  have c0 := H1.out.2.c0
  have c1 := H1.out.2.c1
  have c2 := H1.out.2.c2
  have c3 := H1.out.2.c3
  clear hb1 HA hP
  go_wp2_with fail
  refine (hF _).mono ?_
  rintro e w2 ⟨rfl, hb2⟩
  have H2 : Hid (Below w.heap.size w w2) := H1.out.1.trans (hb2.mono H1.out.1.size)
  clear hb2 H1 hF c0 c1 c2 c3
  go_wp2_with fail
  refine (error_same c w2 (HE.out.below H2.out HE.out.pos)).mono ?_
  rintro e w3 ⟨rfl, hb3⟩
  have H3 : Hid (Below w.heap.size w w3) := H2.out.trans (hb3.mono H2.out.size)
  clear hb3 H2
  go_wp2
  go_ret
  exact ⟨rfl, H3.out⟩
set_option maxHeartbeats 1600000 in
theorem packs_good (n k l s : Nat) (a : Option Addr) (cap : Nat) (data : List Nat) (w : World) (h : FOk n k l s data.length) (hA : AllB data) (hnil : a = none → cap = 0) (hL : Lies w a data) :
    Calls Tryd.prog 8 #[.int .i64 n, FV k l s a data.length cap] w fun e w' => e = .returned (.bool true) ∧ Below w.heap.size w w' := by
  have HA : Hid (Below w.heap.size w (w.alloc (boxF k l s a data.length cap)) ∧ BoxAt (w.alloc (boxF k l s a data.length cap)) w.heap.size k l s a data.length cap ∧ Lies (w.alloc (boxF k l s a data.length cap)) a data) := ⟨alloc_below w _, box_new w k l s a data.length cap, hL.below (alloc_below w _)⟩
  have hP := fun wx hx => pack_good n k l s a cap data wx h hA hx
  have hO := fun wx hx => packOf_any n k l s a cap data wx h hA hnil hx
  have hd1 := h.d1
  have hn1 := h.n1
  have hF := fun wx => fault_ok n k l s a data.length cap wx ⟨by have := h.n0; omega, by omega⟩ ⟨⟨by have := h.k0; omega, by have := h.k1; omega⟩, ⟨by omega, by have := h.l1; omega⟩, ⟨by omega, by have := h.s1; omega⟩⟩ (by omega) (by omega)
  have HPL : Hid ((packL n k l s data).length = n) := packL_len n k l s data hd1
  generalize packL n k l s data = PG at *
  clear h hA hL
  go_enter Tryd.func8, Tryd.ntmps8
  go_wp2_with fail
  refine (hP _ HA.out.2.2).mono ?_
  rintro e w1 ⟨g, rfl, hg, hr, hb1⟩
  have H1 : Hid (Below w.heap.size w w1 ∧ BoxAt w1 w.heap.size k l s a data.length cap ∧ Lies w1 a data ∧ Row w1 g PG) := ⟨HA.out.1.trans (hb1.mono HA.out.1.size), HA.out.2.1.below hb1, HA.out.2.2.below hb1, hr⟩
  have c0 := H1.out.2.1.c0
  have c1 := H1.out.2.1.c1
  have c2 := H1.out.2.1.c2
  have c3 := H1.out.2.1.c3
  clear hb1 hr hg HA hP
  go_wp2_with fail
  refine (hF _).mono ?_
  rintro e w2 ⟨rfl, hb2⟩
  have H2 : Hid (Below w.heap.size w w2 ∧ BoxAt w2 w.heap.size k l s a data.length cap ∧ Lies w2 a data ∧ Row w2 g PG) := ⟨H1.out.1.trans (hb2.mono H1.out.1.size), H1.out.2.1.below hb2, H1.out.2.2.1.below hb2, H1.out.2.2.2.below hb2⟩
  clear hb2 H1 hF c0 c1 c2 c3
  have herr := error_nil 0 w2
  rw [decide_eq_true rfl] at herr
  go_wp2_with fail
  refine herr.mono ?_
  rintro e w3 ⟨rfl, rfl⟩
  clear herr
  have c0 := H2.out.2.1.c0
  have c1 := H2.out.2.1.c1
  have c2 := H2.out.2.1.c2
  have c3 := H2.out.2.1.c3
  go_wp2_with fail
  refine (hO _ H2.out.2.2.1).mono ?_
  rintro e w4 ⟨a4, c4, rfl, hO4, hb4⟩
  have H4 : Hid (Below w.heap.size w w4 ∧ Lies w4 (some ⟨g, 0, none⟩) PG ∧ Lies w4 a4 PG) := ⟨H2.out.1.trans (hb4.mono H2.out.1.size), row_lies (H2.out.2.2.2.below hb4), hO4.lies⟩
  clear hO4 hb4 H2 c0 c1 c2 c3
  have hby := bytes_any (some ⟨g, 0, none⟩) a4 PG PG n c4 w4 (by rw [HPL.out]; omega) (by rw [HPL.out]; omega) H4.out.2.1 H4.out.2.2
  rw [decide_eq_true rfl, show (Value.slice (some ⟨g, 0, none⟩) PG.length n) = .slice (some ⟨g, 0, none⟩) n n by rw [HPL.out]] at hby
  go_wp2_with fail
  refine hby.mono ?_
  rintro e w5 ⟨rfl, hb5⟩
  have H5 : Hid (Below w.heap.size w w5) := H4.out.1.trans (hb5.mono H4.out.1.size)
  clear hb5 H4 hby
  go_wp2
  go_ret
  exact ⟨rfl, H5.out⟩
theorem packs_any (n k l s : Int) (a : Option Addr) (cap : Nat) (data : List Nat) (w : World) (hE : EType w) (hA : AllB data) (hnil : a = none → cap = 0) (hm : data.length < 9223372036854775808) (hL : Lies w a data) :
    Calls Tryd.prog 8 #[.int .i64 n, FV k l s a data.length cap] w fun e w' => e = .returned (.bool true) ∧ Below w.heap.size w w' := by
  by_cases h1 : 24 ≤ n ∧ n ≤ 4096
  · by_cases h2 : Named k l s
    · by_cases h3 : n - 21 < (data.length : Int)
      · exact packs_bad 3 n k l s a data.length cap w hE (by decide) (fun wx => pack_full n k l s a data.length cap wx h1 h2 h3 hm) (fun wx => fault_full n k l s a data.length cap wx h1 h2 h3 hm)
      · obtain ⟨⟨q1, q2⟩, ⟨q3, q4⟩, q5, q6⟩ := h2
        obtain ⟨N, rfl⟩ := Int.eq_ofNat_of_zero_le (show 0 ≤ n by omega)
        obtain ⟨K, rfl⟩ := Int.eq_ofNat_of_zero_le (show 0 ≤ k by omega)
        obtain ⟨L, rfl⟩ := Int.eq_ofNat_of_zero_le q3
        obtain ⟨S, rfl⟩ := Int.eq_ofNat_of_zero_le q5
        exact packs_good N K L S a cap data w ⟨by omega, by omega, by omega, by omega, by omega, by omega, by omega⟩ hA hnil hL
    · exact packs_bad 1 n k l s a data.length cap w hE (by decide) (fun wx => pack_name n k l s a data.length cap wx h1 h2) (fun wx => fault_range n k l s a data.length cap wx (fun e => h2 e.2))
  · exact packs_bad 1 n k l s a data.length cap w hE (by decide) (fun wx => pack_size n k l s a data.length cap wx h1) (fun wx => fault_range n k l s a data.length cap wx (fun e => h1 e.1))
end Go.Proofs.YtfaphblninmioabDoor
