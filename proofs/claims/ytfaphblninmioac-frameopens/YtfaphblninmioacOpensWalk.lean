/-
  The walk over granarylaw1.FrameOpens: whatever the page, it returns true, and nothing that was there has turned.
-/
import Derived.Test.YtfaphblninmioacRefOpen
namespace Go.Proofs.Ytfaphblninmioac
open Go.RowKit
set_option linter.unusedVariables false

set_option maxHeartbeats 1600000 in
theorem opens_core (a : Option Addr) (n cap : Nat) (z : Nat) (k l s : Int) (DT : List Nat) (w : World) (hm : DT.length ≤ 140737488355328)
    (h1 : ∃ Z : World → Prop, Z w ∧ (∀ x y, Z x → Below x.heap.size x y → Z y) ∧
      (∀ wx, Z wx → Calls Try.prog 8 #[.slice a n cap] wx fun e w' => ∃ a1 c1, e = .returned (.tuple #[FV k l s a1 DT.length c1, .int .i64 (z : Int)]) ∧ Lies w' a1 DT ∧ Below wx.heap.size wx w') ∧
      (∀ wx, Z wx → Calls Try.prog 9 #[.slice a n cap] wx fun e w' => ∃ a1 c1, e = .returned (.tuple #[FV k l s a1 DT.length c1, .int .i64 (z : Int)]) ∧ Lies w' a1 DT ∧ Below wx.heap.size wx w')) :
    Calls Try.prog 3 #[.slice a n cap] w fun e w' => e = .returned (.bool true) ∧ Below w.heap.size w w' := by
  obtain ⟨Z, hZ, hZb, hA, hB⟩ := h1
  have HZ : Hid (Z w ∧ (∀ x y, Z x → Below x.heap.size x y → Z y)) := ⟨hZ, hZb⟩
  clear hZ hZb
  go_enter Try.func3, Try.ntmps3
  go_wp2_with fail
  refine (hA _ HZ.out.1).mono ?_
  rintro e w1 ⟨a1, c1, rfl, hL1, hb1⟩
  have H1 : Hid (Z (w1.alloc (boxF k l s a1 DT.length c1)) ∧ Below w.heap.size w (w1.alloc (boxF k l s a1 DT.length c1)) ∧ BoxAt (w1.alloc (boxF k l s a1 DT.length c1)) w1.heap.size k l s a1 DT.length c1 ∧ Lies (w1.alloc (boxF k l s a1 DT.length c1)) a1 DT) := by
    have hx := alloc_below' w1 (boxF k l s a1 DT.length c1)
    exact ⟨HZ.out.2 _ _ (HZ.out.2 _ _ HZ.out.1 hb1) hx, hb1.trans (hx.mono hb1.size), box_new w1 _ _ _ _ _ _, hL1.below hx⟩
  clear hL1 hb1 hA HZ
  go_wp2_with fail
  refine (hB _ H1.out.1).mono ?_
  rintro e w2 ⟨a2, c2, rfl, hL2, hb2⟩
  have H2 : Hid (Below w.heap.size w (w2.alloc (boxF k l s a2 DT.length c2)) ∧ BoxAt (w2.alloc (boxF k l s a2 DT.length c2)) w1.heap.size k l s a1 DT.length c1 ∧ BoxAt (w2.alloc (boxF k l s a2 DT.length c2)) w2.heap.size k l s a2 DT.length c2 ∧ Lies (w2.alloc (boxF k l s a2 DT.length c2)) a1 DT ∧ Lies (w2.alloc (boxF k l s a2 DT.length c2)) a2 DT) := by
    have hx := alloc_below' w2 (boxF k l s a2 DT.length c2)
    have h0 := H1.out.2.1.trans (hb2.mono H1.out.2.1.size)
    exact ⟨h0.trans (hx.mono h0.size), (H1.out.2.2.1.below hb2).below hx, box_new w2 _ _ _ _ _ _, (H1.out.2.2.2.below hb2).below hx, hL2.below hx⟩
  clear hL2 hb2 hB H1
  have x0 := H2.out.2.1.c0
  have x1 := H2.out.2.1.c1
  have x2 := H2.out.2.1.c2
  have x3 := H2.out.2.1.c3
  have hfr := frames_any k l s k l s a1 a2 c1 c2 DT DT (w2.alloc (boxF k l s a2 DT.length c2)) hm hm H2.out.2.2.2.1 H2.out.2.2.2.2
  rw [decide_eq_true ⟨rfl, rfl, rfl, rfl⟩] at hfr
  go_wp2_with fail
  refine hfr.mono ?_
  rintro e w3 ⟨rfl, hb3⟩
  have H3 : Hid (Below w.heap.size w w3) := H2.out.1.trans (hb3.mono H2.out.1.size)
  clear hb3 hfr H2 x0 x1 x2 x3
  go_wp2
  go_ret
  exact ⟨rfl, H3.out⟩
theorem opens_any (a : Option Addr) (cap : Nat) (p : List Nat) (w : World) (hb : BytesIn w a cap p) :
    Calls Try.prog 3 #[.slice a p.length cap] w fun e w' => e = .returned (.bool true) ∧ Below w.heap.size w w' := by
  obtain ⟨hA, hL, hcap, _, hm⟩ := hb
  have hm' : p.length ≤ 9223372036854775807 := by unfold maxLen at hm; omega
  have o1 := fun wx hx => open_any a p cap wx hA hx hcap hm'
  have o2 := fun wx hx => refOpen_any a p cap wx hA hx hcap hm'
  have zero : ∀ (z : Nat) (wx w' : World) (e : Ending), e = .returned (.tuple #[F0, .int .i64 (z : Int)]) → Below wx.heap.size wx w' → ∃ a1 c1, e = .returned (.tuple #[FV 0 0 0 a1 ([] : List Nat).length c1, .int .i64 (z : Int)]) ∧ Lies w' a1 [] ∧ Below wx.heap.size wx w' := fun z wx w' e h1 h2 => ⟨none, 0, h1, Or.inl rfl, h2⟩
  by_cases hE : ErasedP p
  · refine opens_core a p.length cap 1 0 0 0 [] w (by simp) ⟨fun wx => Lies wx a p, hL, fun x y h1 h2 => h1.below h2, fun wx hx => (o1 wx hx).mono fun e w' hh => ?_, fun wx hx => (o2 wx hx).mono fun e w' hh => ?_⟩
    all_goals
      rcases hh with ⟨_, h1, h2⟩ | ⟨h1, _⟩ | ⟨h1, _⟩
      · exact zero 1 wx w' e h1 h2
      · exact absurd hE h1
      · exact absurd hE h1
  · by_cases hV : ValidP p
    · have hd : (dataP p).length = longP p := dataP_len hV.1.d1
      have post : ∀ (wx w' : World) (e : Ending), ValidPost wx w' e p → ∃ a1 c1, e = .returned (.tuple #[FV (kindP p : Nat) (lbaP p : Nat) (seqP p : Nat) a1 (dataP p).length c1, .int .i64 ((2 : Nat) : Int)]) ∧ Lies w' a1 (dataP p) ∧ Below wx.heap.size wx w' := fun wx w' e h => by
        obtain ⟨a1, c1, h1, h2, h3⟩ := h
        rw [← hd] at h1
        exact ⟨a1, c1, h1, h2.lies, h3⟩
      refine opens_core a p.length cap 2 (kindP p : Nat) (lbaP p : Nat) (seqP p : Nat) (dataP p) w (by have := hV.1.n1; have := hV.1.d1; omega) ⟨fun wx => Lies wx a p, hL, fun x y h1 h2 => h1.below h2, fun wx hx => (o1 wx hx).mono fun e w' hh => ?_, fun wx hx => (o2 wx hx).mono fun e w' hh => ?_⟩
      all_goals
        rcases hh with ⟨h1, _⟩ | ⟨_, _, h1⟩ | ⟨_, h1, _⟩
        · exact absurd h1 hE
        · exact post wx w' e h1
        · exact absurd hV h1
    · refine opens_core a p.length cap 3 0 0 0 [] w (by simp) ⟨fun wx => Lies wx a p, hL, fun x y h1 h2 => h1.below h2, fun wx hx => (o1 wx hx).mono fun e w' hh => ?_, fun wx hx => (o2 wx hx).mono fun e w' hh => ?_⟩
      all_goals
        rcases hh with ⟨h1, _⟩ | ⟨_, h1, _⟩ | ⟨_, _, h1, h2⟩
        · exact absurd h1 hE
        · exact absurd h1 hV
        · exact zero 3 wx w' e h1 h2
end Go.Proofs.Ytfaphblninmioac
