/-
  What the calls of granaryref1.Frames and granarylaw1.frameFact give; when Pack tells an error; what Open tells of a page that Pack made.
-/
import Derived.Test.YtfaphblninmioacOpenF
import Derived.Test.YtfaphblninmioacBytes
import Derived.Test.YtfaphblninmioacOpen
namespace Go.Proofs.Ytfaphblninmioac
open Go.RowKit
set_option linter.unusedVariables false

theorem beq_yes {a b : Int} (h : a = b) : (a == b) = true := by subst h; simp
theorem beq_no {a b : Int} (h : a ≠ b) : (a == b) = false := beq_eq_false_iff_ne.2 h
set_option maxHeartbeats 1600000 in
theorem frames_any (k l s k' l' s' : Int) (a a' : Option Addr) (c c' : Nat) (xs ys : List Nat) (w : World) (hm : xs.length ≤ 140737488355328) (hm' : ys.length ≤ 140737488355328) (hL : Lies w a xs) (hL' : Lies w a' ys) :
    Calls Try.prog 10 #[FV k l s a xs.length c, FV k' l' s' a' ys.length c'] w fun e w' => e = .returned (.bool (decide (k = k' ∧ l = l' ∧ s = s' ∧ xs = ys))) ∧ Below w.heap.size w w' := by
  obtain ⟨wB, HWB⟩ : ∃ wB, Hid (wB = (w.alloc (boxF k l s a xs.length c)).alloc (boxF k' l' s' a' ys.length c')) := ⟨_, rfl⟩
  have hb1 := alloc_below' w (boxF k l s a xs.length c)
  have hb2 := alloc_below' (w.alloc (boxF k l s a xs.length c)) (boxF k' l' s' a' ys.length c')
  have HB : Hid (Below w.heap.size w ((w.alloc (boxF k l s a xs.length c)).alloc (boxF k' l' s' a' ys.length c'))) := hb1.trans (hb2.mono hb1.size)
  have hby := bytes_any a a' xs ys c c' ((w.alloc (boxF k l s a xs.length c)).alloc (boxF k' l' s' a' ys.length c')) hm hm' (hL.below HB.out) (hL'.below HB.out)
  have HX : Hid (BoxAt ((w.alloc (boxF k l s a xs.length c)).alloc (boxF k' l' s' a' ys.length c')) w.heap.size k l s a xs.length c ∧ BoxAt ((w.alloc (boxF k l s a xs.length c)).alloc (boxF k' l' s' a' ys.length c')) (w.heap.size + 1) k' l' s' a' ys.length c') := by
    refine ⟨(box_new w k l s a xs.length c).below hb2, ?_⟩
    have e := box_new (w.alloc (boxF k l s a xs.length c)) k' l' s' a' ys.length c'
    rw [show (w.alloc (boxF k l s a xs.length c)).heap.size = w.heap.size + 1 by simp] at e
    exact e
  have fin : ∀ r : Bool, (decide (xs = ys) = r) → Calls Try.prog 10 #[FV k l s a xs.length c, FV k' l' s' a' ys.length c'] w fun e w' => e = .returned (.bool (decide (k = k' ∧ l = l' ∧ s = s') && r)) ∧ Below w.heap.size w w' := by
    intro r hr
    rw [hr] at hby
    clear hr hb1 hb2 hL hL' HWB
    by_cases e1 : k = k'
    case neg =>
      have t1 := beq_no e1
      have t0 : decide (k = k' ∧ l = l' ∧ s = s') = false := decide_eq_false (fun h => e1 h.1)
      rw [t0]
      clear e1 t0
      go_enter Try.func10, Try.ntmps10
      go_wp2_with fail
      refine hby.mono ?_
      rintro e w1 ⟨rfl, hb⟩
      have H1 : Hid (BoxAt w1 w.heap.size k l s a xs.length c ∧ BoxAt w1 (w.heap.size + 1) k' l' s' a' ys.length c' ∧ Below w.heap.size w w1) := ⟨HX.out.1.below hb, HX.out.2.below hb, HB.out.trans (hb.mono HB.out.size)⟩
      clear hb hby
      have x0 := H1.out.1.c0
      have y0 := H1.out.2.1.c0
      go_wp2
      go_ret
      exact ⟨rfl, H1.out.2.2⟩
    have t1 := beq_yes e1
    by_cases e2 : l = l'
    case neg =>
      have t2 := beq_no e2
      have t0 : decide (k = k' ∧ l = l' ∧ s = s') = false := decide_eq_false (fun h => e2 h.2.1)
      rw [t0]
      clear e1 e2 t0
      go_enter Try.func10, Try.ntmps10
      go_wp2_with fail
      refine hby.mono ?_
      rintro e w1 ⟨rfl, hb⟩
      have H1 : Hid (BoxAt w1 w.heap.size k l s a xs.length c ∧ BoxAt w1 (w.heap.size + 1) k' l' s' a' ys.length c' ∧ Below w.heap.size w w1) := ⟨HX.out.1.below hb, HX.out.2.below hb, HB.out.trans (hb.mono HB.out.size)⟩
      clear hb hby
      have x0 := H1.out.1.c0
      have y0 := H1.out.2.1.c0
      have x1 := H1.out.1.c1
      have y1 := H1.out.2.1.c1
      go_wp2
      go_ret
      exact ⟨rfl, H1.out.2.2⟩
    have t2 := beq_yes e2
    by_cases e3 : s = s'
    case neg =>
      have t3 := beq_no e3
      have t0 : decide (k = k' ∧ l = l' ∧ s = s') = false := decide_eq_false (fun h => e3 h.2.2)
      rw [t0]
      clear e1 e2 e3 t0
      go_enter Try.func10, Try.ntmps10
      go_wp2_with fail
      refine hby.mono ?_
      rintro e w1 ⟨rfl, hb⟩
      have H1 : Hid (BoxAt w1 w.heap.size k l s a xs.length c ∧ BoxAt w1 (w.heap.size + 1) k' l' s' a' ys.length c' ∧ Below w.heap.size w w1) := ⟨HX.out.1.below hb, HX.out.2.below hb, HB.out.trans (hb.mono HB.out.size)⟩
      clear hb hby
      have x0 := H1.out.1.c0
      have y0 := H1.out.2.1.c0
      have x1 := H1.out.1.c1
      have y1 := H1.out.2.1.c1
      have x2 := H1.out.1.c2
      have y2 := H1.out.2.1.c2
      go_wp2
      go_ret
      exact ⟨rfl, H1.out.2.2⟩
    have t3 := beq_yes e3
    have t0 : decide (k = k' ∧ l = l' ∧ s = s') = true := decide_eq_true ⟨e1, e2, e3⟩
    rw [t0, Bool.true_and]
    clear e1 e2 e3 t0
    go_enter Try.func10, Try.ntmps10
    go_wp2_with fail
    refine hby.mono ?_
    rintro e w1 ⟨rfl, hb⟩
    have H1 : Hid (BoxAt w1 w.heap.size k l s a xs.length c ∧ BoxAt w1 (w.heap.size + 1) k' l' s' a' ys.length c' ∧ Below w.heap.size w w1) := ⟨HX.out.1.below hb, HX.out.2.below hb, HB.out.trans (hb.mono HB.out.size)⟩
    clear hb hby
    have x0 := H1.out.1.c0
    have y0 := H1.out.2.1.c0
    have x1 := H1.out.1.c1
    have y1 := H1.out.2.1.c1
    have x2 := H1.out.1.c2
    have y2 := H1.out.2.1.c2
    go_wp2
    go_ret
    exact ⟨rfl, H1.out.2.2⟩
  have e := fin _ rfl
  have t : (decide (k = k' ∧ l = l' ∧ s = s') && decide (xs = ys)) = decide (k = k' ∧ l = l' ∧ s = s' ∧ xs = ys) := by
    rw [← Bool.decide_and]
    congr 1
    apply propext
    constructor
    · rintro ⟨⟨h1, h2, h3⟩, h4⟩; exact ⟨h1, h2, h3, h4⟩
    · rintro ⟨h1, h2, h3, h4⟩; exact ⟨⟨h1, h2, h3⟩, h4⟩
  rw [t] at e
  exact e

theorem pack_data {n k l s : Nat} {data : List Nat} (i : Nat) (h : i < data.length) : (packL n k l s data)[20 + i]?.getD 0 = data[i]?.getD 0 := by
  have e : (packL n k l s data).drop 20 = restL n data := body_rest ..
  rw [← List.getElem?_drop, e]
  unfold restL
  rw [List.getElem?_append_left h]
set_option maxHeartbeats 1600000 in
theorem fact_any (w : World) : Calls Try.prog 11 #[] w fun e w' => e = .returned (.bool true) ∧ Below w.heap.size w w' := by
  have hF : FOk 24 1 7 9 [5].length := ⟨by decide, by decide, by decide, by decide, by decide, by decide, by decide⟩
  have HB : Hid (Below w.heap.size w (w.alloc (.cells #[.int .u8 5] 5))) := alloc_below' w _
  have hP := pack_good 24 1 7 9 (some ⟨w.heap.size, 0, none⟩) 1 [5] (w.alloc (.cells #[.int .u8 5] 5)) hF (fun x hx => by simp at hx; omega) (own_new w w.heap.size [5] (Nat.le_refl _) (by simp) _ rfl).lies
  have HG : Hid ((packL 24 1 7 9 [5])[0]?.getD 0 = 165 ∧ (packL 24 1 7 9 [5])[20]?.getD 0 = 5 ∧ (packL 24 1 7 9 [5])[23]?.getD 0 = 90 ∧ (packL 24 1 7 9 [5]).length = 24) := ⟨pack_first .., pack_data (n := 24) (k := 1) (l := 7) (s := 9) (data := [5]) 0 (by decide), pack_last (n := 24) (by decide), packL_len _ _ _ _ _ (by decide)⟩
  generalize packL 24 1 7 9 [5] = PG at hP HG
  clear hF
  go_enter Try.func11, Try.ntmps11
  go_wp2_with fail
  refine hP.mono ?_
  rintro e w1 ⟨g, rfl, hg, hr, hb⟩
  have x0 := row_cell hr 0 (by rw [HG.out.2.2.2]; decide)
  have x1 := row_cell hr 20 (by rw [HG.out.2.2.2]; decide)
  have x2 := row_cell hr 23 (by rw [HG.out.2.2.2]; decide)
  rw [HG.out.1] at x0
  rw [HG.out.2.1] at x1
  rw [HG.out.2.2.1] at x2
  have H1 : Hid (Below w.heap.size w w1) := HB.out.trans (hb.mono HB.out.size)
  clear hr hb hP hg
  go_wp2
  go_ret
  exact ⟨rfl, H1.out⟩
/-- Pack has nothing to tell. -/
def OkI (n k l s : Int) (m : Nat) : Prop := (24 ≤ n ∧ n ≤ 4096) ∧ Named k l s ∧ ¬ n - 21 < (m : Int)
theorem OkI.nat {n k l s : Int} {m : Nat} (h : OkI n k l s m) : ∃ N K L S : Nat, n = N ∧ k = K ∧ l = L ∧ s = S ∧ FOk N K L S m := by
  obtain ⟨⟨h1, h2⟩, ⟨⟨q1, q2⟩, ⟨q3, q4⟩, q5, q6⟩, h3⟩ := h
  obtain ⟨N, rfl⟩ := Int.eq_ofNat_of_zero_le (show 0 ≤ n by omega)
  obtain ⟨K, rfl⟩ := Int.eq_ofNat_of_zero_le (show 0 ≤ k by omega)
  obtain ⟨L, rfl⟩ := Int.eq_ofNat_of_zero_le q3
  obtain ⟨S, rfl⟩ := Int.eq_ofNat_of_zero_le q5
  exact ⟨N, K, L, S, rfl, rfl, rfl, rfl, ⟨by omega, by omega, by omega, by omega, by omega, by omega, by omega⟩⟩
theorem pack_err (n k l s : Int) (a : Option Addr) (m c : Nat) (hm : m < 9223372036854775808) (h : ¬ OkI n k l s m) :
    ∃ q : Nat, ∀ wx, Calls Try.prog 12 #[.int .i64 n, FV k l s a m c] wx fun e w' => e = .returned (.tuple #[.slice none 0 0, .iface 44 (.int .i64 (q : Int))]) ∧ Below wx.heap.size wx w' := by
  by_cases h1 : 24 ≤ n ∧ n ≤ 4096
  · by_cases h2 : Named k l s
    · by_cases h3 : n - 21 < (m : Int)
      · exact ⟨3, fun wx => pack_full n k l s a m c wx h1 h2 h3 hm⟩
      · exact absurd ⟨h1, h2, h3⟩ h
    · exact ⟨1, fun wx => pack_name n k l s a m c wx h1 h2⟩
  · exact ⟨1, fun wx => pack_size n k l s a m c wx h1⟩
/-- WHAT IS PACKED OPENS. -/
theorem open_packed (n k l s : Nat) (data : List Nat) (g : Nat) (w : World) (h : FOk n k l s data.length) (hA : AllB data) (hg : Row w g (packL n k l s data)) :
    Calls Try.prog 8 #[.slice (some ⟨g, 0, none⟩) n n] w fun e w' => ∃ a c, e = .returned (.tuple #[FV k l s a data.length c, .int .i64 2]) ∧ OwnA w' w.heap.size a c data ∧ Below w.heap.size w w' := by
  have hl := packL_len n k l s data h.d1
  have := open_any (some ⟨g, 0, none⟩) (packL n k l s data) n w (packL_all n k l s data (by have := h.k1; omega) hA) (row_lies hg) (by omega) (by have := h.n1; omega)
  rw [hl] at this
  refine this.mono fun e w' hh => ?_
  rcases hh with ⟨h1, _⟩ | ⟨_, _, h1⟩ | ⟨_, h1, _⟩
  · exact absurd h1 (not_erased (pack_first n k l s data))
  · obtain ⟨a, c, e1, e2, e3⟩ := h1
    obtain ⟨f1, f2, f3, f4, f5⟩ := pack_fields h
    rw [f1, f2, f3, f4] at e1
    rw [f5] at e2
    exact ⟨a, c, e1, e2, e3⟩
  · exact absurd (valid_pack h) h1
/-- A page that is no frame. -/
theorem open_none (a : Option Addr) (p : List Nat) (cap : Nat) (w : World) (hA : AllB p) (hL : Lies w a p) (hcap : p.length ≤ cap) (hm : p.length ≤ 9223372036854775807) (hE : ¬ ErasedP p) (hV : ¬ ValidP p) :
    Calls Try.prog 8 #[.slice a p.length cap] w fun e w' => e = .returned (.tuple #[F0, .int .i64 3]) ∧ Below w.heap.size w w' := by
  refine (open_any a p cap w hA hL hcap hm).mono fun e w' hh => ?_
  rcases hh with ⟨h1, _⟩ | ⟨_, h1, _⟩ | ⟨_, _, h1⟩
  · exact absurd h1 hE
  · exact absurd h1 hV
  · exact h1
end Go.Proofs.Ytfaphblninmioac
