/-
  What the call of book.New gives: a book whose lbas all lie nowhere, in new memory; or ErrRange.
-/
import Derived.Test.YtcppokafgohkgadDoorLive
import Derived.Test.YtcppokafgohkgadDoorRepeat
namespace Go.Proofs.YtcppokafgohkgadDoor
open Go.RowKit
set_option linter.unusedVariables false

/-- What a book's numbers may be. -/
def GoodN (n p : Int) : Prop := 1 ≤ n ∧ n ≤ 256 ∧ 1 ≤ p ∧ p ≤ 4096
theorem goodN_nat {n p : Int} (h : GoodN n p) : ∃ L P : Nat, n = L ∧ p = P ∧ 1 ≤ L ∧ L ≤ 256 ∧ 1 ≤ P ∧ P ≤ 4096 := by
  unfold GoodN at h
  exact ⟨n.toNat, p.toNat, by omega, by omega, by omega, by omega, by omega, by omega⟩
set_option maxRecDepth 100000 in
set_option maxHeartbeats 1000000 in
theorem new_no (n p : Int) (w : World) (h : ¬ GoodN n p) : Calls Tryd.prog 15 #[.int .i64 n, .int .i64 p] w fun e w' => e = .returned (.tuple #[.pointer none, .iface 37 (.int .i64 1)]) ∧ w' = w := by
  unfold GoodN at h
  by_cases h1 : n < 1
  · have t1 : decide (n < 1) = true := decide_eq_true h1
    clear h h1
    go_enter Tryd.func15, Tryd.ntmps15
    go_wp2
    go_ret2
    exact ⟨rfl, rfl⟩
  have t1 : decide (n < 1) = false := decide_eq_false h1
  by_cases h2 : 256 < n
  · have t2 : decide (256 < n) = true := decide_eq_true h2
    clear h h1 h2
    go_enter Tryd.func15, Tryd.ntmps15
    go_wp2
    go_ret2
    exact ⟨rfl, rfl⟩
  have t2 : decide (256 < n) = false := decide_eq_false h2
  by_cases h3 : p < 1
  · have t3 : decide (p < 1) = true := decide_eq_true h3
    clear h h1 h2 h3
    go_enter Tryd.func15, Tryd.ntmps15
    go_wp2
    go_ret2
    exact ⟨rfl, rfl⟩
  have t3 : decide (p < 1) = false := decide_eq_false h3
  have t4 : decide (4096 < p) = true := decide_eq_true (by omega)
  clear h h1 h2 h3
  go_enter Tryd.func15, Tryd.ntmps15
  go_wp2
  go_ret2
  exact ⟨rfl, rfl⟩
theorem IR.full {w : World} {g n : Nat} (h : w.heap[g]? = some (.cells (rowM n n).toArray 3 (0, 0))) : IR w g n (fun _ => -1) :=
  ⟨fun k hk => by simp only [World.cell?, h]; simpa using rowM_at (n := n) (m := n) (j := k) hk, fun o => by simp [World.frozen?, h]⟩
/-- The book, made. -/
theorem BO.first {L P : Nat} {w W : World} {ab ob : Nat} (h1 : 1 ≤ L) (h2 : L ≤ 256) (h3 : 1 ≤ P) (h4 : P ≤ 4096) (ha : w.heap[ab]? = some (.cells (rowM L L).toArray 3 (0, 0))) (ho : w.heap[ob]? = some (.cells (rowM P P).toArray 3 (0, 0))) (hne : ab ≠ ob)
    (hW : W = w.alloc (.cells #[.slice (some ⟨ab, 0, none⟩) L L, .slice (some ⟨ob, 0, none⟩) P P] 74)) : BO L P W w.heap.size ab ob fresh ∧ Below w.heap.size w W := by
  have hb : Below w.heap.size w W := by rw [hW]; exact (Below.refl _ _).alloc (Nat.le_refl _) _
  have g2 : W.heap[w.heap.size]? = some (.cells #[.slice (some ⟨ab, 0, none⟩) L L, .slice (some ⟨ob, 0, none⟩) P P] 74 (0, 0)) := by rw [hW]; exact heap_alloc_new w _
  have la := heap_lt ha
  have lo := heap_lt ho
  exact ⟨⟨⟨by simp [World.cell?, g2], by simp [World.cell?, g2], IR.full (by rw [hb.block _ la]; exact ha), IR.full (by rw [hb.block _ lo]; exact ho), ⟨by omega, by omega, hne⟩, h1, h2, h3, h4⟩, fresh_inv L P⟩, hb⟩
theorem rep_call (n : Nat) (W : World) (h1 : 1 ≤ n) (h2 : n ≤ 4096) :
    Calls Tryd.prog 30 #[.slice (some ⟨W.heap.size, 0, none⟩) 1 1, .int .i64 (n : Int)] (W.alloc (.cells #[.int .i64 (-1)] 3)) fun e w' => ∃ g, e = .returned (.slice (some ⟨g, 0, none⟩) n n) ∧ w'.heap[g]? = some (.cells (rowM n n).toArray 3 (0, 0)) ∧ Below W.heap.size W w' ∧ W.heap.size ≤ g :=
  (repeat_any n W.heap.size _ h1 h2 (heap_alloc_new W _)).mono fun e w' ⟨a, b, c⟩ => ⟨_, a, b, ((Below.refl _ _).alloc (Nat.le_refl _) _).trans (c.mono (by simp)), by simp⟩
set_option maxRecDepth 100000 in
set_option maxHeartbeats 2000000 in
theorem new_yes (L P : Nat) (w : World) (h1 : 1 ≤ L) (h2 : L ≤ 256) (h3 : 1 ≤ P) (h4 : P ≤ 4096) :
    Calls Tryd.prog 15 #[.int .i64 (L : Int), .int .i64 (P : Int)] w fun e w' => ∃ bb ab ob, e = .returned (.tuple #[.pointer (some ⟨bb, 0, none⟩), .nilIface]) ∧ BO L P w' bb ab ob fresh ∧ Below w.heap.size w w' ∧ w.heap.size ≤ bb ∧ w.heap.size ≤ ab ∧ w.heap.size ≤ ob := by
  have t1 : ¬ ((L : Int) < 1) := by omega
  have t2 : ¬ ((256 : Int) < (L : Int)) := by omega
  have t3 : ¬ ((P : Int) < 1) := by omega
  have t4 : ¬ ((4096 : Int) < (P : Int)) := by omega
  go_enter Tryd.func15, Tryd.ntmps15
  go_wp2_with fail
  refine (rep_call L w h1 (by omega)).mono ?_
  rintro e w1 ⟨ab, rfl, hg1, hb1, ha⟩
  have H1 : Hid (w1.heap[ab]? = some (.cells (rowM L L).toArray 3 (0, 0)) ∧ Below w.heap.size w w1 ∧ w.heap.size ≤ ab) := ⟨hg1, hb1, ha⟩
  clear hg1 hb1 ha
  go_wp2_with fail
  refine (rep_call P w1 h3 h4).mono ?_
  rintro e w2 ⟨ob, rfl, hg2, hb2, ho⟩
  have HF : Hid (BO L P (w2.alloc (.cells #[.slice (some ⟨ab, 0, none⟩) L L, .slice (some ⟨ob, 0, none⟩) P P] 74)) w2.heap.size ab ob fresh ∧ Below w.heap.size w (w2.alloc (.cells #[.slice (some ⟨ab, 0, none⟩) L L, .slice (some ⟨ob, 0, none⟩) P P] 74)) ∧ w.heap.size ≤ w2.heap.size ∧ w.heap.size ≤ ab ∧ w.heap.size ≤ ob) := by
    obtain ⟨g1, b1, a1⟩ := H1.out
    have la := heap_lt g1
    have s1 := b1.size
    have s2 := hb2.size
    obtain ⟨x1, x2⟩ := BO.first (w := w2) h1 h2 h3 h4 (by rw [hb2.block _ la]; exact g1) hg2 (by omega) rfl
    exact ⟨x1, (b1.trans (hb2.mono s1)).trans (x2.mono (by omega)), by omega, a1, by omega⟩
  clear H1 hg2 hb2 ho
  go_wp2
  go_ret2
  exact ⟨_, _, _, rfl, HF.out⟩
end Go.Proofs.YtcppokafgohkgadDoor
