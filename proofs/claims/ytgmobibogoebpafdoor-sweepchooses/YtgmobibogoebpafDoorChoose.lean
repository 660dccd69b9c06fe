/-
  What the calls of sweep.Choose and sweep.Level give: the next block; a block that was worn too little; what is wrong.
-/
import Derived.Test.YtgmobibogoebpafDoorInTurn
import Derived.Test.YtgmobibogoebpafDoorCheck
namespace Go.Proofs.YtgmobibogoebpafDoor
open Go.RowKit
set_option linter.unusedVariables false

theorem inTurn_any (a : Option Addr) (cap : Nat) (l : List Bl) (p : Int) (w : World) (h64 : l.length ≤ 64) (hB : BL w a l) :
    Calls Tryd.prog 36 #[.slice a l.length cap, .int .i64 p] w fun e w' => TurnPost w w' e l p := by
  rcases hB with rfl | ⟨g, off, rfl, hat⟩
  · exact inTurn_none a cap p w
  · by_cases h0 : 0 < l.length
    · exact inTurn_some g off cap l p w h64 h0 hat
    · obtain rfl : l = [] := List.length_eq_zero_iff.1 (by omega)
      exact inTurn_none _ cap p w
/-- What Choose tells. -/
def ChoosePost (e : Ending) (l : List Bl) (p : Int) : Prop :=
  (∃ f, f = faultF l p false ∧ f ≠ 0 ∧ e = .returned (.tuple #[.int .i64 0, errI f])) ∨ (faultF l p false = 0 ∧ (∀ i, ¬ can l p i) ∧ e = .returned (.tuple #[.int .i64 0, errI 4])) ∨ ∃ k : Nat, faultF l p false = 0 ∧ IsMin l p k ∧ e = .returned (.tuple #[.int .i64 (k : Int), .nilIface])
set_option maxHeartbeats 1600000 in
theorem choose_any (a : Option Addr) (cap : Nat) (l : List Bl) (p : Int) (w : World) (hB : BL w a l) :
    Calls Tryd.prog 21 #[.slice a l.length cap, .int .i64 p] w fun e w' => ChoosePost e l p ∧ Below w.heap.size w w' := by
  have hC := check_any a cap l p 0 w hB
  rw [decide_eq_false (by omega : ¬ (0 : Int) < 0)] at hC
  obtain ⟨f, hf⟩ : ∃ f, Hid (faultF l p false = f) := ⟨_, rfl⟩
  rw [hf.out] at hC
  by_cases h0 : f = 0
  · subst h0
    rw [errI_zero] at hC
    obtain ⟨h64, _⟩ := fault_zero hf.out
    have HT : Hid (∀ wr, Below w.heap.size w wr → Calls Tryd.prog 36 #[.slice a l.length cap, .int .i64 p] wr fun e w' => TurnPost wr w' e l p) := fun wr hb => inTurn_any a cap l p wr h64 (hB.below hb)
    clear hB h64
    go_enter Tryd.func21, Tryd.ntmps21
    go_wp2_with fail
    refine hC.mono ?_
    rintro e w1 ⟨rfl, hb1⟩
    have HT1 := HT.out w1 hb1
    have HB1 : Hid (Below w.heap.size w w1) := hb1
    clear hb1 HT hC
    go_wp2_with fail
    refine HT1.mono ?_
    rintro e w2 ⟨a2, cap2, o, rfl, hO, hown, hb2⟩
    have HO : Hid (IsOrd l p o) := hO
    have HB2 : Hid (Below w.heap.size w w2) := HB1.out.trans (hb2.mono HB1.out.size)
    clear hO hb2 HB1 HT1
    cases o with
    | nil =>
      clear hown
      go_wp2
      go_ret2
      exact ⟨Or.inr (Or.inl ⟨hf.out, HO.out.none, by rw [errI_ne (by decide)]; rfl⟩), HB2.out⟩
    | cons k r =>
      obtain ⟨g2, rfl⟩ := hown.some_of (i := 0) (by simp)
      have c0 := hown.cell (i := 0) (by simp)
      have hne : ¬ ((k :: r).length : Int) = 0 := by simp; omega
      have hpos : 0 < (k :: r).length := by simp
      generalize hgl : (k :: r).length = n at *
      clear hgl hown
      simp only [List.getElem?_cons_zero, Option.getD_some] at c0
      go_wp2
      go_ret2
      exact ⟨Or.inr (Or.inr ⟨k, hf.out, HO.out.head, rfl⟩), HB2.out⟩
  · rw [errI_ne h0] at hC
    go_enter Tryd.func21, Tryd.ntmps21
    go_wp2_with fail
    refine hC.mono ?_
    rintro e w1 ⟨rfl, hb1⟩
    have HB1 : Hid (Below w.heap.size w w1) := hb1
    clear hb1 hC
    go_wp2
    go_ret2
    exact ⟨Or.inl ⟨f, hf.out.symm, h0, by rw [errI_ne h0]; rfl⟩, HB1.out⟩
end Go.Proofs.YtgmobibogoebpafDoor
