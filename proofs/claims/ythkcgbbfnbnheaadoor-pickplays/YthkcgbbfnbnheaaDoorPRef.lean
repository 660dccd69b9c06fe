/-
  What the document's picker gives.
-/
import Derived.Test.YthkcgbbfnbnheaaDoorPLaw
namespace Go.Proofs.YthkcgbbfnbnheaaDoor
open Go.RowKit
set_option linter.unusedVariables false

set_option maxHeartbeats 1600000 in
theorem rfault_any (a : Option Addr) (cap L e0 : Nat) (l : List Int) (w : World) (hl : l.length = L) (hf : FaultW l e0) (h1 : IL w a l) (hM : L ≤ 9223372036854775807) :
    Calls Tryd.prog 5 #[.slice a L cap] w fun e w' => e = .returned (.int .i64 (e0 : Nat)) ∧ w = w' := by
  rcases hf with ⟨h, rfl⟩ | ⟨h, rfl⟩ | ⟨h, h', hb, rfl⟩ | ⟨hg, rfl⟩
  · obtain rfl : L = 0 := by omega
    clear h hl h1
    go_enter Tryd.func5, Tryd.ntmps5
    go_wp2
    go_ret
    exact ⟨rfl, rfl⟩
  · have t1 : ((L : Int) == 0) = false := by rw [beq_eq_false_iff_ne]; omega
    have t2 : (8 : Int) < (L : Int) := by omega
    clear h hl h1
    go_enter Tryd.func5, Tryd.ntmps5
    go_wp2
    go_ret
    exact ⟨rfl, rfl⟩
  · have t1 : ((L : Int) == 0) = false := by rw [beq_eq_false_iff_ne]; omega
    have t2 : ¬ (8 : Int) < (L : Int) := by omega
    obtain ⟨g, o, rfl, hc⟩ := h1.some_of (i := 0) (by omega)
    have HC : Hid (∀ i, i < L → w.cell? ⟨g, o + i, none⟩ = some (.int .i64 (gI l i))) := fun i hi => hc i (by omega)
    have HB : Hid (l.length = L ∧ SomeBad l) := ⟨hl, hb⟩
    clear h h' hl h1 hb hc
    go_enter Tryd.func5, Tryd.ntmps5
    go_wp2
    go_loopw [3] (fun j wq => ∃ (i : Nat), i ≤ L ∧ j = .int .i64 i ∧ Hid (w = wq ∧ ∀ k, k < i → ¬ BadX (gI l k))) (fun j _ => L - (intOf j).toNat)
    case atStart => exact ⟨0, Nat.zero_le _, rfl, ⟨rfl, fun k hk => by omega⟩⟩
    case round =>
      obtain ⟨i, hi, rfl, hR⟩ := hrel
      by_cases hlt : i < L
      · have ci := HC.out i hlt
        have hw := hR.out.1
        rw [hw] at ci
        obtain ⟨x, hx⟩ : ∃ x, gI l i = x := ⟨_, rfl⟩
        rw [hx] at ci
        by_cases hb : BadX x
        · have HW : Hid (w = wr) := hw
          unfold BadX at hb
          clear hR hx hw
          by_cases hx1 : x < 1
          · clear hb
            go_wp2
            go_ret
            exact ⟨rfl, HW.out⟩
          · have hx2 : 16 < x := by omega
            clear hb
            go_wp2
            go_ret
            exact ⟨rfl, HW.out⟩
        · have HF : Hid (w = wr ∧ ∀ k, k < i + 1 → ¬ BadX (gI l k)) := ⟨hw, fun k hk => by
            by_cases e : k = i
            · rw [e, hx]; exact hb
            · exact hR.out.2 k (by omega)⟩
          unfold BadX at hb
          have hx1 : ¬ x < 1 := by omega
          have hx2 : ¬ 16 < x := by omega
          clear hR hx hw hb
          go_wp2
          exact ⟨⟨i + 1, by omega, by go_num, HF.out⟩, by simp [intOf]; omega⟩
      · exfalso
        obtain ⟨k, hk, hb⟩ := HB.out.2
        exact hR.out.2 k (by have := HB.out.1; omega) hb
  · have hn1 := hg.1
    have h8 := hg.2.1
    have t1 : ((L : Int) == 0) = false := by rw [beq_eq_false_iff_ne]; omega
    have t2 : ¬ (8 : Int) < (L : Int) := by omega
    obtain ⟨g, o, rfl, hc⟩ := h1.some_of (i := 0) (by omega)
    have HC : Hid (∀ i, i < L → w.cell? ⟨g, o + i, none⟩ = some (.int .i64 (gI l i)) ∧ 1 ≤ gI l i ∧ gI l i ≤ 16) := fun i hi => ⟨hc i (by omega), hg.2.2 i (by omega)⟩
    clear hn1 h8 hl h1 hc hg
    go_enter Tryd.func5, Tryd.ntmps5
    go_wp2
    go_loopw [3] (fun j wq => ∃ (i : Nat), i ≤ L ∧ j = .int .i64 i ∧ Hid (w = wq)) (fun j _ => L - (intOf j).toNat)
    case atStart => exact ⟨0, Nat.zero_le _, rfl, rfl⟩
    case round =>
      obtain ⟨i, hi, rfl, hR⟩ := hrel
      by_cases hlt : i < L
      · obtain ⟨ci, hx1, hx2⟩ := HC.out i hlt
        rw [hR.out] at ci
        generalize gI l i = x at *
        have hx3 : ¬ x < 1 := by omega
        have hx4 : ¬ 16 < x := by omega
        clear hx1 hx2
        go_wp2
        exact ⟨⟨i + 1, by omega, by go_num, hR⟩, by simp [intOf]; omega⟩
      · obtain rfl : i = L := by omega
        go_wp2
        go_ret
        exact ⟨rfl, hR.out⟩
end Go.Proofs.YthkcgbbfnbnheaaDoor
