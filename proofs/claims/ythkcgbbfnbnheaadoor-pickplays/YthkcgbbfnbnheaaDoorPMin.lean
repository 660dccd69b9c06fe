/-
  What the calls of slices.Min and onward give.
-/
import Derived.Test.YthkcgbbfnbnheaaDoorPNew
namespace Go.Proofs.YthkcgbbfnbnheaaDoor
open Go.RowKit
set_option linter.unusedVariables false

/-- m is the least of the first k. -/
def LeastK (l : List Int) (k : Nat) (m : Int) : Prop := (∃ i, i < k ∧ gI l i = m) ∧ ∀ i, i < k → m ≤ gI l i
theorem LeastK.one (l : List Int) : LeastK l 1 (gI l 0) := by
  refine ⟨⟨0, by omega, rfl⟩, fun i hi => ?_⟩
  have e : i = 0 := by omega
  rw [e]
  exact Int.le_refl _
theorem LeastK.more {l : List Int} {k : Nat} {m x : Int} (h : LeastK l k m) (hx : gI l k = x) : (m ≤ x → LeastK l (k + 1) m) ∧ (x ≤ m → LeastK l (k + 1) x) := by
  obtain ⟨⟨i, hi, e⟩, hm⟩ := h
  refine ⟨fun h1 => ⟨⟨i, by omega, e⟩, fun j hj => ?_⟩, fun h1 => ⟨⟨k, by omega, hx⟩, fun j hj => ?_⟩⟩
  · by_cases ej : j = k
    · rw [ej, hx]; exact h1
    · exact hm j (by omega)
  · by_cases ej : j = k
    · rw [ej, hx]; exact Int.le_refl _
    · exact Int.le_trans h1 (hm j (by omega))
set_option maxHeartbeats 1600000 in
theorem min_any (g o cap L : Nat) (l : List Int) (w : World) (hl : l.length = L) (h0 : 1 ≤ L) (hL : L ≤ 8) (h1 : IL w (some ⟨g, o, none⟩) l) :
    Calls Tryd.prog 13 #[.slice (some ⟨g, o, none⟩) L cap] w fun e w' => (∃ m : Int, e = .returned (.int .i64 m) ∧ LeastK l L m) ∧ w = w' := by
  have HA : Hid (∀ i, i < L → w.cell? ⟨g, o + i, none⟩ = some (.int .i64 (gI l i))) := fun i hi => by
    obtain ⟨g', o', ha, hc⟩ := h1.some_of (i := i) (by omega)
    cases ha
    exact hc i (by omega)
  have c0 : w.cell? ⟨g, o, none⟩ = some (.int .i64 (gI l 0)) := HA.out 0 (by omega)
  have HO : Hid (LeastK l 1 (gI l 0)) := LeastK.one l
  have t1 : ¬ ((L : Int) < 1) := by omega
  have t3 : 0 < L := by omega
  clear h1 hl
  generalize hm0 : gI l 0 = m0 at *
  clear hm0
  go_enter Tryd.func13, Tryd.ntmps13
  go_wp2
  go_loopw [3, 4] (fun m j wq => ∃ (i : Nat) (x : Int), 1 ≤ i ∧ i ≤ L ∧ m = .int .i64 x ∧ j = .int .i64 i ∧ Hid (w = wq ∧ LeastK l i x)) (fun _ j _ => L - (intOf j).toNat)
  case atStart => exact ⟨1, m0, Nat.le_refl _, h0, rfl, rfl, ⟨rfl, HO.out⟩⟩
  case round =>
    obtain ⟨i, x, hi0, hi, rfl, rfl, hR⟩ := hrel
    clear HO c0
    by_cases hlt : i < L
    · have c1 := HA.out i hlt
      obtain ⟨hw, hz⟩ := hR.out
      rw [hw] at c1
      obtain ⟨y, hy⟩ : ∃ y, gI l i = y := ⟨_, rfl⟩
      rw [hy] at c1
      by_cases hxy : x ≤ y
      · have HF : Hid (w = wr ∧ LeastK l (i + 1) x) := ⟨hw, (hz.more hy).1 hxy⟩
        clear hz hw hR hy
        go_wp2
        exact ⟨⟨i + 1, x, by omega, by omega, rfl, by go_num, HF.out⟩, by simp [intOf]; omega⟩
      · have HF : Hid (w = wr ∧ LeastK l (i + 1) y) := ⟨hw, (hz.more hy).2 (by omega)⟩
        have hyx : y < x := by omega
        clear hz hw hR hy hxy
        go_wp2
        exact ⟨⟨i + 1, y, by omega, by omega, rfl, by go_num, HF.out⟩, by simp [intOf]; omega⟩
    · obtain rfl : i = L := by omega
      go_wp2
      go_ret
      exact ⟨⟨x, rfl, hR.out.2⟩, hR.out.1⟩
set_option maxHeartbeats 1600000 in
theorem onward_any (pb cap a c n : Nat) (wa : Option Addr) (W : List Int) (w : World) (hn : W.length = n) (h : PK 44 w pb wa cap W a c) :
    Calls Tryd.prog 17 #[.pointer (some ⟨pb, 0, none⟩)] w fun e w' => ∃ ab fb, e = .returned (.func (.func 22) #[] #[.pointer (some ⟨ab, 0, none⟩), .pointer (some ⟨fb, 0, none⟩)]) ∧ w'.cell? ⟨ab, 0, none⟩ = some (.int .i64 (n : Nat)) ∧ w'.cell? ⟨fb, 0, none⟩ = some (.int .i64 ((a + 1 : Nat) : Int)) ∧ Below w.heap.size w w' := by
  have c0 : w.cell? ⟨pb, 0, none⟩ = some (.slice wa n cap) := by rw [← hn]; exact h.st.cell 0
  have c1 : w.cell? ⟨pb, 1, none⟩ = some (.int .i64 (a : Nat)) := h.st.cell 1
  have ha : a < 8 := by have := h.lt; have := h.good.2.1; omega
  have hpb : pb < w.heap.size := heap_lt h.st
  have d0 : ∀ o, (w.alloc o).cell? ⟨pb, 0, none⟩ = some (.slice wa n cap) := fun o => (World.cell?_alloc_lt _ _ _ hpb).trans c0
  have d1 : ∀ o, (w.alloc o).cell? ⟨pb, 1, none⟩ = some (.int .i64 (a : Nat)) := fun o => (World.cell?_alloc_lt _ _ _ hpb).trans c1
  have e0 : ∀ o o', ((w.alloc o).alloc o').cell? ⟨pb, 0, none⟩ = some (.slice wa n cap) := fun o o' => (World.cell?_alloc_lt _ _ _ (by simp; omega)).trans (d0 o)
  have e1 : ∀ o o', ((w.alloc o).alloc o').cell? ⟨pb, 1, none⟩ = some (.int .i64 (a : Nat)) := fun o o' => (World.cell?_alloc_lt _ _ _ (by simp; omega)).trans (d1 o)
  have HB : Hid (∀ o o', Below w.heap.size w ((w.alloc o).alloc o')) := fun o o' => ((Below.refl _ _).alloc (Nat.le_refl _) o).alloc (by simp) o'
  clear h hn
  go_enter Tryd.func17, Tryd.ntmps17
  go_wp2
  go_region
  all_goals go_wp2
  all_goals go_ret
  · exact ⟨_, _, rfl, by simp, by simp, (HB.out _ _).drew⟩
  · exact ⟨_, _, rfl, by simp, by simp, (HB.out _ _).drew⟩
end Go.Proofs.YthkcgbbfnbnheaaDoor
