/-
  What the calls of chip.isGeometry and granaryref1.GeometryFault give: may a geometry be?
-/
import Derived.Test.YtjeelaaimhckhabDoorRead
namespace Go.Proofs.YtjeelaaimhckhabDoor
open Go.RowKit
set_option linter.unusedVariables false

def GeoI (g0 g1 g2 g3 : Int) : Prop := (1 ≤ g0 ∧ g0 ≤ 4) ∧ (1 ≤ g1 ∧ g1 ≤ 16) ∧ (1 ≤ g2 ∧ g2 ≤ 16) ∧ (8 ≤ g3 ∧ g3 ≤ 256) ∧ g3 % 8 = 0
theorem GeoI.nat {g0 g1 g2 g3 : Int} (h : GeoI g0 g1 g2 g3) : ∃ D B P Y : Nat, g0 = D ∧ g1 = B ∧ g2 = P ∧ g3 = Y ∧ Geo D B P Y := by
  obtain ⟨⟨a, a'⟩, ⟨b, b'⟩, ⟨c, c'⟩, ⟨d, d'⟩, e⟩ := h
  exact ⟨g0.toNat, g1.toNat, g2.toNat, g3.toNat, by omega, by omega, by omega, by omega, by omega, by omega, by omega, by omega, by omega, by omega, by omega, by omega, by omega⟩
set_option maxHeartbeats 1600000 in
theorem isGeo_yes (g0 g1 g2 g3 : Int) (w : World) (h : GeoI g0 g1 g2 g3) :
    Calls Tryd.prog 23 #[.agg #[.int .i64 g0, .int .i64 g1, .int .i64 g2, .int .i64 g3]] w fun e w' => e = .returned (.bool true) ∧ Below w.heap.size w w' := by
  obtain ⟨h0, h1, h2, h3, h4⟩ := h
  have e0 := wth_yes h0
  have e1 := wth_yes h1
  have e2 := wth_yes h2
  have e3 := wth_yes h3
  have e4 : (g3 % 8 == 0) = true := by rw [beq_iff_eq]; exact h4
  go_enter Tryd.func23, Tryd.ntmps23
  go_wp2_with (go_at_call 34; refine (within_any _ _ _ _).mono ?_; rintro e w' ⟨rfl, rfl⟩)
  go_ret
  exact ⟨rfl, (Below.refl _ _).alloc (Nat.le_refl _) _⟩
set_option maxHeartbeats 3200000 in
theorem isGeo_no (g0 g1 g2 g3 : Int) (w : World) (h : ¬ GeoI g0 g1 g2 g3) :
    Calls Tryd.prog 23 #[.agg #[.int .i64 g0, .int .i64 g1, .int .i64 g2, .int .i64 g3]] w fun e w' => e = .returned (.bool false) ∧ Below w.heap.size w w' := by
  by_cases h0 : 1 ≤ g0 ∧ g0 ≤ 4
  · have e0 := wth_yes h0
    by_cases h1 : 1 ≤ g1 ∧ g1 ≤ 16
    · have e1 := wth_yes h1
      by_cases h2 : 1 ≤ g2 ∧ g2 ≤ 16
      · have e2 := wth_yes h2
        by_cases h3 : 8 ≤ g3 ∧ g3 ≤ 256
        · have e3 := wth_yes h3
          have e4 : (g3 % 8 == 0) = false := by rw [beq_eq_false_iff_ne]; exact fun e => h ⟨h0, h1, h2, h3, e⟩
          clear h
          go_enter Tryd.func23, Tryd.ntmps23
          go_wp2_with (go_at_call 34; refine (within_any _ _ _ _).mono ?_; rintro e w' ⟨rfl, rfl⟩)
          go_ret
          exact ⟨rfl, (Below.refl _ _).alloc (Nat.le_refl _) _⟩
        · have e3 := wth_no h3
          clear h h3
          go_enter Tryd.func23, Tryd.ntmps23
          go_wp2_with (go_at_call 34; refine (within_any _ _ _ _).mono ?_; rintro e w' ⟨rfl, rfl⟩)
          go_ret
          exact ⟨rfl, (Below.refl _ _).alloc (Nat.le_refl _) _⟩
      · have e2 := wth_no h2
        clear h h2
        go_enter Tryd.func23, Tryd.ntmps23
        go_wp2_with (go_at_call 34; refine (within_any _ _ _ _).mono ?_; rintro e w' ⟨rfl, rfl⟩)
        go_ret
        exact ⟨rfl, (Below.refl _ _).alloc (Nat.le_refl _) _⟩
    · have e1 := wth_no h1
      clear h h1
      go_enter Tryd.func23, Tryd.ntmps23
      go_wp2_with (go_at_call 34; refine (within_any _ _ _ _).mono ?_; rintro e w' ⟨rfl, rfl⟩)
      go_ret
      exact ⟨rfl, (Below.refl _ _).alloc (Nat.le_refl _) _⟩
  · have e0 := wth_no h0
    clear h h0
    go_enter Tryd.func23, Tryd.ntmps23
    go_wp2_with (go_at_call 34; refine (within_any _ _ _ _).mono ?_; rintro e w' ⟨rfl, rfl⟩)
    go_ret
    exact ⟨rfl, (Below.refl _ _).alloc (Nat.le_refl _) _⟩
set_option maxHeartbeats 1600000 in
theorem new_no (g0 g1 g2 g3 : Int) (w : World) (h : ¬ GeoI g0 g1 g2 g3) :
    Calls Tryd.prog 8 #[.agg #[.int .i64 g0, .int .i64 g1, .int .i64 g2, .int .i64 g3]] w fun e w' => e = .returned (.tuple #[.pointer none, .iface 30 (.int .i64 1)]) ∧ Below w.heap.size w w' := by
  go_enter Tryd.func8, Tryd.ntmps8
  go_wp2_with fail
  refine (isGeo_no g0 g1 g2 g3 _ h).mono ?_
  rintro e w1 ⟨rfl, hb1⟩
  have hB : Below w.heap.size w w1 := ((Below.refl _ _).alloc (Nat.le_refl _) _).trans (hb1.mono (by simp))
  clear hb1 h
  go_wp2
  go_ret2
  exact ⟨rfl, hB⟩
set_option maxHeartbeats 3200000 in
theorem geoFault_yes (g0 g1 g2 g3 : Int) (w : World) (h : GeoI g0 g1 g2 g3) :
    Calls Tryd.prog 9 #[.agg #[.int .i64 g0, .int .i64 g1, .int .i64 g2, .int .i64 g3]] w fun e w' => e = .returned (.int .i64 0) ∧ Below w.heap.size w w' := by
  obtain ⟨⟨a, a'⟩, ⟨b, b'⟩, ⟨c, c'⟩, ⟨d, d'⟩, e⟩ := h
  have e4 : (g3 % 8 != 0) = false := by simp [e]
  clear e
  go_enter Tryd.func9, Tryd.ntmps9
  go_wp2
  go_ret
  exact ⟨rfl, (Below.refl _ _).alloc (Nat.le_refl _) _⟩
set_option maxHeartbeats 3200000 in
theorem geoFault_no (g0 g1 g2 g3 : Int) (w : World) (h : ¬ GeoI g0 g1 g2 g3) :
    Calls Tryd.prog 9 #[.agg #[.int .i64 g0, .int .i64 g1, .int .i64 g2, .int .i64 g3]] w fun e w' => e = .returned (.int .i64 1) ∧ Below w.heap.size w w' := by
  by_cases h0 : g0 < 1
  · clear h
    go_enter Tryd.func9, Tryd.ntmps9
    go_wp2
    go_ret
    exact ⟨rfl, (Below.refl _ _).alloc (Nat.le_refl _) _⟩
  by_cases h1 : 4 < g0
  · clear h
    go_enter Tryd.func9, Tryd.ntmps9
    go_wp2
    go_ret
    exact ⟨rfl, (Below.refl _ _).alloc (Nat.le_refl _) _⟩
  by_cases h2 : g1 < 1
  · clear h
    go_enter Tryd.func9, Tryd.ntmps9
    go_wp2
    go_ret
    exact ⟨rfl, (Below.refl _ _).alloc (Nat.le_refl _) _⟩
  by_cases h3 : 16 < g1
  · clear h
    go_enter Tryd.func9, Tryd.ntmps9
    go_wp2
    go_ret
    exact ⟨rfl, (Below.refl _ _).alloc (Nat.le_refl _) _⟩
  by_cases h4 : g2 < 1
  · clear h
    go_enter Tryd.func9, Tryd.ntmps9
    go_wp2
    go_ret
    exact ⟨rfl, (Below.refl _ _).alloc (Nat.le_refl _) _⟩
  by_cases h5 : 16 < g2
  · clear h
    go_enter Tryd.func9, Tryd.ntmps9
    go_wp2
    go_ret
    exact ⟨rfl, (Below.refl _ _).alloc (Nat.le_refl _) _⟩
  by_cases h6 : g3 < 8
  · clear h
    go_enter Tryd.func9, Tryd.ntmps9
    go_wp2
    go_ret
    exact ⟨rfl, (Below.refl _ _).alloc (Nat.le_refl _) _⟩
  by_cases h7 : 256 < g3
  · clear h
    go_enter Tryd.func9, Tryd.ntmps9
    go_wp2
    go_ret
    exact ⟨rfl, (Below.refl _ _).alloc (Nat.le_refl _) _⟩
  have e4 : (g3 % 8 != 0) = true := by
    simp only [bne_iff_ne, ne_eq]
    exact fun e => h ⟨by omega, by omega, by omega, by omega, e⟩
  clear h
  go_enter Tryd.func9, Tryd.ntmps9
  go_wp2
  go_ret
  exact ⟨rfl, (Below.refl _ _).alloc (Nat.le_refl _) _⟩
end Go.Proofs.YtjeelaaimhckhabDoor
