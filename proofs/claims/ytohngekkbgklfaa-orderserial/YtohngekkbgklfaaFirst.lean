/-
  What the call of order.firstOf gives: the number of the first call that has a block.
-/
import Derived.Test.YtohngekkbgklfaaEnded
namespace Go.Proofs.Ytohngekkbgklfaa
open Go.RowKit
set_option linter.unusedVariables false

def agC (c : Cl) : Value := .agg #[.int .i64 c.f, .int .i64 c.t, .bool c.w, .int .i64 c.b, .int .i64 c.v]
set_option maxHeartbeats 1600000 in
theorem has_any (c : Cl) (z : Int) (g : Nat) (w : World) (hz : w.cell? ⟨g, 0, none⟩ = some (.int .i64 z)) :
    Calls Try.prog 15 #[agC c, .pointer (some ⟨g, 0, none⟩)] w fun e w' => e = .returned (.bool (decide (c.b = z))) ∧ Below w.heap.size w w' := by
  have hg := World.block_lt_of_cell? w _ hz
  have HW : Hid (Below w.heap.size w (w.alloc (.cells #[.int .i64 c.f, .int .i64 c.t, .bool c.w, .int .i64 c.b, .int .i64 c.v] 29))) := (Below.refl _ _).alloc (Nat.le_refl _) _
  unfold agC
  go_enter Try.func15, Try.ntmps15
  go_wp2
  go_ret
  exact ⟨rfl, HW.out⟩
theorem fst_at {l : List Cl} {z : Int} {k : Nat} (hk : k < l.length) (h : ∀ i, i < k → ¬ (gC l i).b = z) (hb : (gC l k).b = z) : fst l z = k := by
  unfold fst
  refine (List.findIdx_eq hk).2 ⟨by rw [← gC_of hk]; simp [hb], fun j hj => ?_⟩
  rw [← gC_of (by omega)]
  simp [h j hj]
set_option maxHeartbeats 3200000 in
theorem index_any (g off cap : Nat) (l : List Cl) (z : Int) (gz : Nat) (w : World) (h10 : l.length ≤ 10) (hex : ∃ j, j < l.length ∧ (gC l j).b = z) (hz : w.cell? ⟨gz, 0, none⟩ = some (.int .i64 z)) (hat : ∀ i, i < l.length → ClAt w g off i (gC l i)) :
    Calls Try.prog 14 #[.slice (some ⟨g, off, none⟩) l.length cap, .func (.func 15) #[] #[.pointer (some ⟨gz, 0, none⟩)]] w fun e w' => e = .returned (.int .i64 (fst l z : Nat)) ∧ Below w.heap.size w w' := by
  have HA : Hid (∀ wr, Below w.heap.size w wr → ∀ i, i < l.length → ClAt wr g off i (gC l i)) := fun wr hb i hi => (hat i hi).keep (S := fun _ => False) (Keep.of_below hb) (fun e => e)
  have HZ : Hid (∀ wr, Below w.heap.size w wr → wr.cell? ⟨gz, 0, none⟩ = some (.int .i64 z)) := fun wr hb => ((Keep.of_below (S := fun _ => False) hb).cell (p := ⟨gz, 0, none⟩) (World.block_lt_of_cell? w _ hz) (fun e => e)).trans hz
  have HX : Hid (∃ j, j < l.length ∧ (gC l j).b = z) := hex
  clear hat hz hex
  go_enter Try.func14, Try.ntmps14
  go_wp2
  go_loopw [8] (fun j wr => ∃ k : Nat, k ≤ l.length ∧ j = .int .i64 k ∧ Hid ((∀ i, i < k → ¬ (gC l i).b = z) ∧ Below w.heap.size w wr)) (fun j _ => l.length - (intOf j).toNat)
  case atStart => exact ⟨0, Nat.zero_le _, rfl, fun i hi => absurd hi (Nat.not_lt_zero _), Below.refl _ _⟩
  case round =>
    obtain ⟨k, hk, rfl, hR⟩ := hrel
    have hlt : k < l.length := by
      by_cases h : k < l.length
      · exact h
      · obtain ⟨j, hj, hb⟩ := HX.out
        exact absurd hb (hR.out.1 j (by omega))
    obtain ⟨c0, c1, c2, c3, c4⟩ := HA.out wr hR.out.2 k hlt
    have HH := has_any (gC l k) z gz wr (HZ.out wr hR.out.2)
    have HF : Hid ((gC l k).b = z → fst l z = k) := fun h => fst_at hlt hR.out.1 h
    have HG : Hid (¬ (gC l k).b = z → ∀ i, i < k + 1 → ¬ (gC l i).b = z) := fun h i hi => by
      by_cases e : i = k
      · rw [e]; exact h
      · exact hR.out.1 i (by omega)
    have HW : Hid (Below w.heap.size w wr) := hR.out.2
    clear hR
    unfold agC at HH
    go_wp2_with fail
    refine HH.mono ?_
    rintro e w2 ⟨rfl, hb⟩
    have HW2 : Hid (Below w.heap.size w w2) := HW.out.trans (hb.mono HW.out.size)
    clear hb HW HH
    by_cases b0 : (gC l k).b = z
    · have HF' : Hid (fst l z = k) := HF.out b0
      have b1 : decide ((gC l k).b = z) = true := decide_eq_true b0
      clear HF HG b0
      go_wp2
      go_ret
      exact ⟨congrArg (fun y : Nat => Ending.returned (.int .i64 (y : Int))) HF'.out.symm, HW2.out⟩
    · have HG' : Hid (∀ i, i < k + 1 → ¬ (gC l i).b = z) := HG.out b0
      have b1 : decide ((gC l k).b = z) = false := decide_eq_false b0
      clear HF HG b0
      go_wp2
      exact ⟨⟨k + 1, by omega, by go_num, HG'.out, HW2.out⟩, by simp [intOf]; omega⟩
set_option maxHeartbeats 1600000 in
theorem first_some (g off cap : Nat) (l : List Cl) (z : Int) (w : World) (h10 : l.length ≤ 10) (hex : ∃ j, j < l.length ∧ (gC l j).b = z) (hat : ∀ i, i < l.length → ClAt w g off i (gC l i)) :
    Calls Try.prog 11 #[.slice (some ⟨g, off, none⟩) l.length cap, .int .i64 z] w fun e w' => e = .returned (.int .i64 (fst l z : Nat)) ∧ Below w.heap.size w w' := by
  have hb := (Below.refl w.heap.size w).alloc (Nat.le_refl _) (.cells #[.int .i64 z] 3)
  have HB : Hid (Below w.heap.size w (w.alloc (.cells #[.int .i64 z] 3))) := hb
  have HI := index_any g off cap l z w.heap.size (w.alloc (.cells #[.int .i64 z] 3)) h10 hex (by simp) (fun i hi => (hat i hi).keep (S := fun _ => False) (Keep.of_below hb) (fun e => e))
  clear hb hex hat
  go_enter Try.func11, Try.ntmps11
  go_wp2_with fail
  refine HI.mono ?_
  rintro e w2 ⟨rfl, hb⟩
  have HW2 : Hid (Below w.heap.size w w2) := HB.out.trans (hb.mono HB.out.size)
  clear hb HB HI
  go_wp2
  go_ret
  exact ⟨rfl, HW2.out⟩
theorem first_n (g off n cap : Nat) (l : List Cl) (k : Nat) (w : World) (hl : l.length = n) (h10 : n ≤ 10) (hk : k < n) (hat : ∀ i, i < n → ClAt w g off i (gC l i)) :
    Calls Try.prog 11 #[.slice (some ⟨g, off, none⟩) n cap, .int .i64 (gC l k).b] w fun e w' => e = .returned (.int .i64 (fsb l k : Nat)) ∧ Below w.heap.size w w' := by
  subst hl
  exact first_some g off cap l (gC l k).b w h10 ⟨k, hk, rfl⟩ hat
theorem ended_n (g off n cap : Nat) (l : List Cl) (k : Nat) (w : World) (hl : l.length = n) (h10 : n ≤ 10) (hat : ∀ i, i < n → ClAt w g off i (gC l i)) :
    Calls Try.prog 12 #[.slice (some ⟨g, off, none⟩) n cap, .int .i64 (gC l k).f] w fun e w' => e = .returned (.int .i64 (ahd l k : Nat)) ∧ Below w.heap.size w w' := by
  subst hl
  exact ended_some g off cap l (gC l k).f w h10 hat
end Go.Proofs.Ytohngekkbgklfaa
