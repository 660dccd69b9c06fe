/-
  What the calls of the laws' recordFact and of granarysame.Pick give: true; a number below another.
-/
import Derived.Test.YtalmcjkaheofpaeDoorWrite
import Derived.Test.YtalmcjkaheofpaeDoorRead
import Derived.Test.YtalmcjkaheofpaeDoorBatches
namespace Go.Proofs.YtalmcjkaheofpaeDoor
open Go.RowKit
set_option linter.unusedVariables false

theorem fact_rec : recL [[⟨1, 2, 300⟩]] = [1, 1, 2, 172, 2] ++ low 4 (crcOf [1, 1, 2, 172, 2]) := by
  have e0 : sev 300 = [172, 2] := by rw [sev_big (by decide), sev_small (by decide)]
  have e : bodyL [⟨1, 2, 300⟩] = [1, 1, 2, 172, 2] := by
    have h1 : sev 1 = [1] := sev_small (by decide)
    have h2 : sev 2 = [2] := sev_small (by decide)
    simp [bodyL, ensL, enL, h1, h2, e0]
  have e2 : recL [[⟨1, 2, 300⟩]] = batL [⟨1, 2, 300⟩] := by simp [recL]
  rw [e2]
  unfold batL
  rw [e]
theorem fact_bat (w : World) : BatAt ((w.alloc (.cells #[.int .i64 1, .int .i64 2, .int .i64 300] 45)).alloc (.cells #[.slice (some ⟨w.heap.size, 0, none⟩) 1 1] 41)) (some ⟨w.heap.size + 1, 0, none⟩) [[⟨1, 2, 300⟩]] := by
  refine Or.inr ⟨w.heap.size + 1, 0, rfl, fun i hi => ?_⟩
  have e : i = 0 := by simp at hi; exact hi
  subst e
  refine ⟨some ⟨w.heap.size, 0, none⟩, 1, by simp [go_sem], Or.inr ⟨w.heap.size, 0, rfl, fun j hj => ?_⟩⟩
  have e : j = 0 := by simp at hj; exact hj
  subst e
  refine ⟨?_, ?_, ?_⟩ <;> simp [go_sem]
set_option maxRecDepth 20000 in
set_option maxHeartbeats 800000 in
theorem fact_any (w : World) : Calls Tryd.prog 15 #[] w fun e w' => e = .returned (.bool true) ∧ Below w.heap.size w w' := by
  have hb : Below w.heap.size w ((w.alloc (.cells #[.int .i64 1, .int .i64 2, .int .i64 300] 45)).alloc (.cells #[.slice (some ⟨w.heap.size, 0, none⟩) 1 1] 41)) := ((Below.refl _ _).alloc (Nat.le_refl _) _).alloc (by simp) _
  have HW : Hid (Calls Tryd.prog 7 #[.slice (some ⟨w.heap.size + 1, 0, none⟩) 1 1] ((w.alloc (.cells #[.int .i64 1, .int .i64 2, .int .i64 300] 45)).alloc (.cells #[.slice (some ⟨w.heap.size, 0, none⟩) 1 1] 41)) fun e w' =>
      Below w.heap.size w w' ∧ ∃ g c, e = .returned (.tuple #[.slice (some ⟨g, 0, none⟩) 9 c, .nilIface]) ∧ w'.cell? ⟨g, 0, none⟩ = some (.int .u8 1) ∧ w'.cell? ⟨g, 3, none⟩ = some (.int .u8 172) ∧ w'.cell? ⟨g, 4, none⟩ = some (.int .u8 2)) := by
    have h := write_any (some ⟨w.heap.size + 1, 0, none⟩) [[⟨1, 2, 300⟩]] 1 _ (fact_bat w) (by decide)
    refine h.mono ?_
    rintro e w' ⟨h1, h2⟩
    have hf : faultR [[⟨1, 2, 300⟩]] = 0 := by decide
    have hbb := hb.trans (h1.mono hb.size)
    rcases h2 with ⟨h2, _⟩ | ⟨_, a1, c1, rfl, h3⟩
    · exact absurd hf h2
    · rw [fact_rec] at h3 ⊢
      have hl : ([1, 1, 2, 172, 2] ++ low 4 (crcOf [1, 1, 2, 172, 2])).length = 9 := by rw [List.length_append, low_len]; rfl
      rcases h3.lies with h4 | ⟨b, off, rfl, hc⟩
      · rw [h4] at hl; simp at hl
      have hoff : off = 0 := by
        rcases h3.parts with ⟨e, _⟩ | ⟨g, cur, e, _⟩
        · cases e
        · cases e; rfl
      subst hoff
      refine ⟨hbb, b, c1, by rw [hl], ?_, ?_, ?_⟩
      · have := hc 0 (by omega); simpa using this
      · have := hc 3 (by omega); simpa using this
      · have := hc 4 (by omega); simpa using this
  clear hb
  go_enter Tryd.func15, Tryd.ntmps15
  go_wp2_with fail
  refine HW.out.mono ?_
  rintro e w1 ⟨b1, g, c, rfl, k0, k3, k4⟩
  go_wp2
  go_ret
  exact ⟨rfl, b1⟩
set_option maxRecDepth 20000 in
theorem pick_any (c : Int) (n : Nat) (w : World) (h1 : 1 ≤ n) (h2 : n ≤ 1073741824) (hc : -9223372036854775808 ≤ c ∧ c ≤ 9223372036854775807) :
    Calls Tryd.prog 16 #[.int .i64 c, .int .i64 n] w fun e w' => (∃ k : Nat, k < n ∧ e = .returned (.int .i64 (k : Nat))) ∧ w' = w := by
  have hn0 : ¬ ((n : Int) = 0) := by omega
  by_cases h0 : 0 ≤ c
  · obtain ⟨m, rfl⟩ := Int.eq_ofNat_of_zero_le h0
    have HK : Hid (m % n < n) := Nat.mod_lt _ h1
    go_enter Tryd.func16, Tryd.ntmps16
    go_wp2
    go_ret
    exact ⟨⟨m % n, HK.out, by go_num⟩, rfl⟩
  · obtain ⟨m, hm⟩ := Int.eq_ofNat_of_zero_le (show 0 ≤ -(c + 1) by omega)
    have hc' : c = -((m : Int) + 1) := by omega
    subst hc'
    have HK : Hid (m % n < n) := Nat.mod_lt _ h1
    have hneg : -((m : Int) + 1) < 0 := by omega
    clear hm h0
    go_enter Tryd.func16, Tryd.ntmps16
    go_wp2
    go_ret
    refine ⟨⟨m % n, HK.out, ret_int ?_⟩, rfl⟩
    rw [show -((m : Int) + 1) + 1 = -(m : Int) by omega, Int.neg_tmod, Int.neg_neg, Int.tmod_eq_emod_of_nonneg (by omega)]
    simp
end Go.Proofs.YtalmcjkaheofpaeDoor
