/-
  What the call of order.Find gives.
-/
import Derived.Test.YtohngekkbgklfaaGoOn
import Derived.Test.YtohngekkbgklfaaCheck
namespace Go.Proofs.Ytohngekkbgklfaa
open Go.RowKit
set_option linter.unusedVariables false

theorem check_any (a : Option Addr) (n cap : Nat) (l : List Cl) (w : World) (hl : l.length = n) (h : CL w a l) :
    Calls Try.prog 8 #[.slice a n cap] w fun e w' => e = .returned (errI (faultF l)) ∧ Below w.heap.size w w' := by
  subst hl
  by_cases h10 : 10 < l.length
  · have e : faultF l = 3 := if_pos h10
    rw [e]
    exact (check_full a l.length cap w h10).mono fun e w' ⟨h1, h2⟩ => ⟨h1, h2 ▸ Below.refl _ _⟩
  · rcases h with rfl | ⟨g, off, rfl, hat⟩
    · exact (check_none a cap w).mono fun e w' ⟨h1, h2⟩ => ⟨h1, h2 ▸ Below.refl _ _⟩
    · exact check_some g off cap l w (by omega) hat
/-- What Find answers, as values: the order lies in a row of the call's own. -/
def FindPost (l : List Cl) (w : World) (e : Ending) (w' : World) : Prop :=
  (∃ x, x ≠ 0 ∧ (findL l) = (x, []) ∧ e = .returned (.tuple #[.slice none 0 0, errI x])) ∧ Below w.heap.size w w' ∨
  (∃ r oa oc, (findL l) = (0, r) ∧ faultF l = 0 ∧ srch l l.length st0 = some r ∧ e = .returned (.tuple #[.slice oa r.length oc, .nilIface]) ∧ OwnI w' w.heap.size oa oc (orI r)) ∧ Below w.heap.size w w'
set_option maxRecDepth 20000 in
set_option maxHeartbeats 3200000 in
theorem find_any (a : Option Addr) (n cap : Nat) (l : List Cl) (w : World) (hl : l.length = n) (h : CL w a l) (hv : ∀ i, i < n → (gC l i).v ≤ 9223372036854775807) :
    Calls Try.prog 5 #[.slice a n cap] w (FindPost l w) := by
  have HC := check_any a n cap l w hl h
  by_cases hf : faultF l = 0
  · rw [hf, errI_zero] at HC
    obtain ⟨h10, hbad⟩ := faultF_zero hf
    have HH : Hid (CL w a l ∧ l.length = n ∧ n ≤ 10 ∧ (∀ i, i < n → 0 ≤ (gC l i).v ∧ (gC l i).v ≤ 9223372036854775807) ∧ faultF l = 0) := ⟨h, hl, by omega, fun i hi => ⟨(badC_zero (hbad i (by omega))).2.2.2.1, hv i hi⟩, hf⟩
    have HC' : Hid (Calls Try.prog 8 #[.slice a n cap] w fun e w' => e = .returned .nilIface ∧ Below w.heap.size w w') := HC
    clear HC hf h10 hbad h hl hv
    go_enter Try.func5, Try.ntmps5
    go_wp2_with fail
    refine HC'.out.mono ?_
    rintro e w1 ⟨rfl, hb1⟩
    have HB1 : Hid (Below w.heap.size w w1) := hb1
    have HN : Hid (Calls Try.prog 9 #[.slice a n cap] w1 fun e w' => ∃ ba bc ha hc, e = .returned (.pointer (some ⟨w1.heap.size + 1, 0, none⟩)) ∧ NS w' (w1.heap.size + 2) (w1.heap.size + 1) w1.heap.size a n cap l ba bc n ha hc n ∧ Below w1.heap.size w1 w') := new_any a n cap l w1 HH.out.2.1 HH.out.2.2.1 (HH.out.1.below hb1)
    clear hb1 HC'
    go_wp2_with fail
    refine HN.out.mono ?_
    rintro e w2 ⟨ba, bc, ha, hc, rfl, hN, hb2⟩
    have HB2 : Hid (Below w1.heap.size w1 w2) := hb2
    have HS : Hid (SR w2 (w1.heap.size + 2) w2.heap.size (w1.heap.size + 1) w1.heap.size a n cap l ba bc ha hc none 0 [] 0 (.map [])) :=
      ⟨hN.st, hN.cl, hN.len, hN.lo, ⟨by omega, by omega, hN.sz⟩, by omega, Nat.le_refl _, hN.bl, hN.hd, fun b hb => (hN.bl.blk hb).2, fun b hb => (hN.hd.blk hb).2, OwnI.nil _ _, hN.mp⟩
    have HG : Hid (Calls Try.prog 10 #[.pointer (some ⟨w1.heap.size + 1, 0, none⟩), .agg #[.int .i64 0, .int .i64 0, .int .i64 0, .int .i64 0, .int .i64 0, .int .i64 0, .int .i64 0, .int .i64 0, .int .i64 0, .int .i64 0, .int .i64 0]] w2 (GoPost l n (w1.heap.size + 2) w2.heap.size (w1.heap.size + 1) w1.heap.size a cap ba bc ha hc n none [] 0 st0 w2)) :=
      go_any l n (w1.heap.size + 2) w2.heap.size (w1.heap.size + 1) w1.heap.size a cap ba bc ha hc HH.out.2.2.1 HH.out.2.2.2.1 n none 0 [] 0 (.map []) st0 w2 HS.out (by simp) (by rw [show st0.s = 0 from rfl, cnt_zero]; omega) GS.zero (DD.none l n) (by
        have : 11 ^ n ≤ 11 ^ 10 := Nat.pow_le_pow_right (by omega) HH.out.2.2.1
        omega)
    clear hN hb2 HN
    go_wp2_with fail
    refine HG.out.mono ?_
    intro e w3 hp
    have hkeep : ∀ {w3}, Keep (TS (w1.heap.size + 1) w1.heap.size none) w2 w3 → Below w.heap.size w w3 := fun hk => by
      have h1 := HB1.out.size
      have h2 := HB2.out.size
      refine (HB1.out.trans (HB2.out.mono h1)).trans (hk.below (by omega) (fun b e => ?_))
      rcases e with e | e | ⟨x, e, _⟩
      · omega
      · omega
      · cases e
    rcases hp with ⟨r, oa2, oc2, m2, D2, hsr, rfl, hS2, hK2⟩ | ⟨oa2, oc2, m2, D2, hsr, rfl, hS2, hD2, hm2, hK2, hloc2⟩
    · have hl := HH.out.2.1
      have HF : Hid (∀ v, v = Value.tuple #[.slice oa2 r.length oc2, .nilIface] → FindPost l w (.returned v) w3) := by
        rintro v rfl
        refine Or.inr ⟨⟨r, oa2, oc2, ?_, HH.out.2.2.2.2, by rw [hl]; exact hsr, rfl, ?_⟩, hkeep hK2⟩
        · unfold findL
          rw [if_pos HH.out.2.2.2.2, hl, hsr]
        · refine ⟨by simp [orI], ?_⟩
          have h1 := HB1.out.size
          have h2 := HB2.out.size
          rcases hS2.od.2 with h | ⟨g, cap', cur, hv, r1, r2⟩
          · exact Or.inl h
          · exact Or.inr ⟨g, cap', cur, hv, by omega, r2⟩
      have g4 : w3.cell? ⟨w1.heap.size + 1, 4, none⟩ = some (.slice oa2 r.length oc2) := hS2.st.cell 4
      clear hS2 hK2 hsr hkeep hl HG HS HB1 HB2
      go_wp2
      go_ret2
      exact HF.out _ rfl
    · have hl := HH.out.2.1
      have HF : Hid (∀ v, v = Value.tuple #[.slice none 0 0, .iface 40 (.int .i64 4)] → FindPost l w (.returned v) w3) := by
        rintro v rfl
        refine Or.inl ⟨⟨4, by omega, ?_, rfl⟩, hkeep hK2⟩
        unfold findL
        rw [if_pos HH.out.2.2.2.2, hl, hsr]
      clear hS2 hK2 hsr hkeep hl HG HS HB1 HB2 hD2 hm2 hloc2
      go_wp2
      go_ret2
      exact HF.out _ rfl
  · rw [errI_ne hf] at HC
    have HF : Hid (∀ w', Below w.heap.size w w' → ∀ v, v = Value.tuple #[.slice none 0 0, .iface 40 (.int .i64 (faultF l : Nat))] → FindPost l w (.returned v) w') := by
      rintro w' hb v rfl
      refine Or.inl ⟨⟨faultF l, hf, ?_, by rw [errI_ne hf]⟩, hb⟩
      unfold findL
      rw [if_neg hf]
    have HC' : Hid (Calls Try.prog 8 #[.slice a n cap] w fun e w' => e = .returned (.iface 40 (.int .i64 (faultF l : Nat))) ∧ Below w.heap.size w w') := HC
    clear HC hf h hl hv
    generalize faultF l = x at *
    go_enter Try.func5, Try.ntmps5
    go_wp2_with fail
    refine HC'.out.mono ?_
    rintro e w1 ⟨rfl, hb1⟩
    have HF' := HF.out w1 hb1
    clear HC' HF hb1
    go_wp2
    go_ret2
    exact HF' _ rfl
end Go.Proofs.Ytohngekkbgklfaa
