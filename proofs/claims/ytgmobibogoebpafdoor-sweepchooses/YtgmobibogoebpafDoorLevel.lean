/-
  What the call of sweep.Level gives: a block that was worn too little; what is wrong.
-/
import Derived.Test.YtgmobibogoebpafDoorCheck
namespace Go.Proofs.YtgmobibogoebpafDoor
open Go.RowKit
set_option linter.unusedVariables false

/-- What Level tells. -/
def LevelPost (e : Ending) (l : List Bl) (gap : Int) : Prop :=
  (∃ f, f = faultF l 4096 (decide (gap < 0)) ∧ f ≠ 0 ∧ e = .returned (.tuple #[.int .i64 0, errI f])) ∨ (faultF l 4096 (decide (gap < 0)) = 0 ∧ (∀ i, ¬ IsLev l gap i) ∧ e = .returned (.tuple #[.int .i64 0, errI 4])) ∨ ∃ k : Nat, faultF l 4096 (decide (gap < 0)) = 0 ∧ IsLev l gap k ∧ e = .returned (.tuple #[.int .i64 (k : Int), .nilIface])
theorem TopN.gt {l : List Bl} {n : Nat} {m we : Int} (h : TopN l n m) (hw : (gB l n).wear = we) (hm : m < we) : TopN l (n + 1) we := by
  have := h.step
  rw [hw] at this
  rwa [show max m we = we by omega] at this
theorem TopN.ng {l : List Bl} {n : Nat} {m we : Int} (h : TopN l n m) (hw : (gB l n).wear = we) (hm : ¬ m < we) : TopN l (n + 1) m := by
  have := h.step
  rw [hw] at this
  rwa [show max m we = m by omega] at this
theorem TopN.le {l : List Bl} {n : Nat} {m p : Int} (h : TopN l n m) (hg : allG l p) (hn : n ≤ l.length) : 0 ≤ m ∧ m ≤ 1000000000 := by
  refine ⟨h.1, ?_⟩
  rcases h.2.2 with e | ⟨j, hj, e⟩
  · omega
  · have := (hg j (by omega)).2.2.2
    omega
/-- Where the search stands. -/
structure LS (w wr : World) (l : List Bl) (k : Nat) (lo m : Int) : Prop where
  low : LowN l k lo
  top : TopN l k m
  bel : Below w.heap.size w wr
theorem LowN.cases {l : List Bl} {n : Nat} {k : Int} (h : LowN l n k) : k = -1 ∨ ∃ i : Nat, k = i ∧ i < n := by
  rcases h with ⟨e, _⟩ | ⟨i, e, h, _⟩
  · exact Or.inl e
  · exact Or.inr ⟨i, e, h⟩
set_option maxRecDepth 20000 in
set_option maxHeartbeats 4000000 in
theorem level_some (g off cap : Nat) (l : List Bl) (gap : Int) (w : World) (h64 : l.length ≤ 64) (h0 : 0 < l.length) (hgap : 0 ≤ gap) (hG : allG l 4096) (hat : ∀ i, i < l.length → BlAt w g off i (gB l i))
    (hC : Calls Tryd.prog 35 #[.slice (some ⟨g, off, none⟩) l.length cap, .int .i64 4096, .int .i64 gap] w fun e w' => e = .returned .nilIface ∧ Below w.heap.size w w') :
    Calls Tryd.prog 24 #[.slice (some ⟨g, off, none⟩) l.length cap, .int .i64 gap] w fun e w' => (((∀ i, ¬ IsLev l gap i) ∧ e = .returned (.tuple #[.int .i64 0, errI 4])) ∨ ∃ k : Nat, IsLev l gap k ∧ e = .returned (.tuple #[.int .i64 (k : Int), .nilIface])) ∧ Below w.heap.size w w' := by
  rw [errI_ne (by decide)]
  have HG : Hid (g < w.heap.size) := (hat 0 h0).lt
  have HA : Hid (∀ wr, Below w.heap.size w wr → ∀ i, i < l.length → BlAt wr g off i (gB l i)) := fun wr hb i hi => (hat i hi).keep (S := fun _ => False) (Keep.of_below hb) (fun e => e)
  have HAll : Hid (allG l 4096) := hG
  clear hat hG h0
  go_enter Tryd.func24, Tryd.ntmps24
  go_wp2_with fail
  refine hC.mono ?_
  rintro e w1 ⟨rfl, hb1⟩
  have HB1 : Hid (Below w.heap.size w w1) := hb1
  clear hb1 hC
  go_wp2
  go_loopw [7, 8, 19] (fun s7 s8 j wr => ∃ (k : Nat) (lo m : Int), k ≤ l.length ∧ j = .int .i64 k ∧ s7 = .int .i64 lo ∧ s8 = .int .i64 m ∧ Hid (LS w wr l k lo m)) (fun _ _ j _ => l.length - (intOf j).toNat)
  case atStart => exact ⟨0, -1, 0, Nat.zero_le _, rfl, rfl, rfl, LowN.zero l, TopN.zero l, HB1.out⟩
  case round =>
    obtain ⟨k, lo, m, hk, rfl, rfl, rfl, hR⟩ := hrel
    clear HB1
    by_cases hlt : k < l.length
    · obtain ⟨c0, c1, c2⟩ := HA.out wr hR.out.bel k hlt
      have HB : Hid (Below w.heap.size w (wr.alloc (.cells #[.bool (gB l k).used, .int .i64 (gB l k).live, .int .i64 (gB l k).wear] 88))) := hR.out.bel.trans ((Below.refl _ _).alloc hR.out.bel.size _)
      have HX : Hid (∀ wz lo' m', LowN l (k + 1) lo' → TopN l (k + 1) m' → Below w.heap.size w wz → LS w wz l (k + 1) lo' m') := fun wz lo' m' a b c => ⟨a, b, c⟩
      have HT1 : Hid (∀ we, (gB l k).wear = we → m < we → TopN l (k + 1) we) := fun we h1 h2 => hR.out.top.gt h1 h2
      have HT2 : Hid (∀ we, (gB l k).wear = we → ¬ m < we → TopN l (k + 1) m) := fun we h1 h2 => hR.out.top.ng h1 h2
      have HL1 : Hid ((gB l k).used = false → LowN l (k + 1) lo) := fun h => hR.out.low.skip h
      have HL2 : Hid ((gB l k).used = true → (lo < 0 ∨ (gB l k).wear < (gB l lo.toNat).wear) → LowN l (k + 1) (k : Int)) := fun h h2 => hR.out.low.turn h h2
      have HL3 : Hid (∀ i : Nat, lo = i → (gB l i).wear ≤ (gB l k).wear → LowN l (k + 1) (i : Int)) := fun i h1 h2 => (h1 ▸ hR.out.low).stay h2
      have HI : Hid (∀ i : Nat, lo = i → i < k ∧ BlAt wr g off i (gB l i) ∧ g < wr.heap.size) := fun i h1 => by
        rcases hR.out.low.cases with e | ⟨i', e, h⟩
        · omega
        · obtain rfl : i = i' := by omega
          exact ⟨h, HA.out wr hR.out.bel i (by omega), Nat.lt_of_lt_of_le HG.out hR.out.bel.size⟩
      have hcs := hR.out.low.cases
      clear hR
      generalize hU : (gB l k).used = u at *
      generalize hLi : (gB l k).live = li at *
      generalize hWe : (gB l k).wear = we at *
      clear hLi hU hWe
      cases u with
      | false =>
        by_cases hm : m < we
        · go_wp2
          go_quiet (fail)
          go_wp2
          exact ⟨⟨k + 1, lo, we, by omega, by go_num, rfl, rfl, HX.out _ _ _ (HL1.out (by simp)) (HT1.out we rfl hm) (below_drewN HB.out _)⟩, by simp [intOf]; omega⟩
        · go_wp2
          go_quiet (fail)
          go_wp2
          exact ⟨⟨k + 1, lo, m, by omega, by go_num, rfl, rfl, HX.out _ _ _ (HL1.out (by simp)) (HT2.out we rfl hm) (below_drewN HB.out _)⟩, by simp [intOf]; omega⟩
      | true =>
        rcases hcs with rfl | ⟨i, rfl, hi⟩
        · by_cases hm : m < we
          · go_wp2
            go_quiet (fail)
            go_wp2
            exact ⟨⟨k + 1, (k : Int), we, by omega, by go_num, rfl, rfl, HX.out _ _ _ (HL2.out (by simp) (Or.inl (by omega))) (HT1.out we rfl hm) (below_drewN HB.out _)⟩, by simp [intOf]; omega⟩
          · go_wp2
            go_quiet (fail)
            go_wp2
            exact ⟨⟨k + 1, (k : Int), m, by omega, by go_num, rfl, rfl, HX.out _ _ _ (HL2.out (by simp) (Or.inl (by omega))) (HT2.out we rfl hm) (below_drewN HB.out _)⟩, by simp [intOf]; omega⟩
        · obtain ⟨_, ⟨_, _, d2⟩, hgl⟩ := HI.out i rfl
          have hne1 : ¬ g = wr.heap.size := by omega
          have hne2 : ¬ wr.heap.size = g := by omega
          have i0 : (0 : Int) ≤ (i : Int) := by omega
          have i1 : (i : Int) < (l.length : Int) := by omega
          have in0 : ¬ (i : Int) < 0 := by omega
          have in1 : decide ((i : Int) < 0) = false := decide_eq_false in0
          rw [Int.toNat_natCast] at HL2
          by_cases hw : we < (gB l i).wear
          · by_cases hm : m < we
            · go_wp2
              go_quiet (fail)
              go_wp2
              exact ⟨⟨k + 1, (k : Int), we, by omega, by go_num, rfl, rfl, HX.out _ _ _ (HL2.out (by simp) (Or.inr hw)) (HT1.out we rfl hm) (below_drewN HB.out _)⟩, by simp [intOf]; omega⟩
            · go_wp2
              go_quiet (fail)
              go_wp2
              exact ⟨⟨k + 1, (k : Int), m, by omega, by go_num, rfl, rfl, HX.out _ _ _ (HL2.out (by simp) (Or.inr hw)) (HT2.out we rfl hm) (below_drewN HB.out _)⟩, by simp [intOf]; omega⟩
          · by_cases hm : m < we
            · go_wp2
              go_quiet (fail)
              go_wp2
              exact ⟨⟨k + 1, (i : Int), we, by omega, by go_num, rfl, rfl, HX.out _ _ _ (HL3.out i rfl (by omega)) (HT1.out we rfl hm) (below_drewN HB.out _)⟩, by simp [intOf]; omega⟩
            · go_wp2
              go_quiet (fail)
              go_wp2
              exact ⟨⟨k + 1, (i : Int), m, by omega, by go_num, rfl, rfl, HX.out _ _ _ (HL3.out i rfl (by omega)) (HT2.out we rfl hm) (below_drewN HB.out _)⟩, by simp [intOf]; omega⟩
    · obtain rfl : k = l.length := by omega
      clear hlt
      have hcs := hR.out.low.cases
      rcases hcs with rfl | ⟨i, rfl, hi⟩
      · go_wp2
        go_ret2
        exact ⟨Or.inl ⟨hR.out.low.not hR.out.top (Or.inl (by omega)), rfl⟩, hR.out.bel⟩
      · obtain ⟨_, _, d2⟩ := HA.out wr hR.out.bel i hi
        have HT := hR.out.top.le HAll.out (Nat.le_refl _)
        have HW := (HAll.out i hi).2.2
        have H1 : Hid (∀ q, q = (gB l i).wear → gap < m - q → IsLev l gap i) := fun q h1 h2 => hR.out.low.lev hR.out.top HW.1 hgap (h1 ▸ h2)
        have H2 : Hid (∀ q, q = (gB l i).wear → ¬ gap < m - q → ∀ j, ¬ IsLev l gap j) := fun q h1 h2 => hR.out.low.not hR.out.top (Or.inr (by rw [Int.toNat_natCast]; omega))
        have HB : Hid (Below w.heap.size w wr) := hR.out.bel
        have i0 : (0 : Int) ≤ (i : Int) := by omega
        have i1 : (i : Int) < (l.length : Int) := by omega
        have in0 : ¬ (i : Int) < 0 := by omega
        clear hR
        generalize hq : (gB l i).wear = q at *
        clear hq
        obtain ⟨b0, b1⟩ := HT
        obtain ⟨b2, b3⟩ := HW
        by_cases hd : m - q ≤ gap
        · go_wp2
          go_ret2
          exact ⟨Or.inl ⟨H2.out q rfl (by omega), rfl⟩, HB.out⟩
        · go_wp2
          go_ret2
          exact ⟨Or.inr ⟨i, H1.out q rfl (by omega), rfl⟩, HB.out⟩
set_option maxHeartbeats 1600000 in
theorem level_none (a : Option Addr) (cap : Nat) (gap : Int) (w : World)
    (hC : Calls Tryd.prog 35 #[.slice a 0 cap, .int .i64 4096, .int .i64 gap] w fun e w' => e = .returned .nilIface ∧ Below w.heap.size w w') :
    Calls Tryd.prog 24 #[.slice a 0 cap, .int .i64 gap] w fun e w' => e = .returned (.tuple #[.int .i64 0, errI 4]) ∧ Below w.heap.size w w' := by
  rw [errI_ne (by decide)]
  go_enter Tryd.func24, Tryd.ntmps24
  go_wp2_with fail
  refine hC.mono ?_
  rintro e w1 ⟨rfl, hb1⟩
  have HB1 : Hid (Below w.heap.size w w1) := hb1
  clear hb1 hC
  go_wp2
  go_loopw [7, 8, 19] (fun s7 s8 j wr => s7 = .int .i64 (-1) ∧ s8 = .int .i64 0 ∧ j = .int .i64 0 ∧ wr = w1) (fun _ _ _ _ => 0)
  case atStart => exact ⟨rfl, rfl, rfl, rfl⟩
  case round =>
    obtain ⟨rfl, rfl, rfl, rfl⟩ := hrel
    go_wp2
    go_ret2
    exact ⟨rfl, HB1.out⟩
set_option maxHeartbeats 1600000 in
theorem level_fault (a : Option Addr) (n cap f : Nat) (gap : Int) (w : World) (h0 : f ≠ 0)
    (hC : Calls Tryd.prog 35 #[.slice a n cap, .int .i64 4096, .int .i64 gap] w fun e w' => e = .returned (errI f) ∧ Below w.heap.size w w') :
    Calls Tryd.prog 24 #[.slice a n cap, .int .i64 gap] w fun e w' => e = .returned (.tuple #[.int .i64 0, errI f]) ∧ Below w.heap.size w w' := by
  rw [errI_ne h0] at hC ⊢
  go_enter Tryd.func24, Tryd.ntmps24
  go_wp2_with fail
  refine hC.mono ?_
  rintro e w1 ⟨rfl, hb1⟩
  have HB1 : Hid (Below w.heap.size w w1) := hb1
  clear hb1 hC
  go_wp2
  go_ret2
  exact ⟨rfl, HB1.out⟩
theorem level_any (a : Option Addr) (cap : Nat) (l : List Bl) (gap : Int) (w : World) (hB : BL w a l) :
    Calls Tryd.prog 24 #[.slice a l.length cap, .int .i64 gap] w fun e w' => LevelPost e l gap ∧ Below w.heap.size w w' := by
  have hC := check_any a cap l 4096 gap w hB
  by_cases h0 : faultF l 4096 (decide (gap < 0)) = 0
  · obtain ⟨h64, _, _, hgap, hG⟩ := fault_zero h0
    rw [h0, errI_zero] at hC
    have hgap' : 0 ≤ gap := by
      have := of_decide_eq_false hgap
      omega
    have none : ∀ (a : Option Addr), Calls Tryd.prog 35 #[.slice a ([] : List Bl).length cap, .int .i64 4096, .int .i64 gap] w (fun e w' => e = .returned .nilIface ∧ Below w.heap.size w w') → l = [] → Calls Tryd.prog 24 #[.slice a ([] : List Bl).length cap, .int .i64 gap] w fun e w' => LevelPost e l gap ∧ Below w.heap.size w w' := fun a h e => by
      subst e
      exact (level_none a cap gap w h).mono fun e w' ⟨e1, e2⟩ => ⟨Or.inr (Or.inl ⟨h0, fun i hi => absurd hi.1.1 (Nat.not_lt_zero _), e1⟩), e2⟩
    rcases hB with rfl | ⟨g, off, rfl, hat⟩
    · exact none a hC rfl
    · by_cases hl : 0 < l.length
      · refine (level_some g off cap l gap w h64 hl hgap' hG hat hC).mono ?_
        rintro e w' ⟨⟨h1, h2⟩ | ⟨k, h1, h2⟩, h3⟩
        · exact ⟨Or.inr (Or.inl ⟨h0, h1, h2⟩), h3⟩
        · exact ⟨Or.inr (Or.inr ⟨k, h0, h1, h2⟩), h3⟩
      · obtain rfl : l = [] := List.length_eq_zero_iff.1 (by omega)
        exact none _ hC rfl
  · exact (level_fault a l.length cap _ gap w h0 hC).mono fun e w' ⟨e1, e2⟩ => ⟨Or.inl ⟨_, rfl, h0, e1⟩, e2⟩
end Go.Proofs.YtgmobibogoebpafDoor
