/-
  What the calls of the document's Take and Put give: what the plain functions takeF and putF say.
-/
import Derived.Test.YtebnjoammfidnacDoorRef
namespace Go.Proofs.YtebnjoammfidnacDoor
open Go.RowKit
set_option linter.unusedVariables false

def bestI : Option Nat → Int
  | none => -1
  | some b => b
theorem bestI_none : bestI none = -1 := rfl
theorem bestI_some (b : Nat) : bestI (some b) = (b : Int) := rfl
theorem best_step (s : St) (k : Nat) : bestK s (k + 1) = match bestK s k with | none => if s.st k = 0 then some k else none | some b => if s.st k = 0 ∧ s.wn k < s.wn b then some k else some b := rfl
set_option maxRecDepth 100000 in
set_option maxHeartbeats 4000000 in
theorem rtake_any {n sp : Nat} {w : World} {rb sb wb : Nat} {s : St} (h : RA n sp w rb sb wb s) :
    Calls Tryd.prog 8 #[.pointer (some ⟨rb, 0, none⟩)] w fun e w' => e = .returned (.tuple #[.int .i64 ((takeF n sp s).1.1 : Nat), .int .i64 ((takeF n sp s).1.2 : Nat)]) ∧ RA n sp w' rb sb wb (takeF n sp s).2 ∧ Keep (fun b => b = sb) w w' := by
  have HR : Hid (RA n sp w rb sb wb s) := h
  have HL := rlat_any h
  by_cases h1 : sp < cnt s.st 2 n
  · have HT : Hid (takeF n sp s = ((0, 9), s)) := by show takeF n sp s = _; unfold takeF; rw [if_pos h1]
    rw [lat_yes h1] at HL
    have HL2 : Hid (Calls Tryd.prog 16 #[.pointer (some ⟨rb, 0, none⟩)] w fun e w' => e = .returned (.bool true) ∧ w' = w) := HL
    clear HL h h1
    go_enter Tryd.func8, Tryd.ntmps8
    go_wp2_with fail
    refine HL2.out.mono ?_
    rintro e w1 ⟨rfl, rfl⟩
    go_wp2
    go_ret2
    rw [HT.out]
    exact ⟨rfl, HR.out, Keep.refl _ _⟩
  have HT : Hid (∀ q, bestK s n = q → takeF n sp s = match q with | none => ((0, 4), s) | some b => ((b, 0), { s with st := upd s.st b 1 })) := by
    intro q hq
    unfold takeF
    rw [if_neg h1, hq]
    cases q <;> rfl
  rw [lat_no h1] at HL
  have HL2 : Hid (Calls Tryd.prog 16 #[.pointer (some ⟨rb, 0, none⟩)] w fun e w' => e = .returned (.bool false) ∧ w' = w) := HL
  have c1 := h.c1
  have hn2 := h.n2
  clear HL h h1
  go_enter Tryd.func8, Tryd.ntmps8
  go_wp2_with fail
  refine HL2.out.mono ?_
  rintro e w1 ⟨rfl, rfl⟩
  clear HL2
  go_wp2
  go_loopw [5, 6] (fun a j wr => ∃ k : Nat, k ≤ n ∧ j = .int .i64 k ∧ a = .int .i64 (bestI (bestK s k)) ∧ Below w1.heap.size w1 wr) (fun _ j _ => n - (intOf j).toNat)
  case atStart => exact ⟨0, Nat.zero_le _, rfl, rfl, Below.refl _ _⟩
  case round =>
    obtain ⟨k, hk, rfl, rfl, hbr⟩ := hrel
    have HRR : Hid (RA n sp wr rb sb wb s) := HR.out.below hbr
    have c1' := HRR.out.c1
    have c2' := HRR.out.c2
    clear c1
    by_cases hlt : k < n
    · have q1 := HRR.out.r1 k hlt
      have q2 := HRR.out.r2 k hlt
      have HST := best_step s k
      by_cases h0 : s.st k = 0
      · rw [h0] at q1
        cases hb : bestK s k with
        | none =>
          rw [hb] at HST
          simp only [h0, if_true] at HST
          have HS2 : Hid (bestI (bestK s (k + 1)) = (k : Int)) := by show bestI (bestK s (k + 1)) = _; rw [HST]; rfl
          clear HST hb h0
          rw [bestI_none]
          generalize s.wn k = X at *
          go_wp2
          go_quiet (fail)
          go_wp2
          exact ⟨⟨k + 1, by omega, by go_num, by rw [HS2.out], below_drewN hbr _⟩, by simp [intOf]; omega⟩
        | some b =>
          obtain ⟨hbk, _, _⟩ := best_some s k b hb
          have q3 := HRR.out.r2 b (by omega)
          rw [hb] at HST
          have u1 : ¬ ((b : Int) < 0) := by omega
          have hbn : b < n := by omega
          by_cases hlw : s.wn k < s.wn b
          · simp only [h0, hlw, and_self, if_true] at HST
            have HS2 : Hid (bestI (bestK s (k + 1)) = (k : Int)) := by show bestI (bestK s (k + 1)) = _; rw [HST]; rfl
            have u2 : (s.wn k : Int) < (s.wn b : Int) := by omega
            clear HST hb h0 hlw
            rw [bestI_some]
            generalize s.wn k = X at *
            generalize s.wn b = Y at *
            go_wp2
            go_quiet (fail)
            go_wp2
            exact ⟨⟨k + 1, by omega, by go_num, by rw [HS2.out], below_drewN hbr _⟩, by simp [intOf]; omega⟩
          · simp only [h0, hlw, and_false, if_false] at HST
            have HS2 : Hid (bestI (bestK s (k + 1)) = (b : Int)) := by show bestI (bestK s (k + 1)) = _; rw [HST]; rfl
            have u2 : ¬ ((s.wn k : Int) < (s.wn b : Int)) := by omega
            clear HST hb h0 hlw
            rw [bestI_some]
            generalize s.wn k = X at *
            generalize s.wn b = Y at *
            go_wp2
            go_quiet (fail)
            go_wp2
            exact ⟨⟨k + 1, by omega, by go_num, by rw [HS2.out], below_drewN hbr _⟩, by simp [intOf]; omega⟩
      · have HS2 : Hid (bestI (bestK s (k + 1)) = bestI (bestK s k)) := by
          show bestI (bestK s (k + 1)) = _
          rw [HST]
          cases bestK s k with
          | none => simp [h0]
          | some b => simp [h0]
        have u0 : ((s.st k : Int) == 0) = false := by rw [beq_eq_false_iff_ne]; omega
        clear HST h0
        generalize bestI (bestK s k) = Z at *
        generalize s.wn k = X at *
        generalize s.st k = Y at *
        go_wp2
        go_quiet (fail)
        go_wp2
        exact ⟨⟨k + 1, by omega, by go_num, by rw [HS2.out], below_drewN hbr _⟩, by simp [intOf]; omega⟩
    · obtain rfl : k = n := by omega
      cases hb : bestK s k with
      | none =>
        have HF : Hid (RA k sp wr rb sb wb s ∧ Keep (fun b => b = sb) w1 wr) := ⟨HRR.out, Keep.of_below hbr⟩
        have HTK : Hid (takeF k sp s = ((0, 4), s)) := HT.out none hb
        clear hb HT
        rw [bestI_none]
        go_wp2
        go_ret2
        rw [HTK.out]
        exact ⟨rfl, HF.out⟩
      | some b =>
        obtain ⟨hbk, _, _⟩ := best_some s k b hb
        have q1 := HRR.out.r1 b hbk
        have f1 := HRR.out.fs b
        have HF : Hid (RA k sp (wr.setCell ⟨sb, b, none⟩ (.int .i64 1)) rb sb wb { s with st := upd s.st b 1 } ∧ Keep (fun b => b = sb) w1 (wr.setCell ⟨sb, b, none⟩ (.int .i64 1))) := ⟨HRR.out.setSt b 1 hbk, Keep.set1 (Keep.of_below hbr) _ _⟩
        have u1 : ¬ ((b : Int) < 0) := by omega
        have HTK : Hid (takeF k sp s = ((b, 0), { s with st := upd s.st b 1 })) := HT.out (some b) hb
        clear hb HT
        rw [bestI_some]
        go_wp2
        go_ret2
        rw [HTK.out]
        exact ⟨rfl, HF.out⟩
set_option maxRecDepth 100000 in
set_option maxHeartbeats 4000000 in
theorem rput_no {n sp : Nat} {w : World} {rb sb wb : Nat} {s : St} (h : RA n sp w rb sb wb s) (b : Int) (v : Nat) (hE : useE n sp s b ≠ 0) :
    Calls Tryd.prog 10 #[.pointer (some ⟨rb, 0, none⟩), .int .i64 b, .int .i64 (v : Int)] w fun e w' => e = .returned (.int .i64 (useE n sp s b : Nat)) ∧ w' = w := by
  have HL := rlat_any h
  unfold useE at hE ⊢
  by_cases h1 : sp < cnt s.st 2 n
  · rw [if_pos h1]
    rw [lat_yes h1] at HL
    clear h h1 hE
    go_enter Tryd.func10, Tryd.ntmps10
    go_wp2_with fail
    refine HL.mono ?_
    rintro e w1 ⟨rfl, rfl⟩
    go_wp2
    go_ret
    exact ⟨rfl, rfl⟩
  rw [if_neg h1] at hE ⊢
  rw [lat_no h1] at HL
  have c1 := h.c1
  have hn2 := h.n2
  clear h1
  by_cases h2 : ¬ (0 ≤ b ∧ b < n)
  · rw [if_pos h2]
    by_cases h3 : b < 0
    · have t1 : decide (b < 0) = true := decide_eq_true h3
      clear h hE h2
      go_enter Tryd.func10, Tryd.ntmps10
      go_wp2_with fail
      refine HL.mono ?_
      rintro e w1 ⟨rfl, rfl⟩
      go_wp2
      go_ret
      exact ⟨rfl, rfl⟩
    · have t1 : decide (b < 0) = false := decide_eq_false h3
      have t2 : (n : Int) ≤ b := by omega
      clear h hE h2
      go_enter Tryd.func10, Tryd.ntmps10
      go_wp2_with fail
      refine HL.mono ?_
      rintro e w1 ⟨rfl, rfl⟩
      go_wp2
      go_ret
      exact ⟨rfl, rfl⟩
  rw [if_neg h2] at hE ⊢
  replace h2 := Classical.not_not.1 h2
  obtain ⟨k, rfl⟩ := Int.eq_ofNat_of_zero_le h2.1
  rw [Int.toNat_natCast] at hE ⊢
  have hk : k < n := by omega
  by_cases h3 : s.st k ≠ 1
  · rw [if_pos h3]
    have q1 := h.r1 k hk
    have t1 : ¬ ((k : Int) < 0) := by omega
    have t2 : ¬ ((n : Int) ≤ (k : Int)) := by omega
    have t3 : ((s.st k : Int) != 1) = true := by simp; omega
    clear h hE h2 h3
    generalize s.st k = X at *
    go_enter Tryd.func10, Tryd.ntmps10
    go_wp2_with fail
    refine HL.mono ?_
    rintro e w1 ⟨rfl, rfl⟩
    go_wp2
    go_ret
    exact ⟨rfl, rfl⟩
  · rw [if_neg h3] at hE
    exact absurd rfl hE
set_option maxRecDepth 100000 in
set_option maxHeartbeats 4000000 in
theorem rput_yes0 {n sp : Nat} {w : World} {rb sb wb : Nat} {s : St} (h : RA n sp w rb sb wb s) (k : Nat) (hk : k < n) (hl : ¬ sp < cnt s.st 2 n) (hs : s.st k = 1) (hw : s.wn k ≤ 9223372036854775806) :
    Calls Tryd.prog 10 #[.pointer (some ⟨rb, 0, none⟩), .int .i64 (k : Int), .int .i64 0] w fun e w' => e = .returned (.int .i64 0) ∧ RA n sp w' rb sb wb { st := upd s.st k 0, wn := upd s.wn k (s.wn k + 1) } ∧ Keep (RM rb sb wb) w w' := by
  have HL := rlat_any h
  rw [lat_no hl] at HL
  have c1 := h.c1
  have c2 := h.c2
  have hn2 := h.n2
  have q1 := h.r1 k hk
  rw [hs] at q1
  have q2 := h.r2 k hk
  have f1 := h.fs k
  have f2 := h.fw k
  have hn := h.n0
  have hA := (h.setSt k 0 hk).setWn k (s.wn k + 1) hk
  have HF : Hid (RA n sp ((w.setCell ⟨sb, k, none⟩ (.int .i64 0)).setCell ⟨wb, k, none⟩ (.int .i64 ((s.wn k : Int) + 1))) rb sb wb { st := upd s.st k 0, wn := upd s.wn k (s.wn k + 1) } ∧ Keep (RM rb sb wb) w ((w.setCell ⟨sb, k, none⟩ (.int .i64 0)).setCell ⟨wb, k, none⟩ (.int .i64 ((s.wn k : Int) + 1)))) :=
    ⟨hA, Keep.set (p := ⟨wb, k, none⟩) (Keep.set (p := ⟨sb, k, none⟩) (Keep.refl (RM rb sb wb) w) (Or.inr (Or.inl rfl)) _) (Or.inr (Or.inr rfl)) _⟩
  have t1 : ¬ ((k : Int) < 0) := by omega
  have t2 : ¬ ((n : Int) ≤ (k : Int)) := by omega
  obtain ⟨e1, e2, e3⟩ := hn
  clear h hl hs hA
  generalize s.wn k = X at *
  go_enter Tryd.func10, Tryd.ntmps10
  go_wp2_with fail
  refine HL.mono ?_
  rintro e w1 ⟨rfl, rfl⟩
  go_wp2
  go_ret
  exact ⟨rfl, HF.out⟩
set_option maxRecDepth 100000 in
set_option maxHeartbeats 4000000 in
theorem rput_yes2 {n sp : Nat} {w : World} {rb sb wb : Nat} {s : St} (h : RA n sp w rb sb wb s) (k : Nat) (hk : k < n) (hl : ¬ sp < cnt s.st 2 n) (hs : s.st k = 1) :
    Calls Tryd.prog 10 #[.pointer (some ⟨rb, 0, none⟩), .int .i64 (k : Int), .int .i64 2] w fun e w' => e = .returned (.int .i64 0) ∧ RA n sp w' rb sb wb { st := upd s.st k 2, wn := s.wn } ∧ Keep (RM rb sb wb) w w' := by
  have HL := rlat_any h
  rw [lat_no hl] at HL
  have c1 := h.c1
  have hn2 := h.n2
  have q1 := h.r1 k hk
  rw [hs] at q1
  have f1 := h.fs k
  have HF : Hid (RA n sp (w.setCell ⟨sb, k, none⟩ (.int .i64 2)) rb sb wb { st := upd s.st k 2, wn := s.wn } ∧ Keep (RM rb sb wb) w (w.setCell ⟨sb, k, none⟩ (.int .i64 2))) :=
    ⟨h.setSt k 2 hk, Keep.set (p := ⟨sb, k, none⟩) (Keep.refl (RM rb sb wb) w) (Or.inr (Or.inl rfl)) _⟩
  have t1 : ¬ ((k : Int) < 0) := by omega
  have t2 : ¬ ((n : Int) ≤ (k : Int)) := by omega
  clear h hl hs
  go_enter Tryd.func10, Tryd.ntmps10
  go_wp2_with fail
  refine HL.mono ?_
  rintro e w1 ⟨rfl, rfl⟩
  go_wp2
  go_ret
  exact ⟨rfl, HF.out⟩
theorem rput_any {n sp : Nat} {w : World} {rb sb wb : Nat} {s : St} (h : RA n sp w rb sb wb s) (b : Int) (v : Nat) (hv : v = 0 ∨ v = 2) (hw : ∀ k, s.wn k ≤ 9223372036854775806) :
    Calls Tryd.prog 10 #[.pointer (some ⟨rb, 0, none⟩), .int .i64 b, .int .i64 (v : Int)] w fun e w' => e = .returned (.int .i64 ((putF n sp s b v).1 : Nat)) ∧ RA n sp w' rb sb wb (putF n sp s b v).2 ∧ Keep (RM rb sb wb) w w' := by
  by_cases hE : useE n sp s b = 0
  · obtain ⟨k, rfl, hk, hl, hs, hp⟩ := putF_yes hE
    rw [hp v]
    rcases hv with rfl | rfl
    · exact rput_yes0 h k hk hl hs (hw k)
    · exact rput_yes2 h k hk hl hs
  · rw [putF_no hE]
    exact (rput_no h b v hE).mono fun e w' ⟨h1, h2⟩ => ⟨h1, by rw [h2]; exact h, by rw [h2]; exact Keep.refl _ _⟩
end Go.Proofs.YtebnjoammfidnacDoor
