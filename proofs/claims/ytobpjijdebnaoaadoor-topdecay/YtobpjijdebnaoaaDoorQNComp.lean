/- Part of the proof. -/
import Derived.Test.YtobpjijdebnaoaaDoorQ5
namespace Go.Proofs.YtobpjijdebnaoaaDoorQ
open Go.Proofs.YtobpjijdebnaoaaDoorM
open Go.RowKit Go.Sort
set_option linter.unusedVariables false
set_option maxRecDepth 100000 in
set_option maxHeartbeats 4000000 in
theorem compact_any : CompactIs := by
  intro M a cap base w hl hO
  by_cases hsm : M.length < 2
  · have HA : Hid (cpt M = M) := cpt_all (M := M) fun i hi => kp0 M hi (by omega)
    have HO : Hid (OwnF w base a cap M) := hO
    have hsm2 : (M.length : Int) < 2 := by omega
    clear hO
    go_enter Al.func30, Tryd.ntmps30
    go_wp2
    go_ret
    exact ⟨by rw [HA.out]; rfl, by rw [HA.out]; exact HO.out, Keep.refl _ _⟩
  · have hsm2 : ¬ (M.length : Int) < 2 := by omega
    rcases hO.parts with ⟨_, _, rfl⟩ | ⟨g, cur, rfl, h1, h2, h3, h4, h5, h6⟩
    · simp at hsm
    · have HO : Hid (OwnF w base (some ⟨g, 0, none⟩) cap M) := hO
      clear h6
      go_enter Al.func30, Tryd.ntmps30
      go_wp2
      go_loopw [5] (fun j wr => ∃ k m : Nat, k = m + 1 ∧ k ≤ M.length ∧ j = .int .i64 (k : Nat) ∧ Hid (CO w wr M k)) (fun j _ => M.length - (intOf j).toNat)
      case atStart => exact ⟨1, 0, rfl, by omega, rfl, CO.start w M⟩
      case round =>
        obtain ⟨k, m, hkm, hm, rfl, hC⟩ := hrel
        by_cases hlt : k < M.length
        · have k0 : (0 : Int) ≤ (k : Int) := by omega
          have k1 : (k : Int) < (M.length : Int) := by omega
          have hw1 : IntKind.i64.wrap ((k : Int) - 1) = (m : Int) := by rw [show (k : Int) - 1 = (m : Int) by omega]; exact wrap_ok (by omega) (by omega)
          have m0 : (0 : Int) ≤ (m : Int) := by omega
          have m1 : (m : Int) < (M.length : Int) := by omega
          obtain ⟨g', off, e', hat⟩ := (HO.out.below hC.out.bel).at.resolve_left (by intro h; rw [h] at hlt; simp at hlt)
          cases e'
          obtain ⟨c0, c1, c2, c3⟩ := hat k hlt
          obtain ⟨d0, d1, d2, d3⟩ := hat m (by omega)
          simp only [Nat.zero_add] at c0 c1 c2 c3 d0 d1 d2 d3
          have HK : Hid (kpB M k = ((gF M k).lb != (gF M m).lb)) := by rw [hkm]; exact kp_succ M m
          clear hat
          generalize gF M k = X at *
          generalize gF M m = Y at *
          obtain ⟨x0, x1, x2, x3⟩ := X
          obtain ⟨y0, y1, y2, y3⟩ := Y
          simp only at c0 c1 c2 c3 d0 d1 d2 d3 HK
          by_cases hq : x0 = y0
          · have hq2 : ((x0 : Int) == (y0 : Int)) = true := by rw [beq_iff_eq]; omega
            have HE : Hid (∀ W, (W.cell? ⟨g, k * 4, none⟩ = some (.int .i64 (x0 : Nat)) ∧ W.cell? ⟨g, k * 4 + 1, none⟩ = some (.int .i64 (x1 : Nat)) ∧ W.cell? ⟨g, k * 4 + 2, none⟩ = some (.int .i64 (x2 : Nat)) ∧ W.cell? ⟨g, k * 4 + 3, none⟩ = some (.int .i64 (x3 : Nat)) ∧ W.cell? ⟨g, m * 4, none⟩ = some (.int .i64 (y0 : Nat)) ∧ W.cell? ⟨g, m * 4 + 1, none⟩ = some (.int .i64 (y1 : Nat)) ∧ W.cell? ⟨g, m * 4 + 2, none⟩ = some (.int .i64 (y2 : Nat)) ∧ W.cell? ⟨g, m * 4 + 3, none⟩ = some (.int .i64 (y3 : Nat)) ∧ Hid (SB wr W)) → Calls (Al.progOf Tryd.prog) 31 #[.agg #[.int .i64 (x0 : Nat), .int .i64 (x1 : Nat), .int .i64 (x2 : Nat), .int .i64 (x3 : Nat)], .agg #[.int .i64 (y0 : Nat), .int .i64 (y1 : Nat), .int .i64 (y2 : Nat), .int .i64 (y3 : Nat)]] W fun e w' => e = .returned (.bool true) ∧ w'.cell? ⟨g, k * 4, none⟩ = some (.int .i64 (x0 : Nat)) ∧ w'.cell? ⟨g, k * 4 + 1, none⟩ = some (.int .i64 (x1 : Nat)) ∧ w'.cell? ⟨g, k * 4 + 2, none⟩ = some (.int .i64 (x2 : Nat)) ∧ w'.cell? ⟨g, k * 4 + 3, none⟩ = some (.int .i64 (x3 : Nat)) ∧ w'.cell? ⟨g, m * 4, none⟩ = some (.int .i64 (y0 : Nat)) ∧ w'.cell? ⟨g, m * 4 + 1, none⟩ = some (.int .i64 (y1 : Nat)) ∧ w'.cell? ⟨g, m * 4 + 2, none⟩ = some (.int .i64 (y2 : Nat)) ∧ w'.cell? ⟨g, m * 4 + 3, none⟩ = some (.int .i64 (y3 : Nat)) ∧ Hid (SB wr w')) := fun W h => two_eq hq2 h
            have hB : Hid (SB wr wr) := Below.refl _ _
            have HI : Hid (∀ W, SB wr W → CI w W g cap M (k + 1) k) := fun W h => (CI.start HO.out hC.out hlt (by rw [HK.out]; simp [hq])).sb h
            have kc : (k : Int) ≤ (cap : Int) := by omega
            have kl : (k : Int) ≤ (M.length : Int) := by omega
            have h3' : (M.length : Int) ≤ (cap : Int) := by omega
            have HB : Hid (base ≤ g ∧ M.length ≤ cap ∧ cap ≤ maxLen) := ⟨h1, h3, h4⟩
            clear HO h2 hC hO HK hq hq2 h1 h4 h5
            have hkm' : Hid (k = m + 1) := hkm
            clear hkm
            go_wp2
            go_region_held3 (fun W => W.cell? ⟨g, k * 4, none⟩ = some (.int .i64 (x0 : Nat)) ∧ W.cell? ⟨g, k * 4 + 1, none⟩ = some (.int .i64 (x1 : Nat)) ∧ W.cell? ⟨g, k * 4 + 2, none⟩ = some (.int .i64 (x2 : Nat)) ∧ W.cell? ⟨g, k * 4 + 3, none⟩ = some (.int .i64 (x3 : Nat)) ∧ W.cell? ⟨g, m * 4, none⟩ = some (.int .i64 (y0 : Nat)) ∧ W.cell? ⟨g, m * 4 + 1, none⟩ = some (.int .i64 (y1 : Nat)) ∧ W.cell? ⟨g, m * 4 + 2, none⟩ = some (.int .i64 (y2 : Nat)) ∧ W.cell? ⟨g, m * 4 + 3, none⟩ = some (.int .i64 (y3 : Nat)) ∧ Hid (SB wr W)) (first | assumption | (refine ⟨?_, ?_, ?_, ?_, ?_, ?_, ?_, ?_, ?_⟩ <;> first | assumption | (refine SB.drew ?_; assumption) | go_keep)) (first | (go_at_call 31; refine (HE.out _ ⟨by assumption, by assumption, by assumption, by assumption, by assumption, by assumption, by assumption, by assumption, by first | assumption | (refine SB.drew ?_; assumption)⟩).mono ?_; rintro e w' ⟨rfl, f0, f1, f2, f3, f4, f5, f6, f7, f8⟩))
            have HJ : Hid (CI w w' g cap M (k + 1) k) := HI.out _ f8.out
            clear f0 f1 f2 f3 f4 f5 f6 f7 f8 HI HE hB c0 c1 c2 c3 d0 d1 d2 d3 hw1
            go_wp2
            clear k1 m0 m1 kl
            obtain ⟨ln, hln⟩ : ∃ ln, M.length - k = ln := ⟨_, rfl⟩
            have HLn : Hid (M.length = k + ln) := by show _ = _; omega
            rw [hln]
            have hl4 : (ln : Int) ≤ 4096 := by omega
            have HL0 : Hid (1 ≤ ln) := by show 1 ≤ ln; omega
            clear hln hlt hm
            go_loopw [5, 7] (fun v j wi => ∃ p t r : Nat, t = r + 1 ∧ t ≤ ln ∧ v = .int .i64 (p : Nat) ∧ j = .int .i64 (t : Nat) ∧ Hid (CI w wi g cap M (k + t) p)) (fun _ j _ => ln - (intOf j).toNat)
            case atStart => exact ⟨k, 1, 0, rfl, HL0.out, rfl, rfl, HJ.out⟩
            case round =>
              clear HJ
              obtain ⟨p, t, r, htr, ht, rfl, rfl, hI⟩ := hrel
              by_cases hlt : t < ln
              · have t0 : (0 : Int) ≤ (t : Int) := by omega
                have t1 : (t : Int) < (ln : Int) := by omega
                have r0 : (0 : Int) ≤ (r : Int) := by omega
                have r1 : (r : Int) < (ln : Int) := by omega
                have p0 : (0 : Int) ≤ (p : Int) := by omega
                have p1 : (p : Int) < (M.length : Int) := by have := hI.out.lt; have := HLn.out; omega
                have hw1 : IntKind.i64.wrap ((t : Int) - 1) = (r : Int) := by
                  rw [show (t : Int) - 1 = (r : Int) by omega]
                  have := HLn.out
                  exact wrap_ok (by omega) (by omega)
                obtain ⟨c0, c1, c2, c3⟩ := hI.out.two (i := k + t) (by omega) (by have := HLn.out; omega)
                obtain ⟨d0, d1, d2, d3⟩ := hI.out.two (i := k + r) (by omega) (by have := HLn.out; omega)
                simp only [Nat.add_mul] at c0 c1 c2 c3 d0 d1 d2 d3
                have HK : Hid (kpB M (k + t) = ((gF M (k + t)).lb != (gF M (k + r)).lb)) := by
                  show _ = _
                  rw [htr]
                  exact kp_succ M (k + r)
                have HT : Hid (t = r + 1) := htr
                generalize hX : gF M (k + t) = X at *
                generalize gF M (k + r) = Y at *
                obtain ⟨a0, a1, a2, a3⟩ := X
                obtain ⟨b0, b1, b2, b3⟩ := Y
                simp only at c0 c1 c2 c3 d0 d1 d2 d3 HK
                have hB : Hid (SB wr wr) := Below.refl _ _
                have HP : Hid (∀ W, SB wr W → CI w W g cap M (k + t) p) := fun W h => hI.out.sb h
                have HG : Hid (gF M (k + t) = ⟨a0, a1, a2, a3⟩) := hX
                clear hI htr hX
                by_cases hq : a0 = b0
                · have hq2 : ((a0 : Int) == (b0 : Int)) = true := by rw [beq_iff_eq]; omega
                  have HE : Hid (∀ W, (W.cell? ⟨g, k * 4 + t * 4, none⟩ = some (.int .i64 (a0 : Nat)) ∧ W.cell? ⟨g, k * 4 + t * 4 + 1, none⟩ = some (.int .i64 (a1 : Nat)) ∧ W.cell? ⟨g, k * 4 + t * 4 + 2, none⟩ = some (.int .i64 (a2 : Nat)) ∧ W.cell? ⟨g, k * 4 + t * 4 + 3, none⟩ = some (.int .i64 (a3 : Nat)) ∧ W.cell? ⟨g, k * 4 + r * 4, none⟩ = some (.int .i64 (b0 : Nat)) ∧ W.cell? ⟨g, k * 4 + r * 4 + 1, none⟩ = some (.int .i64 (b1 : Nat)) ∧ W.cell? ⟨g, k * 4 + r * 4 + 2, none⟩ = some (.int .i64 (b2 : Nat)) ∧ W.cell? ⟨g, k * 4 + r * 4 + 3, none⟩ = some (.int .i64 (b3 : Nat)) ∧ Hid (SB wr W)) → Calls (Al.progOf Tryd.prog) 31 #[.agg #[.int .i64 (a0 : Nat), .int .i64 (a1 : Nat), .int .i64 (a2 : Nat), .int .i64 (a3 : Nat)], .agg #[.int .i64 (b0 : Nat), .int .i64 (b1 : Nat), .int .i64 (b2 : Nat), .int .i64 (b3 : Nat)]] W fun e w' => e = .returned (.bool true) ∧ w'.cell? ⟨g, k * 4 + t * 4, none⟩ = some (.int .i64 (a0 : Nat)) ∧ w'.cell? ⟨g, k * 4 + t * 4 + 1, none⟩ = some (.int .i64 (a1 : Nat)) ∧ w'.cell? ⟨g, k * 4 + t * 4 + 2, none⟩ = some (.int .i64 (a2 : Nat)) ∧ w'.cell? ⟨g, k * 4 + t * 4 + 3, none⟩ = some (.int .i64 (a3 : Nat)) ∧ w'.cell? ⟨g, k * 4 + r * 4, none⟩ = some (.int .i64 (b0 : Nat)) ∧ w'.cell? ⟨g, k * 4 + r * 4 + 1, none⟩ = some (.int .i64 (b1 : Nat)) ∧ w'.cell? ⟨g, k * 4 + r * 4 + 2, none⟩ = some (.int .i64 (b2 : Nat)) ∧ w'.cell? ⟨g, k * 4 + r * 4 + 3, none⟩ = some (.int .i64 (b3 : Nat)) ∧ Hid (SB wr w')) := fun W h => two_eq hq2 h
                  have HD : Hid (kpB M (k + t) = false) := by show _ = _; rw [HK.out]; simp [hq]
                  clear HK hq hq2
                  go_wp2
                  go_region_held3 (fun W => W.cell? ⟨g, k * 4 + t * 4, none⟩ = some (.int .i64 (a0 : Nat)) ∧ W.cell? ⟨g, k * 4 + t * 4 + 1, none⟩ = some (.int .i64 (a1 : Nat)) ∧ W.cell? ⟨g, k * 4 + t * 4 + 2, none⟩ = some (.int .i64 (a2 : Nat)) ∧ W.cell? ⟨g, k * 4 + t * 4 + 3, none⟩ = some (.int .i64 (a3 : Nat)) ∧ W.cell? ⟨g, k * 4 + r * 4, none⟩ = some (.int .i64 (b0 : Nat)) ∧ W.cell? ⟨g, k * 4 + r * 4 + 1, none⟩ = some (.int .i64 (b1 : Nat)) ∧ W.cell? ⟨g, k * 4 + r * 4 + 2, none⟩ = some (.int .i64 (b2 : Nat)) ∧ W.cell? ⟨g, k * 4 + r * 4 + 3, none⟩ = some (.int .i64 (b3 : Nat)) ∧ Hid (SB wr W)) (first | assumption | (refine ⟨?_, ?_, ?_, ?_, ?_, ?_, ?_, ?_, ?_⟩ <;> first | assumption | (refine SB.drew ?_; assumption) | go_keep)) (first | (go_at_call 31; refine (HE.out _ ⟨by assumption, by assumption, by assumption, by assumption, by assumption, by assumption, by assumption, by assumption, by first | assumption | (refine SB.drew ?_; assumption)⟩).mono ?_; rintro e w2 ⟨rfl, f0, f1, f2, f3, f4, f5, f6, f7, f8⟩))
                  have HN : Hid (CI w w2 g cap M (k + (t + 1)) p) := (HP.out _ f8.out).skip HD.out
                  go_wp2
                  exact ⟨⟨p, t + 1, t, rfl, by omega, rfl, by go_num, HN⟩, by simp [intOf]; omega⟩
                · have hq2 : ((a0 : Int) == (b0 : Int)) = false := by rw [beq_eq_false_iff_ne]; omega
                  have HE : Hid (∀ W, (W.cell? ⟨g, k * 4 + t * 4, none⟩ = some (.int .i64 (a0 : Nat)) ∧ W.cell? ⟨g, k * 4 + t * 4 + 1, none⟩ = some (.int .i64 (a1 : Nat)) ∧ W.cell? ⟨g, k * 4 + t * 4 + 2, none⟩ = some (.int .i64 (a2 : Nat)) ∧ W.cell? ⟨g, k * 4 + t * 4 + 3, none⟩ = some (.int .i64 (a3 : Nat)) ∧ W.cell? ⟨g, k * 4 + r * 4, none⟩ = some (.int .i64 (b0 : Nat)) ∧ W.cell? ⟨g, k * 4 + r * 4 + 1, none⟩ = some (.int .i64 (b1 : Nat)) ∧ W.cell? ⟨g, k * 4 + r * 4 + 2, none⟩ = some (.int .i64 (b2 : Nat)) ∧ W.cell? ⟨g, k * 4 + r * 4 + 3, none⟩ = some (.int .i64 (b3 : Nat)) ∧ Hid (SB wr W)) → Calls (Al.progOf Tryd.prog) 31 #[.agg #[.int .i64 (a0 : Nat), .int .i64 (a1 : Nat), .int .i64 (a2 : Nat), .int .i64 (a3 : Nat)], .agg #[.int .i64 (b0 : Nat), .int .i64 (b1 : Nat), .int .i64 (b2 : Nat), .int .i64 (b3 : Nat)]] W fun e w' => e = .returned (.bool false) ∧ w'.cell? ⟨g, k * 4 + t * 4, none⟩ = some (.int .i64 (a0 : Nat)) ∧ w'.cell? ⟨g, k * 4 + t * 4 + 1, none⟩ = some (.int .i64 (a1 : Nat)) ∧ w'.cell? ⟨g, k * 4 + t * 4 + 2, none⟩ = some (.int .i64 (a2 : Nat)) ∧ w'.cell? ⟨g, k * 4 + t * 4 + 3, none⟩ = some (.int .i64 (a3 : Nat)) ∧ w'.cell? ⟨g, k * 4 + r * 4, none⟩ = some (.int .i64 (b0 : Nat)) ∧ w'.cell? ⟨g, k * 4 + r * 4 + 1, none⟩ = some (.int .i64 (b1 : Nat)) ∧ w'.cell? ⟨g, k * 4 + r * 4 + 2, none⟩ = some (.int .i64 (b2 : Nat)) ∧ w'.cell? ⟨g, k * 4 + r * 4 + 3, none⟩ = some (.int .i64 (b3 : Nat)) ∧ Hid (SB wr w')) := fun W h => two_eq hq2 h
                  have HD : Hid (kpB M (k + t) = true) := by show _ = _; rw [HK.out]; simp [hq]
                  clear HK hq hq2
                  go_wp2
                  go_region_held3 (fun W => W.cell? ⟨g, k * 4 + t * 4, none⟩ = some (.int .i64 (a0 : Nat)) ∧ W.cell? ⟨g, k * 4 + t * 4 + 1, none⟩ = some (.int .i64 (a1 : Nat)) ∧ W.cell? ⟨g, k * 4 + t * 4 + 2, none⟩ = some (.int .i64 (a2 : Nat)) ∧ W.cell? ⟨g, k * 4 + t * 4 + 3, none⟩ = some (.int .i64 (a3 : Nat)) ∧ W.cell? ⟨g, k * 4 + r * 4, none⟩ = some (.int .i64 (b0 : Nat)) ∧ W.cell? ⟨g, k * 4 + r * 4 + 1, none⟩ = some (.int .i64 (b1 : Nat)) ∧ W.cell? ⟨g, k * 4 + r * 4 + 2, none⟩ = some (.int .i64 (b2 : Nat)) ∧ W.cell? ⟨g, k * 4 + r * 4 + 3, none⟩ = some (.int .i64 (b3 : Nat)) ∧ Hid (SB wr W)) (first | assumption | (refine ⟨?_, ?_, ?_, ?_, ?_, ?_, ?_, ?_, ?_⟩ <;> first | assumption | (refine SB.drew ?_; assumption) | go_keep)) (first | (go_at_call 31; refine (HE.out _ ⟨by assumption, by assumption, by assumption, by assumption, by assumption, by assumption, by assumption, by assumption, by first | assumption | (refine SB.drew ?_; assumption)⟩).mono ?_; rintro e w2 ⟨rfl, f0, f1, f2, f3, f4, f5, f6, f7, f8⟩))
                  have HC := HP.out _ f8.out
                  obtain ⟨z0, g0⟩ := HC.have1 HB.out.2.1 (j := p * 4) (by have := p1; omega)
                  obtain ⟨z1, g1⟩ := HC.have1 HB.out.2.1 (j := p * 4 + 1) (by have := p1; omega)
                  obtain ⟨z2, g2⟩ := HC.have1 HB.out.2.1 (j := p * 4 + 2) (by have := p1; omega)
                  obtain ⟨z3, g3⟩ := HC.have1 HB.out.2.1 (j := p * 4 + 3) (by have := p1; omega)
                  have hfz := (HC.cells HB.out.2.1).2
                  have q0 := hfz (p * 4)
                  have q1 := hfz (p * 4 + 1)
                  have q2 := hfz (p * 4 + 2)
                  have q3 := hfz (p * 4 + 3)
                  have HN : Hid (CI w (put4 w2 g (p * 4) ⟨a0, a1, a2, a3⟩) g cap M (k + (t + 1)) (p + 1)) := by
                    have := HC.put (by have := HLn.out; omega) HB.out.2.1 HD.out
                    rw [HG.out] at this
                    exact this
                  clear HC hfz
                  go_wp2
                  exact ⟨⟨p + 1, t + 1, t, rfl, by omega, by go_num, by go_num, HN⟩, by simp [intOf]; omega⟩
              · obtain rfl : t = ln := by omega
                have hI2 : CI w wr g cap M M.length p := by have := hI.out; rw [← HLn.out] at this; exact this
                have hlp := hI2.lt
                have HD : Hid (∀ vs, p = (cpt M).length ∧ OwnF (wr.setCells g (p * 4) vs) base (some ⟨g, 0, none⟩) cap (cpt M) ∧ Keep (blk (some ⟨g, 0, none⟩)) w (wr.setCells g (p * 4) vs)) := fun vs => hI2.done HB.out.1 HB.out.2.1 HB.out.2.2 vs
                have hcl : ∀ ty, (Builtin.clear_ #[39] ty #[.slice (some ⟨g, p * 4, none⟩) (M.length - p) (cap - p)]).run (Al.progOf Tryd.prog) wr = .ok (.tuple #[]) (wr.setCells g (p * 4) (Builtin.zeroCells zF.cells (M.length - p)).toList) := fun ty => run_clearF wr ty g (p * 4) _ _ (by omega) (hI2.cells HB.out.2.1).1 (fun j _ => (hI2.cells HB.out.2.1).2 _)
                have p0 : (0 : Int) ≤ (p : Int) := by omega
                have p1 : (p : Int) ≤ (M.length : Int) := by omega
                have p2 : (p : Int) ≤ (cap : Int) := by omega
                have p3 : (p : Int) < (cap : Int) := by omega
                have p4 : ¬ p = cap := by omega
                have p5 : ¬ cap = p := by omega
                have p6 : ¬ cap - p = 0 := by omega
                clear hI hI2 hlp
                generalize (Builtin.zeroCells zF.cells (M.length - p)).toList = Z at *
                go_wp2
                go_ret
                obtain ⟨e1, e2, e3⟩ := HD.out Z
                exact ⟨by rw [← e1]; rfl, e2, e3⟩
          · have hq2 : ((x0 : Int) == (y0 : Int)) = false := by rw [beq_eq_false_iff_ne]; omega
            have HE : Hid (∀ W, (W.cell? ⟨g, k * 4, none⟩ = some (.int .i64 (x0 : Nat)) ∧ W.cell? ⟨g, k * 4 + 1, none⟩ = some (.int .i64 (x1 : Nat)) ∧ W.cell? ⟨g, k * 4 + 2, none⟩ = some (.int .i64 (x2 : Nat)) ∧ W.cell? ⟨g, k * 4 + 3, none⟩ = some (.int .i64 (x3 : Nat)) ∧ W.cell? ⟨g, m * 4, none⟩ = some (.int .i64 (y0 : Nat)) ∧ W.cell? ⟨g, m * 4 + 1, none⟩ = some (.int .i64 (y1 : Nat)) ∧ W.cell? ⟨g, m * 4 + 2, none⟩ = some (.int .i64 (y2 : Nat)) ∧ W.cell? ⟨g, m * 4 + 3, none⟩ = some (.int .i64 (y3 : Nat)) ∧ Hid (SB wr W)) → Calls (Al.progOf Tryd.prog) 31 #[.agg #[.int .i64 (x0 : Nat), .int .i64 (x1 : Nat), .int .i64 (x2 : Nat), .int .i64 (x3 : Nat)], .agg #[.int .i64 (y0 : Nat), .int .i64 (y1 : Nat), .int .i64 (y2 : Nat), .int .i64 (y3 : Nat)]] W fun e w' => e = .returned (.bool false) ∧ w'.cell? ⟨g, k * 4, none⟩ = some (.int .i64 (x0 : Nat)) ∧ w'.cell? ⟨g, k * 4 + 1, none⟩ = some (.int .i64 (x1 : Nat)) ∧ w'.cell? ⟨g, k * 4 + 2, none⟩ = some (.int .i64 (x2 : Nat)) ∧ w'.cell? ⟨g, k * 4 + 3, none⟩ = some (.int .i64 (x3 : Nat)) ∧ w'.cell? ⟨g, m * 4, none⟩ = some (.int .i64 (y0 : Nat)) ∧ w'.cell? ⟨g, m * 4 + 1, none⟩ = some (.int .i64 (y1 : Nat)) ∧ w'.cell? ⟨g, m * 4 + 2, none⟩ = some (.int .i64 (y2 : Nat)) ∧ w'.cell? ⟨g, m * 4 + 3, none⟩ = some (.int .i64 (y3 : Nat)) ∧ Hid (SB wr w')) := fun W h => two_eq hq2 h
            have hB : Hid (SB wr wr) := Below.refl _ _
            have HN : Hid (∀ W, SB wr W → CO w W M (k + 1)) := fun W h => ⟨fun i hi => by
              by_cases e : i = k
              · rw [e, HK.out]; simp [hq]
              · exact hC.out.all i (by omega), hC.out.bel.trans (h.mono hC.out.bel.size)⟩
            clear HO h2 hC hO HK hq hq2
            have hkm' : Hid (k = m + 1) := hkm
            clear hkm
            go_wp2
            go_region_held3 (fun W => W.cell? ⟨g, k * 4, none⟩ = some (.int .i64 (x0 : Nat)) ∧ W.cell? ⟨g, k * 4 + 1, none⟩ = some (.int .i64 (x1 : Nat)) ∧ W.cell? ⟨g, k * 4 + 2, none⟩ = some (.int .i64 (x2 : Nat)) ∧ W.cell? ⟨g, k * 4 + 3, none⟩ = some (.int .i64 (x3 : Nat)) ∧ W.cell? ⟨g, m * 4, none⟩ = some (.int .i64 (y0 : Nat)) ∧ W.cell? ⟨g, m * 4 + 1, none⟩ = some (.int .i64 (y1 : Nat)) ∧ W.cell? ⟨g, m * 4 + 2, none⟩ = some (.int .i64 (y2 : Nat)) ∧ W.cell? ⟨g, m * 4 + 3, none⟩ = some (.int .i64 (y3 : Nat)) ∧ Hid (SB wr W)) (first | assumption | (refine ⟨?_, ?_, ?_, ?_, ?_, ?_, ?_, ?_, ?_⟩ <;> first | assumption | (refine SB.drew ?_; assumption) | go_keep)) (first | (go_at_call 31; refine (HE.out _ ⟨by assumption, by assumption, by assumption, by assumption, by assumption, by assumption, by assumption, by assumption, by first | assumption | (refine SB.drew ?_; assumption)⟩).mono ?_; rintro e w' ⟨rfl, f0, f1, f2, f3, f4, f5, f6, f7, f8⟩))
            go_wp2
            exact ⟨⟨k + 1, k, rfl, by omega, by go_num, HN.out _ f8.out⟩, by simp [intOf]; omega⟩
        · obtain rfl : k = M.length := by omega
          have HA : Hid (cpt M = M) := cpt_all hC.out.all
          have HO2 : Hid (OwnF wr base (some ⟨g, 0, none⟩) cap M ∧ Keep (blk (some ⟨g, 0, none⟩)) w wr) := ⟨HO.out.below hC.out.bel, Keep.of_below hC.out.bel⟩
          clear hC HO hO
          go_wp2
          go_ret
          exact ⟨by rw [HA.out]; rfl, by rw [HA.out]; exact HO2.out.1, HO2.out.2⟩
end Go.Proofs.YtobpjijdebnaoaaDoorQ
