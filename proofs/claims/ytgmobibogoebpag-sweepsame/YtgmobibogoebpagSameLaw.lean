/-
  What the call of SweepSame gives: true.
-/
import Derived.Test.YtgmobibogoebpagSameWalk
namespace Go.Proofs.Ytgmobibogoebpag
open Go.RowKit
set_option linter.unusedVariables false

def WS (w wr : World) (l : List Bl) (d k : Nat) : Prop := wr = w ∧ okW l (d : Int) k
set_option maxRecDepth 100000 in
set_option maxHeartbeats 8000000 in
theorem same_some (g off cap : Nat) (l : List Bl) (p mo : Int) (w : World) (h0 : 0 < l.length) (h24 : l.length * 24 ≤ 140737488355328) (hmo : -9223372036854775808 ≤ mo ∧ mo ≤ 9223372036854775807) (hat : ∀ i, i < l.length → BlAt w g off i (gB l i)) :
    Calls Try.prog 4 #[.slice (some ⟨g, off, none⟩) l.length cap, .int .i64 p, .int .i64 mo] w fun e w' => e = .returned (.bool true) ∧ Below w.heap.size w w' := by
  have HA : Hid (∀ wr, Below w.heap.size w wr → ∀ i, i < l.length → BlAt wr g off i (gB l i)) := fun wr hb i hi => (hat i hi).keep (S := fun _ => False) (Keep.of_below hb) (fun e => e)
  have HF : Hid (Calls Try.prog 5 #[.slice (some ⟨w.heap.size, 0, none⟩) 2 2, .int .i64 4] (w.alloc (.cells #[.bool true, .int .i64 2, .int .i64 0, .bool true, .int .i64 1, .int .i64 0] 29)) fun e w' => e = .returned (.tuple #[.int .i64 1, .nilIface]) ∧ Below w.heap.size w w') := fore_any w
  have HBo : Hid (∀ wr, Below w.heap.size w wr → Calls Try.prog 6 #[.slice (some ⟨g, off, none⟩) l.length cap] wr fun e w' => BothPost wr w' e l) := fun wr hb => both_some g off cap l wr h24 (HA.out wr hb)
  have HPk : Hid (∀ wr, Calls Try.prog 8 #[.int .i64 mo, .int .i64 1000] wr fun e w' => (∃ k : Nat, k < 1000 ∧ e = .returned (.int .i64 (k : Nat))) ∧ w' = wr) := fun wr => pick_any mo 1000 wr (by omega) (by omega) hmo
  have HL : l.length ≤ 9000000000000000000 := by omega
  have HP0 : Hid (0 < l.length) := h0
  clear hat h24 hmo h0
  go_enter Try.func4, Try.ntmps4
  go_wp2_with fail
  refine HF.out.mono ?_
  rintro e w1 ⟨rfl, hb1⟩
  have HB1 : Hid (Below w.heap.size w w1) := hb1
  have H1 := HBo.out w1 hb1
  clear hb1 HF
  go_wp2_with fail
  refine H1.mono ?_
  rintro e w2 ⟨am, cm, rfl, hm, hb2⟩
  have HB2 : Hid (Below w.heap.size w w2) := HB1.out.trans (hb2.mono HB1.out.size)
  have HM2 : Hid (OwnB 29 w2 w1.heap.size am cm l) := hm
  have H2 := HBo.out w2 HB2.out
  have HS1 : Hid (w.heap.size ≤ w1.heap.size) := HB1.out.size
  clear hb2 hm H1 HBo HB1
  go_wp2_with fail
  refine H2.mono ?_
  rintro e w3 ⟨an, cn, rfl, hn, hb3⟩
  obtain ⟨gn, rfl⟩ := hn.some_of HP0.out
  have HB3 : Hid (Below w.heap.size w w3) := HB2.out.trans (hb3.mono HB2.out.size)
  have HM3 : Hid (OwnB 29 w3 w1.heap.size am cm l) := HM2.out.below hb3
  have HN3 : Hid (OwnB 29 w3 w2.heap.size (some ⟨gn, 0, none⟩) cn l) := hn
  have HS2 : Hid (w.heap.size ≤ w2.heap.size) := HB2.out.size
  have HNe : Hid (∀ b, blk am b → ¬ b = gn) := fun b hb e => by
    have h1 := (HM2.out.blk hb).2
    have h2 : w2.heap.size ≤ gn := (HN3.out.blk ⟨_, rfl, rfl⟩).1
    omega
  clear hb3 hn H2 HB2 HM2 HP0
  go_wp2_with fail
  refine (HPk.out _).mono ?_
  rintro e w4 ⟨⟨d, hd, rfl⟩, rfl⟩
  have H0 : Hid (NS w w4 l (d : Int) am cm gn cn 0) := ⟨HB3.out, HM3.out.base HS1.out, HN3.out.base HS2.out, HNe.out⟩
  clear HPk HB3 HM3 HN3 HS1 HS2 HNe
  go_wp2
  go_loopw [12] (fun j wr => ∃ k : Nat, k ≤ l.length ∧ j = .int .i64 k ∧ Hid (NS w wr l (d : Int) am cm gn cn k)) (fun j _ => l.length - (intOf j).toNat)
  case atStart => exact ⟨0, Nat.zero_le _, rfl, H0.out⟩
  case round =>
    obtain ⟨k, hk, rfl, hR⟩ := hrel
    clear H0
    by_cases hlt : k < l.length
    · obtain ⟨c2, cf⟩ := hR.out.at hlt
      have HS : Hid (NS w (wr.setCell ⟨gn, k * 3 + 2, none⟩ (.int .i64 (wrap64 ((gB l k).wear + (d : Int))))) l (d : Int) am cm gn cn (k + 1)) := hR.out.step hlt
      clear hR
      generalize (gB l k).wear = we at *
      go_wp2
      exact ⟨⟨k + 1, by omega, by go_num, HS.out⟩, by simp [intOf]; omega⟩
    · obtain rfl : k = l.length := by omega
      clear hlt
      have H5 := hR.out.choose1 (p := p)
      clear hR
      go_wp2_with fail
      refine H5.mono ?_
      rintro e w5 ⟨⟨hg1, f1, rfl⟩ | ⟨hg1, k1, hk1, rfl⟩, hN5⟩
      · have H6 := hN5.out.choose2 (p := p)
        clear hN5 H5
        go_wp2_with fail
        refine H6.mono ?_
        rintro e w6 ⟨⟨hg2, f2, rfl⟩ | ⟨hg2, k2, hk2, rfl⟩, hN6⟩
        · clear H6
          have HBB : Hid (Below w.heap.size w w6) := hN6.out.bel
          have HBad : Hid (okW l (d : Int) l.length → (good (bump l (d : Int) l.length) p ↔ good l p)) := fun h => both_bad (by omega) (by omega) h
          clear hN6
          go_wp2
          go_loopw [16] (fun j wr => ∃ k : Nat, k ≤ l.length ∧ j = .int .i64 k ∧ Hid (WS w6 wr l d k)) (fun j _ => l.length - (intOf j).toNat)
          case atStart => exact ⟨0, Nat.zero_le _, rfl, (⟨rfl, fun i hi => absurd hi (Nat.not_lt_zero _)⟩ : WS w6 w6 l d 0)⟩
          case round =>
            obtain ⟨k, hk, rfl, hW⟩ := hrel
            obtain ⟨rfl, hW2⟩ := hW.out
            clear hW
            by_cases hlt : k < l.length
            · obtain ⟨_, _, c2⟩ := HA.out wr HBB.out k hlt
              have HX : Hid (0 ≤ (gB l k).wear → (gB l k).wear ≤ 1000000000 - (d : Int) → WS wr wr l d (k + 1)) := fun h1 h2 => ⟨rfl, fun i hi => by
                by_cases e : i = k
                · rw [e]; exact ⟨h1, h2⟩
                · exact hW2 i (by omega)⟩
              clear hW2
              generalize (gB l k).wear = we at *
              by_cases q0 : we < 0
              · go_wp2
                go_ret
                exact ⟨rfl, HBB.out⟩
              · by_cases q1 : 1000000000 - (d : Int) < we
                · go_wp2
                  go_ret
                  exact ⟨rfl, HBB.out⟩
                · go_wp2
                  exact ⟨⟨k + 1, by omega, by go_num, HX.out (by omega) (by omega)⟩, by simp [intOf]; omega⟩
            · obtain rfl : k = l.length := by omega
              clear hlt
              have hB := HBad.out hW2
              clear hW2 hB
              go_wp2
              go_ret
              exact ⟨rfl, HBB.out⟩
        · clear H6
          have HBB : Hid (Below w.heap.size w w6) := hN6.out.bel
          have HBad : Hid (okW l (d : Int) l.length → (good (bump l (d : Int) l.length) p ↔ good l p)) := fun h => both_bad (by omega) (by omega) h
          clear hN6
          go_wp2
          go_loopw [16] (fun j wr => ∃ k : Nat, k ≤ l.length ∧ j = .int .i64 k ∧ Hid (WS w6 wr l d k)) (fun j _ => l.length - (intOf j).toNat)
          case atStart => exact ⟨0, Nat.zero_le _, rfl, (⟨rfl, fun i hi => absurd hi (Nat.not_lt_zero _)⟩ : WS w6 w6 l d 0)⟩
          case round =>
            obtain ⟨k, hk, rfl, hW⟩ := hrel
            obtain ⟨rfl, hW2⟩ := hW.out
            clear hW
            by_cases hlt : k < l.length
            · obtain ⟨_, _, c2⟩ := HA.out wr HBB.out k hlt
              have HX : Hid (0 ≤ (gB l k).wear → (gB l k).wear ≤ 1000000000 - (d : Int) → WS wr wr l d (k + 1)) := fun h1 h2 => ⟨rfl, fun i hi => by
                by_cases e : i = k
                · rw [e]; exact ⟨h1, h2⟩
                · exact hW2 i (by omega)⟩
              clear hW2
              generalize (gB l k).wear = we at *
              by_cases q0 : we < 0
              · go_wp2
                go_ret
                exact ⟨rfl, HBB.out⟩
              · by_cases q1 : 1000000000 - (d : Int) < we
                · go_wp2
                  go_ret
                  exact ⟨rfl, HBB.out⟩
                · go_wp2
                  exact ⟨⟨k + 1, by omega, by go_num, HX.out (by omega) (by omega)⟩, by simp [intOf]; omega⟩
            · obtain rfl : k = l.length := by omega
              clear hlt
              have hB := HBad.out hW2
              exact absurd (hB.1 hg2) hg1
      · have H6 := hN5.out.choose2 (p := p)
        clear hN5 H5
        go_wp2_with fail
        refine H6.mono ?_
        rintro e w6 ⟨⟨hg2, f2, rfl⟩ | ⟨hg2, k2, hk2, rfl⟩, hN6⟩
        · clear H6
          have HBB : Hid (Below w.heap.size w w6) := hN6.out.bel
          have HBad : Hid (okW l (d : Int) l.length → (good (bump l (d : Int) l.length) p ↔ good l p)) := fun h => both_bad (by omega) (by omega) h
          clear hN6
          go_wp2
          go_loopw [16] (fun j wr => ∃ k : Nat, k ≤ l.length ∧ j = .int .i64 k ∧ Hid (WS w6 wr l d k)) (fun j _ => l.length - (intOf j).toNat)
          case atStart => exact ⟨0, Nat.zero_le _, rfl, (⟨rfl, fun i hi => absurd hi (Nat.not_lt_zero _)⟩ : WS w6 w6 l d 0)⟩
          case round =>
            obtain ⟨k, hk, rfl, hW⟩ := hrel
            obtain ⟨rfl, hW2⟩ := hW.out
            clear hW
            by_cases hlt : k < l.length
            · obtain ⟨_, _, c2⟩ := HA.out wr HBB.out k hlt
              have HX : Hid (0 ≤ (gB l k).wear → (gB l k).wear ≤ 1000000000 - (d : Int) → WS wr wr l d (k + 1)) := fun h1 h2 => ⟨rfl, fun i hi => by
                by_cases e : i = k
                · rw [e]; exact ⟨h1, h2⟩
                · exact hW2 i (by omega)⟩
              clear hW2
              generalize (gB l k).wear = we at *
              by_cases q0 : we < 0
              · go_wp2
                go_ret
                exact ⟨rfl, HBB.out⟩
              · by_cases q1 : 1000000000 - (d : Int) < we
                · go_wp2
                  go_ret
                  exact ⟨rfl, HBB.out⟩
                · go_wp2
                  exact ⟨⟨k + 1, by omega, by go_num, HX.out (by omega) (by omega)⟩, by simp [intOf]; omega⟩
            · obtain rfl : k = l.length := by omega
              clear hlt
              have hB := HBad.out hW2
              exact absurd (hB.2 hg1) hg2
        · obtain ⟨he, hz1, hz2⟩ := both_good (by omega) (by omega) hg1 hg2
          have hkk : k2 = k1 := by
            rw [he] at hk2
            exact hk2.one (shift_min _ hk1)
          subst hkk
          have H7 := hN6.out.level1 hz1
          clear hN6 H6 hk1 hk2 hg1 hg2
          go_wp2_with fail
          refine H7.mono ?_
          rintro e w7 ⟨⟨hl1, rfl⟩ | ⟨k3, hl1, rfl⟩, hN7⟩
          · have H8 := hN7.out.level2 he hz2
            clear hN7 H7
            go_wp2_with fail
            refine H8.mono ?_
            rintro e w8 ⟨⟨hl2, rfl⟩ | ⟨k4, hl2, rfl⟩, hB8⟩
            · clear H8 he
              go_wp2
              go_quiet (fail)
              go_wp2
              go_ret
              exact ⟨rfl, below_drewN hB8.out _⟩
            · exact absurd hl2 (hl1 k4)
          · have H8 := hN7.out.level2 he hz2
            clear hN7 H7
            go_wp2_with fail
            refine H8.mono ?_
            rintro e w8 ⟨⟨hl2, rfl⟩ | ⟨k4, hl2, rfl⟩, hB8⟩
            · exact absurd hl1 (hl2 k3)
            · obtain rfl : k4 = k3 := hl2.one hl1
              clear H8 he
              go_wp2
              go_quiet (fail)
              go_wp2
              go_ret
              exact ⟨rfl, below_drewN hB8.out _⟩
set_option maxRecDepth 20000 in
set_option maxHeartbeats 4000000 in
theorem same_none (a : Option Addr) (cap : Nat) (p mo : Int) (w : World) (hmo : -9223372036854775808 ≤ mo ∧ mo ≤ 9223372036854775807) :
    Calls Try.prog 4 #[.slice a 0 cap, .int .i64 p, .int .i64 mo] w fun e w' => e = .returned (.bool true) ∧ Below w.heap.size w w' := by
  have HF : Hid (Calls Try.prog 5 #[.slice (some ⟨w.heap.size, 0, none⟩) 2 2, .int .i64 4] (w.alloc (.cells #[.bool true, .int .i64 2, .int .i64 0, .bool true, .int .i64 1, .int .i64 0] 29)) fun e w' => e = .returned (.tuple #[.int .i64 1, .nilIface]) ∧ Below w.heap.size w w') := fore_any w
  have HBo : Hid (∀ wr, Calls Try.prog 6 #[.slice a 0 cap] wr fun e w' => e = .returned (.slice none 0 0) ∧ w' = wr) := fun wr => both_nil a cap wr
  have HPk : Hid (∀ wr, Calls Try.prog 8 #[.int .i64 mo, .int .i64 1000] wr fun e w' => (∃ k : Nat, k < 1000 ∧ e = .returned (.int .i64 (k : Nat))) ∧ w' = wr) := fun wr => pick_any mo 1000 wr (by omega) (by omega) hmo
  have HC : Hid (∀ wr, Below w.heap.size w wr → Calls Try.prog 5 #[.slice none 0 0, .int .i64 p] wr fun e w' => (∃ f : Nat, e = .returned (.tuple #[.int .i64 0, .iface 40 (.int .i64 (f : Int))])) ∧ Below w.heap.size w w') := fun wr hb => (choose_any none 0 [] p wr (Or.inl rfl)).mono fun e w' ⟨h1, h2⟩ => ⟨by
    rcases choose_two h1 with ⟨_, h⟩ | ⟨_, k, h, _⟩
    · exact h
    · exact absurd h.1.1 (Nat.not_lt_zero _), hb.trans (h2.mono hb.size)⟩
  clear hmo
  go_enter Try.func4, Try.ntmps4
  go_wp2_with fail
  refine HF.out.mono ?_
  rintro e w1 ⟨rfl, hb1⟩
  have HB1 : Hid (Below w.heap.size w w1) := hb1
  clear hb1 HF
  go_wp2_with fail
  refine (HBo.out _).mono ?_
  rintro e w2 ⟨rfl, rfl⟩
  go_wp2_with fail
  refine (HBo.out _).mono ?_
  rintro e w3 ⟨rfl, rfl⟩
  go_wp2_with fail
  refine (HPk.out _).mono ?_
  rintro e w4 ⟨⟨d, hd, rfl⟩, rfl⟩
  have H1 := HC.out w4 HB1.out
  clear HPk HBo
  go_wp2
  go_loopw [12] (fun j wr => j = .int .i64 0 ∧ wr = w4) (fun _ _ => 0)
  case atStart => exact ⟨rfl, rfl⟩
  case round =>
    obtain ⟨rfl, rfl⟩ := hrel
    go_wp2_with fail
    refine H1.mono ?_
    rintro e w5 ⟨⟨f, rfl⟩, hb5⟩
    have H2 := HC.out w5 hb5
    clear H1 HC
    go_wp2_with fail
    refine H2.mono ?_
    rintro e w6 ⟨⟨f2, rfl⟩, hb6⟩
    have HB6 : Hid (Below w.heap.size w w6) := hb6
    clear H2 hb5 hb6
    go_wp2
    go_loopw [16] (fun j wr => j = .int .i64 0 ∧ wr = w6) (fun _ _ => 0)
    case atStart => exact ⟨rfl, rfl⟩
    case round =>
      obtain ⟨rfl, rfl⟩ := hrel
      go_wp2
      go_ret
      exact ⟨rfl, HB6.out⟩
theorem same_any (a : Option Addr) (cap : Nat) (l : List Bl) (p mo : Int) (w : World) (h24 : l.length * 24 ≤ 140737488355328) (hmo : -9223372036854775808 ≤ mo ∧ mo ≤ 9223372036854775807) (hB : BL w a l) :
    Calls Try.prog 4 #[.slice a l.length cap, .int .i64 p, .int .i64 mo] w fun e w' => e = .returned (.bool true) ∧ Below w.heap.size w w' := by
  rcases hB with rfl | ⟨g, off, rfl, hat⟩
  · exact same_none a cap p mo w hmo
  · by_cases h0 : 0 < l.length
    · exact same_some g off cap l p mo w h0 h24 hmo hat
    · obtain rfl : l = [] := List.length_eq_zero_iff.1 (by omega)
      exact same_none _ cap p mo w hmo
end Go.Proofs.Ytgmobibogoebpag
