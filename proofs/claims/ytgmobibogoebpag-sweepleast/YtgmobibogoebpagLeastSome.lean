/-
  What the call of SweepLeast gives: true.
-/
import Derived.Test.YtgmobibogoebpagLeastWalk
namespace Go.Proofs.Ytgmobibogoebpag
open Go.RowKit
set_option linter.unusedVariables false

set_option maxRecDepth 100000 in
set_option maxHeartbeats 16000000 in
theorem least_some (g off cap : Nat) (l : List Bl) (p need : Int) (gs os cs : Nat) (xs : List Int) (w : World) (h0 : 0 < l.length) (h24 : l.length * 24 ≤ 140737488355328) (hat : ∀ i, i < l.length → BlAt w g off i (gB l i)) (hxl : xs.length ≤ 4611686018427387904) (hI : ∀ i, i < xs.length → w.cell? ⟨gs, os + i, none⟩ = some (.int .i64 (xs[i]?.getD 0)) ∧ -9223372036854775808 ≤ xs[i]?.getD 0 ∧ xs[i]?.getD 0 ≤ 9223372036854775807) :
    Calls Try.prog 3 #[.slice (some ⟨g, off, none⟩) l.length cap, .int .i64 p, .int .i64 need, .slice (some ⟨gs, os, none⟩) xs.length cs] w fun e w' => e = .returned (.bool true) ∧ Below w.heap.size w w' := by
  have HA : Hid (∀ wr, Below w.heap.size w wr → ∀ i, i < l.length → BlAt wr g off i (gB l i)) := fun wr hb i hi => (hat i hi).keep (S := fun _ => False) (Keep.of_below hb) (fun e => e)
  have HF : Hid (Calls Try.prog 5 #[.slice (some ⟨w.heap.size, 0, none⟩) 2 2, .int .i64 4] (w.alloc (.cells #[.bool true, .int .i64 2, .int .i64 0, .bool true, .int .i64 1, .int .i64 0] 29)) fun e w' => e = .returned (.tuple #[.int .i64 1, .nilIface]) ∧ Below w.heap.size w w') := fore_any w
  have HBo : Hid (∀ wr, Below w.heap.size w wr → Calls Try.prog 6 #[.slice (some ⟨g, off, none⟩) l.length cap] wr fun e w' => BothPost wr w' e l) := fun wr hb => both_some g off cap l wr h24 (HA.out wr hb)
  have HI : Hid (∀ wr, Below w.heap.size w wr → ∀ i, i < xs.length → wr.cell? ⟨gs, os + i, none⟩ = some (.int .i64 (xs[i]?.getD 0)) ∧ -9223372036854775808 ≤ xs[i]?.getD 0 ∧ xs[i]?.getD 0 ≤ 9223372036854775807) := fun wr hb i hi => by
    obtain ⟨h1, h2⟩ := hI i hi
    exact ⟨by rw [hb.cell (p := ⟨gs, os + i, none⟩) (World.block_lt_of_cell? w _ h1)]; exact h1, h2⟩
  have HPk : Hid (∀ x wr, -9223372036854775808 ≤ x → x ≤ 9223372036854775807 → Calls Try.prog 8 #[.int .i64 x, .int .i64 (l.length : Nat)] wr fun e w' => (∃ k : Nat, k < l.length ∧ e = .returned (.int .i64 (k : Nat))) ∧ w' = wr) := fun x wr h1 h2 => pick_any x l.length wr h0 (by omega) ⟨h1, h2⟩
  have hl0 : (0 : Int) < (l.length : Int) := by omega
  clear hat h24 hI
  go_enter Try.func3, Try.ntmps3
  go_wp2_with fail
  refine HF.out.mono ?_
  rintro e w1 ⟨rfl, hb1⟩
  have HB1 : Hid (Below w.heap.size w w1) := hb1
  have H1 := HBo.out w1 hb1
  clear hb1 HF HBo
  go_wp2_with fail
  refine H1.mono ?_
  rintro e w2 ⟨am, cm, rfl, hm, hb2⟩
  have HB2 : Hid (Below w.heap.size w w2) := HB1.out.trans (hb2.mono HB1.out.size)
  have H2 := plan_any am cm l p need w2 hm.bl
  clear hb2 hm H1 HB1
  go_wp2_with fail
  refine H2.mono ?_
  rintro e w3 ⟨hpl, hb3⟩
  have HB3 : Hid (Below w.heap.size w w3) := HB2.out.trans (hb3.mono HB2.out.size)
  have hpl2 := plan_two hpl
  clear H2 hpl hb3
  rcases hpl2 with ⟨f, rfl⟩ | ⟨t, pa, cp, hPT, rfl, hOP⟩
  · go_wp2
    go_ret
    exact ⟨rfl, HB3.out⟩
  · have HPT : Hid (PT l p need t) := hPT
    have HOP : Hid (OwnI w3 w2.heap.size pa cp t) := hOP
    have htl64 : t.length ≤ 64 := hPT.tl
    have hp1 := hPT.p1
    have hp2 := hPT.p2
    have hl64 := hPT.h64
    obtain ⟨B, hBB⟩ : ∃ B, Hid (B = w3.heap.size) := ⟨_, rfl⟩
    have HK0 : Hid (KS w w3 B l p t none 0 [] 0) := ⟨HB3.out, by rw [hBB.out]; exact HB3.out.size, by rw [hBB.out]; exact Nat.le_refl _, OwnI.nil _ _, List.nodup_nil, fun i hi => absurd hi (by simp), rfl, by by_cases h : t.length = 0; (exact Or.inl h); exact Or.inr (by simp; omega), Int.le_refl _, by simp⟩
    clear hPT hOP HB2
    by_cases ht0 : t.length = 0
    · have hts : need ≤ 0 := by
        have e : t = [] := List.length_eq_zero_iff.1 ht0
        have := HPT.out.ts
        rw [e] at this
        exact this
      have hns : ¬ (0 : Int) < need := by omega
      clear HOP
      go_wp2
      go_loopw [13, 14] (fun s13 j wr => s13 = .int .i64 0 ∧ j = .int .i64 0 ∧ wr = w3) (fun _ _ _ => 0)
      case atStart => exact ⟨rfl, rfl, rfl⟩
      case round =>
        obtain ⟨rfl, rfl, rfl⟩ := hrel
        have hti0 : (t.length : Int) = 0 := by omega
        obtain ⟨wp, rfl⟩ : ∃ wp, wp = wr := ⟨_, rfl⟩
        go_wp2
        go_loopw [15, 16, 17] (fun s15 s16 j wr => ∃ (i : Nat) (ta : Option Addr) (ca : Nat) (tk : List Nat) (ot : Int), i ≤ xs.length ∧ j = .int .i64 i ∧ s15 = .slice ta tk.length ca ∧ s16 = .int .i64 ot ∧ Hid (KS w wr B l p t ta ca tk ot)) (fun _ _ j _ => xs.length - (intOf j).toNat)
        case atStart => exact ⟨0, none, 0, [], 0, Nat.zero_le _, rfl, rfl, rfl, HK0.out⟩
        case round =>
          obtain ⟨i, ta, ca, tk, ot, hi, rfl, rfl, rfl, hK⟩ := hrel
          clear HK0
          by_cases hlt : i < xs.length
          · obtain ⟨x0, x1, x2⟩ := HI.out wr hK.out.bel i hlt
            have i0 : (0 : Int) ≤ (i : Int) := by omega
            have i1 : (i : Int) < (xs.length : Int) := by omega
            obtain ⟨x, hx⟩ : ∃ x, Hid (xs[i]?.getD 0 = x) := ⟨_, rfl⟩
            rw [hx.out] at x0 x1 x2
            have HP1 := HPk.out x wr x1 x2
            clear hx
            have HLn : Hid (tk.length ≤ 4096) := Nat.le_trans (hK.out.len HPT.out) (by omega)
            have hob : ot ≤ 262144 := by have := hK.out.o1; have := hK.out.len HPT.out; omega
            have ho0 := hK.out.o0
            have htl : tk.length ≤ 64 := hK.out.len HPT.out
            go_wp2_with fail
            refine HP1.mono ?_
            rintro e wo ⟨⟨k, hk, rfl⟩, rfl⟩
            have k0 : (0 : Int) ≤ (k : Int) := by omega
            have k1 : (k : Int) < (l.length : Int) := by omega
            obtain ⟨c0, c1, _⟩ := HA.out wo hK.out.bel k hk
            have HTn : Hid ((gB l k).used = true → ¬ t.length ≤ tk.length + 1 → ¬ k ∈ tk → ∀ w' ta' ca', Keep (blk ta) wo w' → OwnI w' B ta' ca' (tk ++ [k]) → KS w w' B l p t ta' ca' (tk ++ [k]) (ot + (p - (gB l k).live))) := fun h1 h2 h3 w' ta' ca' h4 h5 => hK.out.turn HPT.out h4 h5 hk h1 h3 h2
            have hbl := HPT.out.gd k hk
            have hb1 := hbl.1
            have hb2 := hbl.2.1
            have HK : Hid (KS w wo B l p t ta ca tk ot) := hK
            clear HP1 x0 x1 x2 hbl hK
            rcases HK.out.own.parts with ⟨rfl, rfl, rfl⟩ | ⟨gt, cur, rfl, _⟩
            · simp only [List.length_nil]
              go_wp2
              go_loopw [19, 20] (fun s j wr => s = .bool false ∧ j = .int .i64 0 ∧ wr = wo) (fun _ _ _ => 0)
              case atStart => exact ⟨rfl, rfl, rfl⟩
              case round =>
                obtain ⟨rfl, rfl, rfl⟩ := hrel
                cases hu : (gB l k).used with
                | false =>
                  rw [hu] at c0
                  clear hu HTn
                  go_wp2
                  exact ⟨⟨i + 1, none, 0, ([] : List Nat), ot, by omega, by go_num, by simp, rfl, HK.out⟩, by simp [intOf]; omega⟩
                | true =>
                  rw [hu] at c0
                  by_cases hln : t.length ≤ (([] : List Nat)).length + 1
                  · have hli : (t.length : Int) ≤ (((([] : List Nat)).length : Nat) : Int) + 1 := by omega
                    clear hu HTn
                    simp only [List.length_nil] at hli
                    go_wp2
                    exact ⟨⟨i + 1, none, 0, ([] : List Nat), ot, by omega, by go_num, by simp, rfl, HK.out⟩, by simp [intOf]; omega⟩
                  · exact absurd (show t.length ≤ ([] : List Nat).length + 1 by omega) hln
            · skip
              go_wp2
              go_loopw [19, 20] (fun s j wr => ∃ (q : Nat) (tw : Bool), q ≤ tk.length ∧ j = .int .i64 q ∧ s = .bool tw ∧ Hid (ZS wo wr tk k q tw)) (fun _ j _ => tk.length - (intOf j).toNat)
              case atStart => exact ⟨0, false, Nat.zero_le _, rfl, rfl, ZS.zero wo tk k⟩
              case round =>
                obtain ⟨q, tw, hq, rfl, rfl, hZ⟩ := hrel
                obtain ⟨rfl, hZ2⟩ := hZ.out
                clear hZ
                by_cases hqt : q < tk.length
                · have d0 := HK.out.own.cell hqt
                  have q0 : (0 : Int) ≤ (q : Int) := by omega
                  have q1 : (q : Int) < (tk.length : Int) := by omega
                  cases tw with
                  | true =>
                    have HZ : Hid (ZS wr wr tk k (q + 1) true) := ⟨rfl, ⟨fun _ => by
                      obtain ⟨j, hj, e⟩ := hZ2.1 rfl
                      exact ⟨j, by omega, e⟩, fun _ => rfl⟩⟩
                    clear hZ2 c0 c1
                    go_wp2
                    exact ⟨⟨q + 1, true, by omega, by go_num, rfl, HZ.out⟩, by simp [intOf]; omega⟩
                  | false =>
                    by_cases he : tk[q]?.getD 0 = k
                    · have HZ : Hid (ZS wr wr tk k (q + 1) true) := ⟨rfl, ⟨fun _ => ⟨q, by omega, he⟩, fun _ => rfl⟩⟩
                      rw [he] at d0
                      clear hZ2 c0 c1 he
                      go_wp2
                      exact ⟨⟨q + 1, true, by omega, by go_num, rfl, HZ.out⟩, by simp [intOf]; omega⟩
                    · have HZ : Hid (ZS wr wr tk k (q + 1) false) := ⟨rfl, ⟨fun h => (by cases h), fun ⟨j, hj, e⟩ => by
                        by_cases e2 : j = q
                        · subst e2; exact absurd e he
                        · exact hZ2.2 ⟨j, by omega, e⟩⟩⟩
                      have hei : (((tk[q]?.getD 0 : Nat) : Int) == (k : Int)) = false := by rw [beq_eq_false_iff_ne]; omega
                      clear hZ2 c0 c1 he
                      generalize tk[q]?.getD 0 = y at *
                      go_wp2
                      exact ⟨⟨q + 1, false, by omega, by go_num, rfl, HZ.out⟩, by simp [intOf]; omega⟩
                · obtain rfl : q = tk.length := by omega
                  clear hqt
                  cases tw with
                  | true =>
                    clear hZ2 HTn
                    go_wp2
                    exact ⟨⟨i + 1, (some ⟨gt, 0, none⟩), ca, tk, ot, by omega, by go_num, by simp, rfl, HK.out⟩, by simp [intOf]; omega⟩
                  | false =>
                    have HZN : Hid (¬ k ∈ tk) := fun h => by have := hZ2.2 (mem_at.1 h); cases this
                    clear hZ2
                    cases hu : (gB l k).used with
                    | false =>
                      rw [hu] at c0
                      clear hu HTn
                      go_wp2
                      exact ⟨⟨i + 1, (some ⟨gt, 0, none⟩), ca, tk, ot, by omega, by go_num, by simp, rfl, HK.out⟩, by simp [intOf]; omega⟩
                    | true =>
                      rw [hu] at c0
                      by_cases hln : t.length ≤ (tk).length + 1
                      · have hli : (t.length : Int) ≤ (((tk).length : Nat) : Int) + 1 := by omega
                        clear hu HTn
                        go_wp2
                        exact ⟨⟨i + 1, (some ⟨gt, 0, none⟩), ca, tk, ot, by omega, by go_num, by simp, rfl, HK.out⟩, by simp [intOf]; omega⟩
                      · exact absurd (show t.length ≤ tk.length + 1 by omega) hln
          · obtain rfl : i = xs.length := by omega
            clear hlt HPk HI HA
            by_cases ht : t.length = 0
            · have hti : (t.length : Int) = 0 := by omega
              have HB : Hid (Below w.heap.size w wr) := hK.out.bel
              clear hK ht
              go_wp2
              go_ret
              exact ⟨rfl, HB.out⟩
            · have hti : ¬ (t.length : Int) = 0 := by omega
              have hot := hK.out.few HPT.out ht
              have HB : Hid (Below w.heap.size w wr) := hK.out.bel
              clear hK ht
              go_wp2
              go_ret
              exact ⟨rfl, HB.out⟩
    · obtain ⟨gp, rfl⟩ := HOP.out.some_of (i := 0) (by omega)
      go_wp2
      go_loopw [13, 14] (fun s13 j wr => ∃ (i : Nat) (won : Int), i ≤ t.length ∧ j = .int .i64 i ∧ s13 = .int .i64 won ∧ Hid (FS w3 wr l p t i won)) (fun _ j _ => t.length - (intOf j).toNat)
      case atStart => exact ⟨0, 0, Nat.zero_le _, rfl, rfl, (⟨rfl, by simp [sumG], Int.le_refl _, by simp⟩ : FS w3 w3 l p t 0 0)⟩
      case round =>
        obtain ⟨i, won, hi, rfl, rfl, hS⟩ := hrel
        obtain ⟨rfl, hs1, hs2, hs3⟩ := hS.out
        clear hS
        by_cases hlt : i < t.length
        · have d0 := HOP.out.cell hlt
          have hmem := HPT.out.tm _ (at_mem hlt)
          have HX : Hid (∀ y, t[i]?.getD 0 = y → 0 ≤ p - (gB l y).live → p - (gB l y).live ≤ 4096 → FS wr wr l p t (i + 1) (won + (p - (gB l y).live))) := fun y hy h1 h2 => ⟨rfl, by rw [take_snoc hlt, sumG_app, ← hs1, hy]; simp [sumG, gain], by omega, by omega⟩
          obtain ⟨y, hy⟩ : ∃ y, Hid (t[i]?.getD 0 = y) := ⟨_, rfl⟩
          rw [hy.out] at d0 hmem
          have HX2 := HX.out y hy.out
          obtain ⟨m1, m2, m3⟩ := hmem
          have hbl := HPT.out.gd y m1
          have hb1 := hbl.1
          obtain ⟨c0, c1, _⟩ := HA.out wr HB3.out y m1
          rw [m2] at c0
          have HX3 : Hid (FS wr wr l p t (i + 1) (won + (p - (gB l y).live))) := HX2 (by omega) (by omega)
          have i0 : (0 : Int) ≤ (i : Int) := by omega
          have i1 : (i : Int) < (t.length : Int) := by omega
          have y0 : (0 : Int) ≤ (y : Int) := by omega
          have y1 : (y : Int) < (l.length : Int) := by omega
          have y2 : ¬ (y : Int) < 0 := by omega
          have y3 : ¬ (l.length : Int) ≤ (y : Int) := by omega
          have hwb : won ≤ 262144 := by omega
          have hwe : won + p - (gB l y).live = won + (p - (gB l y).live) := by omega
          clear HX HX2 hy hs1 m2 hbl hs3
          go_wp2
          exact ⟨⟨i + 1, won + (p - (gB l y).live), by omega, by go_num, by rw [← hwe]; try go_num, HX3.out⟩, by simp [intOf]; omega⟩
        · obtain rfl : i = t.length := by omega
          clear hlt
          have hns : ¬ won < need := by
            have := HPT.out.ts
            rw [List.take_length] at hs1
            omega
          clear hs1 hs2 hs3 HOP
          obtain ⟨wp, rfl⟩ : ∃ wp, wp = wr := ⟨_, rfl⟩
          go_wp2
          go_loopw [15, 16, 17] (fun s15 s16 j wr => ∃ (i : Nat) (ta : Option Addr) (ca : Nat) (tk : List Nat) (ot : Int), i ≤ xs.length ∧ j = .int .i64 i ∧ s15 = .slice ta tk.length ca ∧ s16 = .int .i64 ot ∧ Hid (KS w wr B l p t ta ca tk ot)) (fun _ _ j _ => xs.length - (intOf j).toNat)
          case atStart => exact ⟨0, none, 0, [], 0, Nat.zero_le _, rfl, rfl, rfl, HK0.out⟩
          case round =>
            obtain ⟨i, ta, ca, tk, ot, hi, rfl, rfl, rfl, hK⟩ := hrel
            clear HK0
            by_cases hlt : i < xs.length
            · obtain ⟨x0, x1, x2⟩ := HI.out wr hK.out.bel i hlt
              have i0 : (0 : Int) ≤ (i : Int) := by omega
              have i1 : (i : Int) < (xs.length : Int) := by omega
              obtain ⟨x, hx⟩ : ∃ x, Hid (xs[i]?.getD 0 = x) := ⟨_, rfl⟩
              rw [hx.out] at x0 x1 x2
              have HP1 := HPk.out x wr x1 x2
              clear hx
              have HLn : Hid (tk.length ≤ 4096) := Nat.le_trans (hK.out.len HPT.out) (by omega)
              have hob : ot ≤ 262144 := by have := hK.out.o1; have := hK.out.len HPT.out; omega
              have ho0 := hK.out.o0
              have htl : tk.length ≤ 64 := hK.out.len HPT.out
              go_wp2_with fail
              refine HP1.mono ?_
              rintro e wo ⟨⟨k, hk, rfl⟩, rfl⟩
              have k0 : (0 : Int) ≤ (k : Int) := by omega
              have k1 : (k : Int) < (l.length : Int) := by omega
              obtain ⟨c0, c1, _⟩ := HA.out wo hK.out.bel k hk
              have HTn : Hid ((gB l k).used = true → ¬ t.length ≤ tk.length + 1 → ¬ k ∈ tk → ∀ w' ta' ca', Keep (blk ta) wo w' → OwnI w' B ta' ca' (tk ++ [k]) → KS w w' B l p t ta' ca' (tk ++ [k]) (ot + (p - (gB l k).live))) := fun h1 h2 h3 w' ta' ca' h4 h5 => hK.out.turn HPT.out h4 h5 hk h1 h3 h2
              have hbl := HPT.out.gd k hk
              have hb1 := hbl.1
              have hb2 := hbl.2.1
              have HK : Hid (KS w wo B l p t ta ca tk ot) := hK
              clear HP1 x0 x1 x2 hbl hK
              rcases HK.out.own.parts with ⟨rfl, rfl, rfl⟩ | ⟨gt, cur, rfl, _⟩
              · simp only [List.length_nil]
                go_wp2
                go_loopw [19, 20] (fun s j wr => s = .bool false ∧ j = .int .i64 0 ∧ wr = wo) (fun _ _ _ => 0)
                case atStart => exact ⟨rfl, rfl, rfl⟩
                case round =>
                  obtain ⟨rfl, rfl, rfl⟩ := hrel
                  cases hu : (gB l k).used with
                  | false =>
                    rw [hu] at c0
                    clear hu HTn
                    go_wp2
                    exact ⟨⟨i + 1, none, 0, ([] : List Nat), ot, by omega, by go_num, by simp, rfl, HK.out⟩, by simp [intOf]; omega⟩
                  | true =>
                    rw [hu] at c0
                    by_cases hln : t.length ≤ (([] : List Nat)).length + 1
                    · have hli : (t.length : Int) ≤ (((([] : List Nat)).length : Nat) : Int) + 1 := by omega
                      clear hu HTn
                      simp only [List.length_nil] at hli
                      go_wp2
                      exact ⟨⟨i + 1, none, 0, ([] : List Nat), ot, by omega, by go_num, by simp, rfl, HK.out⟩, by simp [intOf]; omega⟩
                    · have hli : ¬ (t.length : Int) ≤ (((([] : List Nat)).length : Nat) : Int) + 1 := by omega
                      simp only [List.length_nil] at hli
                      have HTm := HTn.out hu hln
                      have HTm2 : Hid (∀ w' ta' ca', Keep (blk none) wr w' → OwnI w' B ta' ca' (([] : List Nat) ++ [k]) → KS w w' B l p t ta' ca' (([] : List Nat) ++ [k]) (ot + (p - (gB l k).live))) := HTm (by simp)
                      clear hu HTn HTm
                      go_wp2_with (at_builtin; refine app_stepI rfl (.tmp 141) (.tmp 143) rfl wr B 0 none ([] : List Nat) k (by rfl) (by simp [Act.eval]) HK.out.own HLn.out HK.out.sz ?_; intro g6 ca6 w6 ho6 hk6; have HF : Hid (KS w w6 B l p t (some ⟨g6, 0, none⟩) ca6 (([] : List Nat) ++ [k]) (ot + (p - (gB l k).live))) := HTm2.out _ _ _ hk6 ho6; obtain ⟨_, d1, _⟩ := HA.out w6 HF.out.bel k hk; clear ho6 hk6 HTm2 c1)
                      have hwe : ot + p - (gB l k).live = ot + (p - (gB l k).live) := by omega
                      exact ⟨⟨i + 1, some ⟨g6, 0, none⟩, ca6, ([] : List Nat) ++ [k], ot + (p - (gB l k).live), by omega, by go_num, by simp, by rw [← hwe]; try go_num, HF.out⟩, by simp [intOf]; omega⟩
              · skip
                go_wp2
                go_loopw [19, 20] (fun s j wr => ∃ (q : Nat) (tw : Bool), q ≤ tk.length ∧ j = .int .i64 q ∧ s = .bool tw ∧ Hid (ZS wo wr tk k q tw)) (fun _ j _ => tk.length - (intOf j).toNat)
                case atStart => exact ⟨0, false, Nat.zero_le _, rfl, rfl, ZS.zero wo tk k⟩
                case round =>
                  obtain ⟨q, tw, hq, rfl, rfl, hZ⟩ := hrel
                  obtain ⟨rfl, hZ2⟩ := hZ.out
                  clear hZ
                  by_cases hqt : q < tk.length
                  · have d0 := HK.out.own.cell hqt
                    have q0 : (0 : Int) ≤ (q : Int) := by omega
                    have q1 : (q : Int) < (tk.length : Int) := by omega
                    cases tw with
                    | true =>
                      have HZ : Hid (ZS wr wr tk k (q + 1) true) := ⟨rfl, ⟨fun _ => by
                        obtain ⟨j, hj, e⟩ := hZ2.1 rfl
                        exact ⟨j, by omega, e⟩, fun _ => rfl⟩⟩
                      clear hZ2 c0 c1
                      go_wp2
                      exact ⟨⟨q + 1, true, by omega, by go_num, rfl, HZ.out⟩, by simp [intOf]; omega⟩
                    | false =>
                      by_cases he : tk[q]?.getD 0 = k
                      · have HZ : Hid (ZS wr wr tk k (q + 1) true) := ⟨rfl, ⟨fun _ => ⟨q, by omega, he⟩, fun _ => rfl⟩⟩
                        rw [he] at d0
                        clear hZ2 c0 c1 he
                        go_wp2
                        exact ⟨⟨q + 1, true, by omega, by go_num, rfl, HZ.out⟩, by simp [intOf]; omega⟩
                      · have HZ : Hid (ZS wr wr tk k (q + 1) false) := ⟨rfl, ⟨fun h => (by cases h), fun ⟨j, hj, e⟩ => by
                          by_cases e2 : j = q
                          · subst e2; exact absurd e he
                          · exact hZ2.2 ⟨j, by omega, e⟩⟩⟩
                        have hei : (((tk[q]?.getD 0 : Nat) : Int) == (k : Int)) = false := by rw [beq_eq_false_iff_ne]; omega
                        clear hZ2 c0 c1 he
                        generalize tk[q]?.getD 0 = y at *
                        go_wp2
                        exact ⟨⟨q + 1, false, by omega, by go_num, rfl, HZ.out⟩, by simp [intOf]; omega⟩
                  · obtain rfl : q = tk.length := by omega
                    clear hqt
                    cases tw with
                    | true =>
                      clear hZ2 HTn
                      go_wp2
                      exact ⟨⟨i + 1, (some ⟨gt, 0, none⟩), ca, tk, ot, by omega, by go_num, by simp, rfl, HK.out⟩, by simp [intOf]; omega⟩
                    | false =>
                      have HZN : Hid (¬ k ∈ tk) := fun h => by have := hZ2.2 (mem_at.1 h); cases this
                      clear hZ2
                      cases hu : (gB l k).used with
                      | false =>
                        rw [hu] at c0
                        clear hu HTn
                        go_wp2
                        exact ⟨⟨i + 1, (some ⟨gt, 0, none⟩), ca, tk, ot, by omega, by go_num, by simp, rfl, HK.out⟩, by simp [intOf]; omega⟩
                      | true =>
                        rw [hu] at c0
                        by_cases hln : t.length ≤ (tk).length + 1
                        · have hli : (t.length : Int) ≤ (((tk).length : Nat) : Int) + 1 := by omega
                          clear hu HTn
                          go_wp2
                          exact ⟨⟨i + 1, (some ⟨gt, 0, none⟩), ca, tk, ot, by omega, by go_num, by simp, rfl, HK.out⟩, by simp [intOf]; omega⟩
                        · have hli : ¬ (t.length : Int) ≤ (((tk).length : Nat) : Int) + 1 := by omega
                          have HTm := HTn.out hu hln
                          have HTm2 : Hid (∀ w' ta' ca', Keep (blk (some ⟨gt, 0, none⟩)) wr w' → OwnI w' B ta' ca' (tk ++ [k]) → KS w w' B l p t ta' ca' (tk ++ [k]) (ot + (p - (gB l k).live))) := HTm HZN.out
                          clear hu HTn HTm
                          go_wp2_with (at_builtin; refine app_stepI rfl (.tmp 141) (.tmp 143) rfl wr B ca (some ⟨gt, 0, none⟩) tk k (by rfl) (by simp [Act.eval]) HK.out.own HLn.out HK.out.sz ?_; intro g6 ca6 w6 ho6 hk6; have HF : Hid (KS w w6 B l p t (some ⟨g6, 0, none⟩) ca6 (tk ++ [k]) (ot + (p - (gB l k).live))) := HTm2.out _ _ _ hk6 ho6; obtain ⟨_, d1, _⟩ := HA.out w6 HF.out.bel k hk; clear ho6 hk6 HTm2 c1)
                          have hwe : ot + p - (gB l k).live = ot + (p - (gB l k).live) := by omega
                          exact ⟨⟨i + 1, some ⟨g6, 0, none⟩, ca6, tk ++ [k], ot + (p - (gB l k).live), by omega, by go_num, by simp, by rw [← hwe]; try go_num, HF.out⟩, by simp [intOf]; omega⟩
            · obtain rfl : i = xs.length := by omega
              clear hlt HPk HI HA
              by_cases ht : t.length = 0
              · have hti : (t.length : Int) = 0 := by omega
                have HB : Hid (Below w.heap.size w wr) := hK.out.bel
                clear hK ht
                go_wp2
                go_ret
                exact ⟨rfl, HB.out⟩
              · have hti : ¬ (t.length : Int) = 0 := by omega
                have hot := hK.out.few HPT.out ht
                have HB : Hid (Below w.heap.size w wr) := hK.out.bel
                clear hK ht
                go_wp2
                go_ret
                exact ⟨rfl, HB.out⟩
end Go.Proofs.Ytgmobibogoebpag
