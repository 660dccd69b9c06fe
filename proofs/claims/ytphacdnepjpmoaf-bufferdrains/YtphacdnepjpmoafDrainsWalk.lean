/-
  What the call of BufferDrains gives: true.
-/
import Derived.Test.YtphacdnepjpmoafDrainsA
namespace Go.Proofs.Ytphacdnepjpmoaf
open Go.RowKit
set_option linter.unusedVariables false

set_option maxRecDepth 20000 in
set_option maxHeartbeats 1600000 in
theorem drains_bad (m : Int) (a1 : Option Addr) (n1 c1 : Nat) (w : World) (h : m < 1 ∨ 16 < m) :
    Calls Try.prog 4 #[.int .i64 m, .slice a1 n1 c1] w fun e w' => e = .returned (.bool true) ∧ Below w.heap.size w w' := by
  have HN := new_bad m w h
  rcases h with h | h
  · go_enter Try.func4, Try.ntmps4
    go_wp2_with fail
    refine HN.mono ?_
    rintro e w1 ⟨rfl, rfl⟩
    clear HN
    go_wp2
    go_ret
    exact ⟨rfl, Below.refl _ _⟩
  · have h0 : ¬ m < 1 := by omega
    go_enter Try.func4, Try.ntmps4
    go_wp2_with fail
    refine HN.mono ?_
    rintro e w1 ⟨rfl, rfl⟩
    clear HN
    go_wp2
    go_ret
    exact ⟨rfl, Below.refl _ _⟩
theorem putE_no {most : Nat} {L : List It} {x : It} (h : putE most L x.lba ≠ 0) : putL most L x = L := if_neg h
theorem putE_yes {most : Nat} {L : List It} {x : It} (h : putE most L x.lba = 0) : putL most L x = drp L x.lba ++ [x] := if_pos h
def s0 : TL := ⟨[], [], none, none, 0, 0⟩
set_option maxRecDepth 20000 in
set_option maxHeartbeats 3200000 in
theorem drains_good (m : Nat) (a1 : Option Addr) (n1 c1 : Nat) (w : World) (h1 : 1 ≤ m) (h2 : m ≤ 16) (hS : Script w a1 n1) (hn1 : n1 * 40 ≤ 140737488351232) :
    Calls Try.prog 4 #[.int .i64 m, .slice a1 n1 c1] w fun e w' => e = .returned (.bool true) ∧ Below w.heap.size w w' := by
  have HN : Hid (Calls Try.prog 8 #[.int .i64 m] w fun e w' => ∃ bb mb, e = .returned (.tuple #[.pointer (some ⟨bb, 0, none⟩), .nilIface]) ∧ LS w.heap.size bb mb m w w' []) := (new_yes m w h1 h2).mono fun e w' ⟨e1, e2, e3⟩ => ⟨_, _, e1, e2, e3⟩
  have HS : Hid (Script w a1 n1) := hS
  have Hn : Hid (n1 * 40 ≤ 140737488351232) := hn1
  obtain ⟨B, hB⟩ : ∃ B, Hid (w.heap.size = B) := ⟨_, rfl⟩
  rw [hB.out] at HN ⊢
  have hn63 : n1 ≤ 9223372036854775807 := by omega
  clear hS hn1
  go_enter Try.func4, Try.ntmps4
  go_wp2_with fail
  refine HN.out.mono ?_
  rintro e w1 ⟨bb, mb, rfl, hs1⟩
  have H1 : Hid (DS B bb mb m w w1 0 [] [] s0) := ⟨hs1, Or.inl rfl, Or.inl rfl, (fun _ => rfl), (fun _ => rfl), (fun x hx => by cases hx), (fun x hx => by cases hx), inv_nil, Nat.le_refl _⟩
  clear HN hs1
  go_wp2_with fail
  refine (map0_any _).mono ?_
  rintro e w2 ⟨rfl, rfl⟩
  go_wp2_with fail
  refine (map0_any _).mono ?_
  rintro e w2 ⟨rfl, rfl⟩
  go_wp2
  go_loopw [7, 8, 9] (fun v7 v8 j wr => ∃ (i : Nat) (L : List It) (s : TL), i ≤ n1 ∧ v7 = .slice s.wa s.MW.length s.wc ∧ v8 = .slice s.ha s.MH.length s.hc ∧ j = .int .i64 i ∧ Hid (DS B bb mb m w wr i L L s)) (fun _ _ j _ => n1 - (intOf j).toNat)
  case atStart => exact ⟨0, [], s0, Nat.zero_le _, rfl, rfl, rfl, H1⟩
  case round =>
    obtain ⟨i, L, s, hi, rfl, rfl, rfl, hR⟩ := hrel
    clear H1
    by_cases hlt : i < n1
    · obtain ⟨so, oo, ha2, o, hO⟩ := HS.out.slice hlt
      have hOr := hO.below hR.out.ls.bel (Nat.le_of_eq hB.out)
      have k0 := hOr.k0
      have k1 := hOr.k1
      have k2 := hOr.k2
      have HO : Hid (OpAt w so oo i o ∧ OpAt wr so oo i o) := ⟨hO, hOr⟩
      clear hO hOr
      subst ha2
      have HW : Hid (∀ kd, Below wr.heap.size wr (wr.alloc (.cells #[.int .i64 kd, .int .i64 o.lba, .slice o.a o.data.length o.cap] 37)) ∧ (wr.alloc (.cells #[.int .i64 kd, .int .i64 o.lba, .slice o.a o.data.length o.cap] 37)).heap[wr.heap.size]? = some (.cells #[.int .i64 kd, .int .i64 o.lba, .slice o.a o.data.length o.cap] 37)) := fun kd => ⟨alloc_below' wr _, heap_alloc_new wr _⟩
      by_cases hk1 : o.kind = 1
      · rw [hk1] at k0
        have HP := (hR.out.below (HW.out 1).1).put (HW.out 1).2 HO.out.1.l9 (HO.out.2.li.below (HW.out 1).1) HO.out.1.dl
        by_cases hz : putE m L o.lba = 0
        · rw [hz, putE_yes (x := It.mk o.lba false o.data) hz] at HP
          have HP2 : Hid (Calls Try.prog 10 #[.pointer (some ⟨bb, 0, none⟩), .int .i64 o.lba, .slice o.a o.data.length o.cap] (wr.alloc (.cells #[.int .i64 1, .int .i64 o.lba, .slice o.a o.data.length o.cap] 37)) fun e w' => e = .returned .nilIface ∧ (w'.cell? ⟨wr.heap.size, 1, none⟩ = some (.int .i64 o.lba) ∧ w'.cell? ⟨wr.heap.size, 2, none⟩ = some (.slice o.a o.data.length o.cap)) ∧ Hid (DS B bb mb m w w' i (drp L o.lba ++ [It.mk o.lba false o.data]) L s)) := HP
          have HQ : Hid (∀ W, DS B bb mb m w W i (drp L o.lba ++ [It.mk o.lba false o.data]) L s → Calls Try.prog 11 #[.slice s.wa s.MW.length s.wc, .agg #[.int .i64 o.lba, .bool false, .slice o.a o.data.length o.cap]] W fun e w' => ∃ wa wc, e = .returned (.slice wa (ptR s.MW ⟨It.mk o.lba false o.data, o.a, o.cap⟩).length wc) ∧ Hid (DS B bb mb m w w' (i + 1) (drp L o.lba ++ [It.mk o.lba false o.data]) (drp L o.lba ++ [It.mk o.lba false o.data]) { s with MW := ptR s.MW ⟨It.mk o.lba false o.data, o.a, o.cap⟩, wa := wa, wc := wc })) := fun W hW => hW.want ⟨It.mk o.lba false o.data, o.a, o.cap⟩ hlt Hn.out ⟨HO.out.1.li, HO.out.1.dl⟩
          clear HP hR HW HO hk1 hz HS
          go_wp2_with fail
          refine HP2.out.mono ?_
          rintro e w3 ⟨rfl, ⟨b1, b2⟩, h3⟩
          clear HP2 k0 k1 k2
          go_wp2_with fail
          refine (HQ.out _ h3.out).mono ?_
          rintro e w4 ⟨wa, wc, rfl, h4⟩
          clear HQ h3 b1 b2
          go_wp2
          exact ⟨⟨i + 1, _, { s with MW := ptR s.MW ⟨It.mk o.lba false o.data, o.a, o.cap⟩, wa := wa, wc := wc }, by omega, rfl, rfl, by go_num, h4⟩, by simp [intOf]; omega⟩
        · have hpn := putE_no (x := It.mk o.lba false o.data) hz
          rw [hpn, errI_ne hz] at HP
          have HP2 : Hid (Calls Try.prog 10 #[.pointer (some ⟨bb, 0, none⟩), .int .i64 o.lba, .slice o.a o.data.length o.cap] (wr.alloc (.cells #[.int .i64 1, .int .i64 o.lba, .slice o.a o.data.length o.cap] 37)) fun e w' => (∃ ev, e = .returned (.iface 48 (.int .i64 ev))) ∧ Hid (DS B bb mb m w w' (i + 1) L L s)) := HP.mono fun e w' ⟨e1, _, e3⟩ => ⟨⟨_, e1⟩, e3.out.next⟩
          clear HP hR HW HO hk1 hz HS hpn
          go_wp2_with fail
          refine HP2.out.mono ?_
          rintro e w3 ⟨⟨ev, rfl⟩, h3⟩
          clear HP2 k0 k1 k2
          go_wp2
          exact ⟨⟨i + 1, L, s, by omega, rfl, rfl, by go_num, h3⟩, by simp [intOf]; omega⟩
      · have t1 : (o.kind == 1) = false := by rw [beq_eq_false_iff_ne]; exact hk1
        by_cases hk2 : o.kind = 2
        · rw [hk2] at k0 t1
          have HP := (hR.out.below (HW.out 2).1).drop (HW.out 2).2 HO.out.1.l9
          by_cases hz : putE m L o.lba = 0
          · rw [hz, putE_yes (x := It.mk o.lba true []) hz] at HP
            have HP2 : Hid (Calls Try.prog 12 #[.pointer (some ⟨bb, 0, none⟩), .int .i64 o.lba] (wr.alloc (.cells #[.int .i64 2, .int .i64 o.lba, .slice o.a o.data.length o.cap] 37)) fun e w' => e = .returned .nilIface ∧ w'.cell? ⟨wr.heap.size, 1, none⟩ = some (.int .i64 o.lba) ∧ Hid (DS B bb mb m w w' i (drp L o.lba ++ [It.mk o.lba true []]) L s)) := HP
            have HQ : Hid (∀ W, DS B bb mb m w W i (drp L o.lba ++ [It.mk o.lba true []]) L s → Calls Try.prog 11 #[.slice s.wa s.MW.length s.wc, .agg #[.int .i64 o.lba, .bool true, .slice none 0 0]] W fun e w' => ∃ wa wc, e = .returned (.slice wa (ptR s.MW ⟨It.mk o.lba true [], none, 0⟩).length wc) ∧ Hid (DS B bb mb m w w' (i + 1) (drp L o.lba ++ [It.mk o.lba true []]) (drp L o.lba ++ [It.mk o.lba true []]) { s with MW := ptR s.MW ⟨It.mk o.lba true [], none, 0⟩, wa := wa, wc := wc })) := fun W hW => hW.want ⟨It.mk o.lba true [], none, 0⟩ hlt Hn.out ⟨Or.inl rfl, Nat.zero_le _⟩
            clear HP hR HW HO hk1 hk2 hz HS t1
            go_wp2_with fail
            refine HP2.out.mono ?_
            rintro e w3 ⟨rfl, b1, h3⟩
            clear HP2 k0 k1 k2
            go_wp2_with fail
            refine (HQ.out _ h3.out).mono ?_
            rintro e w4 ⟨wa, wc, rfl, h4⟩
            clear HQ h3 b1
            go_wp2
            exact ⟨⟨i + 1, _, { s with MW := ptR s.MW ⟨It.mk o.lba true [], none, 0⟩, wa := wa, wc := wc }, by omega, rfl, rfl, by go_num, h4⟩, by simp [intOf]; omega⟩
          · have hpn := putE_no (x := It.mk o.lba true []) hz
            rw [hpn, errI_ne hz] at HP
            have HP2 : Hid (Calls Try.prog 12 #[.pointer (some ⟨bb, 0, none⟩), .int .i64 o.lba] (wr.alloc (.cells #[.int .i64 2, .int .i64 o.lba, .slice o.a o.data.length o.cap] 37)) fun e w' => (∃ ev, e = .returned (.iface 48 (.int .i64 ev))) ∧ Hid (DS B bb mb m w w' (i + 1) L L s)) := HP.mono fun e w' ⟨e1, _, e3⟩ => ⟨⟨_, e1⟩, e3.out.next⟩
            clear HP hR HW HO hk1 hk2 hz HS hpn t1
            go_wp2_with fail
            refine HP2.out.mono ?_
            rintro e w3 ⟨⟨ev, rfl⟩, h3⟩
            clear HP2 k0 k1 k2
            go_wp2
            exact ⟨⟨i + 1, L, s, by omega, rfl, rfl, by go_num, h3⟩, by simp [intOf]; omega⟩
        · have t2 : (o.kind == 2) = false := by rw [beq_eq_false_iff_ne]; exact hk2
          have HDr : Hid (Calls Try.prog 13 #[.pointer (some ⟨bb, 0, none⟩), .int .i64 o.lba] (wr.alloc (.cells #[.int .i64 o.kind, .int .i64 o.lba, .slice o.a o.data.length o.cap] 37)) fun e w' => ∃ (M1 : List RN) (a1 : Option Addr) (c1 : Nat), e = .returned (.slice a1 M1.length c1) ∧ M1.length ≤ 16 ∧ Hid (M1.length = min o.lba.toNat L.length) ∧ Hid (DG B bb mb m w w' i (L.drop o.lba.toNat) L s o.lba.toNat 0 M1 a1)) := (hR.out.below (HW.out o.kind).1).drain o.lba
          clear hR HW HO hk1 hk2 HS
          generalize o.lba.toNat = nn at HDr
          go_wp2_with fail
          refine HDr.out.mono ?_
          rintro e w3 ⟨M1, a3, c3, rfl, h16, hml, h3⟩
          clear HDr k0 k1 k2
          go_wp2
          go_loopw [8, 14] (fun v8 j wq => ∃ (k : Nat) (s' : TL), k ≤ M1.length ∧ v8 = .slice s'.ha s'.MH.length s'.hc ∧ j = .int .i64 k ∧ Hid ((s'.wa = s.wa ∧ s'.wc = s.wc ∧ s'.MW = s.MW) ∧ DG B bb mb m w wq i (L.drop nn) L s' nn k M1 a3)) (fun _ j _ => M1.length - (intOf j).toNat)
          case atStart => exact ⟨0, s, Nat.zero_le _, rfl, rfl, ⟨rfl, rfl, rfl⟩, h3.out⟩
          case round =>
            obtain ⟨k, s', hk, rfl, rfl, hD⟩ := hrel
            clear h3
            by_cases hlt2 : k < M1.length
            · obtain ⟨g, off, ea, _, _, _⟩ := hD.out.2.cells hlt2
              subst ea
              go_wp2
              go_loopw [15] (fun j wq => ∃ q : Nat, q ≤ k ∧ j = .int .i64 q ∧ Hid (DG B bb mb m w wq i (L.drop nn) L s' nn k M1 (some ⟨g, off, none⟩))) (fun j _ => k - (intOf j).toNat)
              case atStart => exact ⟨0, Nat.zero_le _, rfl, hD.out.2⟩
              case round =>
                obtain ⟨q, hq, rfl, hG⟩ := hrel
                have HD1 : Hid (s'.wa = s.wa ∧ s'.wc = s.wc ∧ s'.MW = s.MW) := hD.out.1
                clear hD
                obtain ⟨g2, off2, e2, c0, c1, c2⟩ := hG.out.cells hlt2
                cases e2
                by_cases hlt3 : q < k
                · obtain ⟨g3, off3, e3, d0, _, _⟩ := hG.out.cells (show q < M1.length by omega)
                  cases e3
                  have hne : lbaR M1 q ≠ lbaR M1 k := hG.out.apart2 hlt3 hlt2
                  have d0' : wr.cell? ⟨g, off + q * 3, none⟩ = some (.int .i64 (lbaR M1 q)) := d0
                  have c0' : wr.cell? ⟨g, off + k * 3, none⟩ = some (.int .i64 (lbaR M1 k)) := c0
                  have t3 : (lbaR M1 q == lbaR M1 k) = false := by rw [beq_eq_false_iff_ne]; exact hne
                  have HN : Hid (∀ p, DG B bb mb m w (wr.drewN p) i (L.drop nn) L s' nn k M1 (some ⟨g, off, none⟩)) := fun p => hG.out.below (below_drewN (Below.refl _ _) p)
                  have hqM : q < M1.length := by omega
                  clear hG c0 c1 c2 d0 hne
                  generalize lbaR M1 q = X at *
                  generalize lbaR M1 k = Y at *
                  go_wp2
                  go_quiet (fail)
                  go_wp2
                  exact ⟨⟨q + 1, by omega, by go_num, HN.out _⟩, by simp [intOf]; omega⟩
                · have HG : Hid (∀ p, Calls Try.prog 11 #[.slice s'.ha s'.MH.length s'.hc, .agg #[.int .i64 (M1[k]?.getD rn0).it.lba, .bool (M1[k]?.getD rn0).it.gone, .slice (M1[k]?.getD rn0).a (M1[k]?.getD rn0).it.data.length (M1[k]?.getD rn0).cap]] (wr.drewN p) fun e w' => ∃ s2 : TL, e = .returned (.slice s2.ha s2.MH.length s2.hc) ∧ (w'.cell? ⟨g, off + k * 3, none⟩ = some (.int .i64 (M1[k]?.getD rn0).it.lba) ∧ w'.cell? ⟨g, off + k * 3 + 1, none⟩ = some (.bool (M1[k]?.getD rn0).it.gone) ∧ w'.cell? ⟨g, off + k * 3 + 2, none⟩ = some (.slice (M1[k]?.getD rn0).a (M1[k]?.getD rn0).it.data.length (M1[k]?.getD rn0).cap)) ∧ Hid ((s2.wa = s.wa ∧ s2.wc = s.wc ∧ s2.MW = s.MW) ∧ DG B bb mb m w w' i (L.drop nn) L s2 nn (k + 1) M1 (some ⟨g, off, none⟩))) := fun p => by
                    have hGp := hG.out.below (below_drewN (Below.refl wr.heap.size wr) p)
                    refine (hGp.give hlt2 hi Hn.out).mono ?_
                    rintro e w' ⟨s2, e1, e2, e3, e4⟩
                    obtain ⟨g4, off4, e5, x0, x1, x2⟩ := e4.out.cells hlt2
                    cases e5
                    exact ⟨s2, e1, ⟨x0, x1, x2⟩, ⟨e2.1.trans HD1.out.1, e2.2.1.trans HD1.out.2.1, e2.2.2.trans HD1.out.2.2⟩, e4.out⟩
                  obtain rfl : q = k := by omega
                  clear hG HD1
                  generalize M1[q]?.getD rn0 = R at *
                  go_wp2_with fail
                  go_region_held3 (fun w' => w'.cell? ⟨g, off + q * 3, none⟩ = some (.int .i64 R.it.lba) ∧ w'.cell? ⟨g, off + q * 3 + 1, none⟩ = some (.bool R.it.gone) ∧ w'.cell? ⟨g, off + q * 3 + 2, none⟩ = some (.slice R.a R.it.data.length R.cap)) (first | assumption | go_keep) (first | (go_at_call 11; refine (HG.out _).mono ?_; rintro e w5 ⟨s2, rfl, ⟨x0, x1, x2⟩, h5⟩))
                  go_wp2
                  exact ⟨⟨q + 1, s2, by omega, rfl, by go_num, h5⟩, by simp [intOf]; omega⟩
            · obtain rfl : k = M1.length := by omega
              have HF : Hid (DS B bb mb m w wr (i + 1) (L.drop nn) (L.drop nn) s' ∧ s'.wa = s.wa ∧ s'.wc = s.wc ∧ s'.MW = s.MW) := by
                have := hD.out.2.st
                have e : L.drop M1.length = L.drop nn := by
                  rw [hml.out]
                  by_cases hc : nn ≤ L.length
                  · rw [Nat.min_eq_left hc]
                  · rw [Nat.min_eq_right (by omega), List.drop_eq_nil_of_le (Nat.le_refl _), List.drop_eq_nil_of_le (by omega)]
                rw [e] at this
                exact ⟨this.next, hD.out.1⟩
              clear hD
              go_wp2
              exact ⟨⟨i + 1, _, s', by omega, by rw [HF.out.2.1, HF.out.2.2.1, HF.out.2.2.2], rfl, by go_num, HF.out.1⟩, by simp [intOf]; omega⟩
    · obtain rfl : i = n1 := by omega
      have hOk := hR.out.ls.bs.ok
      have HLn : Hid (Calls Try.prog 14 #[.pointer (some ⟨bb, 0, none⟩)] wr fun e w' => e = .returned (.int .i64 (L.length : Nat)) ∧ w' = wr) := hR.out.ls.len
      have HDr : Hid (Calls Try.prog 13 #[.pointer (some ⟨bb, 0, none⟩), .int .i64 (L.length : Nat)] wr fun e w' => ∃ (M1 : List RN) (a3 : Option Addr) (c3 : Nat), e = .returned (.slice a3 L.length c3) ∧ Hid (M1.length = L.length) ∧ Hid (DG B bb mb m w w' i [] L s L.length 0 M1 a3)) := by
        refine (hR.out.drain (L.length : Int)).mono ?_
        rintro e w' ⟨M1, a3, c3, e1, _, e2, e3⟩
        rw [Int.toNat_natCast, Nat.min_self] at e2
        rw [Int.toNat_natCast, List.drop_length] at e3
        exact ⟨M1, a3, c3, by rw [e1, e2], e2, e3.out⟩
      have hLm : L.length ≤ m := hOk.1.ln
      have hNL : Hid (L.drop L.length = []) := List.drop_length
      clear hR HS hlt hOk
      generalize hz : L.length = z at *
      have hzz : Hid (L.length = z) := hz
      clear hz
      have tg : decide (m < z) = false := decide_eq_false (by omega)
      go_wp2_with fail
      refine HLn.out.mono ?_
      rintro e w3 ⟨rfl, rfl⟩
      clear HLn
      go_wp2_with fail
      refine HDr.out.mono ?_
      rintro e w4 ⟨M1, a3, c3, rfl, hM1, h4⟩
      clear HDr
      go_wp2
      go_loopw [8, 18] (fun v8 j wq => ∃ (k : Nat) (s' : TL), k ≤ z ∧ v8 = .slice s'.ha s'.MH.length s'.hc ∧ j = .int .i64 k ∧ Hid ((s'.wa = s.wa ∧ s'.wc = s.wc ∧ s'.MW = s.MW) ∧ DG B bb mb m w wq i [] L s' z k M1 a3)) (fun _ j _ => z - (intOf j).toNat)
      case atStart => exact ⟨0, s, Nat.zero_le _, rfl, rfl, ⟨rfl, rfl, rfl⟩, h4.out⟩
      case round =>
        obtain ⟨k, s', hk, rfl, rfl, hD⟩ := hrel
        clear h4
        by_cases hlt2 : k < z
        · have hltM : k < M1.length := by rw [hM1.out]; exact hlt2
          obtain ⟨g, off, ea, c0, c1, c2⟩ := hD.out.2.cells hltM
          subst ea
          have HG : Hid (∀ p, Calls Try.prog 11 #[.slice s'.ha s'.MH.length s'.hc, .agg #[.int .i64 (M1[k]?.getD rn0).it.lba, .bool (M1[k]?.getD rn0).it.gone, .slice (M1[k]?.getD rn0).a (M1[k]?.getD rn0).it.data.length (M1[k]?.getD rn0).cap]] (wr.drewN p) fun e w' => ∃ s2 : TL, e = .returned (.slice s2.ha s2.MH.length s2.hc) ∧ (w'.cell? ⟨g, off + k * 3, none⟩ = some (.int .i64 (M1[k]?.getD rn0).it.lba) ∧ w'.cell? ⟨g, off + k * 3 + 1, none⟩ = some (.bool (M1[k]?.getD rn0).it.gone) ∧ w'.cell? ⟨g, off + k * 3 + 2, none⟩ = some (.slice (M1[k]?.getD rn0).a (M1[k]?.getD rn0).it.data.length (M1[k]?.getD rn0).cap)) ∧ Hid ((s2.wa = s.wa ∧ s2.wc = s.wc ∧ s2.MW = s.MW) ∧ DG B bb mb m w w' i [] L s2 z (k + 1) M1 (some ⟨g, off, none⟩))) := fun p => by
            have hGp := hD.out.2.below (below_drewN (Below.refl wr.heap.size wr) p)
            refine (hGp.give hltM (Nat.le_refl _) Hn.out).mono ?_
            rintro e w' ⟨s2, e1, e2, e3, e4⟩
            obtain ⟨g4, off4, e5, x0, x1, x2⟩ := e4.out.cells hltM
            cases e5
            exact ⟨s2, e1, ⟨x0, x1, x2⟩, ⟨e2.1.trans hD.out.1.1, e2.2.1.trans hD.out.1.2.1, e2.2.2.trans hD.out.1.2.2⟩, e4.out⟩
          clear hD hltM
          generalize M1[k]?.getD rn0 = R at *
          go_wp2_with fail
          go_region_held3 (fun w' => w'.cell? ⟨g, off + k * 3, none⟩ = some (.int .i64 R.it.lba) ∧ w'.cell? ⟨g, off + k * 3 + 1, none⟩ = some (.bool R.it.gone) ∧ w'.cell? ⟨g, off + k * 3 + 2, none⟩ = some (.slice R.a R.it.data.length R.cap)) (first | assumption | go_keep) (first | (go_at_call 11; refine (HG.out _).mono ?_; rintro e w5 ⟨s2, rfl, ⟨x0, x1, x2⟩, h5⟩))
          go_wp2
          exact ⟨⟨k + 1, s2, by omega, rfl, by go_num, h5⟩, by simp [intOf]; omega⟩
        · obtain rfl : k = z := by omega
          have hds := hD.out.2.st
          rw [show L.drop k = [] by rw [← hzz.out]; exact List.drop_length] at hds
          obtain ⟨e1, e2, e3⟩ := hD.out.1
          obtain ⟨q1, q2⟩ := hds.fin
          rw [e3] at q1 q2
          have HFS : Hid (FS B w wr ⟨s.MW, s'.MH, s.wa, s'.ha, s.wc, s'.hc⟩) := by
            have h := hds.fs hB.out
            exact ⟨by show RowAt _ _ s.wa s.MW; rw [← e1, ← e3]; exact h.rw, h.rh, by show ∀ x ∈ s.MW, _; rw [← e3]; exact h.lw, h.lh, h.bel, h.ge⟩
          have HQ2 : Hid (∀ k, k < s.MW.length → ∃ j, j < s'.MH.length ∧ (s'.MH[j]?.getD rn0).it = (s.MW[k]?.getD rn0).it) := q2
          have hwl : s.MW.length ≤ i := by have := hds.wl; rw [e3] at this; exact this
          have hhl : s'.MH.length ≤ i := by omega
          have tq : (((s.MW.length : Nat) : Int) != ((s'.MH.length : Nat) : Int)) = false := by rw [bne_eq_false_iff_eq]; omega
          have Hq1 : Hid (s.MW.length = s'.MH.length) := q1
          clear hD hds q1 q2 e1 e2 e3 hM1 hzz hNL
          go_wp2
          go_loopw [19] (fun j wq => ∃ k : Nat, k ≤ s.MW.length ∧ j = .int .i64 k ∧ Hid (FS B w wq ⟨s.MW, s'.MH, s.wa, s'.ha, s.wc, s'.hc⟩)) (fun j _ => s.MW.length - (intOf j).toNat)
          case atStart => exact ⟨0, Nat.zero_le _, rfl, HFS⟩
          case round =>
            obtain ⟨k2, hk2, rfl, hF⟩ := hrel
            clear HFS
            by_cases hlt4 : k2 < s.MW.length
            · obtain ⟨jj, hjj, hje⟩ := HQ2.out k2 hlt4
              have HJ : Hid (∃ j, j < s'.MH.length ∧ (s'.MH[j]?.getD rn0).it = (s.MW[k2]?.getD rn0).it) := ⟨jj, hjj, hje⟩
              clear hjj hje
              go_wp2
              go_loopw [20, 21] (fun v j wq => ∃ (q : Nat) (f : Bool), q ≤ s'.MH.length ∧ v = .bool f ∧ j = .int .i64 q ∧ Hid (f = true ↔ ∃ j, j < q ∧ (s'.MH[j]?.getD rn0).it = (s.MW[k2]?.getD rn0).it) ∧ Hid (FS B w wq ⟨s.MW, s'.MH, s.wa, s'.ha, s.wc, s'.hc⟩)) (fun _ j _ => s'.MH.length - (intOf j).toNat)
              case atStart => exact ⟨0, false, Nat.zero_le _, rfl, rfl, ⟨fun e => (by cases e), fun ⟨j, hj, _⟩ => absurd hj (Nat.not_lt_zero _)⟩, hF⟩
              case round =>
                obtain ⟨q, f, hq, rfl, rfl, hfi, hF2⟩ := hrel
                clear hF
                by_cases hlt5 : q < s'.MH.length
                · obtain ⟨g, off, g1, off1, ea, eb, ⟨c0, c1, c2⟩, ⟨d0, d1, d2⟩⟩ := hF2.out.two hlt4 hlt5
                  have HN0 : ∀ (S : Bool), S = decide ((s.MW[k2]?.getD rn0).it.data = (s'.MH[q]?.getD rn0).it.data) → ∀ f' : Bool, (f' = true ↔ (f = true ∨ ((s.MW[k2]?.getD rn0).it.lba = (s'.MH[q]?.getD rn0).it.lba ∧ (s.MW[k2]?.getD rn0).it.gone = (s'.MH[q]?.getD rn0).it.gone ∧ S = true))) → (f' = true ↔ ∃ j, j < q + 1 ∧ (s'.MH[j]?.getD rn0).it = (s.MW[k2]?.getD rn0).it) := by
                    rintro S rfl f' hf'
                    rw [hf', decide_eq_true_iff, hfi.out]
                    constructor
                    · rintro (⟨j, hj, e⟩ | ⟨x1, x2, x3⟩)
                      · exact ⟨j, by omega, e⟩
                      · refine ⟨q, by omega, ?_⟩
                        generalize (s.MW[k2]?.getD rn0).it = U at *
                        generalize (s'.MH[q]?.getD rn0).it = V at *
                        cases U; cases V; simp_all
                    · rintro ⟨j, hj, e⟩
                      by_cases h2 : j < q
                      · exact Or.inl ⟨j, h2, e⟩
                      · have : j = q := by omega
                        subst this
                        rw [e]
                        exact Or.inr ⟨rfl, rfl, rfl⟩
                  have HB0 := fun p => (hF2.out.below (below_drewN (Below.refl wr.heap.size wr) p)).bytes hlt4 hlt5 (s.MW[k2]?.getD rn0).cap (s'.MH[q]?.getD rn0).cap
                  have hKp : ∀ p w', Below (wr.drewN p).heap.size (wr.drewN p) w' → (w'.cell? ⟨g, off + k2 * 3, none⟩ = some (.int .i64 (s.MW[k2]?.getD rn0).it.lba) ∧ w'.cell? ⟨g, off + k2 * 3 + 1, none⟩ = some (.bool (s.MW[k2]?.getD rn0).it.gone) ∧ w'.cell? ⟨g, off + k2 * 3 + 2, none⟩ = some (.slice (s.MW[k2]?.getD rn0).a (s.MW[k2]?.getD rn0).it.data.length (s.MW[k2]?.getD rn0).cap))
                      ∧ (w'.cell? ⟨g1, off1 + q * 3, none⟩ = some (.int .i64 (s'.MH[q]?.getD rn0).it.lba) ∧ w'.cell? ⟨g1, off1 + q * 3 + 1, none⟩ = some (.bool (s'.MH[q]?.getD rn0).it.gone) ∧ w'.cell? ⟨g1, off1 + q * 3 + 2, none⟩ = some (.slice (s'.MH[q]?.getD rn0).a (s'.MH[q]?.getD rn0).it.data.length (s'.MH[q]?.getD rn0).cap)) ∧ Hid (∀ r, FS B w (w'.drewN r) ⟨s.MW, s'.MH, s.wa, s'.ha, s.wc, s'.hc⟩) := fun p w' hb => by
                    have hf := (hF2.out.below (below_drewN (Below.refl wr.heap.size wr) p)).below hb
                    obtain ⟨g', off', g1', off1', ea', eb', x1, x2⟩ := hf.two hlt4 hlt5
                    have u1 := ea.symm.trans ea'
                    have u2 := eb.symm.trans eb'
                    cases u1
                    cases u2
                    exact ⟨x1, x2, fun r => hf.below (below_drewN (Below.refl _ _) r)⟩
                  have ea2 : s.wa = some ⟨g, off, none⟩ := ea
                  have eb2 : s'.ha = some ⟨g1, off1, none⟩ := eb
                  obtain ⟨S, hS⟩ : ∃ S : Bool, S = decide ((s.MW[k2]?.getD rn0).it.data = (s'.MH[q]?.getD rn0).it.data) := ⟨_, rfl⟩
                  have HN1 := HN0 S hS
                  have HBy : Hid (∀ p, Calls Try.prog 7 #[.slice (s.MW[k2]?.getD rn0).a (s.MW[k2]?.getD rn0).it.data.length (s.MW[k2]?.getD rn0).cap, .slice (s'.MH[q]?.getD rn0).a (s'.MH[q]?.getD rn0).it.data.length (s'.MH[q]?.getD rn0).cap] (wr.drewN p) fun e w' => e = .returned (.bool S) ∧ ((w'.cell? ⟨g, off + k2 * 3, none⟩ = some (.int .i64 (s.MW[k2]?.getD rn0).it.lba) ∧ w'.cell? ⟨g, off + k2 * 3 + 1, none⟩ = some (.bool (s.MW[k2]?.getD rn0).it.gone) ∧ w'.cell? ⟨g, off + k2 * 3 + 2, none⟩ = some (.slice (s.MW[k2]?.getD rn0).a (s.MW[k2]?.getD rn0).it.data.length (s.MW[k2]?.getD rn0).cap))
                      ∧ (w'.cell? ⟨g1, off1 + q * 3, none⟩ = some (.int .i64 (s'.MH[q]?.getD rn0).it.lba) ∧ w'.cell? ⟨g1, off1 + q * 3 + 1, none⟩ = some (.bool (s'.MH[q]?.getD rn0).it.gone) ∧ w'.cell? ⟨g1, off1 + q * 3 + 2, none⟩ = some (.slice (s'.MH[q]?.getD rn0).a (s'.MH[q]?.getD rn0).it.data.length (s'.MH[q]?.getD rn0).cap)) ∧ Hid (∀ r, FS B w (w'.drewN r) ⟨s.MW, s'.MH, s.wa, s'.ha, s.wc, s'.hc⟩))) := fun p => (HB0 p).mono fun e w' ⟨e1, e2⟩ => ⟨by rw [e1, hS], hKp p w' e2⟩
                  have HN : Hid (∀ f' : Bool, (f' = true ↔ (f = true ∨ ((s.MW[k2]?.getD rn0).it.lba = (s'.MH[q]?.getD rn0).it.lba ∧ (s.MW[k2]?.getD rn0).it.gone = (s'.MH[q]?.getD rn0).it.gone ∧ S = true))) → (f' = true ↔ ∃ j, j < q + 1 ∧ (s'.MH[j]?.getD rn0).it = (s.MW[k2]?.getD rn0).it)) := HN1
                  clear HN0 HN1 HB0 hKp hS hF2 hfi HJ HQ2 ea eb
                  have hk4 : Hid (s.wa = some ⟨g, off, none⟩ ∧ s'.ha = some ⟨g1, off1, none⟩) := ⟨ea2, eb2⟩
                  clear ea2 eb2
                  obtain ⟨MW, MH0, wa, ha0, wc, hc0⟩ := s
                  obtain ⟨MW1, MH, wa1, ha, wc1, hc⟩ := s'
                  have ea3 : wa = some ⟨g, off, none⟩ := hk4.out.1
                  have eb3 : ha = some ⟨g1, off1, none⟩ := hk4.out.2
                  subst ea3 eb3
                  clear hk4
                  dsimp only at c0 c1 c2 d0 d1 d2 HBy HN hlt4 hlt5 hq hk2
                  generalize MW[k2]?.getD rn0 = U at *
                  generalize MH[q]?.getD rn0 = V at *
                  go_wp2_with fail
                  go_region_held3 (fun w' => w'.cell? ⟨g, off + k2 * 3 + 2, none⟩ = some (.slice U.a U.it.data.length U.cap) ∧ w'.cell? ⟨g1, off1 + q * 3 + 2, none⟩ = some (.slice V.a V.it.data.length V.cap)) (first | assumption | go_keep) (first | (go_at_call 7; refine (HBy.out _).mono ?_; rintro e w5 ⟨rfl, ⟨x0, x1, x2⟩, ⟨y0, y1, y2⟩, HFq⟩))
                  clear HBy c0 c1 c2 d0 d1 d2 x2 y2
                  generalize U.it.lba = X1 at *
                  generalize V.it.lba = X2 at *
                  generalize U.it.gone = G1 at *
                  generalize V.it.gone = G2 at *
                  by_cases hf : f = true
                  · subst hf
                    go_wp2_with fail
                    go_quiet (fail)
                    go_wp2
                    exact ⟨⟨q + 1, true, by omega, rfl, by go_num, HN.out true (by simp), HFq.out _⟩, by simp [intOf]; omega⟩
                  · obtain rfl : f = false := by simpa using hf
                    by_cases hx : X1 = X2
                    · subst hx
                      by_cases hg : G1 = G2
                      · subst hg
                        by_cases hs : S = true
                        · subst hs
                          go_wp2_with fail
                          go_quiet (fail)
                          go_wp2
                          exact ⟨⟨q + 1, true, by omega, rfl, by go_num, HN.out true (by simp), HFq.out _⟩, by simp [intOf]; omega⟩
                        · obtain rfl : S = false := by simpa using hs
                          go_wp2_with fail
                          go_quiet (fail)
                          go_wp2
                          exact ⟨⟨q + 1, false, by omega, rfl, by go_num, HN.out false (by simp), HFq.out _⟩, by simp [intOf]; omega⟩
                      · have tg2 : (G1 == G2) = false := by rw [beq_eq_false_iff_ne]; exact hg
                        go_wp2_with fail
                        go_quiet (fail)
                        go_wp2
                        exact ⟨⟨q + 1, false, by omega, rfl, by go_num, HN.out false (by simp [hg]), HFq.out _⟩, by simp [intOf]; omega⟩
                    · have tx : (X1 == X2) = false := by rw [beq_eq_false_iff_ne]; exact hx
                      go_wp2_with fail
                      go_quiet (fail)
                      go_wp2
                      exact ⟨⟨q + 1, false, by omega, rfl, by go_num, HN.out false (by simp [hx]), HFq.out _⟩, by simp [intOf]; omega⟩
                · obtain rfl : q = s'.MH.length := by omega
                  have hft : f = true := hfi.out.2 HJ.out
                  subst hft
                  clear hfi
                  go_wp2
                  exact ⟨⟨k2 + 1, by omega, by go_num, hF2⟩, by simp [intOf]; omega⟩
            · obtain rfl : k2 = s.MW.length := by omega
              have HF : Hid (Below B w wr) := hF.out.bel
              clear hF
              go_wp2
              go_ret
              exact ⟨rfl, HF.out⟩
theorem drains_any (m : Int) (a1 : Option Addr) (n1 c1 : Nat) (w : World) (hS : Script w a1 n1) (hn1 : n1 * 40 ≤ 140737488351232) :
    Calls Try.prog 4 #[.int .i64 m, .slice a1 n1 c1] w fun e w' => e = .returned (.bool true) ∧ Below w.heap.size w w' := by
  by_cases h : m < 1 ∨ 16 < m
  · exact drains_bad m a1 n1 c1 w h
  · obtain ⟨k, rfl⟩ := Int.eq_ofNat_of_zero_le (show 0 ≤ m by omega)
    exact drains_good k a1 n1 c1 w (by omega) (by omega) hS hn1
end Go.Proofs.Ytphacdnepjpmoaf
