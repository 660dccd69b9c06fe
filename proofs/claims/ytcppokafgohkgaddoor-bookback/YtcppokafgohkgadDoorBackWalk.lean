/-
  The walk of granarylaw1.BookBack: it returns true, and nothing that was there has turned.
-/
import Derived.Test.YtcppokafgohkgadDoorLaw
namespace Go.Proofs.YtcppokafgohkgadDoor
open Go.RowKit
set_option linter.unusedVariables false

theorem Script.below {w w' : World} {a : Option Addr} {n B : Nat} (h : Script w a n) (hb : Below B w w') (hB : w.heap.size ≤ B) : Script w' a n := by
  rcases h with h | ⟨b, off, rfl, h⟩
  · exact Or.inl h
  · exact Or.inr ⟨b, off, rfl, fun i hi => by obtain ⟨o, ho⟩ := h i hi; exact ⟨o, ho.below hb hB⟩⟩
theorem first_set : setF 2 3 fresh 1 2 = (0, putF fresh 1 2) := by
  rcases setF_cases 2 3 fresh 1 2 with ⟨e, _⟩ | ⟨l, p, e1, e2, hl, hp, ⟨e, _⟩ | ⟨_, e⟩⟩
  · rcases e with e | e <;> simp [inB] at e
  · exact absurd rfl e
  · obtain rfl : l = 1 := by omega
    obtain rfl : p = 2 := by omega
    exact e
theorem first_at : tellF 2 (putF fresh 1 2).pa 1 = (2, 0) := by
  have h : (putF fresh 1 2).pa 1 = 2 := by rw [putF_pa]; exact upd_same _ _ _
  have e := tellF_some (n := 2) (k := 1) (f := (putF fresh 1 2).pa) (by omega) (by rw [h]; omega)
  rw [h] at e
  exact e
/-- BOTH WAYS LEAD BACK: the second half, from two books made on. -/
structure FB (w w3 : World) : Prop where
  bel : Below w.heap.size w w3
  sz : w.heap.size ≤ w3.heap.size
set_option maxRecDepth 100000 in
set_option maxHeartbeats 8000000 in
theorem back_any (n p : Int) (a2 : Option Addr) (n2 cap2 : Nat) (w : World) (hE : EType w) (hS : Script w a2 n2) (hl2 : n2 ≤ 9223372036854775807) : Calls Tryd.prog 5 #[.int .i64 n, .int .i64 p, .slice a2 n2 cap2] w fun e w' => e = .returned (.bool true) ∧ Below w.heap.size w w' := by
  have HSC : Hid (Script w a2 n2) := hS
  have HE1 : Hid (∀ w', Below w.heap.size w w' → EType w') := fun w' hb => hE.below hb hE.pos
  clear hS hE
  have HN2 : Hid (∀ W, Calls Tryd.prog 15 #[.int .i64 2, .int .i64 3] W fun e w' => ∃ bb ab ob, e = .returned (.tuple #[.pointer (some ⟨bb, 0, none⟩), .nilIface]) ∧ BO 2 3 w' bb ab ob fresh ∧ Below W.heap.size W w' ∧ W.heap.size ≤ bb ∧ W.heap.size ≤ ab ∧ W.heap.size ≤ ob) := fun W => new_yes 2 3 W (by omega) (by omega) (by omega) (by omega)
  go_enter Tryd.func5, Tryd.ntmps5
  go_wp2_with fail
  refine (HN2.out _).mono ?_
  rintro e w1 ⟨fb, fa, fo, rfl, hp1, hb1, g1, g2, g3⟩
  have H1 : Hid (BS 2 3 w.heap.size fb fa fo w w1 fresh) := ⟨hp1, hb1, ⟨g1, g2, g3⟩, hb1.size⟩
  clear hp1 hb1 g1 g2 g3 HN2
  have HS1 : Hid (Calls Tryd.prog 19 #[.pointer (some ⟨fb, 0, none⟩), .int .i64 1, .int .i64 2] w1 fun e w' => e = .returned .nilIface ∧ BO 2 3 w' fb fa fo (putF fresh 1 2) ∧ Keep (BT fa fo) w1 w') := by
    have := set_any H1.out.bo 1 2
    rw [first_set] at this
    exact this
  go_wp2_with fail
  refine HS1.out.mono ?_
  rintro e w2 ⟨rfl, hp2, hk2⟩
  have H2 : Hid (BS 2 3 w.heap.size fb fa fo w w2 (putF fresh 1 2)) := H1.out.step hp2 hk2
  clear hp2 hk2 HS1 H1
  have HA1 : Hid (Calls Tryd.prog 20 #[.pointer (some ⟨fb, 0, none⟩), .int .i64 1] w2 fun e w' => e = .returned (.tuple #[.int .i64 2, .nilIface]) ∧ w' = w2) := by
    have := at_any H2.out.bo 1
    rw [first_at] at this
    exact this
  go_wp2_with fail
  refine HA1.out.mono ?_
  rintro e w3 ⟨rfl, rfl⟩
  have HB3 : Hid (FB w w3) := ⟨H2.out.bel, H2.out.sz⟩
  clear HA1 H2
  by_cases hG : GoodN n p
  · obtain ⟨L, P, rfl, rfl, h1, h2, h3, h4⟩ := goodN_nat hG
    clear hG
    go_wp2_with fail
    refine (new_yes L P w3 h1 h2 h3 h4).mono ?_
    rintro e w4 ⟨bb, ab, ob, rfl, hp4, hb4, g1, g2, g3⟩
    have H4 : Hid (BS L P w3.heap.size bb ab ob w3 w4 fresh) := ⟨hp4, hb4, ⟨g1, g2, g3⟩, hb4.size⟩
    have HS3 : Hid (Script w3 a2 n2) := HSC.out.below HB3.out.bel (Nat.le_refl _)
    clear hp4 hb4 g1 g2 g3 HSC
    go_wp2
    go_loopw [12] (fun j wq => ∃ (i : Nat) (s : Bk), i ≤ n2 ∧ j = .int .i64 i ∧ Hid (BS L P w3.heap.size bb ab ob w3 wq s)) (fun j _ => n2 - (intOf j).toNat)
    case atStart => exact ⟨0, fresh, Nat.zero_le _, rfl, H4.out⟩
    case round =>
      obtain ⟨i, s, hi, rfl, hR⟩ := hrel
      clear H4
      by_cases hlt2 : i < n2
      · obtain ⟨so, oo, ha2, o, hO⟩ := HS3.out.slice hlt2
        have hOr := hO.below hR.out.bel (Nat.le_refl _)
        have k0 := hOr.k0
        have k1 := hOr.k1
        have k2 := hOr.k2
        clear hO hOr
        rw [ha2]
        generalize o.kind = kd at k0
        generalize o.a = x1 at k1
        generalize o.b = y1 at k2
        have HN : Hid (BS L P w3.heap.size bb ab ob w3 (wr.alloc (.cells #[.int .i64 kd, .int .i64 x1, .int .i64 y1] 48)) s) := hR.out.below ((Below.refl _ _).alloc (Nat.le_refl _) _)
        clear hR
        by_cases hk2 : kd = 2
        · subst hk2
          have HD : Hid (Calls Tryd.prog 21 #[.pointer (some ⟨bb, 0, none⟩), .int .i64 x1] (wr.alloc (.cells #[.int .i64 2, .int .i64 x1, .int .i64 y1] 48)) fun e w' => e = .returned (errI (dropF L s x1).1) ∧ BO L P w' bb ab ob (dropF L s x1).2 ∧ Keep (BT ab ob) (wr.alloc (.cells #[.int .i64 2, .int .i64 x1, .int .i64 y1] 48)) w') := drop_any HN.out.bo x1
          generalize dropF L s x1 = r at *
          generalize errI r.1 = ev at *
          go_wp2_with fail
          refine HD.out.mono ?_
          rintro e w5 ⟨rfl, h5, hk5⟩
          have HF : Hid (BS L P w3.heap.size bb ab ob w3 w5 r.2) := HN.out.step h5 hk5
          clear h5 hk5 HD HN k0 k1 k2
          go_wp2
          exact ⟨⟨i + 1, r.2, by omega, by go_num, HF.out⟩, by simp [intOf]; omega⟩
        · have t2 : (kd == 2) = false := by rw [beq_eq_false_iff_ne]; exact hk2
          have HD : Hid (Calls Tryd.prog 19 #[.pointer (some ⟨bb, 0, none⟩), .int .i64 x1, .int .i64 y1] (wr.alloc (.cells #[.int .i64 kd, .int .i64 x1, .int .i64 y1] 48)) fun e w' => e = .returned (errI (setF L P s x1 y1).1) ∧ BO L P w' bb ab ob (setF L P s x1 y1).2 ∧ Keep (BT ab ob) (wr.alloc (.cells #[.int .i64 kd, .int .i64 x1, .int .i64 y1] 48)) w') := set_any HN.out.bo x1 y1
          generalize setF L P s x1 y1 = r at *
          generalize errI r.1 = ev at *
          clear hk2
          go_wp2_with fail
          refine HD.out.mono ?_
          rintro e w5 ⟨rfl, h5, hk5⟩
          have HF : Hid (BS L P w3.heap.size bb ab ob w3 w5 r.2) := HN.out.step h5 hk5
          clear h5 hk5 HD HN k0 k1 k2
          go_wp2
          exact ⟨⟨i + 1, r.2, by omega, by go_num, HF.out⟩, by simp [intOf]; omega⟩
      · obtain rfl : i = n2 := by omega
        have HI : Hid (Inv L P s) := hR.out.bo.inv
        have HEr : Hid (∀ W, BS L P w3.heap.size bb ab ob w3 W s → Calls Tryd.prog 14 #[.iface 37 (.int .i64 4), .int .i64 4] W fun ev w' => ev = .returned (.bool true) ∧ BS L P w3.heap.size bb ab ob w3 w' s) := fun W hW =>
          (error_same 4 W (HE1.out W (HB3.out.bel.trans (hW.bel.mono HB3.out.sz)))).mono fun e w' ⟨e1, e2⟩ => ⟨e1, hW.below e2⟩
        clear HS3 HE1
        go_wp2
        go_loopw [14, 15] (fun v j wq => ∃ k : Nat, k ≤ L ∧ j = .int .i64 k ∧ v = .int .i64 (cntN s.pa k : Int) ∧ Hid (BS L P w3.heap.size bb ab ob w3 wq s)) (fun _ j _ => L - (intOf j).toNat)
        case atStart => exact ⟨0, Nat.zero_le _, rfl, rfl, hR.out⟩
        case round =>
          obtain ⟨k, hk, rfl, rfl, hR2⟩ := hrel
          obtain ⟨wo, hwo⟩ : ∃ wo, wo = wr := ⟨_, rfl⟩
          clear hR hwo
          by_cases hlt : k < L
          · have HA := at_any hR2.out.bo (k : Int)
            have hle := cntN_le s.pa k
            rcases HI.out.a k hlt with e | ⟨q, hq, e1, e2⟩
            · rw [tellF_none hlt e] at HA
              have HA2 : Hid (Calls Tryd.prog 20 #[.pointer (some ⟨bb, 0, none⟩), .int .i64 (k : Int)] wr fun e w' => e = .returned (.tuple #[.int .i64 0, .iface 37 (.int .i64 4)]) ∧ w' = wr) := HA
              have HC : Hid (cntN s.pa (k + 1) = cntN s.pa k) := by show cntN s.pa (k + 1) = _; rw [cntN, if_pos e]; rfl
              clear HA e
              generalize cntN s.pa k = X at *
              go_wp2_with fail
              refine HA2.out.mono ?_
              rintro e w6 ⟨rfl, rfl⟩
              clear HA2
              go_wp2_with fail
              refine (HEr.out _ hR2.out).mono ?_
              rintro e w7 ⟨rfl, h7⟩
              have H7 : Hid (BS L P w3.heap.size bb ab ob w3 w7 s) := h7
              clear h7 hR2
              go_wp2
              exact ⟨⟨k + 1, by omega, by go_num, by rw [HC.out], H7.out⟩, by simp [intOf]; omega⟩
            · rw [tellF_some hlt (by rw [e1]; omega), e1] at HA
              have HA2 : Hid (Calls Tryd.prog 20 #[.pointer (some ⟨bb, 0, none⟩), .int .i64 (k : Int)] wr fun e w' => e = .returned (.tuple #[.int .i64 (q : Int), .nilIface]) ∧ w' = wr) := HA
              have HO := of_any hR2.out.bo (q : Int)
              rw [tellF_some hq (by rw [e2]; omega), e2] at HO
              have HO2 : Hid (Calls Tryd.prog 22 #[.pointer (some ⟨bb, 0, none⟩), .int .i64 (q : Int)] wr fun e w' => e = .returned (.tuple #[.int .i64 (k : Int), .nilIface]) ∧ w' = wr) := HO
              have HC : Hid (cntN s.pa (k + 1) = cntN s.pa k + 1) := by show cntN s.pa (k + 1) = _; rw [cntN, if_neg (by omega)]
              clear HA HO e1 e2
              generalize cntN s.pa k = X at *
              go_wp2_with fail
              refine HA2.out.mono ?_
              rintro e w6 ⟨rfl, rfl⟩
              clear HA2
              go_wp2_with fail
              refine HO2.out.mono ?_
              rintro e w7 ⟨rfl, rfl⟩
              clear HO2
              go_wp2
              exact ⟨⟨k + 1, by omega, by go_num, by rw [HC.out]; go_num, hR2.out⟩, by simp [intOf]; omega⟩
          · obtain rfl : k = L := by omega
            go_wp2
            go_loopw [20, 21] (fun v j wq => ∃ m : Nat, m ≤ P ∧ j = .int .i64 m ∧ v = .int .i64 (cntN s.lb m : Int) ∧ Hid (BS k P w3.heap.size bb ab ob w3 wq s)) (fun _ j _ => P - (intOf j).toNat)
            case atStart => exact ⟨0, Nat.zero_le _, rfl, rfl, hR2.out⟩
            case round =>
              obtain ⟨m, hm, rfl, rfl, hR3⟩ := hrel
              obtain ⟨wo, hwo⟩ : ∃ wo, wo = wr := ⟨_, rfl⟩
              clear hR2 hwo
              by_cases hlm : m < P
              · have HO := of_any hR3.out.bo (m : Int)
                have hle := cntN_le s.lb m
                rcases HI.out.o m hlm with e | ⟨q, hq, e1, e2⟩
                · rw [tellF_none hlm e] at HO
                  have HO2 : Hid (Calls Tryd.prog 22 #[.pointer (some ⟨bb, 0, none⟩), .int .i64 (m : Int)] wr fun e w' => e = .returned (.tuple #[.int .i64 0, .iface 37 (.int .i64 4)]) ∧ w' = wr) := HO
                  have HC : Hid (cntN s.lb (m + 1) = cntN s.lb m) := by show cntN s.lb (m + 1) = _; rw [cntN, if_pos e]; rfl
                  clear HO e
                  generalize cntN s.lb m = X at *
                  generalize cntN s.pa k = Y at *
                  go_wp2_with fail
                  refine HO2.out.mono ?_
                  rintro e w6 ⟨rfl, rfl⟩
                  clear HO2
                  go_wp2
                  exact ⟨⟨m + 1, by omega, by go_num, by rw [HC.out], hR3.out⟩, by simp [intOf]; omega⟩
                · rw [tellF_some hlm (by rw [e1]; omega), e1] at HO
                  have HO2 : Hid (Calls Tryd.prog 22 #[.pointer (some ⟨bb, 0, none⟩), .int .i64 (m : Int)] wr fun e w' => e = .returned (.tuple #[.int .i64 (q : Int), .nilIface]) ∧ w' = wr) := HO
                  have HA := at_any hR3.out.bo (q : Int)
                  rw [tellF_some hq (by rw [e2]; omega), e2] at HA
                  have HA2 : Hid (Calls Tryd.prog 20 #[.pointer (some ⟨bb, 0, none⟩), .int .i64 (q : Int)] wr fun e w' => e = .returned (.tuple #[.int .i64 (m : Int), .nilIface]) ∧ w' = wr) := HA
                  have HC : Hid (cntN s.lb (m + 1) = cntN s.lb m + 1) := by show cntN s.lb (m + 1) = _; rw [cntN, if_neg (by omega)]
                  clear HA HO e1 e2
                  generalize cntN s.lb m = X at *
                  generalize cntN s.pa k = Y at *
                  go_wp2_with fail
                  refine HO2.out.mono ?_
                  rintro e w6 ⟨rfl, rfl⟩
                  clear HO2
                  go_wp2_with fail
                  refine HA2.out.mono ?_
                  rintro e w7 ⟨rfl, rfl⟩
                  clear HA2
                  go_wp2
                  exact ⟨⟨m + 1, by omega, by go_num, by rw [HC.out]; go_num, hR3.out⟩, by simp [intOf]; omega⟩
              · obtain rfl : m = P := by omega
                have HLV : Hid (Calls Tryd.prog 23 #[.pointer (some ⟨bb, 0, none⟩), .int .i64 0, .int .i64 (m : Int)] wr fun e w' => e = .returned (.tuple #[.int .i64 (cntN s.pa k : Int), .nilIface]) ∧ w' = wr) := by
                  have := live_yes hR3.out.bo 0 m (by omega)
                  simp only [Nat.zero_add] at this
                  rw [← all_same HI.out] at this
                  rw [show (((0 : Nat) : Int) + (m : Int)) = (m : Int) by omega] at this
                  exact this
                have HEQ : Hid (cntN s.lb m = cntN s.pa k) := (all_same HI.out).symm
                have HFB : Hid (Below w.heap.size w wr) := HB3.out.bel.trans (hR3.out.bel.mono HB3.out.sz)
                rw [HEQ.out]
                clear hR3 HI HEr HB3 HEQ
                generalize cntN s.pa k = Y at *
                go_wp2_with fail
                refine HLV.out.mono ?_
                rintro e w6 ⟨rfl, rfl⟩
                clear HLV
                go_wp2
                go_ret
                exact ⟨by simp, HFB.out⟩
  · have HNO : Hid (Calls Tryd.prog 15 #[.int .i64 n, .int .i64 p] w3 fun e w' => e = .returned (.tuple #[.pointer none, .iface 37 (.int .i64 1)]) ∧ w' = w3) := new_no n p w3 hG
    clear hG HSC
    go_wp2_with fail
    refine HNO.out.mono ?_
    rintro e w4 ⟨rfl, rfl⟩
    go_wp2
    go_ret
    exact ⟨rfl, HB3.out.bel⟩
end Go.Proofs.YtcppokafgohkgadDoor
