/-
  What the call of the document's answer granaryref1.MendOf gives, where sizes are right: what the words were and how many were turned, or that one is lost; nothing that was there has turned.
-/
import Derived.Test.YtgflkfbddiccaaaDoorMathRef
namespace Go.Proofs.YtgflkfbddiccaaaDoor
open Go.RowKit
set_option linter.unusedVariables false

theorem ownsRow_below {w w' : World} {base n B : Nat} {v : Value} {xs : List Value} (h : w.ownsRow base 5 1 v n xs) (hb : Below B w w') (hB : ∀ g, v.ownBlock = some g → g < B) : w'.ownsRow base 5 1 v n xs := by
  obtain ⟨h1, h2⟩ := h
  refine ⟨h1, ?_⟩
  rcases h2 with h2 | ⟨g, cap, cur, hv, hg, hh, r⟩
  · exact Or.inl h2
  · exact Or.inr ⟨g, cap, cur, hv, hg, by rw [hb.block g (hB g (by rw [hv]; rfl))]; exact hh, r⟩
theorem news_at {W : World} {b off : Nat} {X : List Nat} (h : Lies W (some ⟨b, off, none⟩) X) : ∀ j u, (X.map bv)[j]? = some u → W.cell? ((⟨b, off, none⟩ : Addr).add j) = some u := by
  rcases h with rfl | ⟨b', off', hbo, hc⟩
  · intro j u hj; simp at hj
  · cases hbo; exact news_of hc
theorem xor_lt {n a b : Nat} (ha : a < 2 ^ n) (hb : b < 2 ^ n) : a ^^^ b < 2 ^ n := Nat.xor_lt_two_pow ha hb
theorem turn_turn (l : List Nat) (j b : Nat) (hj : j < l.length) : turnB (turnB l j b) j b = l := by
  apply ext_getD (by rw [turnB_len, turnB_len])
  intro i hi
  rw [turnB_len, turnB_len] at hi
  rw [turnB_at _ _ _ _ (by rw [turnB_len]; exact hj)]
  by_cases h : i = j
  · subst h
    rw [if_pos rfl, turnB_at _ _ _ _ hj, if_pos rfl, Nat.xor_assoc, Nat.xor_self, Nat.xor_zero]
  · rw [if_neg h, turnB_at _ _ _ _ hj, if_neg h]
theorem turn_word {l : List Nat} (hz : AllB l) (hl : l.length = 8) (k : Nat) (hk : k < 64) : wordN (turnB l (k / 8) (k % 8)) 0 = wordN l 0 ^^^ 2 ^ k := by
  have e := wordN_turn hz (k / 8) (k % 8) (by omega) (by omega)
  rw [show k / 8 / 8 = 0 from by omega, show 8 * (k / 8 % 8) + k % 8 = k from by omega] at e
  exact e
theorem set_back (l : List Nat) (j b : Nat) (hj : j < l.length) : (turnB l j b).set j (l[j]?.getD 0) = l := by
  apply ext_getD (by rw [List.length_set, turnB_len])
  intro i hi
  rw [List.length_set, turnB_len] at hi
  rw [List.getElem?_set]
  by_cases h : j = i
  · subst h; rw [if_pos rfl, turnB_len, if_pos hj]; rfl
  · rw [if_neg h, turnB_at _ _ _ _ hj, if_neg (fun e => h e.symm)]
theorem i64_dec (d : Nat) (hd : d < 256) (h0 : d ≠ 0) : bits .and .i64 (d : Int) ((d : Int) - 1) = ((d &&& (d - 1) : Nat) : Int) := by
  rw [show (d : Int) - 1 = ((d - 1 : Nat) : Int) from by omega]
  exact i64_and_nat _ _ (by omega) (by omega)
def RefPost (m : Nat) (w w' : World) (e : Ending) : Option (List Nat × Nat) → Prop
  | some (o, n) => ∃ ao cp, e = .returned (.tuple #[.slice ao o.length cp, .int .i64 (n : Int), .bool true]) ∧ Lies w' ao o ∧ Below w.heap.size w w'
  | none => e = .returned (.tuple #[.slice none 0 0, .int .i64 0, .bool false]) ∧ Below w.heap.size w w'

set_option maxHeartbeats 800000 in
theorem refMend_none (a a2 : Option Addr) (cap cap2 : Nat) (w : World) :
    Calls Tryd.prog 16 #[.slice a 0 cap, .slice a2 0 cap2] w fun e w' => RefPost 0 w w' e (some ([], 0)) := by
  go_enter Tryd.func16, Tryd.ntmps16
  go_wp2
  go_loop [7, 8, 9] (fun v n j => v = .slice none 0 0 ∧ n = .int .i64 0 ∧ j = .int .i64 0) (fun _ _ _ => 0)
  case atStart => exact ⟨rfl, rfl, rfl⟩
  case round =>
    obtain ⟨rfl, rfl, rfl⟩ := hrel
    go_wp2
    go_ret3
    exact ⟨none, 0, rfl, Or.inl rfl, Below.refl _ _⟩

set_option maxRecDepth 100000 in
set_option maxHeartbeats 8000000 in
theorem refMend_some (b off cap b2 off2 cap2 m : Nat) (bs cs : List Nat) (w : World) (hz : AllB bs) (hzc : AllB cs) (hl : bs.length = 8 * m) (hlc : cs.length = m) (hm : m ≤ 512) (hcap : bs.length ≤ cap) (hc : Lies w (some ⟨b, off, none⟩) bs) (hcc : Lies w (some ⟨b2, off2, none⟩) cs) :
    Calls Tryd.prog 16 #[.slice (some ⟨b, off, none⟩) bs.length cap, .slice (some ⟨b2, off2, none⟩) cs.length cap2] w fun e w' => RefPost m w w' e (refO bs cs m) := by
  obtain ⟨i0, HI⟩ : ∃ i0, Hid (Tryd.prog.info? 5 = some i0 ∧ i0.zero = some (.int .u8 0) ∧ i0.size = 1 ∧ i0.bytes = 1) := info_parts info5
  have HL : Hid (bs.length = 8 * m ∧ cs.length = m) := ⟨hl, hlc⟩
  have HC : Hid (Lies w (some ⟨b, off, none⟩) bs ∧ Lies w (some ⟨b2, off2, none⟩) cs) := ⟨hc, hcc⟩
  have hlen : bs.length ≤ 4096 := by omega
  have hlen2 : cs.length ≤ 512 := by omega
  clear hl hlc hc hcc
  go_enter Tryd.func16, Tryd.ntmps16
  go_wp2
  go_loopw [7, 8, 9] (fun v t j wr => ∃ k n cp : Nat, ∃ ao : Option Addr, ∃ o : List Nat, k ≤ cs.length ∧ j = .int .i64 k ∧ t = .int .i64 n ∧ n ≤ k ∧ v = .slice ao (8 * k) cp ∧ Hid (refO bs cs k = some (o, n)) ∧ wr.ownsRow w.heap.size 5 1 (.slice ao (8 * k) cp) (8 * k) (o.map bv) ∧ Below w.heap.size w wr) (fun _ _ j _ => cs.length - (intOf j).toNat)
  case atStart => exact ⟨0, 0, 0, none, [], by omega, rfl, rfl, by omega, rfl, rfl, World.ownsRow_nil _ _ _ _, Below.refl _ _⟩
  case round =>
    obtain ⟨k, n, cp, ao, o, hk, rfl, rfl, hn, rfl, HR, hown, hbr⟩ := hrel
    obtain ⟨wo, rfl⟩ : ∃ wo, wo = wr := ⟨_, rfl⟩
    by_cases hlt : k < cs.length
    · have hw8 : 8 * k + 8 ≤ bs.length := by have := HL.out; omega
      have hne : ¬ cap = 8 * k := by omega
      have hLW := lies_word k hw8 (HC.out.1.below hbr)
      obtain hno | ⟨_, _, hbo, hc2⟩ := HC.out.2
      · have e : cs.length = 0 := by rw [hno]; rfl
        omega
      cases hbo
      have hckW : ∀ wx, Below wo.heap.size wo wx → wx.cell? ⟨b2, off2 + k, none⟩ = some (.int .u8 ((cs[k]?.getD 0 : Nat) : Int)) := fun wx hb => by
        obtain hno | ⟨_, _, hbo, hc3⟩ := HC.out.2.below (hbr.trans (hb.mono hbr.size))
        · have e : cs.length = 0 := by rw [hno]; rfl
          omega
        cases hbo
        exact hc3 k hlt
      have HCK : Hid (∀ wx, Below wo.heap.size wo wx → wx.cell? ⟨b2, off2 + k, none⟩ = some (.int .u8 ((cs[k]?.getD 0 : Nat) : Int))) := hckW
      have hW8 := wordB_len bs k hw8
      have hWa := wordB_all hz k
      have HStep : Hid (∀ r, mendD (wordN bs k) (chk (wordN bs k) ^^^ cs[k]?.getD 0) = r → refO bs cs (k + 1) = refS (some (o, n)) r) := fun r hr => by rw [refO, HR.out, hr]
      have hcc := hzc.at k
      have hC := chk_lt (wordN bs k)
      have HW : Hid (wordN (wordB bs k) 0 = wordN bs k) := wordB_word bs k
      have HO : Hid (wo.ownsRow w.heap.size 5 1 (.slice ao (8 * k) cp) (8 * k) (o.map bv)) := hown
      have HBW : Hid (Below w.heap.size w wo) := hbr
      have HLT : Hid (∀ g, (Value.slice ao (8 * k) cp).ownBlock = some g → g < wo.heap.size) := fun g hg => (World.ownsRow.lt hown g hg).2
      have hszw := hbr.size
      clear hown hbr hc2 hckW HR
      generalize cs[k]?.getD 0 = cc at HCK HStep hcc
      generalize hX : wordN bs k = X at HStep hC HW
      generalize wordB bs k = WB at hLW hW8 hWa HW
      clear hX
      have HWL : Hid (WB.length = 8) := hW8
      clear hW8
      have hnx := news_at (lies_alloc hLW (.cells #[] 5))
      have HCX : Hid (∀ j, j < 64 → chk (X ^^^ 2 ^ j) = chk X ^^^ sig j) := fun j hj => chk_turn X j hj
      go_wp2_with (at_builtin; refine wpList_append_own _ rfl (.tmp 21) (.tmp 28) 22 rfl wo.heap.size 5 i0 (.int .u8 0) 1 1 Tryd.underlying22 HI.out.1 HI.out.2.1 HI.out.2.2.1 HI.out.2.2.2 rfl (by decide) _ 0 [] rfl (owns_empty _ _ (Nat.le_refl _)) ⟨b, off + 8 * k, none⟩ (8 * k + 8 - 8 * k) (cap - 8 * k) (WB.map bv) rfl ?d1 hnx (one_bv WB) ?d2 ?d3 ?d4 ?_)
      case d1 => have := HWL.out; first | omega | (simp; omega)
      case d2 => unfold maxLen; omega
      case d3 => omega
      case d4 => simp
      intro v1 w1 hown1 hgrow1 hv1
      have hv1' : ¬ v1 = .slice none 0 0 := by first | exact hv1 | (intro h; have h2 := hv1.1 h; first | (simp at h2; done) | (simp at h2; omega) | omega)
      obtain ⟨gw, cw, hve, hOw⟩ := owns_form hown1 hv1'
      rw [HWL.out] at hve
      have hb1 := below_copy rfl hgrow1
      have hgw := hOw.le
      rw [hve]
      clear hown1 hgrow1 hv1 hv1' hve hnx v1 hLW
      have hHch := refCheck_any (some ⟨gw, 0, none⟩) cw WB w1 hWa HWL.out hOw.lies
      rw [HW.out] at hHch
      generalize chk X = C at hHch hC HCX HStep
      have HOw : Hid (Owns w1 wo.heap.size gw cw WB ∧ Below wo.heap.size wo w1) := ⟨hOw, hb1⟩
      have hgw1 : wo.heap.size ≤ gw := hgw.1
      have hck := HCK.out w1 hb1
      have HWB8 : Hid (bytes8 X = WB) := by show _ = _; rw [← HW.out]; exact bytes8_word HWL.out hWa
      clear hOw hb1 hgw
      go_wp2_with fail
      refine hHch.mono ?_
      rintro e w2 ⟨rfl, rfl⟩
      clear hHch
      by_cases hd : C = cc
      · subst hd
        have HN : Hid (refO bs cs (k + 1) = some (o ++ WB, n)) := by
          show _ = _
          rw [HStep.out (some (X, 0)) (by rw [Nat.xor_self]; exact mendD_right X), refS_some, HWB8.out]
          rfl
        have hO1 := ownsRow_below HO.out HOw.out.2 HLT.out
        have hnw := news_at HOw.out.1.lies
        go_wp2_with (at_builtin; refine wpList_append_own _ rfl (.tmp 39) (.tmp 40) 22 rfl w.heap.size 5 i0 (.int .u8 0) 1 1 Tryd.underlying22 HI.out.1 HI.out.2.1 HI.out.2.2.1 HI.out.2.2.2 rfl (by decide) (.slice ao (8 * k) cp) (8 * k) (o.map bv) rfl hO1 ⟨gw, 0, none⟩ 8 cw (WB.map bv) rfl ?f1 hnw (one_bv WB) ?f2 ?f3 ?f4 ?_)
        case f1 => have := HWL.out; first | omega | (simp; omega)
        case f2 => unfold maxLen; omega
        case f3 => omega
        case f4 => have := HOw.out.2.size; omega
        intro v2 w3 hown2 hgrow2 hv2
        obtain ⟨ao2, cp2, hve⟩ := owned_form hown2
        have hR1 : w3.ownsRow w.heap.size 5 1 (.slice ao2 (8 * (k + 1)) cp2) (8 * (k + 1)) ((o ++ WB).map bv) := by
          rw [List.map_append, show 8 * (k + 1) = 8 * k + 8 from by omega, ← hve]; exact hown2
        have hb01 := HBW.out.trans (HOw.out.2.mono hszw)
        have hR2 : Below w.heap.size w w3 := hb01.grown hgrow2 hb01.size (fun g hg => (World.ownsRow.lt hO1 g hg).1)
        have HRR : Hid (w3.ownsRow w.heap.size 5 1 (.slice ao2 (8 * (k + 1)) cp2) (8 * (k + 1)) ((o ++ WB).map bv) ∧ Below w.heap.size w w3) := ⟨hR1, hR2⟩
        rw [hve]
        clear hown2 hgrow2 hv2 hve hR1 hR2 hb01 hO1 hnw hck
        go_wp2
        go_roundw
        case rel => exact ⟨k + 1, n, cp2, ao2, o ++ WB, by omega, by go_num, rfl, by omega, rfl, HN.out, HRR.out.1, HRR.out.2⟩
        case measure => simp [intOf]; omega
      · have hne1 : ((C : Int) == (cc : Int)) = false := by rw [beq_eq_false_iff_ne]; omega
        have hdx := i64_xor_nat C cc (by omega) (by omega)
        have hd256 : C ^^^ cc < 256 := xor_lt (n := 8) hC hcc
        have hd0 : C ^^^ cc ≠ 0 := fun h => hd (xor_eq_zero h)
        have HEQ : Hid (∀ s, C ^^^ s = cc ↔ s = C ^^^ cc) := fun s => ⟨fun h => by rw [← h, ← Nat.xor_assoc, Nat.xor_self, Nat.zero_xor], fun h => by rw [h, ← Nat.xor_assoc, Nat.xor_self, Nat.zero_xor]⟩
        have hdec := i64_dec (C ^^^ cc) hd256 hd0
        generalize C ^^^ cc = d at hdx hd256 hd0 HEQ hdec HStep
        clear hd
        by_cases hs : d &&& (d - 1) = 0
        · have HN : Hid (refO bs cs (k + 1) = some (o ++ WB, n + 1)) := by
            show _ = _
            rw [HStep.out (some (X, 1)) (mendD_single X d hd256 hd0 hs), refS_some, HWB8.out]
          rw [hs] at hdec
          clear hs
          have hO1 := ownsRow_below HO.out HOw.out.2 HLT.out
          have hnw := news_at HOw.out.1.lies
          go_wp2
          go_loop [12, 14] (fun f j => f = .bool true ∧ j = .int .i64 0) (fun _ _ => 0)
          case atStart => exact ⟨rfl, rfl⟩
          case round =>
            obtain ⟨rfl, rfl⟩ := hrel
            go_wp2_with (at_builtin; refine wpList_append_own _ rfl (.tmp 101) (.tmp 102) 22 rfl w.heap.size 5 i0 (.int .u8 0) 1 1 Tryd.underlying22 HI.out.1 HI.out.2.1 HI.out.2.2.1 HI.out.2.2.2 rfl (by decide) (.slice ao (8 * k) cp) (8 * k) (o.map bv) rfl hO1 ⟨gw, 0, none⟩ 8 cw (WB.map bv) rfl ?ga1 hnw (one_bv WB) ?ga2 ?ga3 ?ga4 ?_)
            case ga1 => have := HWL.out; first | omega | (simp; omega)
            case ga2 => unfold maxLen; omega
            case ga3 => omega
            case ga4 => have := HOw.out.2.size; omega
            intro v2 w3 hown2 hgrow2 hv2
            obtain ⟨ao2, cp2, hve⟩ := owned_form hown2
            have hR1 : w3.ownsRow w.heap.size 5 1 (.slice ao2 (8 * (k + 1)) cp2) (8 * (k + 1)) ((o ++ WB).map bv) := by
              rw [List.map_append, show 8 * (k + 1) = 8 * k + 8 from by omega, ← hve]; exact hown2
            have hb01 := HBW.out.trans (HOw.out.2.mono hszw)
            have hR2 : Below w.heap.size w w3 := hb01.grown hgrow2 hb01.size (fun g hg => (World.ownsRow.lt hO1 g hg).1)
            have HRR : Hid (w3.ownsRow w.heap.size 5 1 (.slice ao2 (8 * (k + 1)) cp2) (8 * (k + 1)) ((o ++ WB).map bv) ∧ Below w.heap.size w w3) := ⟨hR1, hR2⟩
            rw [hve]
            clear hown2 hgrow2 hv2 hve hR1 hR2 hb01 hO1 hnw hck
            go_wp2
            go_roundw
            case rel => exact ⟨k + 1, n + 1, cp2, ao2, o ++ WB, by omega, by go_num, by go_num, by omega, rfl, HN.out, HRR.out.1, HRR.out.2⟩
            case measure => simp [intOf]; omega
        · rw [show ((d &&& (d - 1) : Nat) : Int) = ((d &&& (d - 1) : Nat) : Int) from rfl] at hdec
          have hdec2 : (bits .and .i64 (d : Int) ((d : Int) - 1) == 0) = false := by rw [hdec, beq_eq_false_iff_ne]; omega
          clear hdec
          go_wp2
          go_loopw [12, 14] (fun f j wr => ∃ q : Nat, ∃ WC : List Nat, q ≤ 64 ∧ j = .int .i64 q ∧ Owns wr wo.heap.size gw cw WC ∧ Below wo.heap.size wo wr ∧ ((f = .bool false ∧ WC = WB ∧ Hid (∀ i, i < q → sig i ≠ d)) ∨ (f = .bool true ∧ Hid (∃ i, i < 64 ∧ sig i = d ∧ WC = turnB WB (i / 8) (i % 8))))) (fun _ j _ => 64 - (intOf j).toNat)
          case atStart => exact ⟨0, WB, by omega, rfl, HOw.out.1, HOw.out.2, Or.inl ⟨rfl, rfl, fun i hi => by omega⟩⟩
          case round =>
            obtain ⟨q, WC, hq, rfl, hOi, hbi, hor⟩ := hrel
            rcases hor with ⟨rfl, rfl, HNO⟩ | ⟨rfl, HY⟩
            · by_cases hq64 : q < 64
              · have hqd : q / 8 < WC.length := by have := HWL.out; omega
                have hcell := hOi.cell (q / 8) hqd
                have hfree := hOi.free (q / 8)
                have hzq := hWa.at (q / 8)
                have hx8 := xor_bit8 (WC[q / 8]?.getD 0) (q % 8) hzq (by omega)
                have hB2 := xor_lt256 hzq (show q % 8 < 8 by omega)
                have hx8b := xor_bit8 (WC[q / 8]?.getD 0 ^^^ 2 ^ (q % 8)) (q % 8) hB2 (by omega)
                rw [Nat.xor_assoc, Nat.xor_self, Nat.xor_zero] at hx8b
                have hO4 : Owns (wr.setCell ⟨gw, q / 8, none⟩ (.int .u8 ((WC[q / 8]?.getD 0 ^^^ 2 ^ (q % 8) : Nat) : Int))).drew wo.heap.size gw cw (turnB WC (q / 8) (q % 8)) := (hOi.set (q / 8) _).drew
                have hb4 : Below wo.heap.size wo (wr.setCell ⟨gw, q / 8, none⟩ (.int .u8 ((WC[q / 8]?.getD 0 ^^^ 2 ^ (q % 8) : Nat) : Int))).drew := (hbi.setCell hgw1 _).drew
                have hck4 := HCK.out _ hb4
                have hch4 := refCheck_any (some ⟨gw, 0, none⟩) cw (turnB WC (q / 8) (q % 8)) _ (turnB_all hWa _ _ (by omega)) (by rw [turnB_len]; exact HWL.out) hO4.lies
                rw [turn_word hWa HWL.out q hq64, HW.out, HCX.out q hq64] at hch4
                have hO5 : Owns ((wr.setCell ⟨gw, q / 8, none⟩ (.int .u8 ((WC[q / 8]?.getD 0 ^^^ 2 ^ (q % 8) : Nat) : Int))).drew.setCell ⟨gw, q / 8, none⟩ (.int .u8 ((WC[q / 8]?.getD 0 : Nat) : Int))).drew wo.heap.size gw cw WC := by
                  have h := hO4.set (q / 8) (WC[q / 8]?.getD 0)
                  rw [set_back WC (q / 8) _ hqd] at h
                  exact h.drew
                have hb5 : Below wo.heap.size wo ((wr.setCell ⟨gw, q / 8, none⟩ (.int .u8 ((WC[q / 8]?.getD 0 ^^^ 2 ^ (q % 8) : Nat) : Int))).drew.setCell ⟨gw, q / 8, none⟩ (.int .u8 ((WC[q / 8]?.getD 0 : Nat) : Int))).drew := (hb4.setCell hgw1 _).drew
                have HE4 : Hid (∃ WT, WT = turnB WC (q / 8) (q % 8)) := ⟨_, rfl⟩
                have HO4 : Hid (Owns (wr.setCell ⟨gw, q / 8, none⟩ (.int .u8 ((WC[q / 8]?.getD 0 ^^^ 2 ^ (q % 8) : Nat) : Int))).drew wo.heap.size gw cw (turnB WC (q / 8) (q % 8)) ∧ Below wo.heap.size wo (wr.setCell ⟨gw, q / 8, none⟩ (.int .u8 ((WC[q / 8]?.getD 0 ^^^ 2 ^ (q % 8) : Nat) : Int))).drew) := ⟨hO4, hb4⟩
                have HO5 : Hid (Owns ((wr.setCell ⟨gw, q / 8, none⟩ (.int .u8 ((WC[q / 8]?.getD 0 ^^^ 2 ^ (q % 8) : Nat) : Int))).drew.setCell ⟨gw, q / 8, none⟩ (.int .u8 ((WC[q / 8]?.getD 0 : Nat) : Int))).drew wo.heap.size gw cw WC ∧ Below wo.heap.size wo ((wr.setCell ⟨gw, q / 8, none⟩ (.int .u8 ((WC[q / 8]?.getD 0 ^^^ 2 ^ (q % 8) : Nat) : Int))).drew.setCell ⟨gw, q / 8, none⟩ (.int .u8 ((WC[q / 8]?.getD 0 : Nat) : Int))).drew) := ⟨hO5, hb5⟩
                clear hO4 hb4 hO5 hb5 HE4 hOi hbi hck
                generalize WC[q / 8]?.getD 0 ^^^ 2 ^ (q % 8) = B2 at hx8 hx8b hB2 hck4 hch4 HO4 HO5
                generalize WC[q / 8]?.getD 0 = B at hcell hzq hx8 hx8b HO5
                have hqi : (q : Int) < 64 := by omega
                have hqd8 : ((q : Int) / 8) < 8 := by omega
                by_cases he : sig q = d
                · rw [(HEQ.out _).2 he] at hch4
                  have HQ : Hid (sig q = d) := he
                  clear he
                  go_wp2
                  go_region
                  all_goals go_wp2_with fail
                  refine hch4.mono ?_
                  rintro e w2 ⟨rfl, rfl⟩
                  go_wp2
                  go_roundw
                  case rel => exact ⟨q + 1, turnB WC (q / 8) (q % 8), by omega, by go_num, HO4.out.1, HO4.out.2, Or.inr ⟨rfl, ⟨q, hq64, HQ.out, rfl⟩⟩⟩
                  case measure => simp [intOf]; omega
                · have hEn : ¬ C ^^^ sig q = cc := fun h => he ((HEQ.out _).1 h)
                  have HQ : Hid (∀ i, i < q + 1 → sig i ≠ d) := fun i hi => by
                    by_cases h : i < q
                    · exact HNO.out i h
                    · have : i = q := by omega
                      subst this; exact he
                  generalize C ^^^ sig q = E at hch4 hEn
                  have hneE : ((E : Int) == (cc : Int)) = false := by rw [beq_eq_false_iff_ne]; omega
                  clear he hEn
                  go_wp2
                  go_region
                  all_goals go_wp2_with fail
                  refine hch4.mono ?_
                  rintro e w2 ⟨rfl, rfl⟩
                  clear hch4
                  go_wp2
                  go_region
                  all_goals (try go_wp2)
                  go_roundw
                  case rel => exact ⟨q + 1, WC, by omega, by go_num, HO5.out.1, HO5.out.2, Or.inl ⟨rfl, rfl, HQ.out⟩⟩
                  case measure => simp [intOf]; omega
              · have HN : Hid (refO bs cs (k + 1) = none) := by
                  show _ = _
                  rw [HStep.out none (mendD_lost X d hd256 hd0 hs (fun j hj => HNO.out j (by omega))), refS_none]
                have hqi : ¬ (q : Int) < 64 := by omega
                have hbT := HBW.out.trans (hbi.mono hszw)
                go_wp2
                go_ret3
                have e1 := refO_none bs cs (k + 1) HN.out (m - (k + 1))
                have e3 := HL.out
                rw [show k + 1 + (m - (k + 1)) = m from by omega] at e1
                rw [e1]
                exact ⟨rfl, hbT⟩
            · obtain ⟨i, hi64, hsig, hWC⟩ := HY.out
              have hT8 : WC.length = 8 := by rw [hWC, turnB_len]; exact HWL.out
              have HT8 : Hid (WC.length = 8) := hT8
              have HN : Hid (refO bs cs (k + 1) = some (o ++ WC, n + 1)) := by
                show _ = _
                rw [HStep.out (some (X ^^^ 2 ^ i, 1)) (by rw [← hsig]; exact mendD_hit X i hi64), refS_some]
                have e : bytes8 (X ^^^ 2 ^ i) = WC := by
                  have h1 := bytes8_word hT8 (by rw [hWC]; exact turnB_all hWa _ _ (by omega))
                  rw [hWC, turn_word hWa HWL.out i hi64, HW.out, ← hWC] at h1
                  exact h1
                rw [e]
              clear hT8 hWC hsig hi64 HY
              have hO1 := ownsRow_below HO.out hbi HLT.out
              have hnw := news_at hOi.lies
              have HBI : Hid (Below wo.heap.size wo wr) := hbi
              clear hOi hbi
              by_cases hq64 : q < 64
              · have hqi : (q : Int) < 64 := by omega
                go_wp2_with (at_builtin; refine wpList_append_own _ rfl (.tmp 101) (.tmp 102) 22 rfl w.heap.size 5 i0 (.int .u8 0) 1 1 Tryd.underlying22 HI.out.1 HI.out.2.1 HI.out.2.2.1 HI.out.2.2.2 rfl (by decide) (.slice ao (8 * k) cp) (8 * k) (o.map bv) rfl hO1 ⟨gw, 0, none⟩ 8 cw (WC.map bv) rfl ?gb1 hnw (one_bv WC) ?gb2 ?gb3 ?gb4 ?_)
                case gb1 => have := HT8.out; first | omega | (simp; omega)
                case gb2 => unfold maxLen; omega
                case gb3 => omega
                case gb4 => have := HBI.out.size; omega
                intro v2 w3 hown2 hgrow2 hv2
                obtain ⟨ao2, cp2, hve⟩ := owned_form hown2
                have hR1 : w3.ownsRow w.heap.size 5 1 (.slice ao2 (8 * (k + 1)) cp2) (8 * (k + 1)) ((o ++ WC).map bv) := by
                  rw [List.map_append, show 8 * (k + 1) = 8 * k + 8 from by omega, ← hve]; exact hown2
                have hb01 := HBW.out.trans (HBI.out.mono hszw)
                have hR2 : Below w.heap.size w w3 := hb01.grown hgrow2 hb01.size (fun g hg => (World.ownsRow.lt hO1 g hg).1)
                have HRR : Hid (w3.ownsRow w.heap.size 5 1 (.slice ao2 (8 * (k + 1)) cp2) (8 * (k + 1)) ((o ++ WC).map bv) ∧ Below w.heap.size w w3) := ⟨hR1, hR2⟩
                rw [hve]
                clear hown2 hgrow2 hv2 hve hR1 hR2 hb01 hO1 hnw hck
                go_wp2
                go_roundw
                case rel => exact ⟨k + 1, n + 1, cp2, ao2, o ++ WC, by omega, by go_num, by go_num, by omega, rfl, HN.out, HRR.out.1, HRR.out.2⟩
                case measure => simp [intOf]; omega
              · have hqi : ¬ (q : Int) < 64 := by omega
                go_wp2_with (at_builtin; refine wpList_append_own _ rfl (.tmp 101) (.tmp 102) 22 rfl w.heap.size 5 i0 (.int .u8 0) 1 1 Tryd.underlying22 HI.out.1 HI.out.2.1 HI.out.2.2.1 HI.out.2.2.2 rfl (by decide) (.slice ao (8 * k) cp) (8 * k) (o.map bv) rfl hO1 ⟨gw, 0, none⟩ 8 cw (WC.map bv) rfl ?gc1 hnw (one_bv WC) ?gc2 ?gc3 ?gc4 ?_)
                case gc1 => have := HT8.out; first | omega | (simp; omega)
                case gc2 => unfold maxLen; omega
                case gc3 => omega
                case gc4 => have := HBI.out.size; omega
                intro v2 w3 hown2 hgrow2 hv2
                obtain ⟨ao2, cp2, hve⟩ := owned_form hown2
                have hR1 : w3.ownsRow w.heap.size 5 1 (.slice ao2 (8 * (k + 1)) cp2) (8 * (k + 1)) ((o ++ WC).map bv) := by
                  rw [List.map_append, show 8 * (k + 1) = 8 * k + 8 from by omega, ← hve]; exact hown2
                have hb01 := HBW.out.trans (HBI.out.mono hszw)
                have hR2 : Below w.heap.size w w3 := hb01.grown hgrow2 hb01.size (fun g hg => (World.ownsRow.lt hO1 g hg).1)
                have HRR : Hid (w3.ownsRow w.heap.size 5 1 (.slice ao2 (8 * (k + 1)) cp2) (8 * (k + 1)) ((o ++ WC).map bv) ∧ Below w.heap.size w w3) := ⟨hR1, hR2⟩
                rw [hve]
                clear hown2 hgrow2 hv2 hve hR1 hR2 hb01 hO1 hnw hck
                go_wp2
                go_roundw
                case rel => exact ⟨k + 1, n + 1, cp2, ao2, o ++ WC, by omega, by go_num, by go_num, by omega, rfl, HN.out, HRR.out.1, HRR.out.2⟩
                case measure => simp [intOf]; omega
    · have HK : Hid (k = m) := by show _ = _; have := HL.out; omega
      have hge : ¬ (k : Int) < (cs.length : Int) := by omega
      have hol : o.length = 8 * k := by have := hown.1; simpa using this
      have HOL : Hid (o.length = 8 * k) := hol
      have hLies := lies_any hown
      clear hown hlt hol
      go_wp2
      go_ret3
      have e := HK.out
      subst e
      rw [HR.out]
      refine ⟨ao, cp, ?_, hLies, hbr⟩
      rw [HOL.out]
      rfl
end Go.Proofs.YtgflkfbddiccaaaDoor
