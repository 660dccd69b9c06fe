/-
  What the call of BufferLast gives: true.
-/
import Derived.Test.YtphacdnepjpmoafDoorLaw
namespace Go.Proofs.YtphacdnepjpmoafDoor
open Go.RowKit
set_option linter.unusedVariables false

set_option maxRecDepth 20000 in
set_option maxHeartbeats 1600000 in
theorem last_bad (m l : Int) (a1 a3 : Option Addr) (n1 n3 c1 c3 : Nat) (w : World) (h : m < 1 ∨ 16 < m) :
    Calls Tryd.prog 5 #[.int .i64 m, .slice a1 n1 c1, .int .i64 l, .slice a3 n3 c3] w fun e w' => e = .returned (.bool true) ∧ Below w.heap.size w w' := by
  have HN := new_bad m w h
  rcases h with h | h
  · go_enter Tryd.func5, Tryd.ntmps5
    go_wp2_with fail
    refine HN.mono ?_
    rintro e w1 ⟨rfl, rfl⟩
    clear HN
    go_wp2
    go_ret
    exact ⟨rfl, Below.refl _ _⟩
  · have h0 : ¬ m < 1 := by omega
    go_enter Tryd.func5, Tryd.ntmps5
    go_wp2_with fail
    refine HN.mono ?_
    rintro e w1 ⟨rfl, rfl⟩
    clear HN
    go_wp2
    go_ret
    exact ⟨rfl, Below.refl _ _⟩
theorem ok_last {most : Nat} {L : List It} {l : Int} {bs : List Nat} (h : Ok most L) (h0 : putE most L l = 0) (h9 : l ≤ 9223372036854775807) (hb : bs.length ≤ 140737488355328) :
    0 ≤ l ∧ putL most L (It.mk l false bs) = drp L l ++ [It.mk l false bs] ∧ fnd (drp L l ++ [It.mk l false bs]) l = some (It.mk l false bs) ∧ putE most (drp L l ++ [It.mk l false bs]) l = 0 ∧ putL most (drp L l ++ [It.mk l false bs]) (It.mk l true []) = drp (drp L l ++ [It.mk l false bs]) l ++ [It.mk l true []]
      ∧ fnd (drp (drp L l ++ [It.mk l false bs]) l ++ [It.mk l true []]) l = some (It.mk l true []) ∧ (drp (drp L l ++ [It.mk l false bs]) l ++ [It.mk l true []]).length ≤ most := by
  have hn : 0 ≤ l := by rcases putE_cases most L l with ⟨_, e⟩ | ⟨_, _, _, e⟩ | ⟨e, _⟩ | ⟨e, _⟩ <;> omega
  have f1 := fnd_last L (It.mk l false bs)
  have e2 : putE most (drp L l ++ [It.mk l false bs]) l = 0 := by
    rcases putE_cases most (drp L l ++ [It.mk l false bs]) l with ⟨e, _⟩ | ⟨_, e, _⟩ | ⟨_, e, _⟩ | ⟨_, _, e⟩
    · omega
    · rw [has_fnd, f1] at e; cases e
    · rw [has_fnd, f1] at e; cases e
    · exact e
  refine ⟨hn, if_pos h0, f1, e2, if_pos e2, fnd_last _ (It.mk l true []), ?_⟩
  exact (ok_put (x := It.mk l true []) (ok_put (x := It.mk l false bs) h h9 hb h0) h9 (Nat.zero_le _) e2).ln
/-- What the end needs of what is drained. -/
theorem LS.last {B bb mb most : Nat} {w wr : World} {K : List It} {l : Int} (h : LS B bb mb most w wr (K ++ [It.mk l true []])) (hl : (K ++ [It.mk l true []]).length ≤ most) :
    Calls Tryd.prog 16 #[.pointer (some ⟨bb, 0, none⟩), .int .i64 (most : Nat)] wr fun e w' => ∃ (g off cap : Nat), e = .returned (.slice (some ⟨g, off, none⟩) (K.length + 1) cap) ∧ w'.cell? ⟨g, off + K.length * 3, none⟩ = some (.int .i64 l) ∧ w'.cell? ⟨g, off + K.length * 3 + 1, none⟩ = some (.bool true) ∧ Hid (Below B w w') := by
  refine (drain_any h.bs (most : Int)).mono ?_
  rintro e w' ⟨M, a, cap, h1, h2, h3, _, _, h6⟩
  rw [Int.toNat_natCast, List.take_of_length_le hl] at h2
  have hlen : M.length = K.length + 1 := by
    have := congrArg List.length h2
    rw [List.length_map, List.length_append, List.length_singleton] at this
    exact this
  obtain ⟨g, off, rfl, c0, c1, _⟩ := h3.at (show K.length < M.length by omega)
  have e9 : (M[K.length]?.getD rn0).it = It.mk l true [] := by
    have := congrArg (fun z => z[K.length]?) h2
    simp only [List.getElem?_map] at this
    rw [List.getElem?_append_right (Nat.le_refl _), Nat.sub_self] at this
    cases hm : M[K.length]? with
    | none => rw [hm] at this; cases this
    | some y => rw [hm] at this; simpa using this
  rw [e9] at c0 c1
  exact ⟨g, off, cap, by rw [h1, hlen], c0, c1, h.bel.trans h6.bel⟩
set_option maxRecDepth 20000 in
set_option maxHeartbeats 1600000 in
theorem last_good (m : Nat) (l : Int) (a1 a3 : Option Addr) (n1 : Nat) (bs : List Nat) (c1 c3 : Nat) (w : World) (hE : EType w) (h1 : 1 ≤ m) (h2 : m ≤ 16) (hS : Script w a1 n1) (hn1 : n1 ≤ 9223372036854775807) (hL : Lies w a3 bs) (hb : bs.length ≤ 140737488355328) (h9 : l ≤ 9223372036854775807) :
    Calls Tryd.prog 5 #[.int .i64 m, .slice a1 n1 c1, .int .i64 l, .slice a3 bs.length c3] w fun e w' => e = .returned (.bool true) ∧ Below w.heap.size w w' := by
  have HN : Hid (Calls Tryd.prog 12 #[.int .i64 m] w fun e w' => ∃ bb mb, e = .returned (.tuple #[.pointer (some ⟨bb, 0, none⟩), .nilIface]) ∧ LS w.heap.size bb mb m w w' []) := (new_yes m w h1 h2).mono fun e w' ⟨e1, e2, e3⟩ => ⟨_, _, e1, e2, e3⟩
  have HS : Hid (Script w a1 n1) := hS
  have HE : Hid (∀ W, Below w.heap.size w W → EType W) := fun W hW => hE.below hW hE.pos
  have HL : Hid (∀ W, Below w.heap.size w W → Lies W a3 bs) := fun W hW => hL.below hW
  have Hb : Hid (bs.length ≤ 140737488355328) := hb
  have H9 : Hid (l ≤ 9223372036854775807) := h9
  have Hle : Hid (w.heap.size ≤ w.heap.size) := Nat.le_refl _
  have HG : Hid (∀ e w', e = Ending.returned (.bool true) → Below w.heap.size w w' → (fun e w' => e = Ending.returned (.bool true) ∧ Below w.heap.size w w') e w') := fun e w' a b => ⟨a, b⟩
  obtain ⟨B, hB⟩ : ∃ B, Hid (B = w.heap.size) := ⟨_, rfl⟩
  rw [← hB.out] at HN HE HL
  clear hS hE hL hb h9
  go_enter Tryd.func5, Tryd.ntmps5
  go_wp2_with fail
  refine HN.out.mono ?_
  rintro e w1 ⟨bb, mb, rfl, hs1⟩
  have H1 : Hid (LS B bb mb m w w1 []) := hs1
  clear HN hs1
  go_wp2
  go_loopw [11] (fun j wr => ∃ (k : Nat) (L : List It), k ≤ n1 ∧ j = .int .i64 k ∧ Hid (LS B bb mb m w wr L)) (fun j _ => n1 - (intOf j).toNat)
  case atStart => exact ⟨0, [], Nat.zero_le _, rfl, H1⟩
  case round =>
    obtain ⟨k, L, hk, rfl, hR⟩ := hrel
    clear H1
    by_cases hlt : k < n1
    · obtain ⟨so, oo, ha2, o, hO⟩ := HS.out.slice hlt
      have hOr := hO.below hR.out.bel (by rw [hB.out]; exact Nat.le_refl _)
      have k0 := hOr.k0
      have k1 := hOr.k1
      have k2 := hOr.k2
      have HO : Hid (OpAt wr so oo k o) := hOr
      clear hO hOr
      rw [ha2]
      have HW : Hid (Below wr.heap.size wr (wr.alloc (.cells #[.int .i64 o.kind, .int .i64 o.lba, .slice o.a o.data.length o.cap] 45))) := alloc_below' wr _
      by_cases hk2 : o.kind = 2
      · rw [hk2] at k0 HW
        have HD : Hid (Calls Tryd.prog 15 #[.pointer (some ⟨bb, 0, none⟩), .int .i64 o.lba] (wr.alloc (.cells #[.int .i64 2, .int .i64 o.lba, .slice o.a o.data.length o.cap] 45)) fun e w' => (∃ ev, e = .returned ev) ∧ Hid (∃ L', LS B bb mb m w w' L')) := ((hR.out.below HW.out).drop o.lba HO.out.l9).mono fun e w' ⟨e1, e2, _⟩ => ⟨⟨_, e1⟩, _, e2.out⟩
        clear hR HW HO hk2
        go_wp2_with fail
        refine HD.out.mono ?_
        rintro e w5 ⟨⟨ev, rfl⟩, hF⟩
        clear HD k0 k1 k2
        go_wp2
        obtain ⟨L', hF'⟩ := hF.out
        exact ⟨⟨k + 1, L', by omega, by go_num, hF'⟩, by simp [intOf]; omega⟩
      · have t2 : (o.kind == 2) = false := by rw [beq_eq_false_iff_ne]; exact hk2
        by_cases hk4 : o.kind = 4
        · rw [hk4] at k0 HW t2
          have HD : Hid (Calls Tryd.prog 16 #[.pointer (some ⟨bb, 0, none⟩), .int .i64 o.lba] (wr.alloc (.cells #[.int .i64 4, .int .i64 o.lba, .slice o.a o.data.length o.cap] 45)) fun e w' => (∃ ev, e = .returned ev) ∧ Hid (∃ L', LS B bb mb m w w' L')) := (drain_any (hR.out.bs.below HW.out) o.lba).mono fun e w' ⟨M, a, cap, e1, _, _, _, e2, e3⟩ => ⟨⟨_, e1⟩, _, (hR.out.below HW.out).apart e2 e3⟩
          clear hR HW HO hk2 hk4 t2
          go_wp2_with fail
          refine HD.out.mono ?_
          rintro e w5 ⟨⟨ev, rfl⟩, hF⟩
          clear HD k0 k1 k2
          go_wp2
          obtain ⟨L', hF'⟩ := hF.out
          exact ⟨⟨k + 1, L', by omega, by go_num, hF'⟩, by simp [intOf]; omega⟩
        · have t4 : (o.kind == 4) = false := by rw [beq_eq_false_iff_ne]; exact hk4
          have HD : Hid (Calls Tryd.prog 17 #[.pointer (some ⟨bb, 0, none⟩), .int .i64 o.lba, .slice o.a o.data.length o.cap] (wr.alloc (.cells #[.int .i64 o.kind, .int .i64 o.lba, .slice o.a o.data.length o.cap] 45)) fun e w' => (∃ ev, e = .returned ev) ∧ Hid (∃ L', LS B bb mb m w w' L')) := ((hR.out.below HW.out).put o.lba o.data o.a o.cap HO.out.l9 (HO.out.li.below HW.out) HO.out.dl).mono fun e w' ⟨e1, e2, _⟩ => ⟨⟨_, e1⟩, _, e2.out⟩
          clear hR HW HO hk2 hk4
          go_wp2_with fail
          refine HD.out.mono ?_
          rintro e w5 ⟨⟨ev, rfl⟩, hF⟩
          clear HD k0 k1 k2
          go_wp2
          obtain ⟨L', hF'⟩ := hF.out
          exact ⟨⟨k + 1, L', by omega, by go_num, hF'⟩, by simp [intOf]; omega⟩
    · obtain rfl : k = n1 := by omega
      clear HS hlt hk
      have HLn : Hid (Calls Tryd.prog 14 #[.pointer (some ⟨bb, 0, none⟩)] wr fun e w' => e = .returned (.int .i64 (L.length : Nat)) ∧ w' = wr) := hR.out.len
      have HP : Hid (∀ W, LS B bb mb m w W L → Calls Tryd.prog 17 #[.pointer (some ⟨bb, 0, none⟩), .int .i64 l, .slice a3 bs.length c3] W fun e w' => e = .returned (errI (putE m L l)) ∧ Hid (LS B bb mb m w w' (putL m L (It.mk l false bs)))) := fun W hW => (hW.put l bs a3 c3 H9.out (HL.out W hW.bel) Hb.out).mono fun e w' ⟨e1, e2, _⟩ => ⟨e1, e2⟩
      have HER : Hid (∀ (n : Nat) W, Below B w W → Calls Tryd.prog 11 #[.iface 33 (.int .i64 n), .int .i64 (3 : Nat)] W fun ev w' => ev = .returned (.bool (decide (n = 3))) ∧ Hid (Below B w w')) := fun n W hW => (error_any n 3 W (HE.out W hW)).mono fun e w' ⟨e1, e2⟩ => ⟨e1, hW.trans (e2.mono (by have := hW.size; rw [hB.out]; exact this))⟩
      rcases putE_cases m L l with ⟨h0, e0⟩ | ⟨h0, hh, hl, e0⟩ | hz
      · rw [e0] at HP
        have hpl : putL m L (It.mk l false bs) = L := by unfold putL; rw [e0]; rfl
        rw [hpl] at HP
        have HGt : Hid (Calls Tryd.prog 18 #[.pointer (some ⟨bb, 0, none⟩), .int .i64 l] wr fun e w' => e = .returned (.tuple #[.slice none 0 0, .bool false, .iface 33 (.int .i64 1)]) ∧ w' = wr) := hR.out.get_low l h0
        have HPx := HP.out wr hR.out
        clear HP hR hpl e0
        go_wp2_with fail
        refine HLn.out.mono ?_
        rintro e w2 ⟨rfl, rfl⟩
        go_wp2_with fail
        refine HGt.out.mono ?_
        rintro e w3 ⟨rfl, rfl⟩
        clear HGt HLn
        go_wp2_with fail
        refine HPx.mono ?_
        rintro e w4 ⟨rfl, h4⟩
        have HLn : Hid (Calls Tryd.prog 14 #[.pointer (some ⟨bb, 0, none⟩)] w4 fun e w' => e = .returned (.int .i64 (L.length : Nat)) ∧ w' = w4) := h4.out.len
        rw [errI_ne (by decide)]
        clear HPx
        go_wp2_with fail
        refine HLn.out.mono ?_
        rintro e w5 ⟨rfl, rfl⟩
        go_wp2_with fail
        refine (HER.out 1 _ h4.out.bel).mono ?_
        rintro e w6 ⟨rfl, h6⟩
        clear HER HLn h4
        go_wp2
        go_ret
        exact ⟨rfl, by rw [← hB.out]; exact h6.out⟩
      · rw [e0] at HP
        have hpl : putL m L (It.mk l false bs) = L := by unfold putL; rw [e0]; rfl
        rw [hpl] at HP
        have hf : fnd L l = none := by
          rw [has_fnd] at hh
          cases e : fnd L l with
          | none => rfl
          | some x => rw [e] at hh; cases hh
        have HGt : Hid (Calls Tryd.prog 18 #[.pointer (some ⟨bb, 0, none⟩), .int .i64 l] wr fun e w' => e = .returned (.tuple #[.slice none 0 0, .bool false, .iface 33 (.int .i64 4)]) ∧ w' = wr) := hR.out.get_none l h0 H9.out hf
        have HPx := HP.out wr hR.out
        rw [hl] at HLn
        have Hl : Hid (L.length = m) := hl
        clear HP hR hpl e0 hh hf hl
        go_wp2_with fail
        refine HLn.out.mono ?_
        rintro e w2 ⟨rfl, rfl⟩
        go_wp2_with fail
        refine HGt.out.mono ?_
        rintro e w3 ⟨rfl, rfl⟩
        clear HGt HLn
        go_wp2_with fail
        refine HPx.mono ?_
        rintro e w4 ⟨rfl, h4⟩
        have HLn : Hid (Calls Tryd.prog 14 #[.pointer (some ⟨bb, 0, none⟩)] w4 fun e w' => e = .returned (.int .i64 (m : Nat)) ∧ w' = w4) := by
          have := h4.out.len
          rw [Hl.out] at this
          exact this
        rw [errI_ne (by decide)]
        clear HPx
        go_wp2_with fail
        refine HLn.out.mono ?_
        rintro e w5 ⟨rfl, rfl⟩
        go_wp2_with fail
        refine (HER.out 3 _ h4.out.bel).mono ?_
        rintro e w6 ⟨rfl, h6⟩
        clear HER HLn h4
        go_wp2
        go_ret
        exact ⟨rfl, by rw [← hB.out]; exact h6.out⟩
      · have e0 : putE m L l = 0 := by rcases hz with ⟨_, _, _, e⟩ | ⟨_, _, e⟩ <;> exact e
        obtain ⟨hl0, q1, q2, q3, q4, q5, q6⟩ := ok_last hR.out.bs.ok.1 e0 H9.out Hb.out
        rw [e0, q1] at HP
        have HG1 : Hid (∃ ev : Value, Calls Tryd.prog 18 #[.pointer (some ⟨bb, 0, none⟩), .int .i64 l] wr fun e w' => (∃ sa sn sc gn ev, e = .returned (.tuple #[.slice sa sn sc, .bool gn, ev])) ∧ Hid (LS B bb mb m w w' L)) := ⟨.nilIface, (get_any hR.out.bs l H9.out).mono fun e w' ⟨hb, hc⟩ => ⟨by
          rcases hc with ⟨_, e1⟩ | ⟨_, _, e1⟩ | ⟨x, a, c, _, _, e1, _⟩
          · exact ⟨_, _, _, _, _, e1⟩
          · exact ⟨_, _, _, _, _, e1⟩
          · exact ⟨_, _, _, _, _, e1⟩, hR.out.below hb⟩⟩
        have HPx : Hid (∀ W, LS B bb mb m w W L → Calls Tryd.prog 17 #[.pointer (some ⟨bb, 0, none⟩), .int .i64 l, .slice a3 bs.length c3] W fun e w' => e = .returned .nilIface ∧ Hid (LS B bb mb m w w' (drp L l ++ [It.mk l false bs]))) := HP
        clear HP hR e0 q1 hz HER HE
        generalize hL1 : drp L l ++ [It.mk l false bs] = L1 at *
        have HG2 : Hid (∀ W, LS B bb mb m w W L1 → Calls Tryd.prog 18 #[.pointer (some ⟨bb, 0, none⟩), .int .i64 l] W fun e w' => ∃ a c, e = .returned (.tuple #[.slice a bs.length c, .bool false, .nilIface]) ∧ Hid (Lies w' a bs ∧ Lies w' a3 bs ∧ LS B bb mb m w w' L1)) := fun W hW => (hW.get_some l _ hl0 H9.out q2).mono fun e w' ⟨a, c, e1, e2, e3⟩ => ⟨a, c, e1, e2.out.lies, HL.out w' (hW.below e3.out).bel, hW.below e3.out⟩
        have HDr : Hid (∀ W, LS B bb mb m w W L1 → Calls Tryd.prog 15 #[.pointer (some ⟨bb, 0, none⟩), .int .i64 l] W fun e w' => e = .returned .nilIface ∧ Hid (LS B bb mb m w w' (drp L1 l ++ [It.mk l true []]))) := fun W hW => (hW.drop l H9.out).mono fun e w' ⟨e1, e2, _⟩ => ⟨by rw [e1, q3]; rfl, by rw [q4] at e2; exact e2⟩
        have HG3 : Hid (∀ W, LS B bb mb m w W (drp L1 l ++ [It.mk l true []]) → Calls Tryd.prog 18 #[.pointer (some ⟨bb, 0, none⟩), .int .i64 l] W fun e w' => ∃ a c, e = .returned (.tuple #[.slice a 0 c, .bool true, .nilIface]) ∧ Hid (LS B bb mb m w w' (drp L1 l ++ [It.mk l true []]))) := fun W hW => (hW.get_some l _ hl0 H9.out q5).mono fun e w' ⟨a, c, e1, e2, e3⟩ => ⟨a, c, e1, hW.below e3.out⟩
        have HDn : Hid (∀ W, LS B bb mb m w W (drp L1 l ++ [It.mk l true []]) → Calls Tryd.prog 16 #[.pointer (some ⟨bb, 0, none⟩), .int .i64 (m : Nat)] W fun e w' => ∃ (g off cap : Nat), e = .returned (.slice (some ⟨g, off, none⟩) ((drp L1 l).length + 1) cap) ∧ w'.cell? ⟨g, off + (drp L1 l).length * 3, none⟩ = some (.int .i64 l) ∧ w'.cell? ⟨g, off + (drp L1 l).length * 3 + 1, none⟩ = some (.bool true) ∧ Hid (Below B w w')) := fun W hW => hW.last q6
        have hq16 : (drp L1 l).length ≤ 16 := by rw [List.length_append, List.length_singleton] at q6; omega
        clear q2 q3 q4 q5 q6 hL1
        generalize drp L1 l ++ [It.mk l true []] = L2 at *
        generalize (drp L1 l).length = z at *
        go_wp2_with fail
        refine HLn.out.mono ?_
        rintro e w2 ⟨rfl, rfl⟩
        obtain ⟨_, HG1'⟩ := HG1.out
        clear HG1 HLn
        go_wp2_with fail
        refine HG1'.mono ?_
        rintro e w3 ⟨⟨sa, sn, sc, gn, ev, rfl⟩, h3⟩
        clear HG1'
        go_wp2_with fail
        refine (HPx.out _ h3.out).mono ?_
        rintro e w4 ⟨rfl, h4⟩
        clear HPx h3
        go_wp2_with fail
        refine (HG2.out _ h4.out).mono ?_
        rintro e w5 ⟨a5, c5, rfl, h5⟩
        clear HG2 h4
        have HBy := bytes_any a5 a3 bs bs c5 c3 w5 Hb.out Hb.out h5.out.1 h5.out.2.1
        rw [decide_eq_true rfl] at HBy
        go_wp2_with fail
        refine HBy.mono ?_
        rintro e w6 ⟨rfl, h6⟩
        have H6 : Hid (LS B bb mb m w w6 L1) := h5.out.2.2.below h6
        clear HBy h5 h6
        go_wp2_with fail
        refine (HDr.out _ H6.out).mono ?_
        rintro e w7 ⟨rfl, h7⟩
        clear HDr H6
        go_wp2_with fail
        refine (HG3.out _ h7.out).mono ?_
        rintro e w8 ⟨a8, c8, rfl, h8⟩
        clear HG3 h7
        go_wp2_with fail
        refine (HDn.out _ h8.out).mono ?_
        rintro e w9 ⟨g, off, cap, rfl, d0, d1, h9⟩
        clear HDn h8
        go_wp2
        go_ret
        exact ⟨rfl, by rw [← hB.out]; exact h9.out⟩
theorem last_any (m l : Int) (a1 a3 : Option Addr) (n1 : Nat) (bs : List Nat) (c1 c3 : Nat) (w : World) (hE : EType w) (hS : Script w a1 n1) (hn1 : n1 * 40 ≤ 140737488351232) (hL : Lies w a3 bs) (hb : bs.length ≤ 140737488355328) (h9 : l ≤ 9223372036854775807) :
    Calls Tryd.prog 5 #[.int .i64 m, .slice a1 n1 c1, .int .i64 l, .slice a3 bs.length c3] w fun e w' => e = .returned (.bool true) ∧ Below w.heap.size w w' := by
  by_cases h : m < 1 ∨ 16 < m
  · exact last_bad m l a1 a3 n1 bs.length c1 c3 w h
  · obtain ⟨k, rfl⟩ := Int.eq_ofNat_of_zero_le (show 0 ≤ m by omega)
    exact last_good k l a1 a3 n1 bs c1 c3 w hE (by omega) (by omega) hS (by omega) hL hb h9
end Go.Proofs.YtphacdnepjpmoafDoor
