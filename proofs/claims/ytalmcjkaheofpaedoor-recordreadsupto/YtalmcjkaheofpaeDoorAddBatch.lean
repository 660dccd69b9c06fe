/-
  What the call of record.addBatch gives: a batch's bytes behind the bytes that are there.
-/
import Derived.Test.YtalmcjkaheofpaeDoorAdd
namespace Go.Proofs.YtalmcjkaheofpaeDoor
open Go.RowKit
set_option linter.unusedVariables false

theorem OwnA.cap {w : World} {base cap : Nat} {a : Option Addr} {ys : List Nat} (h : OwnA w base a cap ys) : ys.length ≤ cap := by
  rcases h.parts with ⟨_, _, h⟩ | ⟨g, cur, rfl, h1, h2, h3, _⟩
  · rw [h]; simp
  · exact h3
theorem ensL_take {es : List En} {i : Nat} (h : i < es.length) : ensL (es.take (i + 1)) = ensL (es.take i) ++ enL (es[i]?.getD en0) := by rw [take_snocB es i en0 h, ensL_snoc]
theorem ensL_le {es : List En} (i : Nat) : (ensL (es.take i)).length ≤ (ensL es).length := by
  have h : ensL es = ensL (es.take i) ++ ensL (es.drop i) := by
    unfold ensL
    rw [← List.flatten_append, ← List.map_append, List.take_append_drop]
  rw [h, List.length_append]
  omega
set_option maxRecDepth 20000 in
set_option maxHeartbeats 800000 in
theorem addBatch_any (a ea : Option Addr) (ys : List Nat) (es : List En) (cap ec : Nat) (w0 w : World) (hE : EnsAt w0 ea es) (hb0 : Below w0.heap.size w0 w) (hO : OwnA w w0.heap.size a cap ys) (hB : BatOk es) (hl : ys.length + (batL es).length ≤ 1073741824) :
    Calls Tryd.prog 18 #[.slice a ys.length cap, .slice ea es.length ec] w fun e w' => AddPost w w' e w0.heap.size a (ys ++ batL es) := by
  have h64 := hB.1
  have HS : Hid (∀ a1 w1, Grow a w a1 w1 → Below w0.heap.size w0 w1 ∧ w0.heap.size ≤ w1.heap.size) := fun a1 w1 hg =>
    ⟨hb0.trans (hg.below hb0.size (fun b hb => (hO.ge hb).1)), Nat.le_trans hb0.size hg.1.size⟩
  have HE : Hid (∀ w1, Below w0.heap.size w0 w1 → EnsAt w1 ea es) := fun w1 hb => hE.below hb
  have HL : Hid (ys.length + (sev es.length).length + (ensL es).length + 4 ≤ 1073741824) := by
    show _ ≤ _
    have h2 : (batL es).length = (sev es.length).length + (ensL es).length + 4 := by unfold batL bodyL; rw [List.length_append, List.length_append, low_len]
    omega
  have HB : Hid (∀ i, i < es.length → EnOk (es[i]?.getD en0)) := fun i hi => by rw [getD_lt hi]; exact hB.2 _ (List.getElem_mem _)
  have HO : Hid (OwnA w w0.heap.size a cap ys) := hO
  have hsz := hb0.size
  clear hE hb0 hO hB hl
  go_enter Tryd.func18, Tryd.ntmps18
  go_wp2_with fail
  refine (addNumber_any a ys cap es.length w0.heap.size w HO.out (by omega) (by have := HL.out; omega) hsz).mono ?_
  rintro e w1 ⟨a1, c1, rfl, hO1, hG1⟩
  have HR : Hid (AR w w1 w0.heap.size a a1 c1 (ys ++ sev es.length ++ ensL (es.take 0))) := by
    rw [show ensL (es.take 0) = [] from rfl, List.append_nil]
    exact ⟨hO1, hG1⟩
  clear hO1 hG1
  go_wp2
  go_loopw [0, 18] (fun t j wr => ∃ (i c : Nat) (a2 : Option Addr), i ≤ es.length ∧ j = .int .i64 i ∧ t = .slice a2 (ys ++ sev es.length ++ ensL (es.take i)).length c ∧ Hid (AR w wr w0.heap.size a a2 c (ys ++ sev es.length ++ ensL (es.take i)))) (fun _ j _ => es.length - (intOf j).toNat)
  case atStart => exact ⟨0, c1, a1, by omega, rfl, by simp [ensL], HR⟩
  case round =>
    clear HR
    obtain ⟨i, c, a2, hi, rfl, rfl, hr⟩ := hrel
    have hbs := HS.out _ _ hr.out.grow
    by_cases hlt : i < es.length
    · rcases HE.out wr hbs.1 with h | ⟨b, off, rfl, hc⟩
      · rw [h] at hlt; simp at hlt
      obtain ⟨d0, d1, d2⟩ := hc i hlt
      obtain ⟨⟨k1, k2⟩, ⟨k3, k4⟩, k5, k6⟩ := HB.out i hlt
      have HT : Hid (ensL (es.take (i + 1)) = ensL (es.take i) ++ enL (es[i]?.getD en0)) := ensL_take hlt
      have hLe := @ensL_le es (i + 1)
      rw [HT.out, List.length_append] at hLe
      have hsq := hbs.2
      clear hc hbs
      generalize es[i]?.getD en0 = x at d0 d1 d2 k1 k2 k3 k4 k5 k6 HT hLe
      obtain ⟨xk, xa, xb⟩ := x
      simp only at d0 d1 d2 k1 k2 k3 k4 k5 k6
      obtain ⟨nk, rfl⟩ := Int.eq_ofNat_of_zero_le k1
      obtain ⟨na, rfl⟩ := Int.eq_ofNat_of_zero_le k3
      obtain ⟨nb, rfl⟩ := Int.eq_ofNat_of_zero_le k5
      have HEL : Hid (enL ⟨(nk : Int), (na : Int), (nb : Int)⟩ = sev nk ++ (sev na ++ sev nb)) := by show _ = _; simp [enL]
      have hlen : (enL ⟨(nk : Int), (na : Int), (nb : Int)⟩).length = (sev nk).length + ((sev na).length + (sev nb).length) := by rw [HEL.out, List.length_append, List.length_append]
      have HQ : Hid (∃ R, R = ys ++ sev es.length ++ ensL (es.take i)) := ⟨_, rfl⟩
      have hRl : (ys ++ sev es.length ++ ensL (es.take i)).length + (sev nk).length + (sev na).length + (sev nb).length ≤ 1073741824 := by
        have := HL.out
        rw [List.length_append, List.length_append]
        omega
      have HR2 : Hid (ys ++ sev es.length ++ ensL (es.take (i + 1)) = (ys ++ sev es.length ++ ensL (es.take i)) ++ sev nk ++ sev na ++ sev nb) := by
        show _ = _
        rw [HT.out, HEL.out]
        simp
      generalize ys ++ sev es.length ++ ensL (es.take i) = R at hr hRl HR2 ⊢
      clear HT hLe hlen HQ HEL
      have hblE : Below wr.heap.size wr (wr.alloc (.cells #[.int .i64 (nk : Int), .int .i64 (na : Int), .int .i64 (nb : Int)] 45)) := (Below.refl _ _).alloc (Nat.le_refl _) _
      have HOE : Hid (OwnA (wr.alloc (.cells #[.int .i64 (nk : Int), .int .i64 (na : Int), .int .i64 (nb : Int)] 45)) w0.heap.size a2 c R) := hr.out.own.below hblE
      have HGE : Hid (∀ a5 w5, Grow a2 (wr.alloc (.cells #[.int .i64 (nk : Int), .int .i64 (na : Int), .int .i64 (nb : Int)] 45)) a5 w5 → w5.cell? ⟨wr.heap.size, 1, none⟩ = some (.int .i64 (na : Int)) ∧ w5.cell? ⟨wr.heap.size, 2, none⟩ = some (.int .i64 (nb : Int)) ∧ Grow a w a5 w5 ∧ w0.heap.size ≤ w5.heap.size) := fun a5 w5 hg => by
        have hne : ¬ blk a2 wr.heap.size := fun e => by have := (hr.out.own.ge e).2; omega
        refine ⟨?_, ?_, hr.out.grow.trans (Grow.pre hblE hg), Nat.le_trans hsq (Nat.le_trans hblE.size hg.1.size)⟩
        · rw [hg.1.cell (p := ⟨wr.heap.size, 1, none⟩) (by simp) hne]; simp [go_sem]
        · rw [hg.1.cell (p := ⟨wr.heap.size, 2, none⟩) (by simp) hne]; simp [go_sem]
      clear hr hblE
      go_wp2_with fail
      refine (addNumber_any a2 R c nk w0.heap.size _ HOE.out (by omega) (by omega) (Nat.le_trans hsq (by simp))).mono ?_
      rintro e w3 ⟨a3, c3, rfl, hO3, hG3⟩
      obtain ⟨e1, e2, eG3, eS3⟩ := HGE.out _ _ hG3
      have hl3 : Hid ((R ++ sev nk).length = R.length + (sev nk).length) := List.length_append
      generalize R ++ sev nk = R3 at hO3 HR2 hl3 ⊢
      go_wp2_with fail
      refine (addNumber_any a3 R3 c3 na w0.heap.size _ hO3 (by omega) (by have := hl3.out; omega) eS3).mono ?_
      rintro e w4 ⟨a4, c4, rfl, hO4, hG4⟩
      obtain ⟨f1, f2, fG4, fS4⟩ := HGE.out _ _ (hG3.trans hG4)
      have hl4 : Hid ((R3 ++ sev na).length = R3.length + (sev na).length) := List.length_append
      generalize R3 ++ sev na = R4 at hO4 HR2 hl4 ⊢
      go_wp2_with fail
      refine (addNumber_any a4 R4 c4 nb w0.heap.size _ hO4 (by omega) (by have := hl3.out; have := hl4.out; omega) fS4).mono ?_
      rintro e w5 ⟨a5, c5, rfl, hO5, hG5⟩
      obtain ⟨g1, g2, gG5, gS5⟩ := HGE.out _ _ ((hG3.trans hG4).trans hG5)
      have HF : Hid (AR w w5 w0.heap.size a a5 c5 (ys ++ sev es.length ++ ensL (es.take (i + 1)))) := by rw [HR2.out]; exact ⟨hO5, gG5⟩
      have hl5 : (R4 ++ sev nb).length = (ys ++ sev es.length ++ ensL (es.take (i + 1))).length := by rw [HR2.out]
      rw [hl5]
      clear HR2 hl5
      generalize hR5 : ys ++ sev es.length ++ ensL (es.take (i + 1)) = R5 at HF ⊢
      have HR5 : Hid (_ = _) := hR5
      clear hR5
      clear hO3 hG3 hO4 hG4 hO5 hG5 eG3 fG4 gG5 HGE HOE
      go_wp2
      go_roundw
      case rel => exact ⟨i + 1, c5, a5, by omega, by go_num, by rw [HR5.out], by rw [HR5.out]; exact HF⟩
      case measure => simp [intOf]; omega
    · obtain rfl : i = es.length := by omega
      have hbd : (ys ++ sev es.length ++ ensL (es.take es.length)) = ys ++ bodyL es := by rw [List.take_length]; unfold bodyL; simp
      rw [hbd] at hr ⊢
      have hyb : (ys ++ bodyL es).length = ys.length + (bodyL es).length := List.length_append
      have hcap := hr.out.own.cap
      have hbl4 : ys.length + (bodyL es).length + 4 ≤ 1073741824 := by have := HL.out; unfold bodyL; rw [List.length_append]; omega
      have HCR : Hid (Calls Tryd.prog 25 #[.slice (dropA a2 c ys.length) ((ys ++ bodyL es).length - ys.length) (c - ys.length)] wr fun e w' => e = .returned (.int .u32 (crcOf (bodyL es) : Nat)) ∧ w' = wr) := by
        have h := crc_any (dropA a2 c ys.length) ((ys ++ bodyL es).drop ys.length) (c - ys.length) wr (by rw [List.length_drop]; unfold maxLen; omega) (by rw [List.drop_left]; exact bodyL_all es) (hr.out.own.lies.drop ys.length hcap)
        rw [List.length_drop, List.drop_left] at h
        exact h
      have hs := slice_from a2 (ys ++ bodyL es).length c ys.length (by omega) wr
      have hc32 := crcOf_lt (bodyL_all es)
      have HR : Hid (AR w wr w0.heap.size a a2 c (ys ++ bodyL es ++ low 0 (crcOf (bodyL es)))) := by
        show AR _ _ _ _ _ _ _
        rw [show low 0 (crcOf (bodyL es)) = [] from rfl, List.append_nil]
        exact hr.out
      have HFin : Hid (∀ rs, rs = ys ++ bodyL es ++ low 4 (crcOf (bodyL es)) → rs = ys ++ batL es) := fun rs h => by rw [h]; unfold batL; simp
      have hlr : (ys ++ bodyL es).length + 4 ≤ 1073741824 := by omega
      clear hr hbd hyb hcap hbl4
      generalize crcOf (bodyL es) = C at HCR HR HFin hc32
      generalize ys ++ bodyL es = R at HCR HR HFin hs hlr ⊢
      go_wp2_with (go_at_call 25; refine HCR.out.mono ?_; rintro e w' ⟨rfl, rfl⟩)
      go_loopw [0, 39] (fun t j wr => ∃ (i c : Nat) (a2 : Option Addr), i ≤ 4 ∧ j = .int .i64 i ∧ t = .slice a2 (R ++ low i C).length c ∧ Hid (AR w wr w0.heap.size a a2 c (R ++ low i C))) (fun _ j _ => 4 - (intOf j).toNat)
      case atStart => exact ⟨0, c, a2, by omega, rfl, by simp [low], HR⟩
      case round =>
        clear HR
        obtain ⟨i, c, a2, hi4, rfl, rfl, hr⟩ := hrel
        have hbs := HS.out _ _ hr.out.grow
        by_cases hlt4 : i < 4
        · go_wp2_with (at_builtin; refine app_step1 rfl (.tmp 42) (.tmp 48) rfl wr w0.heap.size c a2 (R ++ low i C) _ (C / 2 ^ (8 * i) % 256) rfl rfl ?_ hr.out.own (by rw [List.length_append, low_len]; omega) hbs.2 ?_)
          · exact low_byte C i
          intro a3 c3 w3 hO3 hG3
          have HF : Hid (AR w w3 w0.heap.size a a3 c3 (R ++ low (i + 1) C)) := by
            rw [low_snoc]
            exact ⟨hO3, hr.out.grow.trans hG3⟩
          clear hr hO3 hG3 hbs
          go_wp2
          go_roundw
          case rel => exact ⟨i + 1, c3, a3, by omega, by go_num, by rw [show (R ++ low (i + 1) C).length = R.length + (low i C).length + 1 by simp [low_len]; omega], HF⟩
          case measure => simp [intOf]; omega
        · obtain rfl : i = 4 := by omega
          have HP : Hid (AddPost w wr (.returned (.slice a2 (R ++ low 4 C).length c)) w0.heap.size a (ys ++ batL es)) := by
            have e := HFin.out _ rfl
            rw [e]
            have h1 := hr.out.own
            rw [e] at h1
            exact ⟨a2, c, rfl, h1, hr.out.grow⟩
          clear hr hbs
          go_wp2
          go_ret
          exact HP.out
end Go.Proofs.YtalmcjkaheofpaeDoor
