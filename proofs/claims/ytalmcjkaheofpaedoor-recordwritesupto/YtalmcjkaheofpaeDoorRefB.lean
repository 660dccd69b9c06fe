/-
  What the calls of the document's answers granaryref1.seven, BatchOf and RecordOf give: the same plain functions as the program's.
-/
import Derived.Test.YtalmcjkaheofpaeDoorRefA
import Derived.Test.YtalmcjkaheofpaeDoorWrite
namespace Go.Proofs.YtalmcjkaheofpaeDoor
open Go.RowKit
set_option linter.unusedVariables false

/-- SOME BYTES ARE APPENDED, from bytes that lie anywhere. -/
theorem app_stepG {ops : Array Oper} {rest : List Oper} {o : Oper} {a : Act} {w : World} {Q : Exit → Act → World → Prop} (hgd : o.guard = none) (s x : Operand)
    (ho : o.op = .call { callee := .builtin .append, args := #[s, x], argTypes := #[23, 23] }) (base : Nat) (a0 : Option Addr) (cap0 : Nat) (ys : List Nat) (hs : a.eval s = .slice a0 ys.length cap0) (hown : OwnA w base a0 cap0 ys)
    (sa : Option Addr) (c : Nat) (zs : List Nat) (hx : a.eval x = .slice sa zs.length c) (hL : Lies w sa zs) (hz : 0 < zs.length) (hb : ys.length + zs.length ≤ 1073741824) (hbase : base ≤ w.heap.size)
    (h : ∀ a1 cap1 w', OwnA w' base a1 cap1 (ys ++ zs) → Grow a0 w a1 w' → wpList Tryd.prog ops Q rest (a.put o.dst (.slice a1 (ys.length + zs.length) cap1)) w') : wpList Tryd.prog ops Q (o :: rest) a w := by
  obtain ⟨i0, hi, hz0, hz1, hz2⟩ := info_parts info5
  rcases hL with h0 | ⟨b, off, rfl, hc⟩
  · rw [h0] at hz; simp at hz
  have own' : w.ownsRow base 5 1 (.slice a0 ys.length cap0) ys.length (ys.map bv) := hown
  refine wpList_append_lies w hgd s x 23 ho base 5 i0 (.int .u8 0) 1 1 Tryd.underlying23 hi hz0 hz1 hz2 rfl (by decide) (.slice a0 ys.length cap0) ys.length _ hs own' ⟨b, off, none⟩ zs.length c (zs.map bv) hx (by simp) (news_of hc) (one_bv zs) hz (by unfold maxLen; omega) (by omega) hbase _ rfl ?_
  intro g cap1 w' h2 h3 h4 _
  refine h (some ⟨g, 0, none⟩) cap1 w' ?_ ⟨keep_grown h3, fun b hb => ?_⟩
  · unfold OwnA
    rw [List.map_append, List.length_append]
    exact h2
  · obtain ⟨x, e, rfl⟩ := hb
    cases e
    rcases h4 with h4 | h4
    · left
      cases a0 with
      | none => cases h4
      | some y => exact ⟨y, rfl, by simpa [Value.ownBlock] using h4⟩
    · right
      exact Nat.le_of_eq h4.symm
set_option maxRecDepth 20000 in
set_option maxHeartbeats 800000 in
theorem seven_any (n : Nat) : ∀ w : World, n < 9223372036854775808 → Calls Tryd.prog 27 #[.int .i64 n] w fun e w' => OwnPost w w' e (sev n) := by
  induction n using Nat.strongRecOn with
  | _ n ih =>
    intro w hn
    by_cases h : n < 128
    · have h' : (n : Int) < 128 := by omega
      have HO : Hid (∀ iv : Int, iv = (n : Int) → OwnPost w (w.alloc (.cells #[.int .u8 iv] 5)) (.returned (.slice (some ⟨w.heap.size, 0, none⟩) 1 1)) (sev n)) := by
        rintro iv rfl
        rw [sev_small h]
        exact ⟨_, 1, rfl, own_new w w.heap.size [n] (Nat.le_refl _) (by simp) _ rfl, (Below.refl _ _).alloc (Nat.le_refl _) _⟩
      clear ih
      go_enter Tryd.func27, Tryd.ntmps27
      go_wp2
      go_ret
      exact HO.out _ (by omega)
    · have h' : (128 : Int) ≤ (n : Int) := by omega
      have HI : Hid (Calls Tryd.prog 27 #[.int .i64 ((n / 128 : Nat) : Int)] w fun e w' => OwnPost w w' e (sev (n / 128))) := ih (n / 128) (by omega) w (by omega)
      have hq : (n : Int).tdiv 128 = ((n / 128 : Nat) : Int) := by rw [Int.tdiv_eq_ediv_of_nonneg (by omega)]; omega
      have HL : Hid ((sev (n / 128)).length ≤ 9 ∧ 0 < (sev (n / 128)).length) := ⟨sev_len 8 _ (by omega), sev_pos _⟩
      have HS : Hid (sev n = [n % 128 + 128] ++ sev (n / 128)) := by show _ = _; rw [sev_big h]; rfl
      clear ih
      go_enter Tryd.func27, Tryd.ntmps27
      go_wp2_with fail
      first | refine HI.out.mono ?_ | (rw [hq]; refine HI.out.mono ?_)
      rintro e w2 ⟨a2, c2, rfl, hO2, hB2⟩
      have HZ : Hid (∀ iv : Int, iv = ((n % 128 + 128 : Nat) : Int) → OwnA (w2.alloc (.cells #[.int .u8 iv] 5)) w.heap.size (some ⟨w2.heap.size, 0, none⟩) 1 [n % 128 + 128] ∧ Lies (w2.alloc (.cells #[.int .u8 iv] 5)) a2 (sev (n / 128)) ∧ Below w.heap.size w (w2.alloc (.cells #[.int .u8 iv] 5)) ∧ ∀ a3 w3, Grow (some ⟨w2.heap.size, 0, none⟩) (w2.alloc (.cells #[.int .u8 iv] 5)) a3 w3 → Below w.heap.size w w3) := by
        rintro iv rfl
        have hb : Below w2.heap.size w2 (w2.alloc (.cells #[.int .u8 ((n % 128 + 128 : Nat) : Int)] 5)) := (Below.refl _ _).alloc (Nat.le_refl _) _
        exact ⟨own_new w2 w.heap.size [n % 128 + 128] hB2.size (by simp) _ rfl, (hO2.below hb).lies, hB2.trans (hb.mono hB2.size), fun a3 w3 hg => (hB2.trans (hb.mono hB2.size)).trans (hg.below (Nat.le_trans hB2.size hb.size) (fun b hb => by obtain ⟨x, e, rfl⟩ := hb; cases e; exact hB2.size))⟩
      clear hO2 hB2 HI
      generalize sev (n / 128) = zs at HZ HL HS ⊢
      have hsz := HL.out.1
      go_wp2_with (at_builtin; refine app_stepG rfl (.tmp 18) (.tmp 19) rfl w.heap.size (some ⟨w2.heap.size, 0, none⟩) 1 [n % 128 + 128] rfl ?_ a2 c2 zs rfl ?_ HL.out.2 (by simp; omega) ?_ ?_)
      · exact (HZ.out _ (by omega)).1
      · exact (HZ.out _ (by omega)).2.1
      · exact (HZ.out _ (by omega)).2.2.1.size
      intro a3 c3 w3 hO3 hG3
      have HP : Hid (OwnPost w w3 (.returned (.slice a3 (1 + zs.length) c3)) (sev n)) := by
        rw [HS.out]
        refine ⟨a3, c3, by rw [List.length_append]; rfl, hO3, ?_⟩
        refine (HZ.out _ ?_).2.2.2 a3 w3 hG3
        omega
      clear hO3 hG3
      go_wp2
      go_ret
      exact HP.out
structure BR (w wr : World) (a : Option Addr) (cap : Nat) (rs : List Nat) : Prop where
  own : OwnA wr w.heap.size a cap rs
  bel : Below w.heap.size w wr
theorem BR.step {w wr w2 : World} {a a2 : Option Addr} {cap c2 : Nat} {rs rs2 : List Nat} (h : BR w wr a cap rs) (hO : OwnA w2 w.heap.size a2 c2 rs2) (hG : Grow a wr a2 w2) : BR w w2 a2 c2 rs2 :=
  ⟨hO, h.bel.trans (hG.below h.bel.size (fun b hb => (h.own.ge hb).1))⟩
theorem BR.below {w wr w2 : World} {a : Option Addr} {cap : Nat} {rs : List Nat} (h : BR w wr a cap rs) (hb : Below wr.heap.size wr w2) : BR w w2 a cap rs := ⟨h.own.below hb, h.bel.trans (hb.mono h.bel.size)⟩
/-- Bytes of a later call's own are not turned by an append to those of an earlier one. -/
theorem OwnA.apart {w0 w w' : World} {B : Nat} {a0 a1 x : Option Addr} {c0 c : Nat} {ys zs : List Nat} (h : OwnA w B x c zs) (hg : Grow a0 w a1 w') (h0 : ∀ b, blk a0 b → b < B) : OwnA w' B x c zs := h.keep hg.1 (fun b hb e => by have := (h.ge hb).1; have := h0 b e; omega)
set_option maxRecDepth 20000 in
set_option maxHeartbeats 1600000 in
theorem batchOf_any (ea : Option Addr) (es : List En) (ec : Nat) (w : World) (hE : EnsAt w ea es) (hB : BatOk es) :
    Calls Tryd.prog 20 #[.slice ea es.length ec] w fun e w' => OwnPost w w' e (batL es) := by
  have h64 := hB.1
  have HE : Hid (∀ w1, Below w.heap.size w w1 → EnsAt w1 ea es) := fun w1 hb => hE.below hb
  have HB : Hid (∀ i, i < es.length → EnOk (es[i]?.getD en0)) := fun i hi => by rw [getD_lt hi]; exact hB.2 _ (List.getElem_mem _)
  have HL : Hid ((sev es.length).length ≤ 9 ∧ (ensL es).length ≤ 1728) := ⟨sev_nine (by unfold mx; omega), by have := ensL_len hB.2; omega⟩
  clear hE hB
  go_enter Tryd.func20, Tryd.ntmps20
  go_wp2_with fail
  refine (seven_any es.length w (by omega)).mono ?_
  rintro e w1 ⟨a1, c1, rfl, hO1, hB1⟩
  have HR : Hid (BR w w1 a1 c1 (sev es.length ++ ensL (es.take 0))) := by
    rw [show ensL (es.take 0) = [] from rfl, List.append_nil]
    exact ⟨hO1, hB1⟩
  have hl1 : (sev es.length).length = (sev es.length ++ ensL (es.take 0)).length := by simp [ensL]
  rw [hl1]
  clear hO1 hB1 hl1
  generalize hR1 : sev es.length ++ ensL (es.take 0) = R1 at HR ⊢
  have HR1 : Hid (R1 = sev es.length ++ ensL (es.take 0)) := hR1.symm
  clear hR1
  go_wp2
  go_loopw [3, 4] (fun t j wr => ∃ (i c : Nat) (a2 : Option Addr) (R : List Nat), i ≤ es.length ∧ j = .int .i64 i ∧ t = .slice a2 R.length c ∧ Hid (R = sev es.length ++ ensL (es.take i) ∧ BR w wr a2 c R)) (fun _ j _ => es.length - (intOf j).toNat)
  case atStart => exact ⟨0, c1, a1, R1, by omega, rfl, rfl, HR1.out, HR.out⟩
  case round =>
    clear HR HR1
    obtain ⟨i, c, a2, R, hi, rfl, rfl, hr⟩ := hrel
    by_cases hlt : i < es.length
    · have HEw : Hid (∀ wz, Below wr.heap.size wr wz → EnsAt wz ea es) := fun wz hb => HE.out wz (hr.out.2.bel.trans (hb.mono hr.out.2.bel.size))
      rcases HEw.out wr (Below.refl _ _) with h | ⟨b, off, rfl, hc⟩
      · rw [h] at hlt; simp at hlt
      have HCc : Hid (∀ wz, Below wr.heap.size wr wz → wz.cell? ⟨b, off + i * 3 + 1, none⟩ = some (.int .i64 (es[i]?.getD en0).a) ∧ wz.cell? ⟨b, off + i * 3 + 2, none⟩ = some (.int .i64 (es[i]?.getD en0).b)) := fun wz hb => by
        obtain ⟨q0, q1, q2⟩ := hc i hlt
        exact ⟨by rw [hb.cell (p := ⟨b, off + i * 3 + 1, none⟩) (World.block_lt_of_cell? wr _ q1)]; exact q1, by rw [hb.cell (p := ⟨b, off + i * 3 + 2, none⟩) (World.block_lt_of_cell? wr _ q2)]; exact q2⟩
      have d0 := (hc i hlt).1
      obtain ⟨⟨k1, k2⟩, ⟨k3, k4⟩, k5, k6⟩ := HB.out i hlt
      have HT : Hid (ensL (es.take (i + 1)) = ensL (es.take i) ++ enL (es[i]?.getD en0)) := ensL_take hlt
      have hLe := @ensL_le es (i + 1)
      rw [HT.out, List.length_append] at hLe
      have hRl : R.length + (enL (es[i]?.getD en0)).length ≤ 2000 := by rw [hr.out.1, List.length_append]; have := HL.out; omega
      clear hc HEw hLe
      generalize es[i]?.getD en0 = x at d0 k1 k2 k3 k4 k5 k6 HT hRl HCc
      obtain ⟨xk, xa, xb⟩ := x
      simp only at d0 k1 k2 k3 k4 k5 k6
      obtain ⟨nk, rfl⟩ := Int.eq_ofNat_of_zero_le k1
      obtain ⟨na, rfl⟩ := Int.eq_ofNat_of_zero_le k3
      obtain ⟨nb, rfl⟩ := Int.eq_ofNat_of_zero_le k5
      have HCd : Hid (∀ wz, Below wr.heap.size wr wz → wz.cell? ⟨b, off + i * 3 + 1, none⟩ = some (.int .i64 (na : Int)) ∧ wz.cell? ⟨b, off + i * 3 + 2, none⟩ = some (.int .i64 (nb : Int))) := HCc.out
      have hEL : enL ⟨(nk : Int), (na : Int), (nb : Int)⟩ = sev nk ++ (sev na ++ sev nb) := by simp [enL]
      rw [hEL, List.length_append, List.length_append] at hRl
      have HN : Hid (∀ X, X = R ++ sev nk ++ sev na ++ sev nb → X = sev es.length ++ ensL (es.take (i + 1))) := by
        rintro X rfl
        rw [HT.out, hEL, hr.out.1]
        simp
      have hpk := sev_pos nk
      have hpa := sev_pos na
      have hpb := sev_pos nb
      clear HCc HT hEL
      have HRr : Hid (BR w wr a2 c R) := hr.out.2
      clear hr
      go_wp2_with fail
      refine (seven_any nk wr (by omega)).mono ?_
      rintro e w2 ⟨x1, y1, rfl, o1, b1⟩
      have d1 := (HCd.out w2 b1).1
      go_wp2_with fail
      refine (seven_any na w2 (by omega)).mono ?_
      rintro e w3 ⟨x2, y2, rfl, o2, b2⟩
      have b12 := b1.trans (b2.mono b1.size)
      have d2 := (HCd.out w3 b12).2
      go_wp2_with fail
      refine (seven_any nb w3 (by omega)).mono ?_
      rintro e w4 ⟨x3, y3, rfl, o3, b3⟩
      have b123 := b12.trans (b3.mono b12.size)
      have HA : Hid (OwnA w4 w.heap.size a2 c R ∧ OwnA w4 wr.heap.size x1 y1 (sev nk) ∧ OwnA w4 wr.heap.size x2 y2 (sev na) ∧ OwnA w4 wr.heap.size x3 y3 (sev nb) ∧ BR w w4 a2 c R ∧ (∀ b, blk a2 b → b < wr.heap.size) ∧ wr.heap.size ≤ w4.heap.size) :=
        ⟨HRr.out.own.below b123, (o1.below b2).below b3, (o2.base b1.size).below b3, o3.base b12.size, HRr.out.below b123, fun b hb => (HRr.out.own.ge hb).2, b123.size⟩
      have hsz4 : w.heap.size ≤ w4.heap.size := HA.out.2.2.2.2.1.bel.size
      clear o1 o2 o3 b1 b2 b3 b12 b123 d0 d1 d2 HRr
      generalize sev nk = L1 at HA HN hRl hpk ⊢
      generalize sev na = L2 at HA HN hRl hpa ⊢
      generalize sev nb = L3 at HA HN hRl hpb ⊢
      go_wp2_with (at_builtin; refine app_stepG rfl (.tmp 37) (.tmp 38) rfl w.heap.size a2 c R rfl HA.out.1 x1 y1 L1 rfl HA.out.2.1.lies (by omega) (by omega) hsz4 ?_)
      intro a5 c5 w5 hO5 hG5
      have HA5 : Hid (OwnA w5 w.heap.size a5 c5 (R ++ L1) ∧ OwnA w5 wr.heap.size x2 y2 L2 ∧ OwnA w5 wr.heap.size x3 y3 L3 ∧ BR w w5 a5 c5 (R ++ L1) ∧ (∀ b, blk a5 b → b < wr.heap.size ∨ w4.heap.size ≤ b)) :=
        ⟨hO5, HA.out.2.2.1.keep hG5.1 (fun b hb e => by have := (HA.out.2.2.1.ge hb).1; have := HA.out.2.2.2.2.2.1 b e; omega), HA.out.2.2.2.1.keep hG5.1 (fun b hb e => by have := (HA.out.2.2.2.1.ge hb).1; have := HA.out.2.2.2.2.2.1 b e; omega), HA.out.2.2.2.2.1.step hO5 hG5, fun b hb => (hG5.2 b hb).imp (HA.out.2.2.2.2.2.1 b) id⟩
      have HA6 : Hid (∀ b, (blk x2 b ∨ blk x3 b) → wr.heap.size ≤ b ∧ b < w4.heap.size) := fun b hb => by
        rcases hb with hb | hb
        · exact ⟨(HA.out.2.2.1.ge hb).1, (HA.out.2.2.1.ge hb).2⟩
        · exact ⟨(HA.out.2.2.2.1.ge hb).1, (HA.out.2.2.2.1.ge hb).2⟩
      have hl5 : Hid ((R ++ L1).length = R.length + L1.length) := List.length_append
      rw [← hl5.out]
      have hsz5 := HA5.out.2.2.2.1.bel.size
      clear hO5 hG5 HA
      generalize R ++ L1 = R5 at HA5 HN hl5 ⊢
      go_wp2_with (at_builtin; refine app_stepG rfl (.tmp 40) (.tmp 41) rfl w.heap.size a5 c5 R5 rfl HA5.out.1 x2 y2 L2 rfl HA5.out.2.1.lies (by omega) (by have := hl5.out; omega) hsz5 ?_)
      intro a6 c6 w6 hO6 hG6
      have HA7 : Hid (OwnA w6 w.heap.size a6 c6 (R5 ++ L2) ∧ OwnA w6 wr.heap.size x3 y3 L3 ∧ BR w w6 a6 c6 (R5 ++ L2)) :=
        ⟨hO6, HA5.out.2.2.1.keep hG6.1 (fun b hb e => by have := HA6.out b (Or.inr hb); have := HA5.out.2.2.2.2 b e; omega), HA5.out.2.2.2.1.step hO6 hG6⟩
      have hl6 : Hid ((R5 ++ L2).length = R5.length + L2.length) := List.length_append
      rw [← hl6.out]
      have hsz6 := HA7.out.2.2.bel.size
      clear hO6 hG6 HA5 HA6
      generalize R5 ++ L2 = R6 at HA7 HN hl6 ⊢
      go_wp2_with (at_builtin; refine app_stepG rfl (.tmp 43) (.tmp 44) rfl w.heap.size a6 c6 R6 rfl HA7.out.1 x3 y3 L3 rfl HA7.out.2.1.lies (by omega) (by have := hl5.out; have := hl6.out; omega) hsz6 ?_)
      intro a7 c7 w7 hO7 hG7
      have HF : Hid (R6 ++ L3 = sev es.length ++ ensL (es.take (i + 1)) ∧ BR w w7 a7 c7 (R6 ++ L3)) := ⟨HN.out _ rfl, HA7.out.2.2.step hO7 hG7⟩
      have hl7 : Hid ((R6 ++ L3).length = R6.length + L3.length) := List.length_append
      rw [← hl7.out]
      clear hO7 hG7 HA7 HN
      generalize R6 ++ L3 = R7 at HF hl7 ⊢
      go_wp2
      go_roundw
      case rel => exact ⟨i + 1, c7, a7, R7, by omega, by go_num, rfl, HF⟩
      case measure => simp [intOf]; omega
    · obtain rfl : i = es.length := by omega
      have hRb : R = bodyL es := by rw [hr.out.1, List.take_length]; rfl
      subst hRb
      have HRr : Hid (BR w wr a2 c (bodyL es)) := hr.out.2
      have hbl : (bodyL es).length ≤ 2000 := by unfold bodyL; rw [List.length_append]; have := HL.out; omega
      have HCr : Hid (Calls Tryd.prog 28 #[.slice a2 (bodyL es).length c] wr fun e w' => e = .returned (.int .u32 (crcOf (bodyL es) : Nat)) ∧ wr = w') := refCrc_any a2 (bodyL es) c wr (by omega) (bodyL_all es) hr.out.2.own.lies
      have hc32 := crcOf_lt (bodyL_all es)
      have HBt : Hid (batL es = bodyL es ++ low 4 (crcOf (bodyL es))) := by show _ = _; rfl
      clear hr
      generalize crcOf (bodyL es) = C at HCr hc32 HBt
      generalize bodyL es = R at HRr hbl HCr HBt ⊢
      go_wp2_with fail
      refine HCr.out.mono ?_
      rintro e w' ⟨rfl, rfl⟩
      go_wp2_with fail
      refine (lowFirst_any C 4 wr (by omega) (by omega)).mono ?_
      rintro e w2 ⟨x1, y1, rfl, o1, b1⟩
      have HA : Hid (OwnA w2 w.heap.size a2 c R ∧ BR w w2 a2 c R ∧ Lies w2 x1 (low 4 C)) := ⟨HRr.out.own.below b1, HRr.out.below b1, o1.lies⟩
      have hsz := HA.out.2.1.bel.size
      have hl4 := low_len 4 C
      clear o1 b1
      go_wp2_with (at_builtin; refine app_stepG rfl (.tmp 51) (.tmp 52) rfl w.heap.size a2 c R rfl HA.out.1 x1 y1 (low 4 C) rfl HA.out.2.2 (by omega) (by omega) hsz ?_)
      intro a3 c3 w3 hO3 hG3
      have HP : Hid (OwnPost w w3 (.returned (.slice a3 (R.length + (low 4 C).length) c3)) (batL es)) := by
        rw [HBt.out]
        exact ⟨a3, c3, by rw [List.length_append], hO3, (HA.out.2.1.step hO3 hG3).bel⟩
      clear hO3 hG3 HA
      go_wp2
      go_ret
      exact HP.out
set_option maxRecDepth 20000 in
set_option maxHeartbeats 1600000 in
theorem recordOf_any (a : Option Addr) (l : List (List En)) (cap : Nat) (w : World) (hB : BatAt w a l) (hk : RecOk l) (hl : (recL l).length ≤ 1073741824) (hll : l.length ≤ 1073741824) :
    Calls Tryd.prog 10 #[.slice a l.length cap] w fun e w' => OwnPost w w' e (recL l) := by
  have HB : Hid (∀ wr, Below w.heap.size w wr → BatAt wr a l) := fun wr hb => hB.below hb
  have HK : Hid (∀ i, i < l.length → BatOk (l[i]?.getD [])) := fun i hi => by rw [getD_lt hi]; exact hk _ (List.getElem_mem _)
  have HL : Hid (∀ i, i < l.length → (recL (l.take i)).length + (batL (l[i]?.getD [])).length ≤ 1073741824) := fun i hi => by
    have h1 := @recL_le l (i + 1)
    rw [recL_take hi, List.length_append] at h1
    omega
  clear hB hk hl
  go_enter Tryd.func10, Tryd.ntmps10
  go_wp2
  go_loopw [3, 4] (fun t j wr => ∃ (i c : Nat) (a1 : Option Addr) (R : List Nat), i ≤ l.length ∧ j = .int .i64 i ∧ t = .slice a1 R.length c ∧ Hid (R = recL (l.take i) ∧ BR w wr a1 c R)) (fun _ j _ => l.length - (intOf j).toNat)
  case atStart => exact ⟨0, 0, none, [], by omega, rfl, rfl, rfl, own_nil _ _, Below.refl _ _⟩
  case round =>
    obtain ⟨i, c, a1, R, hi, rfl, rfl, hr⟩ := hrel
    by_cases hlt : i < l.length
    · rcases HB.out wr hr.out.2.bel with h | ⟨b, off, rfl, hc⟩
      · rw [h] at hlt; simp at hlt
      obtain ⟨ea, ec, c0, hE⟩ := hc i hlt
      have HT : Hid (recL (l.take (i + 1)) = recL (l.take i) ++ batL (l[i]?.getD [])) := recL_take hlt
      have hlb := HL.out i hlt
      rw [← hr.out.1] at hlb HT
      have hok := HK.out i hlt
      have HRr : Hid (BR w wr a1 c R) := hr.out.2
      clear hr hc
      generalize l[i]?.getD [] = es at c0 hE HT hlb hok
      have HC : Hid (Calls Tryd.prog 20 #[.slice ea es.length ec] wr fun e w' => OwnPost wr w' e (batL es)) := batchOf_any ea es ec wr hE hok
      have hp5 := batL_pos es
      clear hok hE
      go_wp2_with fail
      refine HC.out.mono ?_
      rintro e w2 ⟨x1, y1, rfl, o1, b1⟩
      have HA : Hid (OwnA w2 w.heap.size a1 c R ∧ BR w w2 a1 c R ∧ Lies w2 x1 (batL es)) := ⟨HRr.out.own.below b1, HRr.out.below b1, o1.lies⟩
      have hsz := HA.out.2.1.bel.size
      clear o1 b1 HRr
      generalize batL es = Z at HA HT hlb hp5 ⊢
      go_wp2_with (at_builtin; refine app_stepG rfl (.tmp 17) (.tmp 18) rfl w.heap.size a1 c R rfl HA.out.1 x1 y1 Z rfl HA.out.2.2 (by omega) hlb hsz ?_)
      intro a3 c3 w3 hO3 hG3
      have HF : Hid (R ++ Z = recL (l.take (i + 1)) ∧ BR w w3 a3 c3 (R ++ Z)) := ⟨HT.out.symm, HA.out.2.1.step hO3 hG3⟩
      have hl7 : Hid ((R ++ Z).length = R.length + Z.length) := List.length_append
      rw [← hl7.out]
      clear hO3 hG3 HA HT
      generalize R ++ Z = R7 at HF hl7 ⊢
      go_wp2
      go_roundw
      case rel => exact ⟨i + 1, c3, a3, R7, by omega, by go_num, rfl, HF⟩
      case measure => simp [intOf]; omega
    · obtain rfl : i = l.length := by omega
      have HP : Hid (OwnPost w wr (.returned (.slice a1 R.length c)) (recL l)) := by
        have h1 := hr.out.1
        rw [List.take_length] at h1
        subst h1
        exact ⟨a1, c, rfl, hr.out.2.own, hr.out.2.bel⟩
      clear hr
      go_wp2
      go_ret
      exact HP.out
end Go.Proofs.YtalmcjkaheofpaeDoor
