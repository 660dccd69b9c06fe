/-
  What the law RecordJoins gives: true, whatever the two lists of batches.
-/
import Derived.Test.YtalmcjkaheofpaeDoorBackWalk
namespace Go.Proofs.YtalmcjkaheofpaeDoor
open Go.RowKit
set_option linter.unusedVariables false

/-- VALUES LIE AT a. -/
def HdrAt (w : World) (a : Option Addr) (hs : List Value) : Prop := hs = [] ∨ ∃ b off, a = some ⟨b, off, none⟩ ∧ ∀ i, i < hs.length → w.cell? ⟨b, off + i, none⟩ = hs[i]?
/-- The headers of batches. -/
def Heads (w : World) (hs : List Value) (l : List (List En)) : Prop := hs.length = l.length ∧ ∀ i, i < l.length → ∃ ea ec, hs[i]? = some (.slice ea (l[i]?.getD []).length ec) ∧ EnsAt w ea (l[i]?.getD [])
theorem BatAt.heads {w : World} {a : Option Addr} {l : List (List En)} (h : BatAt w a l) : ∃ hs, HdrAt w a hs ∧ Heads w hs l := by
  rcases h with rfl | ⟨b, off, rfl, h⟩
  · exact ⟨[], Or.inl rfl, rfl, fun i hi => by simp at hi⟩
  · refine ⟨(List.range l.length).map fun i => (w.cell? ⟨b, off + i, none⟩).getD .nilIface, Or.inr ⟨b, off, rfl, fun i hi => ?_⟩, by simp, fun i hi => ?_⟩
    · rw [List.length_map, List.length_range] at hi
      obtain ⟨ea, ec, h1, _⟩ := h i hi
      rw [List.getElem?_map, List.getElem?_range hi, h1]
      simp [h1]
    · obtain ⟨ea, ec, h1, h2⟩ := h i hi
      refine ⟨ea, ec, ?_, h2⟩
      rw [List.getElem?_map, List.getElem?_range hi]
      simp [h1]
theorem Heads.below {w w' : World} {hs : List Value} {l : List (List En)} (h : Heads w hs l) (hb : Below w.heap.size w w') : Heads w' hs l :=
  ⟨h.1, fun i hi => by obtain ⟨ea, ec, h1, h2⟩ := h.2 i hi; exact ⟨ea, ec, h1, h2.below hb⟩⟩
theorem Heads.app {w : World} {hs ks : List Value} {l m : List (List En)} (h : Heads w hs l) (k : Heads w ks m) : Heads w (hs ++ ks) (l ++ m) := by
  refine ⟨by rw [List.length_append, List.length_append, h.1, k.1], fun i hi => ?_⟩
  rw [List.length_append] at hi
  by_cases hh : i < l.length
  · rw [List.getElem?_append_left (by rw [h.1]; exact hh), List.getElem?_append_left hh]
    exact h.2 i hh
  · rw [List.getElem?_append_right (by rw [h.1]; omega), List.getElem?_append_right (by omega), h.1]
    exact k.2 (i - l.length) (by omega)
theorem Heads.one {w : World} {hs : List Value} {l : List (List En)} (h : Heads w hs l) : ∀ u ∈ hs, u.oneCell' = true := by
  intro u hu
  obtain ⟨i, hi, rfl⟩ := List.getElem_of_mem hu
  obtain ⟨ea, ec, h1, _⟩ := h.2 i (by rw [← h.1]; exact hi)
  rw [List.getElem?_eq_getElem hi] at h1
  rw [Option.some.inj h1]
  rfl
theorem HdrAt.below {w w' : World} {a : Option Addr} {hs : List Value} {l : List (List En)} (h : HdrAt w a hs) (hh : Heads w hs l) (hb : Below w.heap.size w w') : HdrAt w' a hs := by
  rcases h with h | ⟨b, off, rfl, h⟩
  · exact Or.inl h
  · refine Or.inr ⟨b, off, rfl, fun i hi => ?_⟩
    have h1 := h i hi
    rw [List.getElem?_eq_getElem hi] at h1 ⊢
    rw [hb.cell (p := ⟨b, off + i, none⟩) (World.block_lt_of_cell? w _ h1)]
    exact h1
/-- A ROW OF HEADERS OF THE CALL's OWN. -/
def OwnV (w : World) (base : Nat) (a : Option Addr) (cap : Nat) (hs : List Value) : Prop := w.ownsRow base 41 1 (.slice a hs.length cap) hs.length hs
theorem ownV_new (w : World) (base : Nat) (hb : base ≤ w.heap.size) (cs : Array Value) (hcs : cs = #[]) : OwnV (w.alloc (.cells cs 41)) base (some ⟨w.heap.size, 0, none⟩) 0 [] := by
  subst hcs
  exact ⟨rfl, Or.inr ⟨w.heap.size, 0, #[], rfl, hb, heap_alloc_new w _, Nat.le_refl _, by unfold maxLen; omega, rfl, rfl⟩⟩
theorem OwnV.ge {w : World} {base cap : Nat} {a : Option Addr} {hs : List Value} (h : OwnV w base a cap hs) {b : Nat} (hb : blk a b) : base ≤ b := by
  obtain ⟨x, rfl, rfl⟩ := hb
  rcases h.2 with ⟨e, _⟩ | ⟨g, cap', cur, hv, r1, r2, r3⟩
  · simp at e
  · simp at hv
    obtain ⟨rfl, _⟩ := hv
    exact r1
theorem OwnV.at {w : World} {base cap : Nat} {a : Option Addr} {hs : List Value} (h : OwnV w base a cap hs) : HdrAt w a hs := by
  rcases h.2 with ⟨e, e2⟩ | ⟨g, cap', cur, hv, r1, r2, r3, r4, r5, r6⟩
  · exact Or.inl (List.eq_nil_of_length_eq_zero e2)
  · simp at hv
    obtain ⟨rfl, rfl⟩ := hv
    refine Or.inr ⟨g, 0, rfl, fun i hi => ?_⟩
    have e : (cur.toList.take (hs.length * 1))[i]? = hs[i]? := by rw [r6]
    rw [List.getElem?_take, if_pos (by omega)] at e
    rw [Nat.zero_add, ← e]
    simp only [World.cell?, r2]
    rw [← Array.getElem?_toList]
    rfl
theorem HdrAt.bat {w : World} {a : Option Addr} {hs : List Value} {l : List (List En)} (h : HdrAt w a hs) (hh : Heads w hs l) : BatAt w a l := by
  rcases h with h | ⟨b, off, rfl, h⟩
  · exact Or.inl (List.eq_nil_of_length_eq_zero (by rw [← hh.1, h]; rfl))
  · refine Or.inr ⟨b, off, rfl, fun i hi => ?_⟩
    obtain ⟨ea, ec, h1, h2⟩ := hh.2 i hi
    exact ⟨ea, ec, by rw [h i (by rw [hh.1]; exact hi), h1], h2⟩
/-- HEADERS ARE APPENDED, from headers that lie anywhere. -/
theorem app_stepV {ops : Array Oper} {rest : List Oper} {o : Oper} {a : Act} {w : World} {Q : Exit → Act → World → Prop} (hgd : o.guard = none) (s x : Operand)
    (ho : o.op = .call { callee := .builtin .append, args := #[s, x], argTypes := #[22, 22] }) (base : Nat) (a0 : Option Addr) (cap0 n : Nat) (ys : List Value) (hys : ys.length = n) (hs : a.eval s = .slice a0 n cap0) (hown : OwnV w base a0 cap0 ys)
    (sa : Option Addr) (c k : Nat) (zs : List Value) (l : List (List En)) (hzs : zs.length = k) (hx : a.eval x = .slice sa k c) (hnil : sa = none → c = 0) (hL : HdrAt w sa zs) (hH : Heads w zs l) (hb : n + k ≤ 1073741824) (hbase : base ≤ w.heap.size)
    (h : ∀ a1 cap1 w', OwnV w' base a1 cap1 (ys ++ zs) → Keep (blk a0) w w' → wpList Tryd.prog ops Q rest (a.put o.dst (.slice a1 (n + k) cap1)) w') : wpList Tryd.prog ops Q (o :: rest) a w := by
  obtain ⟨i0, hi, hz0, hz1, hz2⟩ := info_parts infoH
  subst hys hzs
  have fin : ∀ v' w', w'.ownsRow base 41 1 v' (ys.length + zs.length) (ys ++ zs) → w.grownBy w' (Value.slice a0 ys.length cap0).ownBlock → wpList Tryd.prog ops Q rest (a.put o.dst v') w' := by
    intro v' w' h1 h2
    have hv : ∃ a1 cap1, v' = .slice a1 (ys.length + zs.length) cap1 := by
      rcases h1.2 with ⟨e, e2⟩ | ⟨g, cap', cur, e, _⟩
      · exact ⟨none, 0, by rw [e, e2]⟩
      · exact ⟨_, cap', e⟩
    obtain ⟨a1, cap1, rfl⟩ := hv
    refine h a1 cap1 w' ?_ (keep_grown h2)
    unfold OwnV
    rw [List.length_append]
    exact h1
  have own' : w.ownsRow base 41 1 (.slice a0 ys.length cap0) ys.length ys := hown
  cases hsa : sa with
  | none =>
    subst hsa
    have hz : zs = [] := by
      rcases hL with h | ⟨b, off, e, _⟩
      · exact h
      · cases e
    subst hz
    have hc0 := hnil rfl
    subst hc0
    refine wpList_append_own_none hgd s x 22 ho base 41 i0 1 Tryd.underlying22 hi _ _ _ hs own' hx ?_
    exact fin _ w (by simpa using own') ⟨rfl, rfl, rfl, Nat.le_refl _, fun _ _ _ => rfl⟩
  | some ad =>
    subst hsa
    refine wpList_append_own _ hgd s x 22 ho base 41 i0 (.slice none 0 0) 1 24 Tryd.underlying22 hi hz0 hz1 hz2 rfl (by decide) _ _ _ hs own' ad zs.length c zs hx (by simp) ?_ hH.one (by unfold maxLen; omega) (by omega) hbase (fun v' w' h1 h2 _ => fin v' w' h1 h2)
    rcases hL with h | ⟨b, off, e, hc⟩
    · subst h
      intro j u hj
      simp at hj
    · cases e
      intro j u hj
      have hl : j < zs.length := (List.getElem?_eq_some_iff.1 hj).1
      have hadd : (⟨b, off, none⟩ : Addr).add j = ⟨b, off + j, none⟩ := by unfold Addr.add; split <;> simp_all
      rw [hadd, hc j hl, hj]
set_option maxRecDepth 20000 in
set_option maxHeartbeats 1600000 in
theorem joins_any (a b : Option Addr) (l m : List (List En)) (ca cb : Nat) (w : World) (hE : ErrV w) (h : BatAt w a l) (k : BatAt w b m) (hl : manyE l + l.length + (manyE m + m.length) ≤ 1048576) (hna : a = none → ca = 0) (hnb : b = none → cb = 0) :
    Calls Tryd.prog 6 #[.slice a l.length ca, .slice b m.length cb] w fun e w' => e = .returned (.bool true) ∧ Below w.heap.size w w' := by
  have HB : Hid (∀ wz, Below w.heap.size w wz → BatAt wz a l ∧ BatAt wz b m ∧ ErrV wz) := fun wz hb => ⟨h.below hb, k.below hb, hE.below hb⟩
  have hlen : l.length + m.length ≤ 1048576 := by omega
  have HM : Hid (manyE l + l.length + (manyE m + m.length) ≤ 1048576) := hl
  have HN : Hid ((a = none → ca = 0) ∧ (b = none → cb = 0)) := ⟨hna, hnb⟩
  clear h k hE hl hna hnb
  go_enter Tryd.func6, Tryd.ntmps6
  go_wp2_with fail
  refine (fact_any w).mono ?_
  rintro e w1 ⟨rfl, b1⟩
  go_wp2_with fail
  refine (write_any a l ca w1 (HB.out w1 b1).1 (by have := HM.out; omega)).mono ?_
  rintro e w2 ⟨b2, ⟨hf, rfl⟩ | ⟨hf, x2, y2, rfl, o2⟩⟩
  · rw [errI_ne hf]
    have bb := b1.trans (b2.mono b1.size)
    clear b1 b2 hf
    generalize faultR l = n
    go_wp2_with fail
    refine (write_any b m cb w2 (HB.out w2 bb).2.1 (by have := HM.out; omega)).mono ?_
    rintro e w3 ⟨b3, ⟨hf, rfl⟩ | ⟨hf, x3, y3, rfl, o3⟩⟩
    · rw [errI_ne hf]
      have bb3 := bb.trans (b3.mono bb.size)
      clear b3 bb hf
      generalize faultR m = n'
      go_wp2
      go_ret
      exact ⟨rfl, bb3⟩
    · have bb3 := bb.trans (b3.mono bb.size)
      clear b3 bb hf o3
      go_wp2
      go_ret
      exact ⟨rfl, bb3⟩
  · have bb := b1.trans (b2.mono b1.size)
    have hok := faultR_ok.1 hf
    have hrl := recL_len hok
    clear b1 b2 hf
    go_wp2_with fail
    refine (write_any b m cb w2 (HB.out w2 bb).2.1 (by have := HM.out; omega)).mono ?_
    rintro e w3 ⟨b3, ⟨hf, rfl⟩ | ⟨hf, x3, y3, rfl, o3⟩⟩
    · rw [errI_ne hf]
      have bb3 := bb.trans (b3.mono bb.size)
      clear b3 bb hf o2 hrl
      generalize faultR m = n'
      go_wp2
      go_ret
      exact ⟨rfl, bb3⟩
    · have hok3 := faultR_ok.1 hf
      have hrl3 := recL_len hok3
      have bb3 := bb.trans (b3.mono bb.size)
      have HRJ : Hid (Fin (recL l ++ recL m) (l ++ m) (recL l ++ recL m).length) := by
        have h1 : RecOk (l ++ m) := fun x hx => by
          rcases List.mem_append.1 hx with hx | hx
          · exact hok x hx
          · exact hok3 x hx
        rw [← recL_app]
        exact fin_whole h1
      have HAl : Hid (AllB (recL l ++ recL m)) := (recL_all l).app (recL_all m)
      have hR2 : (recL l).length ≤ 33554432 := by have := HM.out; omega
      have hR3 : (recL m).length ≤ 33554432 := by have := HM.out; omega
      have HL2 : Hid (∀ wz, Below w3.heap.size w3 wz → Lies wz x2 (recL l) ∧ Lies wz x3 (recL m)) := fun wz hb => ⟨((o2.below b3).below hb).lies, (o3.below hb).lies⟩
      have HN2 : Hid ((x2 = none → y2 = 0) ∧ (x3 = none → y3 = 0)) := ⟨o2.nil0, o3.nil0⟩
      clear hf hok hok3 hrl hrl3 o2 o3 b3 bb
      generalize recL l = R2 at HRJ HAl hR2 HL2 ⊢
      generalize recL m = R3 at HRJ HAl hR3 HL2 ⊢
      have hbz : Below w3.heap.size w3 (w3.alloc (.cells #[] 5)) := (Below.refl _ _).alloc (Nat.le_refl _) _
      have HZ : Hid (OwnA (w3.alloc (.cells #[] 5)) w3.heap.size (some ⟨w3.heap.size, 0, none⟩) 0 [] ∧ Below w3.heap.size w3 (w3.alloc (.cells #[] 5))) := ⟨own_new w3 w3.heap.size [] (Nat.le_refl _) (by simp) _ rfl, hbz⟩
      clear hbz
      go_wp2_with (at_builtin; refine app_step rfl (.tmp 34) (.tmp 35) rfl w3.heap.size (some ⟨w3.heap.size, 0, none⟩) 0 [] rfl HZ.out.1 x2 y2 R2 rfl HN2.out.1 (HL2.out _ HZ.out.2).1 R2 rfl (by omega) HZ.out.2.size ?_)
      intro a4 c4 w4 o4 k4
      have HZ4 : Hid (OwnA w4 w3.heap.size a4 c4 R2 ∧ Below w3.heap.size w3 w4) := ⟨o4, HZ.out.2.trans (k4.below HZ.out.2.size (fun b hb => (HZ.out.1.ge hb).1))⟩
      clear o4 k4 HZ
      have hl23 : Hid ((R2 ++ R3).length = R2.length + R3.length) := List.length_append
      have HRe : Hid (∃ RR, RR = R2 ++ R3) := ⟨_, rfl⟩
      obtain ⟨RR, hRR⟩ := HRe.out
      have HRR : Hid (RR = R2 ++ R3) := hRR
      have hRRl : Hid (RR.length ≤ 67108864) := by show _ ≤ _; rw [hRR, hl23.out]; omega
      rw [← hRR] at HRJ HAl hl23
      clear hRR HRe
      go_wp2_with (at_builtin; refine app_step rfl (.tmp 37) (.tmp 38) rfl w3.heap.size a4 c4 R2 rfl HZ4.out.1 x3 y3 R3 rfl HN2.out.2 (HL2.out _ HZ4.out.2).2 RR HRR.out (by have := hRRl.out; omega) HZ4.out.2.size ?_)
      intro a5 c5 w5 o5 k5
      have b5 : Below w3.heap.size w3 w5 := HZ4.out.2.trans (k5.below HZ4.out.2.size (fun b hb => (HZ4.out.1.ge hb).1))
      have bb5 := bb3.trans (b5.mono bb3.size)
      have HRd : Hid (Calls Tryd.prog 12 #[.slice a5 RR.length c5] w5 fun e w' => ReadPost w5 w' e RR) := read_any a5 RR c5 w5 o5.lies HAl.out (by have := hRRl.out; omega) o5.cap (HB.out w5 bb5).2.2
      have hRRl' := hRRl.out
      clear o5 k5 HZ4 b5
      go_wp2_with fail
      refine HRd.out.mono ?_
      rintro e w6 ⟨d6, u6, a6, c6, rfl, hf6, hba6, b6⟩
      obtain ⟨rfl, rfl⟩ := HRJ.out.same hf6
      have bb6 := bb5.trans (b6.mono bb5.size)
      obtain ⟨ha, hA1, hA2⟩ := (HB.out w6 bb6).1.heads
      obtain ⟨hb, hB1, hB2⟩ := (HB.out w6 bb6).2.1.heads
      have hbz : Below w6.heap.size w6 (w6.alloc (.cells #[] 41)) := (Below.refl _ _).alloc (Nat.le_refl _) _
      have HZ6 : Hid (OwnV (w6.alloc (.cells #[] 41)) w6.heap.size (some ⟨w6.heap.size, 0, none⟩) 0 [] ∧ Below w6.heap.size w6 (w6.alloc (.cells #[] 41)) ∧ HdrAt (w6.alloc (.cells #[] 41)) a ha ∧ Heads (w6.alloc (.cells #[] 41)) ha l) := ⟨ownV_new w6 w6.heap.size (Nat.le_refl _) _ rfl, hbz, hA1.below hA2 hbz, hA2.below hbz⟩
      have HA : Hid (∀ wz, Below w6.heap.size w6 wz → HdrAt wz b hb ∧ Heads wz hb m ∧ Heads wz ha l ∧ BatAt wz a6 (l ++ m)) := fun wz hq => ⟨hB1.below hB2 hq, hB2.below hq, hA2.below hq, hba6.below hq⟩
      have HLn : Hid (ha.length = l.length ∧ hb.length = m.length) := ⟨hA2.1, hB2.1⟩
      have hlm : (l ++ m).length = l.length + m.length := List.length_append
      rw [hlm]
      clear hbz hA1 hA2 hB1 hB2 hf6 hba6 HRd hlm
      go_wp2_with (at_builtin; refine app_stepV rfl (.tmp 45) (.tmp 46) rfl w6.heap.size (some ⟨w6.heap.size, 0, none⟩) 0 0 [] rfl rfl HZ6.out.1 a ca l.length ha l HLn.out.1 rfl HN.out.1 HZ6.out.2.2.1 HZ6.out.2.2.2 (by omega) HZ6.out.2.1.size ?_)
      intro a7 c7 w7 o7 k7
      have HZ7 : Hid (OwnV w7 w6.heap.size a7 c7 ha ∧ Below w6.heap.size w6 w7) := ⟨o7, HZ6.out.2.1.trans (k7.below HZ6.out.2.1.size (fun b hb => HZ6.out.1.ge hb))⟩
      clear o7 k7 HZ6
      go_wp2_with (at_builtin; refine app_stepV rfl (.tmp 48) (.tmp 49) rfl w6.heap.size a7 c7 l.length ha HLn.out.1 (by simp [Act.eval]) HZ7.out.1 b cb m.length hb m HLn.out.2 rfl HN.out.2 (HA.out _ HZ7.out.2).1 (HA.out _ HZ7.out.2).2.1 (by omega) HZ7.out.2.size ?_)
      intro a8 c8 w8 o8 k8
      have b8 : Below w6.heap.size w6 w8 := HZ7.out.2.trans (k8.below HZ7.out.2.size (fun b hb => HZ7.out.1.ge hb))
      have bb8 := bb6.trans (b8.mono bb6.size)
      have HC8 : Hid (Calls Tryd.prog 14 #[.slice a6 (l.length + m.length) c6, .slice a8 (l.length + m.length) c8] w8 fun e w' => e = .returned (.bool true) ∧ Below w8.heap.size w8 w') := by
        have hq := HA.out w8 b8
        have hbt : BatAt w8 a8 (l ++ m) := o8.at.bat (hq.2.2.1.app hq.2.1)
        have hme : manyE (l ++ m) ≤ 1073741824 := by
          have e : manyE (l ++ m) = manyE l + manyE m := by simp [manyE]
          have := HM.out
          omega
        have h4 := batches_same a6 a8 (l ++ m) c6 c8 w8 hq.2.2.2 hbt (by rw [List.length_append]; omega) (fun i => many_all _ 1073741824 hme i)
        rw [List.length_append] at h4
        exact h4
      clear o8 k8 HZ7 b8
      go_wp2_with fail
      refine HC8.out.mono ?_
      rintro e w9 ⟨rfl, b9⟩
      have bb9 := bb8.trans (b9.mono bb8.size)
      clear b9 bb8
      go_wp2
      go_ret
      exact ⟨rfl, bb9⟩
end Go.Proofs.YtalmcjkaheofpaeDoor
