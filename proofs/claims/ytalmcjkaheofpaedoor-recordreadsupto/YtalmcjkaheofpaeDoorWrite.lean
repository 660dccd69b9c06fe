/-
  What the call of record.Write gives: the record's bytes, or what is wrong first.
-/
import Derived.Test.YtalmcjkaheofpaeDoorAddBatch
namespace Go.Proofs.YtalmcjkaheofpaeDoor
open Go.RowKit
set_option linter.unusedVariables false

/-- What Write gives. -/
def WritePost (w w' : World) (e : Ending) (l : List (List En)) : Prop :=
  Below w.heap.size w w' ∧ ((faultR l ≠ 0 ∧ e = .returned (.tuple #[.slice none 0 0, errI (faultR l)])) ∨ (faultR l = 0 ∧ ∃ a1 cap1, e = .returned (.tuple #[.slice a1 (recL l).length cap1, .nilIface]) ∧ OwnA w' w.heap.size a1 cap1 (recL l)))
theorem manyE_at : ∀ (l : List (List En)) (i : Nat), i < l.length → (l[i]?.getD []).length ≤ manyE l
  | [], i, h => by simp at h
  | b :: r, 0, _ => by show b.length ≤ _; simp [manyE]
  | b :: r, i + 1, h => by
    have := manyE_at r i (by simpa using h)
    have e : manyE (b :: r) = b.length + manyE r := by simp [manyE]
    show (r[i]?.getD []).length ≤ _
    omega
theorem recL_take {l : List (List En)} {i : Nat} (h : i < l.length) : recL (l.take (i + 1)) = recL (l.take i) ++ batL (l[i]?.getD []) := by rw [take_snocB l i [] h, recL_snoc]
theorem recL_le {l : List (List En)} (i : Nat) : (recL (l.take i)).length ≤ (recL l).length := by
  have h : recL l = recL (l.take i) ++ recL (l.drop i) := by rw [← recL_app, List.take_append_drop]
  rw [h, List.length_append]
  omega
set_option maxRecDepth 20000 in
set_option maxHeartbeats 800000 in
theorem write_any (a : Option Addr) (l : List (List En)) (cap : Nat) (w : World) (hB : BatAt w a l) (hl : manyE l + l.length ≤ 1048576) :
    Calls Tryd.prog 7 #[.slice a l.length cap] w fun e w' => WritePost w w' e l := by
  have HB : Hid (∀ wr, Below w.heap.size w wr → BatAt wr a l) := fun wr hb => hB.below hb
  have HB0 : Hid (BatAt w a l) := hB
  clear hB
  go_enter Tryd.func7, Tryd.ntmps7
  go_wp2
  go_loopw [12] (fun j wr => ∃ i : Nat, i ≤ l.length ∧ j = .int .i64 i ∧ Hid ((∀ x, x < i → faultB (l[x]?.getD []) = 0) ∧ Below w.heap.size w wr)) (fun j _ => l.length - (intOf j).toNat)
  case atStart => exact ⟨0, by omega, rfl, fun x h => by omega, Below.refl _ _⟩
  case round =>
    obtain ⟨i, hi, rfl, hr⟩ := hrel
    by_cases hlt : i < l.length
    · rcases HB.out wr hr.out.2 with h | ⟨b, off, rfl, hc⟩
      · rw [h] at hlt; simp at hlt
      obtain ⟨ea, ec, c0, hE⟩ := hc i hlt
      have hle := manyE_at l i hlt
      have HX : Hid (faultB (l[i]?.getD []) ≠ 0 → faultR l = faultB (l[i]?.getD [])) := fun h => faultR_take hlt hr.out.1 h
      have HY : Hid (faultB (l[i]?.getD []) = 0 → ∀ y, y < i + 1 → faultB (l[y]?.getD []) = 0) := fun h y hy => by
        by_cases hh : y < i
        · exact hr.out.1 y hh
        · have : y = i := by omega
          subst this; exact h
      have HW : Hid (Below w.heap.size w wr) := hr.out.2
      clear hc hr
      generalize l[i]?.getD [] = es at c0 hE hle HX HY
      have HC := batchFault_any ea es ec wr hE (by omega)
      by_cases hf : faultB es = 0
      · rw [hf, show errI 0 = .nilIface from rfl] at HC
        have HC' : Hid (Calls Tryd.prog 17 #[.slice ea es.length ec] wr fun e w' => e = .returned .nilIface ∧ Below wr.heap.size wr w') := HC
        clear HC
        go_wp2_with (go_at_call 17; refine HC'.out.mono ?_; rintro e w2 ⟨rfl, hb2⟩)
        go_roundw
        case rel => exact ⟨i + 1, by omega, by go_num, HY.out hf, HW.out.trans (hb2.mono HW.out.size)⟩
        case measure => simp [intOf]; omega
      · rw [errI_ne hf] at HC
        have HC' : Hid (Calls Tryd.prog 17 #[.slice ea es.length ec] wr fun e w' => e = .returned (.iface 28 (.int .i64 ((faultB es : Nat) : Int))) ∧ Below wr.heap.size wr w') := HC
        have HV : Hid (errI (faultR l) = .iface 28 (.int .i64 ((faultB es : Nat) : Int)) ∧ faultR l ≠ 0) := by
          rw [HX.out hf]
          exact ⟨errI_ne hf, hf⟩
        clear HC
        go_wp2_with (go_at_call 17; refine HC'.out.mono ?_; rintro e w2 ⟨rfl, hb2⟩)
        go_ret2
        exact ⟨HW.out.trans (hb2.mono HW.out.size), Or.inl ⟨HV.out.2, by rw [HV.out.1]; rfl⟩⟩
    · obtain rfl : i = l.length := by omega
      have hf0 : faultR l = 0 := faultR_all hr.out.1
      have hok : RecOk l := faultR_ok.1 hf0
      have HF : Hid (faultR l = 0) := hf0
      have HK : Hid (∀ i, i < l.length → BatOk (l[i]?.getD [])) := fun i hi => by rw [getD_lt hi]; exact hok _ (List.getElem_mem _)
      have hrl := recL_len hok
      have HL : Hid (∀ i, i < l.length → (recL (l.take i)).length + (batL (l[i]?.getD [])).length ≤ 1073741824) := fun i hi => by
        have h1 := @recL_le l (i + 1)
        rw [recL_take hi, List.length_append] at h1
        omega
      have HW : Hid (Below w.heap.size w wr) := hr.out.2
      clear hr hf0 hok hrl
      go_wp2
      go_loopw [7, 24] (fun t j wr => ∃ (i c : Nat) (a1 : Option Addr) (rs : List Nat), i ≤ l.length ∧ j = .int .i64 i ∧ t = .slice a1 rs.length c ∧ Hid (rs = recL (l.take i) ∧ OwnA wr w.heap.size a1 c rs ∧ Below w.heap.size w wr)) (fun _ j _ => l.length - (intOf j).toNat)
      case atStart => exact ⟨0, 0, none, [], by omega, rfl, rfl, rfl, own_nil _ _, HW.out⟩
      case round =>
        obtain ⟨i, c, a1, rs, hi2, rfl, rfl, hr⟩ := hrel
        by_cases hlt2 : i < l.length
        · rcases HB.out wr hr.out.2.2 with h | ⟨b, off, rfl, hc⟩
          · rw [h] at hlt2; simp at hlt2
          rcases HB0.out with h | ⟨b', off', e', hc'⟩
          · rw [h] at hlt2; simp at hlt2
          cases e'
          obtain ⟨ea', ec', c0', hE⟩ := hc' i hlt2
          obtain ⟨ea, ec, c0, _⟩ := hc i hlt2
          have hee : Value.slice ea (l[i]?.getD []).length ec = Value.slice ea' (l[i]?.getD []).length ec' := by
            have h1 := hr.out.2.2.cell (p := ⟨b, off + i, none⟩) (World.block_lt_of_cell? w _ c0')
            rw [c0, c0'] at h1
            exact Option.some.inj h1
          rw [hee] at c0
          have HT : Hid (recL (l.take (i + 1)) = recL (l.take i) ++ batL (l[i]?.getD [])) := recL_take hlt2
          have hlb := HL.out i hlt2
          rw [← hr.out.1] at hlb HT
          have hok := HK.out i hlt2
          have HG : Hid (_ ∧ _ ∧ _) := hr.out
          clear hr hc hc' hee
          generalize l[i]?.getD [] = es at c0 c0' hE HT hlb hok
          have HC : Hid (Calls Tryd.prog 18 #[.slice a1 rs.length c, .slice ea' es.length ec'] wr fun e w' => AddPost wr w' e w.heap.size a1 (rs ++ batL es)) :=
            addBatch_any a1 ea' rs es c ec' w wr hE HG.out.2.2 HG.out.2.1 hok hlb
          clear hlb hok hE
          go_wp2_with fail
          refine HC.out.mono ?_
          rintro e w2 ⟨a2, c2, rfl, hO2, hG2⟩
          have HN : Hid (_ ∧ _ ∧ _) := ⟨HT.out.symm, hO2, HG.out.2.2.trans (hG2.below HG.out.2.2.size (fun b hb => (HG.out.2.1.ge hb).1))⟩
          clear hO2 hG2 HG HT
          generalize rs ++ batL es = rs2 at HN ⊢
          go_wp2
          go_roundw
          case rel => exact ⟨i + 1, c2, a2, rs2, by omega, by go_num, rfl, HN⟩
          case measure => simp [intOf]; omega
        · obtain rfl : i = l.length := by omega
          have HP : Hid (WritePost w wr (.returned (.tuple #[.slice a1 rs.length c, .nilIface])) l) := by
            have h1 := hr.out.1
            rw [List.take_length] at h1
            subst h1
            exact ⟨hr.out.2.2, Or.inr ⟨HF.out, a1, c, rfl, hr.out.2.1⟩⟩
          clear hr
          go_wp2
          go_ret2
          exact HP.out
end Go.Proofs.YtalmcjkaheofpaeDoor
