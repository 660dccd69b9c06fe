/-
  What the calls of record.isNumber and batchFault give: whether a number may be; what is wrong with a batch.
-/
import Derived.Test.YtalmcjkaheofpaeDoorLists
namespace Go.Proofs.YtalmcjkaheofpaeDoor
open Go.RowKit
set_option linter.unusedVariables false

/-- An error by its number: 0 is nil. -/
def errI (n : Nat) : Value := if n = 0 then .nilIface else .iface 28 (.int .i64 (n : Int))
theorem errI_ne {n : Nat} (h : n ≠ 0) : errI n = .iface 28 (.int .i64 (n : Int)) := by simp [errI, h]
theorem isNumber_any (n : Int) (w : World) : Calls Tryd.prog 23 #[.int .i64 n] w fun e w' => e = .returned (.bool (decide (NumOk n))) ∧ w' = w := by
  by_cases h1 : 0 ≤ n
  · by_cases h2 : n ≤ 4611686018427387904
    · rw [decide_eq_true (show NumOk n from ⟨h1, h2⟩)]
      go_enter Tryd.func23, Tryd.ntmps23
      go_wp2
      go_ret
      exact ⟨rfl, rfl⟩
    · rw [decide_eq_false (show ¬ NumOk n from fun h => h2 h.2)]
      go_enter Tryd.func23, Tryd.ntmps23
      go_wp2
      go_ret
      exact ⟨rfl, rfl⟩
  · rw [decide_eq_false (show ¬ NumOk n from fun h => h1 h.1)]
    go_enter Tryd.func23, Tryd.ntmps23
    go_wp2
    go_ret
    exact ⟨rfl, rfl⟩
theorem isNumber_yes {n : Int} (h : NumOk n) (w : World) : Calls Tryd.prog 23 #[.int .i64 n] w fun e w' => e = .returned (.bool true) ∧ w' = w := by
  have := isNumber_any n w
  rw [decide_eq_true h] at this
  exact this
theorem isNumber_no {n : Int} (h : ¬ NumOk n) (w : World) : Calls Tryd.prog 23 #[.int .i64 n] w fun e w' => e = .returned (.bool false) ∧ w' = w := by
  have := isNumber_any n w
  rw [decide_eq_false h] at this
  exact this
theorem faultB_bad {es : List En} {i : Nat} (hl : ¬ 64 < es.length) (hi : i < es.length) (h : ¬ EnOk (es[i]?.getD en0)) : faultB es = 1 := by
  unfold faultB
  rw [if_neg hl, if_neg]
  intro h2
  apply h
  rw [getD_lt hi]
  exact h2 _ (List.getElem_mem _)
theorem faultB_good {es : List En} (hl : ¬ 64 < es.length) (h : ∀ i, i < es.length → EnOk (es[i]?.getD en0)) : faultB es = 0 := by
  unfold faultB
  rw [if_neg hl, if_pos]
  intro e he
  obtain ⟨j, hj, rfl⟩ := List.getElem_of_mem he
  have := h j hj
  rwa [getD_lt hj] at this
set_option maxRecDepth 20000 in
set_option maxHeartbeats 1600000 in
theorem batchFault_any (a : Option Addr) (es : List En) (cap : Nat) (w : World) (hE : EnsAt w a es) (hl : es.length ≤ 1073741824) :
    Calls Tryd.prog 17 #[.slice a es.length cap] w fun e w' => e = .returned (errI (faultB es)) ∧ Below w.heap.size w w' := by
  by_cases h64 : 64 < es.length
  · have h64' : (64 : Int) < (es.length : Int) := by omega
    have HF : Hid (errI (faultB es) = .iface 28 (.int .i64 3)) := by show _ = _; unfold faultB; rw [if_pos h64]; rfl
    clear hE
    go_enter Tryd.func17, Tryd.ntmps17
    go_wp2
    go_ret
    rw [HF.out]
    exact ⟨rfl, Below.refl _ _⟩
  · have h64' : (es.length : Int) ≤ 64 := by omega
    have HE : Hid (∀ wr, Below w.heap.size w wr → EnsAt wr a es) := fun wr hb => hE.below hb
    clear hE
    go_enter Tryd.func17, Tryd.ntmps17
    go_wp2
    go_loopw [11] (fun j wr => ∃ i : Nat, i ≤ es.length ∧ j = .int .i64 i ∧ Hid ((∀ x, x < i → EnOk (es[x]?.getD en0)) ∧ Below w.heap.size w wr)) (fun j _ => es.length - (intOf j).toNat)
    case atStart => exact ⟨0, by omega, rfl, fun x h => by omega, Below.refl _ _⟩
    case round =>
      obtain ⟨i, hi, rfl, hr⟩ := hrel
      by_cases hlt : i < es.length
      · rcases HE.out wr hr.out.2 with h | ⟨b, off, rfl, hc⟩
        · rw [h] at hlt; simp at hlt
        obtain ⟨c0, c1, c2⟩ := hc i hlt
        have HX : Hid (∀ x : En, x = es[i]?.getD en0 → (EnOk x → ∀ y, y < i + 1 → EnOk (es[y]?.getD en0)) ∧ (¬ EnOk x → errI (faultB es) = .iface 28 (.int .i64 1))) := by
          rintro x rfl
          refine ⟨fun h y hy => ?_, fun h => by rw [faultB_bad h64 hlt h]; rfl⟩
          by_cases hh : y < i
          · exact hr.out.1 y hh
          · have : y = i := by omega
            subst this; exact h
        have HY : Hid (_ ∧ _) := HX.out _ rfl
        have HB : Hid (∀ o, Below w.heap.size w (wr.alloc o)) := fun o => hr.out.2.alloc hr.out.2.size o
        clear HX hc hr
        generalize es[i]?.getD en0 = x at c0 c1 c2 HY
        obtain ⟨xk, xa, xb⟩ := x
        simp only at c0 c1 c2
        by_cases g0 : NumOk xk
        · by_cases g1 : NumOk xa
          · by_cases g2 : NumOk xb
            · have HZ : Hid (∀ y, y < i + 1 → EnOk (es[y]?.getD en0)) := HY.out.1 ⟨g0, g1, g2⟩
              go_wp2_with fail
              refine (isNumber_yes g0 _).mono ?_
              rintro e w' ⟨rfl, rfl⟩
              go_wp2_with fail
              refine (isNumber_yes g1 _).mono ?_
              rintro e w' ⟨rfl, rfl⟩
              go_wp2_with fail
              refine (isNumber_yes g2 _).mono ?_
              rintro e w' ⟨rfl, rfl⟩
              go_wp2
              go_roundw
              case rel => exact ⟨i + 1, by omega, by go_num, HZ.out, HB.out _⟩
              case measure => simp [intOf]; omega
            · have HZ : Hid (_ = _) := HY.out.2 (fun h => g2 h.2.2)
              go_wp2_with fail
              refine (isNumber_yes g0 _).mono ?_
              rintro e w' ⟨rfl, rfl⟩
              go_wp2_with fail
              refine (isNumber_yes g1 _).mono ?_
              rintro e w' ⟨rfl, rfl⟩
              go_wp2_with fail
              refine (isNumber_no g2 _).mono ?_
              rintro e w' ⟨rfl, rfl⟩
              go_wp2
              go_ret
              rw [HZ.out]
              exact ⟨rfl, HB.out _⟩
          · have HZ : Hid (_ = _) := HY.out.2 (fun h => g1 h.2.1)
            go_wp2_with fail
            refine (isNumber_yes g0 _).mono ?_
            rintro e w' ⟨rfl, rfl⟩
            go_wp2_with fail
            refine (isNumber_no g1 _).mono ?_
            rintro e w' ⟨rfl, rfl⟩
            go_wp2
            go_ret
            rw [HZ.out]
            exact ⟨rfl, HB.out _⟩
        · have HZ : Hid (_ = _) := HY.out.2 (fun h => g0 h.1)
          go_wp2_with fail
          refine (isNumber_no g0 _).mono ?_
          rintro e w' ⟨rfl, rfl⟩
          go_wp2
          go_ret
          rw [HZ.out]
          exact ⟨rfl, HB.out _⟩
      · obtain rfl : i = es.length := by omega
        have HF : Hid (errI (faultB es) = .nilIface) := by show _ = _; rw [faultB_good h64 hr.out.1]; rfl
        go_wp2
        go_ret
        rw [HF.out]
        exact ⟨rfl, hr.out.2⟩
end Go.Proofs.YtalmcjkaheofpaeDoor
