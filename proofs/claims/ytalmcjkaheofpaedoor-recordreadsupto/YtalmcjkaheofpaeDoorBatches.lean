/-
  What the call of granaryref1.Batches gives: whether two lists of batches are the same.
-/
import Derived.Test.YtalmcjkaheofpaeDoorLists
import Derived.Laws.StructEq
namespace Go.Proofs.YtalmcjkaheofpaeDoor
open Go.RowKit
set_option linter.unusedVariables false

theorem ext_getDB {l m : List (List En)} (hl : l.length = m.length) (h : ∀ i, i < l.length → l[i]?.getD [] = m[i]?.getD []) : l = m := by
  apply List.ext_getElem hl
  intro i h1 h2
  have := h i h1
  rwa [getD_lt h1, getD_lt h2] at this
theorem ext_getDE {l m : List En} (hl : l.length = m.length) (h : ∀ i, i < l.length → l[i]?.getD en0 = m[i]?.getD en0) : l = m := by
  apply List.ext_getElem hl
  intro i h1 h2
  have := h i h1
  rwa [getD_lt h1, getD_lt h2] at this
theorem guard_en (op : BinOp) (x y : Operand) (xs ys : Array Value) (wz : World) : (eqGuard op 45 x y (.agg xs) (.agg ys)).run Tryd.prog wz = .ok () wz := run_eqGuard_agg wz op _ x y xs ys (by kernel_rfl)
open Classical in
theorem neq_en (a b c a' b' c' : Int) (wz : World) : (binOp .neq 45 (.agg #[.int .i64 a, .int .i64 b, .int .i64 c]) (.agg #[.int .i64 a', .int .i64 b', .int .i64 c'])).run Tryd.prog wz = .ok (.bool (decide (¬ (⟨a, b, c⟩ : En) = ⟨a', b', c'⟩))) wz := by
  have ht : Tryd.prog.underlying 45 = some (.struct (Tryd.prog.fieldsOf 45)) := by kernel_rfl
  have hp : Tryd.prog.stoodInHeld 45 = false := by kernel_rfl
  rw [run_neq_struct, run_equalIn_struct wz 9999 45 _ _ ht hp]
  by_cases h1 : a = a' <;> by_cases h2 : b = b' <;> by_cases h3 : c = c' <;> simp [Program.fieldsOf, Tryd.underlying45, Op.eqFields, go_sem, h1, h2, h3]
open Classical in
set_option maxRecDepth 20000 in
set_option maxHeartbeats 1600000 in
theorem batches_any (a1 a2 : Option Addr) (l m : List (List En)) (cap1 cap2 : Nat) (w : World) (h1 : BatAt w a1 l) (h2 : BatAt w a2 m) (hl1 : l.length ≤ 1073741824) (hl2 : m.length ≤ 1073741824) (hle : ∀ i : Nat, (l[i]?.getD []).length ≤ 1073741824) (hme : ∀ i : Nat, (m[i]?.getD []).length ≤ 1073741824) :
    Calls Tryd.prog 14 #[.slice a1 l.length cap1, .slice a2 m.length cap2] w fun e w' => e = .returned (.bool (decide (l = m))) ∧ Below w.heap.size w w' := by
  by_cases hl : l.length = m.length
  · have HL : Hid (l.length = m.length) := hl
    have ht : (((l.length : Nat) : Int) != ((m.length : Nat) : Int)) = false := by simp; omega
    have H1 : Hid (BatAt w a1 l) := h1
    have H2 : Hid (BatAt w a2 m) := h2
    have HM : Hid ((∀ i : Nat, (l[i]?.getD []).length ≤ 1073741824) ∧ (∀ i : Nat, (m[i]?.getD []).length ≤ 1073741824)) := ⟨hle, hme⟩
    have hle0 : l.length ≤ m.length := by omega
    clear hl h1 h2 hle hme
    go_enter Tryd.func14, Tryd.ntmps14
    go_wp2
    go_loopw [5] (fun j wr => ∃ k : Nat, k ≤ l.length ∧ j = .int .i64 k ∧ Hid ((∀ i, i < k → l[i]?.getD [] = m[i]?.getD []) ∧ Below w.heap.size w wr)) (fun j _ => l.length - (intOf j).toNat)
    case atStart => exact ⟨0, by omega, rfl, fun i h => by omega, Below.refl _ _⟩
    case round =>
      obtain ⟨k, hk, rfl, hr⟩ := hrel
      by_cases hlt : k < l.length
      · have hlt2 : k < m.length := by omega
        obtain hno | ⟨b1, off1, rfl, hc1⟩ := H1.out
        · rw [hno] at hlt; simp at hlt
        obtain hno | ⟨b2, off2, rfl, hc2⟩ := H2.out
        · rw [hno] at hlt2; simp at hlt2
        obtain ⟨ea1, ec1, c1, e1⟩ := hc1 k hlt
        obtain ⟨ea2, ec2, c2, e2⟩ := hc2 k hlt2
        have hx1 := HM.out.1 k
        have hx2 := HM.out.2 k
        have HX : Hid ((l[k]?.getD [] = m[k]?.getD [] → ∀ i, i < k + 1 → l[i]?.getD [] = m[i]?.getD []) ∧ (l[k]?.getD [] ≠ m[k]?.getD [] → l ≠ m)) := by
          refine ⟨fun h i hi => ?_, fun h e => h (by rw [e])⟩
          by_cases h3 : i < k
          · exact hr.out.1 i h3
          · have : i = k := by omega
            subst this; exact h
        have HW : Hid (Below w.heap.size w wr) := hr.out.2
        clear hc1 hc2 hr H1 H2
        generalize l[k]?.getD [] = xs at c1 e1 hx1 HX
        generalize m[k]?.getD [] = zs at c2 e2 hx2 HX
        have HC1 : Hid (∀ wz, Below w.heap.size w wz → wz.cell? ⟨b1, off1 + k, none⟩ = some (.slice ea1 xs.length ec1)) := fun wz hb => by rw [hb.cell (p := ⟨b1, off1 + k, none⟩) (World.block_lt_of_cell? w _ c1)]; exact c1
        have HC2 : Hid (∀ wz, Below w.heap.size w wz → wz.cell? ⟨b2, off2 + k, none⟩ = some (.slice ea2 zs.length ec2)) := fun wz hb => by rw [hb.cell (p := ⟨b2, off2 + k, none⟩) (World.block_lt_of_cell? w _ c2)]; exact c2
        have d1 := HC1.out wr HW.out
        have d2 := HC2.out wr HW.out
        have HE1 : Hid (∀ wz, Below w.heap.size w wz → EnsAt wz ea1 xs) := fun wz hb => e1.below hb
        have HE2 : Hid (∀ wz, Below w.heap.size w wz → EnsAt wz ea2 zs) := fun wz hb => e2.below hb
        clear c1 c2 e1 e2
        by_cases hxz : xs.length = zs.length
        · have hne : (((xs.length : Nat) : Int) != ((zs.length : Nat) : Int)) = false := by simp; omega
          have HXZ : Hid (xs.length = zs.length) := hxz
          have hxz2 : xs.length ≤ zs.length := by omega
          clear hxz
          go_wp2
          go_quiet (fail)
          go_wp2
          have HW2 : Hid (Below w.heap.size w (wr.drewN nq)) := below_drewN HW.out nq
          go_loopw [6] (fun j wz => ∃ q : Nat, q ≤ xs.length ∧ j = .int .i64 q ∧ Hid ((∀ i, i < q → xs[i]?.getD en0 = zs[i]?.getD en0) ∧ Below w.heap.size w wz)) (fun j _ => xs.length - (intOf j).toNat)
          case atStart => exact ⟨0, by omega, rfl, fun i h => by omega, HW2.out⟩
          case round =>
            clear d1 d2
            obtain ⟨q, hq, rfl, hz⟩ := hrel
            have d1 := HC1.out wr hz.out.2
            have d2 := HC2.out wr hz.out.2
            by_cases hql : q < xs.length
            · have hql2 : q < zs.length := by omega
              obtain hno | ⟨g1, o1, rfl, hg1⟩ := HE1.out wr hz.out.2
              · rw [hno] at hql; simp at hql
              obtain hno | ⟨g2, o2, rfl, hg2⟩ := HE2.out wr hz.out.2
              · rw [hno] at hql2; simp at hql2
              obtain ⟨x0, x1, x2⟩ := hg1 q hql
              obtain ⟨y0, y1, y2⟩ := hg2 q hql2
              have HQ : Hid ((xs[q]?.getD en0 = zs[q]?.getD en0 → ∀ i, i < q + 1 → xs[i]?.getD en0 = zs[i]?.getD en0) ∧ (xs[q]?.getD en0 ≠ zs[q]?.getD en0 → xs ≠ zs)) := by
                refine ⟨fun h i hi => ?_, fun h e => h (by rw [e])⟩
                by_cases h3 : i < q
                · exact hz.out.1 i h3
                · have : i = q := by omega
                  subst this; exact h
              have HW3 : Hid (Below w.heap.size w wr) := hz.out.2
              clear hg1 hg2 hz
              generalize xs[q]?.getD en0 = X at x0 x1 x2 HQ
              generalize zs[q]?.getD en0 = Y at y0 y1 y2 HQ
              obtain ⟨Xk, Xa, Xb⟩ := X
              obtain ⟨Yk, Ya, Yb⟩ := Y
              simp only at x0 x1 x2 y0 y1 y2
              have hgd := guard_en
              have hnq := neq_en Xk Xa Xb Yk Ya Yb
              by_cases hXY : (⟨Xk, Xa, Xb⟩ : En) = ⟨Yk, Ya, Yb⟩
              · have HN : Hid (∀ i, i < q + 1 → xs[i]?.getD en0 = zs[i]?.getD en0) := HQ.out.1 hXY
                rw [decide_eq_false (fun h => h hXY)] at hnq
                clear hXY HQ
                go_wp2
                go_quiet (fail)
                go_wp2
                have HW4 : Hid (Below w.heap.size w (wr.drewN nq)) := below_drewN HW3.out nq
                go_roundw
                case rel => exact ⟨q + 1, by omega, by go_num, HN.out, HW4.out⟩
                case measure => simp [intOf]; omega
              · have HD : Hid (decide (l = m) = false) := decide_eq_false (HX.out.2 (HQ.out.2 hXY))
                rw [decide_eq_true hXY] at hnq
                clear hXY HQ
                go_wp2
                go_quiet (fail)
                go_wp2
                go_ret
                rw [HD.out]
                exact ⟨rfl, below_drewN HW3.out nq⟩
            · obtain rfl : q = xs.length := by omega
              have HA : Hid ((∀ i, i < k + 1 → l[i]?.getD [] = m[i]?.getD []) ∧ Below w.heap.size w wr) := ⟨HX.out.1 (ext_getDE HXZ.out hz.out.1), hz.out.2⟩
              clear hz
              go_wp2
              go_roundw
              case rel => exact ⟨k + 1, by omega, by go_num, HA⟩
              case measure => simp [intOf]; omega
        · have hne : (((xs.length : Nat) : Int) != ((zs.length : Nat) : Int)) = true := by simp; omega
          have HD : Hid (decide (l = m) = false) := decide_eq_false (HX.out.2 (fun e => hxz (by rw [e])))
          clear hxz
          go_wp2
          go_quiet (fail)
          go_wp2
          go_ret
          rw [HD.out]
          exact ⟨rfl, below_drewN HW.out nq⟩
      · obtain rfl : k = l.length := by omega
        have HD : Hid (decide (l = m) = true) := decide_eq_true (ext_getDB HL.out hr.out.1)
        go_wp2
        go_ret
        rw [HD.out]
        exact ⟨rfl, hr.out.2⟩
  · have ht : (((l.length : Nat) : Int) != ((m.length : Nat) : Int)) = true := by simp; omega
    have HD : Hid (decide (l = m) = false) := decide_eq_false (fun e => hl (by rw [e]))
    clear hl h1 h2 hle hme
    go_enter Tryd.func14, Tryd.ntmps14
    go_wp2
    go_ret
    rw [HD.out]
    exact ⟨rfl, Below.refl _ _⟩
open Classical in
theorem batches_same (a1 a2 : Option Addr) (l : List (List En)) (cap1 cap2 : Nat) (w : World) (h1 : BatAt w a1 l) (h2 : BatAt w a2 l) (hl1 : l.length ≤ 1073741824) (hle : ∀ i : Nat, (l[i]?.getD []).length ≤ 1073741824) :
    Calls Tryd.prog 14 #[.slice a1 l.length cap1, .slice a2 l.length cap2] w fun e w' => e = .returned (.bool true) ∧ Below w.heap.size w w' := by
  have h4 := batches_any a1 a2 l l cap1 cap2 w h1 h2 hl1 hl1 hle hle
  rw [decide_eq_true rfl] at h4
  exact h4
end Go.Proofs.YtalmcjkaheofpaeDoor
