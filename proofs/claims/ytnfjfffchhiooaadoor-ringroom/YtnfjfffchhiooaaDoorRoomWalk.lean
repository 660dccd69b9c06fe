/-
  The walk of granarylaw3.RingRoom: it returns true, and nothing that was there has turned.
-/
import Derived.Test.YtnfjfffchhiooaaDoorNew
import Derived.Test.YtnfjfffchhiooaaDoorTold
namespace Go.Proofs.YtnfjfffchhiooaaDoor
open Go.RowKit
set_option linter.unusedVariables false

set_option maxHeartbeats 800000 in
theorem pick_any (c : Int) (n : Nat) (w : World) (h1 : 1 ≤ n) (h2 : n ≤ 4611686018427387904) (hc : -9223372036854775808 ≤ c ∧ c ≤ 9223372036854775807) :
    Calls Tryd.prog 19 #[.int .i64 c, .int .i64 n] w fun e w' => (∃ k : Nat, k < n ∧ e = .returned (.int .i64 (k : Nat))) ∧ w' = w := by
  have hn0 : ¬ ((n : Int) = 0) := by omega
  by_cases h0 : 0 ≤ c
  · obtain ⟨m, rfl⟩ := Int.eq_ofNat_of_zero_le h0
    have HK : Hid (m % n < n) := Nat.mod_lt _ h1
    go_enter Tryd.func19, Tryd.ntmps19
    go_wp2
    go_ret
    exact ⟨⟨m % n, HK.out, by go_num⟩, rfl⟩
  · obtain ⟨m, hm⟩ := Int.eq_ofNat_of_zero_le (show 0 ≤ -(c + 1) by omega)
    have hc' : c = -((m : Int) + 1) := by omega
    subst hc'
    have HK : Hid (m % n < n) := Nat.mod_lt _ h1
    have hneg : -((m : Int) + 1) < 0 := by omega
    clear hm h0
    go_enter Tryd.func19, Tryd.ntmps19
    go_wp2
    go_ret
    refine ⟨⟨m % n, HK.out, ret_int ?_⟩, rfl⟩
    rw [show -((m : Int) + 1) + 1 = -(m : Int) by omega, Int.neg_tmod, Int.neg_neg, Int.tmod_eq_emod_of_nonneg (by omega)]
    simp
/-- WHAT LIES THERE BETWEEN TWO CALLS: a ring of the call's own. -/
structure QS (w wr : World) (n rb sb p : Nat) (l : List Int) : Prop where
  rq : RQ wr n rb sb p l
  bel : Below w.heap.size w wr
  g1 : w.heap.size ≤ rb
  g2 : w.heap.size ≤ sb
theorem QS.step {w wr w' : World} {n rb sb p p' : Nat} {l l' : List Int} (h : QS w wr n rb sb p l) (hr : RQ w' n rb sb p' l') (hk : Keep (RB rb sb) wr w') : QS w w' n rb sb p' l' :=
  ⟨hr, h.bel.trans (hk.below h.bel.size (fun b e => by have := h.g1; have := h.g2; rcases e with e | e <;> omega)), h.g1, h.g2⟩
theorem QS.below {w wr w' : World} {n rb sb p : Nat} {l : List Int} (h : QS w wr n rb sb p l) (hb : Below wr.heap.size wr w') : QS w w' n rb sb p l :=
  ⟨h.rq.below hb, h.bel.trans (hb.mono h.bel.size), h.g1, h.g2⟩
theorem GoodN.nat {n : Int} (h : GoodN n) : ∃ N : Nat, n = N ∧ 2 ≤ N ∧ N ≤ 16 := by
  unfold GoodN at h
  exact ⟨n.toNat, by omega, by omega, by omega⟩
set_option maxRecDepth 100000 in
set_option maxHeartbeats 1600000 in
theorem room_no (n t : Int) (w : World) (h : ¬ GoodN n) : Calls Tryd.prog 6 #[.int .i64 n, .int .i64 t] w fun e w' => e = .returned (.bool true) ∧ Below w.heap.size w w' := by
  have HF := new_no n w h
  unfold GoodN at h
  by_cases h1 : n < 2
  · have t1 : decide (n < 2) = true := decide_eq_true h1
    clear h h1
    go_enter Tryd.func6, Tryd.ntmps6
    go_wp2_with fail
    refine HF.mono ?_
    rintro e w1 ⟨rfl, hb⟩
    go_wp2
    go_ret
    exact ⟨rfl, hb⟩
  · have t1 : decide (n < 2) = false := decide_eq_false h1
    have t2 : decide (16 < n) = true := decide_eq_true (by omega)
    clear h h1
    go_enter Tryd.func6, Tryd.ntmps6
    go_wp2_with fail
    refine HF.mono ?_
    rintro e w1 ⟨rfl, hb⟩
    go_wp2
    go_ret
    exact ⟨rfl, hb⟩
/-- What was pushed: 100, 101 and so on. -/
def upL (i : Nat) : List Int := (List.range i).map fun (j : Nat) => 100 + (j : Int)
theorem upL_len {i : Nat} : (upL i).length = i := by simp [upL]
theorem upL_succ {i : Nat} : upL (i + 1) = upL i ++ [100 + (i : Int)] := by unfold upL; rw [List.range_succ, List.map_append]; rfl
/-- .. what is left of it behind i pops. -/
def dnL (m i : Nat) : List Int := (upL m).drop i
theorem dnL_cons {m i : Nat} (h : i < m) : dnL m i = (100 + (i : Int)) :: dnL m (i + 1) := by
  unfold dnL
  rw [List.drop_eq_getElem_cons (by rw [upL_len]; exact h)]
  congr 1
  simp [upL]
theorem dnL_nil {m : Nat} : dnL m m = [] := by unfold dnL; exact List.drop_eq_nil_of_le (by rw [upL_len]; exact Nat.le_refl _)
set_option maxRecDepth 100000 in
set_option maxHeartbeats 8000000 in
theorem room_yes (n : Nat) (t : Int) (w : World) (h1 : 2 ≤ n) (h2 : n ≤ 16) (ht : -9223372036854775808 ≤ t ∧ t ≤ 9223372036854775807) (hE : EType w) : Calls Tryd.prog 6 #[.int .i64 (n : Nat), .int .i64 t] w fun e w' => e = .returned (.bool true) ∧ Below w.heap.size w w' := by
  have HE : Hid (∀ w', Below w.heap.size w w' → EType w') := fun w' hb => hE.below hb hE.pos
  have HP : Hid (∀ w, Calls Tryd.prog 19 #[.int .i64 t, .int .i64 (100 : Nat)] w fun e w' => (∃ k : Nat, k < 100 ∧ e = .returned (.int .i64 (k : Nat))) ∧ w' = w) := fun w => pick_any t 100 w (by omega) (by omega) ht
  clear hE ht
  go_enter Tryd.func6, Tryd.ntmps6
  go_wp2_with fail
  refine (new_yes n _ h1 h2).mono ?_
  rintro e w2 ⟨rb, sb, rfl, hq, hb2, g1, g2⟩
  have H0 : Hid (QS w w2 n rb sb 0 []) := ⟨hq, hb2, g1, g2⟩
  clear hq hb2 g1 g2
  go_wp2_with fail
  refine (HP.out _).mono ?_
  rintro e w3 ⟨⟨k, hk, rfl⟩, rfl⟩
  clear HP
  go_wp2
  go_loopw [8] (fun j wq => ∃ (i : Nat), i ≤ k ∧ j = .int .i64 i ∧ Hid (QS w wq n rb sb i [])) (fun j _ => k - (intOf j).toNat)
  case atStart => exact ⟨0, Nat.zero_le _, rfl, H0.out⟩
  case round =>
    obtain ⟨i, hi, rfl, hR⟩ := hrel
    clear H0
    by_cases hlt : i < k
    · have HA := q_push hR.out.rq (i : Int) (by simp; omega)
      go_wp2_with fail
      refine HA.mono ?_
      rintro e w4 ⟨rfl, hq, hk4⟩
      have hq' : RQ w4 n rb sb i [(i : Int)] := hq
      have HB := q_pop hq'
      have H4 : Hid (QS w w4 n rb sb i [(i : Int)]) := hR.out.step hq' hk4
      clear HA hq hk4 hR hq'
      go_wp2_with fail
      refine HB.mono ?_
      rintro e w5 ⟨rfl, hq, hk5⟩
      have H5 : Hid (QS w w5 n rb sb (i + 1) []) := H4.out.step hq hk5
      clear HB H4 hq hk5
      go_wp2
      exact ⟨⟨i + 1, by omega, by go_num, H5.out⟩, by simp [intOf]; omega⟩
    · obtain rfl : i = k := by omega
      have H5 : Hid (QS w wr n rb sb i (upL 0)) := hR.out
      clear hR
      go_wp2
      go_loopw [12] (fun j wq => ∃ (m : Nat), m ≤ n - 1 ∧ j = .int .i64 m ∧ Hid (QS w wq n rb sb i (upL m))) (fun j _ => n - 1 - (intOf j).toNat)
      case atStart => exact ⟨0, Nat.zero_le _, rfl, H5.out⟩
      case round =>
        obtain ⟨m, hm, rfl, hR⟩ := hrel
        clear H5
        by_cases hlt2 : m < n - 1
        · have HA := q_push hR.out.rq (100 + (m : Int)) (by rw [upL_len]; omega)
          rw [← upL_succ] at HA
          go_wp2_with fail
          refine HA.mono ?_
          rintro e w6 ⟨rfl, hq, hk6⟩
          have H6 : Hid (QS w w6 n rb sb i (upL (m + 1))) := hR.out.step hq hk6
          clear HA hq hk6 hR
          go_wp2
          exact ⟨⟨m + 1, by omega, by go_num, H6.out⟩, by simp [intOf]; omega⟩
        · have hmn : m = n - 1 := by omega
          have HA := q_full hR.out.rq 7 (by rw [upL_len]; omega)
          have HM : Hid (m = n - 1) := hmn
          have hm1 : (n : Int) - 1 = (m : Int) := by omega
          clear hmn
          go_wp2_with fail
          refine HA.mono ?_
          rintro e w6 ⟨rfl, hq, hk6⟩
          have H6 : Hid (QS w w6 n rb sb i (upL m)) := hR.out.step hq hk6
          clear HA hq hk6 hR
          have HB := error_same 3 w6 (HE.out _ H6.out.bel)
          go_wp2_with fail
          refine HB.mono ?_
          rintro e w7 ⟨rfl, hb⟩
          have H7 : Hid (QS w w7 n rb sb i (upL m)) := H6.out.below hb
          have HL := q_len H7.out.rq
          rw [upL_len] at HL
          clear HB H6 hb
          go_wp2_with fail
          refine HL.mono ?_
          rintro e w8 ⟨rfl, hq, hk8⟩
          have H8 : Hid (QS w w8 n rb sb (i + 0) (dnL m 0)) := H7.out.step hq hk8
          clear HL H7 hq hk8
          go_wp2
          go_loopw [16] (fun j wq => ∃ (d : Nat), d ≤ m ∧ j = .int .i64 d ∧ Hid (QS w wq n rb sb (i + d) (dnL m d))) (fun j _ => m - (intOf j).toNat)
          case atStart => exact ⟨0, Nat.zero_le _, rfl, H8.out⟩
          case round =>
            obtain ⟨d, hd, rfl, hR⟩ := hrel
            clear H8
            by_cases hlt3 : d < m
            · have hR2 : Hid (QS w wr n rb sb (i + d) ((100 + (d : Int)) :: dnL m (d + 1))) := by rw [← dnL_cons hlt3]; exact hR
              have HA := q_pop hR2.out.rq
              clear hR
              go_wp2_with fail
              refine HA.mono ?_
              rintro e w9 ⟨rfl, hq, hk9⟩
              have H9 : Hid (QS w w9 n rb sb (i + (d + 1)) (dnL m (d + 1))) := hR2.out.step hq hk9
              clear HA hq hk9 hR2
              go_wp2
              exact ⟨⟨d + 1, by omega, by go_num, H9.out⟩, by simp [intOf]; omega⟩
            · obtain rfl : d = m := by omega
              have hR2 : Hid (QS w wr n rb sb (i + d) []) := by rw [← dnL_nil (m := d)]; exact hR
              have HA := q_none hR2.out.rq
              clear hR
              go_wp2_with fail
              refine HA.mono ?_
              rintro e w9 ⟨rfl, hq, hk9⟩
              have H9 : Hid (QS w w9 n rb sb (i + d) []) := hR2.out.step hq hk9
              clear HA hq hk9 hR2
              have HB := error_same 4 w9 (HE.out _ H9.out.bel)
              go_wp2_with fail
              refine HB.mono ?_
              rintro e w10 ⟨rfl, hb⟩
              have H10 : Hid (QS w w10 n rb sb (i + d) []) := H9.out.below hb
              clear HB H9 hb
              go_wp2
              go_ret
              exact ⟨rfl, H10.out.bel⟩
theorem room_any (n t : Int) (w : World) (ht : -9223372036854775808 ≤ t ∧ t ≤ 9223372036854775807) (hE : EType w) : Calls Tryd.prog 6 #[.int .i64 n, .int .i64 t] w fun e w' => e = .returned (.bool true) ∧ Below w.heap.size w w' := by
  by_cases h : GoodN n
  · obtain ⟨N, rfl, h1, h2⟩ := h.nat
    exact room_yes N t w h1 h2 ht hE
  · exact room_no n t w h
end Go.Proofs.YtnfjfffchhiooaaDoor
