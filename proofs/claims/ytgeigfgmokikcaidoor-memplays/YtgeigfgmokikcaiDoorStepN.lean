/-
  What the calls of memStep give that ask for a number or set one.
-/
import Derived.Test.YtgeigfgmokikcaiDoorStep
namespace Go.Proofs.YtgeigfgmokikcaiDoor
open Go.RowKit
set_option linter.unusedVariables false

set_option maxRecDepth 20000 in
set_option maxHeartbeats 1600000 in
/-- Number, refused (it does not fit, or is too great). -/
theorem step_num_no {B mb hb rb : Nat} {w0 wr : World} {l : List Nat} (h : QM B mb hb rb w0 wr l l) {N : Nat} (hN : LenIs l N) (hE : EType w0) (i n : Int) (s : Value)
    (h1 : ∀ W, MW W mb hb l → Calls Tryd.prog 13 #[.pointer (some ⟨mb, 0, none⟩), .int .i64 i] W fun e w' => e = .returned (.tuple #[.int .i64 0, .iface 29 (.int .i64 1)]) ∧ W = w')
    (h2 : ∀ W, Row W rb l → Calls Tryd.prog 14 #[.slice (some ⟨rb, 0, none⟩) l.length l.length, .int .i64 i] W fun e w' => e = .returned (.tuple #[.int .i64 0, .int .i64 1]) ∧ W = w') :
    Calls Tryd.prog 6 #[.pointer (some ⟨mb, 0, none⟩), .slice (some ⟨rb, 0, none⟩) l.length l.length, .agg #[.int .i64 3, .int .i64 i, .int .i64 n, s]] wr fun e w' => StepPost B mb hb rb N w0 w' e := by
  have HQ := h.boxed 3 i n s
  obtain ⟨W1, hW1⟩ : ∃ W, W = wr.alloc (.cells #[.int .i64 3, .int .i64 i, .int .i64 n, s] 33) := ⟨_, rfl⟩
  rw [← hW1] at HQ
  have HR : Hid (Calls Tryd.prog 13 #[.pointer (some ⟨mb, 0, none⟩), .int .i64 i] W1 fun e w' => e = .returned (.tuple #[.int .i64 0, .iface 29 (.int .i64 1)]) ∧ W1 = w') := h1 W1 HQ.qm.mw
  have HF : Hid (Calls Tryd.prog 14 #[.slice (some ⟨rb, 0, none⟩) l.length l.length, .int .i64 i] W1 fun e w' => e = .returned (.tuple #[.int .i64 0, .int .i64 1]) ∧ W1 = w') := h2 W1 HQ.qm.row
  have HEr : Hid (Calls Tryd.prog 5 #[.iface 29 (.int .i64 1), .int .i64 1] W1 fun e w' => e = .returned (.bool true) ∧ QM B mb hb rb w0 w' l l) := (error_same 1 W1 (HQ.qm.et hE)).mono fun e w' ⟨h1, h2⟩ => ⟨h1, HQ.qm.below h2⟩
  obtain ⟨b1, b2, b3⟩ := HQ.box.cells
  clear HQ h hE h1 h2
  generalize l.length = L at *
  go_enter Tryd.func6, Tryd.ntmps6
  go_wp2_with fail
  rw [← hW1]
  refine HR.out.mono ?_
  rintro e w2 ⟨rfl, rfl⟩
  clear HR hW1
  go_wp2_with fail
  refine HF.out.mono ?_
  rintro e w3 ⟨rfl, rfl⟩
  clear HF
  go_wp2_with fail
  refine HEr.out.mono ?_
  rintro e w4 ⟨rfl, h4⟩
  clear HEr
  go_wp2
  go_ret
  exact ⟨rfl, l, h4, hN⟩
set_option maxRecDepth 20000 in
set_option maxHeartbeats 1600000 in
theorem step_num_yes {B mb hb rb : Nat} {w0 wr : World} {l : List Nat} (h : QM B mb hb rb w0 wr l l) {N : Nat} (hN : LenIs l N) (i n : Int) (V : Nat) (s : Value)
    (h1 : ∀ W, MW W mb hb l → Calls Tryd.prog 13 #[.pointer (some ⟨mb, 0, none⟩), .int .i64 i] W fun e w' => e = .returned (.tuple #[.int .i64 (V : Nat), .nilIface]) ∧ W = w')
    (h2 : ∀ W, Row W rb l → Calls Tryd.prog 14 #[.slice (some ⟨rb, 0, none⟩) l.length l.length, .int .i64 i] W fun e w' => e = .returned (.tuple #[.int .i64 (V : Nat), .int .i64 0]) ∧ W = w') :
    Calls Tryd.prog 6 #[.pointer (some ⟨mb, 0, none⟩), .slice (some ⟨rb, 0, none⟩) l.length l.length, .agg #[.int .i64 3, .int .i64 i, .int .i64 n, s]] wr fun e w' => StepPost B mb hb rb N w0 w' e := by
  have HQ := h.boxed 3 i n s
  obtain ⟨W1, hW1⟩ : ∃ W, W = wr.alloc (.cells #[.int .i64 3, .int .i64 i, .int .i64 n, s] 33) := ⟨_, rfl⟩
  rw [← hW1] at HQ
  have HR : Hid (Calls Tryd.prog 13 #[.pointer (some ⟨mb, 0, none⟩), .int .i64 i] W1 fun e w' => e = .returned (.tuple #[.int .i64 (V : Nat), .nilIface]) ∧ W1 = w') := h1 W1 HQ.qm.mw
  have HF : Hid (Calls Tryd.prog 14 #[.slice (some ⟨rb, 0, none⟩) l.length l.length, .int .i64 i] W1 fun e w' => e = .returned (.tuple #[.int .i64 (V : Nat), .int .i64 0]) ∧ W1 = w') := h2 W1 HQ.qm.row
  have HEr : Hid (Calls Tryd.prog 5 #[.nilIface, .int .i64 0] W1 fun e w' => e = .returned (.bool true) ∧ QM B mb hb rb w0 w' l l) := (error_nil 0 W1).mono fun e w' ⟨h1, h2⟩ => ⟨h1, by rw [← h2]; exact HQ.qm⟩
  obtain ⟨b1, b2, b3⟩ := HQ.box.cells
  clear HQ h h1 h2
  generalize l.length = L at *
  go_enter Tryd.func6, Tryd.ntmps6
  go_wp2_with fail
  rw [← hW1]
  refine HR.out.mono ?_
  rintro e w2 ⟨rfl, rfl⟩
  clear HR hW1
  go_wp2_with fail
  refine HF.out.mono ?_
  rintro e w3 ⟨rfl, rfl⟩
  clear HF
  go_wp2_with fail
  refine HEr.out.mono ?_
  rintro e w4 ⟨rfl, h4⟩
  clear HEr
  go_wp2
  go_ret
  exact ⟨rfl, l, h4, hN⟩
theorem step_num {B mb hb rb : Nat} {w0 wr : World} {l : List Nat} (h : QM B mb hb rb w0 wr l l) {N : Nat} (hN : LenIs l N) (hE : EType w0) (i n : Int) (s : Value) (hi : -9223372036854775808 ≤ i ∧ i ≤ 9223372036854775807) :
    Calls Tryd.prog 6 #[.pointer (some ⟨mb, 0, none⟩), .slice (some ⟨rb, 0, none⟩) l.length l.length, .agg #[.int .i64 3, .int .i64 i, .int .i64 n, s]] wr fun e w' => StepPost B mb hb rb N w0 w' e := by
  by_cases hf : fits l.length i ((8 : Nat) : Int)
  · obtain ⟨k, rfl, hk⟩ := fits_nat hf
    by_cases hV : num (cut l k 8) ≤ 4611686018427387904
    · refine step_num_yes h hN k n (num (cut l k 8)) s (fun W hW => ?_) (fun W hW => ?_)
      · have := number_yes mb hb l k W hW hk
        unfold numV at this
        rw [if_pos hV] at this
        exact this
      · have := rnumber_yes rb l k W hW h.mw.all h.mw.long hk
        unfold rnV at this
        rw [if_pos hV] at this
        exact this
    · refine step_num_no h hN hE k n s (fun W hW => ?_) (fun W hW => ?_)
      · have := number_yes mb hb l k W hW hk
        unfold numV at this
        rw [if_neg hV] at this
        exact this
      · have := rnumber_yes rb l k W hW h.mw.all h.mw.long hk
        unfold rnV at this
        rw [if_neg hV] at this
        exact this
  · exact step_num_no h hN hE i n s (fun W hW => number_no mb hb l i W hW hf hi) (fun W hW => rnumber_no _ _ _ i W h.mw.long hi hf)
set_option maxRecDepth 20000 in
set_option maxHeartbeats 1600000 in
/-- SetNumber, refused. -/
theorem step_set_no {B mb hb rb : Nat} {w0 wr : World} {l : List Nat} (h : QM B mb hb rb w0 wr l l) {N : Nat} (hN : LenIs l N) (hE : EType w0) (q i x : Int) (s : Value) (hi : -9223372036854775808 ≤ i ∧ i ≤ 9223372036854775807) (q1 : q ≠ 1) (q2 : q ≠ 2) (q3 : q ≠ 3) (hno : x < 0 ∨ 4611686018427387904 < x ∨ ¬ fits l.length i 8) :
    Calls Tryd.prog 6 #[.pointer (some ⟨mb, 0, none⟩), .slice (some ⟨rb, 0, none⟩) l.length l.length, .agg #[.int .i64 q, .int .i64 i, .int .i64 x, s]] wr fun e w' => StepPost B mb hb rb N w0 w' e := by
  have HQ := h.boxed q i x s
  obtain ⟨W1, hW1⟩ : ∃ W, W = wr.alloc (.cells #[.int .i64 q, .int .i64 i, .int .i64 x, s] 33) := ⟨_, rfl⟩
  rw [← hW1] at HQ
  have HR : Hid (Calls Tryd.prog 15 #[.pointer (some ⟨mb, 0, none⟩), .int .i64 i, .int .i64 x] W1 fun e w' => e = .returned (.iface 29 (.int .i64 1)) ∧ W1 = w') := by
    by_cases hx : x < 0 ∨ 4611686018427387904 < x
    · exact set_range i x _ W1 hx
    · obtain ⟨y, rfl⟩ := Int.eq_ofNat_of_zero_le (show 0 ≤ x by omega)
      exact set_no mb hb _ i y W1 HQ.qm.mw (by omega) ((hno.resolve_left (fun e => hx (Or.inl e))).resolve_left (fun e => hx (Or.inr e))) hi
  have HF : Hid (Calls Tryd.prog 11 #[.int .i64 (l.length : Nat), .int .i64 i, .int .i64 8] W1 fun e w' => e = .returned (.bool (decide (fits l.length i 8))) ∧ W1 = w') := rfits_any l.length i 8 W1 HQ.qm.mw.long hi
  have HEr : Hid (Calls Tryd.prog 5 #[.iface 29 (.int .i64 1), .int .i64 1] W1 fun e w' => e = .returned (.bool true) ∧ QM B mb hb rb w0 w' l l) := (error_same 1 W1 (HQ.qm.et hE)).mono fun e w' ⟨h1, h2⟩ => ⟨h1, HQ.qm.below h2⟩
  obtain ⟨b1, b2, b3⟩ := HQ.box.cells
  have g1 : (q == 1) = false := beq_eq_false_iff_ne.2 q1
  have g2 : (q == 2) = false := beq_eq_false_iff_ne.2 q2
  have g3 : (q == 3) = false := beq_eq_false_iff_ne.2 q3
  have hno2 : decide (fits l.length i 8) = false ∨ (decide (fits l.length i 8) = true ∧ (x < 0 ∨ (¬ x < 0 ∧ 4611686018427387904 < x))) := by
    by_cases hf : fits l.length i 8
    · refine Or.inr ⟨decide_eq_true hf, ?_⟩
      by_cases hx : x < 0
      · exact Or.inl hx
      · exact Or.inr ⟨hx, (hno.resolve_left hx).resolve_right (fun e => e hf)⟩
    · exact Or.inl (decide_eq_false hf)
  clear HQ h hE hno q1 q2 q3
  generalize decide (fits l.length i 8) = D at HF hno2
  generalize l.length = L at *
  rcases hno2 with hD | ⟨hD, hx | ⟨hx0, hx⟩⟩
  all_goals
    subst hD
    go_enter Tryd.func6, Tryd.ntmps6
    go_wp2_with fail
    rw [← hW1]
    refine HR.out.mono ?_
    rintro e w2 ⟨rfl, rfl⟩
    clear HR hW1
    go_wp2_with fail
    refine HF.out.mono ?_
    rintro e w3 ⟨rfl, rfl⟩
    clear HF
    go_wp2_with fail
    refine HEr.out.mono ?_
    rintro e w4 ⟨rfl, h4⟩
    clear HEr
    go_wp2
    go_ret
    exact ⟨rfl, l, h4, hN⟩
end Go.Proofs.YtgeigfgmokikcaiDoor
