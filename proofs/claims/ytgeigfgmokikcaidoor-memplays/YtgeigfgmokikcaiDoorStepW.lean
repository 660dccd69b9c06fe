/-
  What the calls of memStep give that set a number or write.
-/
import Derived.Test.YtgeigfgmokikcaiDoorStepN
namespace Go.Proofs.YtgeigfgmokikcaiDoor
open Go.RowKit
set_option linter.unusedVariables false

theorem QB.drew {B mb hb rb H : Nat} {w0 w : World} {l r : List Nat} {k a n : Int} {s : Value} (h : QB B mb hb rb H w0 w l r k a n s) : QB B mb hb rb H w0 w.drew l r k a n s := h.below ((Below.refl _ _).drew)
/-- One byte more is laid into the document's memory. -/
theorem QB.put {B mb hb rb H : Nat} {w0 w : World} {l1 l xs : List Nat} {k a n : Int} {s : Value} {i : Nat} (h : QB B mb hb rb H w0 w l1 (lay l i xs) k a n s) (b : Nat) (hi : i + xs.length < l.length) :
    (∃ u, w.cell? ⟨rb, i + xs.length, none⟩ = some u) ∧ w.frozen? ⟨rb, i + xs.length, none⟩ = false ∧ Keep (fun q => q = rb) w (w.setCell ⟨rb, i + xs.length, none⟩ (.int .u8 (b : Int))) ∧ QB B mb hb rb H w0 (w.setCell ⟨rb, i + xs.length, none⟩ (.int .u8 (b : Int))) l1 (lay l i (xs ++ [b])) k a n s := by
  have hk : Keep (fun q => q = rb) w (w.setCell ⟨rb, i + xs.length, none⟩ (.int .u8 (b : Int))) := (Keep.refl _ w).set1 _ _
  refine ⟨⟨_, row_cell h.qm.row (i + xs.length) (by rw [lay_len (by omega)]; exact hi)⟩, row_free h.qm.row _, hk, h.right ?_ hk⟩
  have e := row_set h.qm.row (i + xs.length) b
  rw [lay_set b hi] at e
  exact e
theorem OwnA.drew {w : World} {base cap : Nat} {a : Option Addr} {ys : List Nat} (h : OwnA w base a cap ys) : OwnA w.drew base a cap ys := h.below ((Below.refl _ _).drew)
set_option maxRecDepth 100000 in
set_option maxHeartbeats 1600000 in
/-- SetNumber. -/
theorem step_set_yes {B mb hb rb : Nat} {w0 wr : World} {l : List Nat} (h : QM B mb hb rb w0 wr l l) {N : Nat} (hN : LenIs l N) (q : Int) (i x : Nat) (s : Value) (q1 : q ≠ 1) (q2 : q ≠ 2) (q3 : q ≠ 3) (hx : x ≤ 4611686018427387904) (hf : i + 8 ≤ l.length) :
    Calls Tryd.prog 6 #[.pointer (some ⟨mb, 0, none⟩), .slice (some ⟨rb, 0, none⟩) l.length l.length, .agg #[.int .i64 q, .int .i64 (i : Nat), .int .i64 (x : Nat), s]] wr fun e w' => StepPost B mb hb rb N w0 w' e := by
  have HQ := h.boxed q i x s
  obtain ⟨H, hH⟩ : ∃ H, H = wr.heap.size := ⟨_, rfl⟩
  obtain ⟨W1, hW1⟩ : ∃ W, W = wr.alloc (.cells #[.int .i64 q, .int .i64 (i : Nat), .int .i64 (x : Nat), s] 33) := ⟨_, rfl⟩
  rw [← hW1, ← hH] at HQ
  have hl := HQ.qm.mw.long
  have HR : Hid (Calls Tryd.prog 15 #[.pointer (some ⟨mb, 0, none⟩), .int .i64 (i : Nat), .int .i64 (x : Nat)] W1 fun e w' => e = .returned .nilIface ∧ Hid (QB B mb hb rb H w0 w' (lay l i (low 8 x)) l q i x s)) := (set_yes mb hb l i x W1 HQ.qm.mw hx hf).mono fun e w' ⟨h1, h2, h3⟩ => ⟨h1, HQ.left h2 h3⟩
  have HF : Hid (∀ W, Calls Tryd.prog 11 #[.int .i64 (l.length : Nat), .int .i64 (i : Nat), .int .i64 8] W fun e w' => e = .returned (.bool true) ∧ W = w') := fun W => by
    have := rfits_any l.length i 8 W hl (by omega)
    rw [decide_eq_true ⟨by omega, by omega, by omega⟩] at this
    exact this
  have HE8 : Hid (∀ W, QB B mb hb rb H w0 W (lay l i (low 8 x)) l q i x s → Calls Tryd.prog 16 #[.int .i64 (x : Nat)] W fun e w' => ∃ g c, e = .returned (.slice (some ⟨g, 0, none⟩) 8 c) ∧ rb < g ∧ Hid (QB B mb hb rb H w0 w' (lay l i (low 8 x)) (lay l i (low 0 x)) q i x s ∧ OwnA w' (rb + 1) (some ⟨g, 0, none⟩) c (low 8 x))) := fun W hW => by
    refine (eight_any x W hx).mono ?_
    rintro e w' ⟨a1, c1, rfl, o1, b1⟩
    have hlt := heap_lt hW.qm.row
    rw [low_len]
    rcases o1.parts with ⟨_, _, e0⟩ | ⟨g, cur, rfl, hg, _⟩
    · have := congrArg List.length e0
      rw [low_len] at this
      simp at this
    · exact ⟨g, c1, rfl, by omega, by show QB _ _ _ _ _ _ _ _ (lay l i []) _ _ _ _; rw [lay_nil]; exact hW.below b1, o1.base (by omega)⟩
  have HC : Hid (∀ W r, QB B mb hb rb H w0 W (lay l i (low 8 x)) r q i x s → W.cell? ⟨H, 1, none⟩ = some (.int .i64 (i : Nat)) ∧ W.cell? ⟨H, 2, none⟩ = some (.int .i64 (x : Nat))) := fun W r hW => ⟨hW.box.cells.1, hW.box.cells.2.1⟩
  have HS : Hid (∀ W g c k, k < 8 → rb < g → QB B mb hb rb H w0 W (lay l i (low 8 x)) (lay l i (low k x)) q i x s → OwnA W (rb + 1) (some ⟨g, 0, none⟩) c (low 8 x) → ∃ v : Nat, W.cell? ⟨g, k, none⟩ = some (.int .u8 (v : Int)) ∧ (∃ u, W.cell? ⟨rb, i + k, none⟩ = some u) ∧ W.frozen? ⟨rb, i + k, none⟩ = false ∧ QB B mb hb rb H w0 (W.drew.setCell ⟨rb, i + k, none⟩ (.int .u8 (v : Int))) (lay l i (low 8 x)) (lay l i (low (k + 1) x)) q i x s ∧ OwnA (W.drew.setCell ⟨rb, i + k, none⟩ (.int .u8 (v : Int))) (rb + 1) (some ⟨g, 0, none⟩) c (low 8 x)) := fun W g c k hk hg hQ hO => by
    have hlk : i + (low k x).length < l.length := by rw [low_len]; omega
    have p := hQ.drew.put (x / 2 ^ (8 * k) % 256) hlk
    have p0 := hQ.put (x / 2 ^ (8 * k) % 256) hlk
    rw [← low_snoc, low_len] at p p0
    refine ⟨x / 2 ^ (8 * k) % 256, ?_, p0.1, p0.2.1, p.2.2.2, hO.drew.keep p.2.2.1 (fun b hb => by have := (hO.ge hb).1; omega)⟩
    rcases hO.lies with e0 | ⟨b, off, e, hc⟩
    · have := congrArg List.length e0
      rw [low_len] at this
      simp at this
    · cases e
      have := hc k (by rw [low_len]; exact hk)
      rw [low_at 8 x k hk, Nat.zero_add] at this
      exact this
  have g1 : (q == 1) = false := beq_eq_false_iff_ne.2 q1
  have g2 : (q == 2) = false := beq_eq_false_iff_ne.2 q2
  have g3 : (q == 3) = false := beq_eq_false_iff_ne.2 q3
  have hx2 : (x : Int) ≤ 4611686018427387904 := by omega
  obtain ⟨b1, b2, _⟩ := HQ.box.cells
  have hil : (i : Int) + 8 ≤ ((l.length : Nat) : Int) := by omega
  have HLN : Hid (LenIs (lay l i (low 8 x)) N) := (lay_len (by rw [low_len]; exact hf)).trans hN
  clear HQ h hf q1 q2 q3 hx
  obtain ⟨Y, HY⟩ : ∃ Y, Hid (lay l i (low 8 x) = Y) := ⟨_, rfl⟩
  have HYN : Hid (LenIs Y N) := by rw [← HY.out]; exact HLN.out
  have HFin : Hid (∀ W, QB B mb hb rb H w0 W Y (lay l i (low 8 x)) q i x s → ∃ l', QM B mb hb rb w0 W l' l' ∧ LenIs l' N) := fun W hW => ⟨Y, by have := hW.qm; rw [HY.out] at this; exact this, HYN.out⟩
  rw [HY.out] at HR HE8 HC HS
  clear HY
  generalize l.length = L at *
  go_enter Tryd.func6, Tryd.ntmps6
  rw [hH, hW1] at b1 b2
  go_wp2_with fail
  rw [← hW1]
  refine HR.out.mono ?_
  rintro e w2 ⟨rfl, h2⟩
  clear HR b1 b2 hW1
  obtain ⟨b1, b2⟩ := HC.out _ _ h2.out
  rw [hH] at b1 b2
  go_wp2_with fail
  refine (HF.out w2).mono ?_
  rintro e w3 ⟨rfl, rfl⟩
  clear HF
  go_wp2_with fail
  refine (HE8.out w2 h2.out).mono ?_
  rintro e w4 ⟨g, c, rfl, hg, h4⟩
  clear HE8 h2 b1 b2
  go_wp2
  go_loopw [23] (fun j wq => ∃ k : Nat, k ≤ 8 ∧ j = .int .i64 k ∧ Hid (QB B mb hb rb H w0 wq Y (lay l i (low k x)) q i x s ∧ OwnA wq (rb + 1) (some ⟨g, 0, none⟩) c (low 8 x))) (fun j _ => 8 - (intOf j).toNat)
  case atStart => exact ⟨0, Nat.zero_le _, rfl, h4⟩
  case round =>
    obtain ⟨wo, HWO⟩ : ∃ wo, Hid (wo = wr) := ⟨_, rfl⟩
    obtain ⟨k, hk, rfl, hq⟩ := hrel
    clear h4
    by_cases hlt : k < 8
    · obtain ⟨v, s1, ⟨u, s2⟩, s3, s4, s5⟩ := HS.out _ g c k hlt hg hq.out.1 hq.out.2
      obtain ⟨b1, _⟩ := HC.out _ _ hq.out.1
      rw [hH] at b1
      have HN : Hid (_ ∧ _) := ⟨s4, s5⟩
      clear s4 s5 hq HS HC HFin
      go_wp2
      go_region
      all_goals
        go_wp2
        exact ⟨⟨k + 1, by omega, by go_num, HN.out⟩, by simp [intOf]; omega⟩
    · obtain rfl : k = 8 := by omega
      have HF := HFin.out _ hq.out.1
      have HF2 : Hid (∃ l', QM B mb hb rb w0 _ l' l' ∧ LenIs l' N) := HF
      clear hq HFin HF HS HC
      go_wp2
      go_ret
      exact ⟨rfl, HF2.out⟩
end Go.Proofs.YtgeigfgmokikcaiDoor
