/-
  What the calls of memStep give that write.
-/
import Derived.Test.YtgeigfgmokikcaiDoorStepW
namespace Go.Proofs.YtgeigfgmokikcaiDoor
open Go.RowKit
set_option linter.unusedVariables false

theorem QB.keep {S : Nat → Prop} {B mb hb rb H : Nat} {w0 w w' : World} {l r : List Nat} {k a n : Int} {s : Value} (h : QB B mb hb rb H w0 w l r k a n s) (hk : Keep S w w') (h1 : ¬ S mb) (h2 : ¬ S hb) (h3 : ¬ S rb) (h4 : ¬ S H) (hS : ∀ k, S k → B ≤ k) : QB B mb hb rb H w0 w' l r k a n s :=
  ⟨h.qm.keep hk h1 h2 h3 hS, h.box.keep hk h4, h.hm, h.hh, h.hr, h.hB⟩
/-- The copy of the data that a step makes. -/
structure Cp (B mb hb rb H : Nat) (w0 w : World) (l : List Nat) (k i n : Int) (s : Value) (a : Option Addr) (c : Nat) (xs : List Nat) : Prop where
  qb : QB B mb hb rb H w0 w l l k i n s
  own : OwnA w (H + 1) a c xs
theorem QM.copied {B mb hb rb : Nat} {w0 wr : World} {l : List Nat} (h : QM B mb hb rb w0 wr l l) (k i n : Int) (a : Option Addr) (xs : List Nat) (cap : Nat) (hI : BIn w0 a cap xs) :
    OwnA ((wr.alloc (.cells #[.int .i64 k, .int .i64 i, .int .i64 n, .slice a xs.length cap] 33)).alloc (.cells #[] 5)) (wr.heap.size + 1) (some ⟨wr.heap.size + 1, 0, none⟩) 0 [] ∧ Lies ((wr.alloc (.cells #[.int .i64 k, .int .i64 i, .int .i64 n, .slice a xs.length cap] 33)).alloc (.cells #[] 5)) a xs ∧ wr.heap.size + 1 ≤ ((wr.alloc (.cells #[.int .i64 k, .int .i64 i, .int .i64 n, .slice a xs.length cap] 33)).alloc (.cells #[] 5)).heap.size ∧ (∀ a2 c2 w2, OwnA w2 (wr.heap.size + 1) a2 c2 xs → Keep (blk (some ⟨wr.heap.size + 1, 0, none⟩)) ((wr.alloc (.cells #[.int .i64 k, .int .i64 i, .int .i64 n, .slice a xs.length cap] 33)).alloc (.cells #[] 5)) w2 → Cp B mb hb rb wr.heap.size w0 w2 l k i n (.slice a xs.length cap) a2 c2 xs) := by
  have hq := h.boxed k i n (.slice a xs.length cap)
  have b1 := alloc_below' wr (.cells #[.int .i64 k, .int .i64 i, .int .i64 n, .slice a xs.length cap] 33)
  generalize hT : wr.alloc (.cells #[.int .i64 k, .int .i64 i, .int .i64 n, .slice a xs.length cap] 33) = T at hq b1 ⊢
  have hs : T.heap.size = wr.heap.size + 1 := by rw [← hT]; simp
  have b2 := alloc_below' T (.cells #[] 5)
  have ho := own_new T (wr.heap.size + 1) [] (by omega) (by simp) #[] rfl
  rw [hs] at ho
  refine ⟨ho, hI.lies.below (w' := T.alloc (.cells #[] 5)) ((hq.below b2).qm.bel.mono (Nat.le_of_eq h.sz)), by rw [← hs]; exact b2.size, fun a2 c2 w2 o2 k2 => ?_⟩
  have hq2 := hq.below b2
  have lm := h.mw.lt
  have lr := heap_lt h.row
  have hbk : ∀ b, blk (some ⟨wr.heap.size + 1, 0, none⟩) b → b = wr.heap.size + 1 := fun b ⟨x, e, e2⟩ => by cases e; exact e2.symm
  exact ⟨hq2.keep k2 (fun e => by have := hbk _ e; omega) (fun e => by have := hbk _ e; omega) (fun e => by have := hbk _ e; omega) (fun e => by have := hbk _ e; omega) (fun b e => by have := hbk _ e; have := h.ge; omega), o2⟩
theorem Cp.cell {B mb hb rb H : Nat} {w0 w : World} {l : List Nat} {k i n : Int} {s : Value} {a : Option Addr} {c : Nat} {xs : List Nat} (h : Cp B mb hb rb H w0 w l k i n s a c xs) : w.cell? ⟨H, 1, none⟩ = some (.int .i64 i) := h.qb.box.cells.1
set_option maxRecDepth 100000 in
set_option maxHeartbeats 1600000 in
/-- Write, refused. -/
theorem step_write_no {B mb hb rb : Nat} {w0 wr : World} {l : List Nat} (h : QM B mb hb rb w0 wr l l) {N : Nat} (hN : LenIs l N) (hE : EType w0) (i n : Int) (a : Option Addr) (xs : List Nat) (cap : Nat) (hI : BIn w0 a cap xs) (hi : -9223372036854775808 ≤ i ∧ i ≤ 9223372036854775807) (hf : ¬ fits l.length i (xs.length : Nat)) :
    Calls Tryd.prog 6 #[.pointer (some ⟨mb, 0, none⟩), .slice (some ⟨rb, 0, none⟩) l.length l.length, .agg #[.int .i64 2, .int .i64 i, .int .i64 n, .slice a xs.length cap]] wr fun e w' => StepPost B mb hb rb N w0 w' e := by
  obtain ⟨c1, c2, c3, c4⟩ := h.copied 2 i n a xs cap hI
  have C1 : Hid (OwnA ((wr.alloc (.cells #[.int .i64 2, .int .i64 i, .int .i64 n, .slice a xs.length cap] 33)).alloc (.cells #[] 5)) (wr.heap.size + 1) (some ⟨wr.heap.size + 1, 0, none⟩) 0 [] ∧ Lies ((wr.alloc (.cells #[.int .i64 2, .int .i64 i, .int .i64 n, .slice a xs.length cap] 33)).alloc (.cells #[] 5)) a xs ∧ wr.heap.size + 1 ≤ ((wr.alloc (.cells #[.int .i64 2, .int .i64 i, .int .i64 n, .slice a xs.length cap] 33)).alloc (.cells #[] 5)).heap.size) := ⟨c1, c2, c3⟩
  have C4 : Hid (∀ a2 c2 w2, OwnA w2 (wr.heap.size + 1) a2 c2 xs → Keep (blk (some ⟨wr.heap.size + 1, 0, none⟩)) ((wr.alloc (.cells #[.int .i64 2, .int .i64 i, .int .i64 n, .slice a xs.length cap] 33)).alloc (.cells #[] 5)) w2 → Cp B mb hb rb wr.heap.size w0 w2 l 2 i n (.slice a xs.length cap) a2 c2 xs) := c4
  have HX : Hid (xs.length ≤ 140737488355328 ∧ (a = none → cap = 0)) := ⟨hI.big, hI.nil⟩
  have HW : Hid (∀ W a2 c2, Cp B mb hb rb wr.heap.size w0 W l 2 i n (.slice a xs.length cap) a2 c2 xs → Calls Tryd.prog 12 #[.pointer (some ⟨mb, 0, none⟩), .int .i64 i, .slice a2 xs.length c2] W fun e w' => e = .returned (.iface 29 (.int .i64 1)) ∧ W = w') := fun W a2 c2 hW => write_no mb hb l i a2 xs.length c2 W hW.qb.qm.mw hf hi
  have HF : Hid (∀ W, Calls Tryd.prog 11 #[.int .i64 (l.length : Nat), .int .i64 i, .int .i64 (xs.length : Nat)] W fun e w' => e = .returned (.bool false) ∧ W = w') := fun W => by
    have := rfits_any l.length i (xs.length : Nat) W h.mw.long hi
    rw [decide_eq_false hf] at this
    exact this
  have HEr : Hid (∀ W a2 c2, Cp B mb hb rb wr.heap.size w0 W l 2 i n (.slice a xs.length cap) a2 c2 xs → Calls Tryd.prog 5 #[.iface 29 (.int .i64 1), .int .i64 1] W fun e w' => e = .returned (.bool true) ∧ QM B mb hb rb w0 w' l l) := fun W a2 c2 hW => (error_same 1 W (hW.qb.qm.et hE)).mono fun e w' ⟨h1, h2⟩ => ⟨h1, hW.qb.qm.below h2⟩
  clear h hE hf c1 c2 c3 c4 hI
  generalize l.length = L at *
  go_enter Tryd.func6, Tryd.ntmps6
  go_wp2_with (at_builtin; refine app_step rfl (.tmp 85) (.tmp 87) rfl (wr.heap.size + 1) (some ⟨wr.heap.size + 1, 0, none⟩) 0 [] (by rfl) C1.out.1 a cap xs (by rfl) HX.out.2 C1.out.2.1 xs rfl HX.out.1 C1.out.2.2 ?_)
  intro a2 c2 w2 o2 k2
  have HC : Hid (Cp B mb hb rb wr.heap.size w0 w2 l 2 i n (.slice a xs.length cap) a2 c2 xs) := C4.out a2 c2 w2 o2 k2
  clear o2 k2 C1 C4
  have b1 := HC.out.cell
  go_wp2_with fail
  refine (HW.out _ _ _ HC.out).mono ?_
  rintro e w3 ⟨rfl, rfl⟩
  clear HW
  go_wp2_with fail
  refine (HF.out _).mono ?_
  rintro e w3 ⟨rfl, rfl⟩
  clear HF
  go_wp2_with fail
  refine (HEr.out _ _ _ HC.out).mono ?_
  rintro e w4 ⟨rfl, h4⟩
  clear HEr
  go_wp2
  go_ret
  exact ⟨rfl, l, h4, hN⟩
set_option maxRecDepth 100000 in
set_option maxHeartbeats 3200000 in
/-- Write. -/
theorem step_write_yes {B mb hb rb : Nat} {w0 ws : World} {l : List Nat} (h : QM B mb hb rb w0 ws l l) {N : Nat} (hN : LenIs l N) (i : Nat) (n : Int) (a : Option Addr) (xs : List Nat) (cap : Nat) (hI : BIn w0 a cap xs) (hf : i + xs.length ≤ l.length) :
    Calls Tryd.prog 6 #[.pointer (some ⟨mb, 0, none⟩), .slice (some ⟨rb, 0, none⟩) l.length l.length, .agg #[.int .i64 2, .int .i64 (i : Nat), .int .i64 n, .slice a xs.length cap]] ws fun e w' => StepPost B mb hb rb N w0 w' e := by
  obtain ⟨c1, c2, c3, c4⟩ := h.copied 2 i n a xs cap hI
  have C1 : Hid (OwnA ((ws.alloc (.cells #[.int .i64 2, .int .i64 (i : Nat), .int .i64 n, .slice a xs.length cap] 33)).alloc (.cells #[] 5)) (ws.heap.size + 1) (some ⟨ws.heap.size + 1, 0, none⟩) 0 [] ∧ Lies ((ws.alloc (.cells #[.int .i64 2, .int .i64 (i : Nat), .int .i64 n, .slice a xs.length cap] 33)).alloc (.cells #[] 5)) a xs ∧ ws.heap.size + 1 ≤ ((ws.alloc (.cells #[.int .i64 2, .int .i64 (i : Nat), .int .i64 n, .slice a xs.length cap] 33)).alloc (.cells #[] 5)).heap.size) := ⟨c1, c2, c3⟩
  obtain ⟨H, hH⟩ : ∃ H, Hid (H = ws.heap.size) := ⟨_, rfl⟩
  have hl := h.mw.long
  have C4 : Hid (∀ a2 c2 w2, OwnA w2 (ws.heap.size + 1) a2 c2 xs → Keep (blk (some ⟨ws.heap.size + 1, 0, none⟩)) ((ws.alloc (.cells #[.int .i64 2, .int .i64 (i : Nat), .int .i64 n, .slice a xs.length cap] 33)).alloc (.cells #[] 5)) w2 → Cp B mb hb rb ws.heap.size w0 w2 l 2 i n (.slice a xs.length cap) a2 c2 xs) := c4
  have HX : Hid (xs.length ≤ 140737488355328 ∧ (a = none → cap = 0)) := ⟨hI.big, hI.nil⟩
  have lm := h.mw.lt
  have lr := heap_lt h.row
  obtain ⟨Y, HY⟩ : ∃ Y, Hid (lay l i xs = Y) := ⟨_, rfl⟩
  have HW : Hid (∀ W a2 c2, Cp B mb hb rb ws.heap.size w0 W l 2 i n (.slice a xs.length cap) a2 c2 xs → Calls Tryd.prog 12 #[.pointer (some ⟨mb, 0, none⟩), .int .i64 (i : Nat), .slice a2 xs.length c2] W fun e w' => e = .returned .nilIface ∧ Hid (QB B mb hb rb ws.heap.size w0 w' Y (lay l i (xs.take 0)) 2 i n (.slice a xs.length cap) ∧ Flip w' (ws.heap.size + 1) a2 xs 0)) := fun W a2 c2 hW => by
    refine (write_yes mb hb l i a2 xs c2 W hW.qb.qm.mw hW.own.lies hI.all hf).mono ?_
    rintro e w' ⟨h1, h2, h3⟩
    rw [HY.out] at h2
    refine ⟨h1, ?_, hW.own.flip.keep h3 (fun b e => by rw [e]; omega)⟩
    show QB _ _ _ _ _ _ _ _ (lay l i []) _ _ _ _
    rw [lay_nil]
    exact hW.qb.left h2 h3
  have HF : Hid (∀ W, Calls Tryd.prog 11 #[.int .i64 (l.length : Nat), .int .i64 (i : Nat), .int .i64 (xs.length : Nat)] W fun e w' => e = .returned (.bool true) ∧ W = w') := fun W => by
    have := rfits_any l.length i (xs.length : Nat) W hl (by omega)
    rw [decide_eq_true ⟨by omega, by omega, by omega⟩] at this
    exact this
  have HS : Hid (∀ W g k, k < xs.length → ws.heap.size + 1 ≤ g → QB B mb hb rb ws.heap.size w0 W Y (lay l i (xs.take k)) 2 i n (.slice a xs.length cap) → Flip W (ws.heap.size + 1) (some ⟨g, 0, none⟩) xs k → (∃ u, W.cell? ⟨rb, i + k, none⟩ = some u) ∧ W.frozen? ⟨rb, i + k, none⟩ = false ∧ (∃ u, (W.setCell ⟨rb, i + k, none⟩ (.int .u8 ((xs[k]?.getD 0 : Nat) : Int))).cell? ⟨g, k, none⟩ = some u) ∧ (W.setCell ⟨rb, i + k, none⟩ (.int .u8 ((xs[k]?.getD 0 : Nat) : Int))).frozen? ⟨g, k, none⟩ = false ∧ QB B mb hb rb ws.heap.size w0 ((W.drew.setCell ⟨rb, i + k, none⟩ (.int .u8 ((xs[k]?.getD 0 : Nat) : Int))).setCell ⟨g, k, none⟩ (.int .u8 9)) Y (lay l i (xs.take (k + 1))) 2 i n (.slice a xs.length cap) ∧ Flip ((W.drew.setCell ⟨rb, i + k, none⟩ (.int .u8 ((xs[k]?.getD 0 : Nat) : Int))).setCell ⟨g, k, none⟩ (.int .u8 9)) (ws.heap.size + 1) (some ⟨g, 0, none⟩) xs (k + 1)) := fun W g k hk hg hQ hFl => by
    have htl : (xs.take k).length = k := by rw [List.length_take]; omega
    have hlk : i + (xs.take k).length < l.length := by rw [htl]; omega
    have p := hQ.drew.put (xs[k]?.getD 0) hlk
    have p0 := hQ.put (xs[k]?.getD 0) hlk
    rw [← take_snocN xs k hk, htl] at p p0
    have hFd : Flip W.drew (ws.heap.size + 1) (some ⟨g, 0, none⟩) xs k := hFl.below ((Below.refl _ _).drew)
    have hF2 := hFd.keep p.2.2.1 (fun b e => by rw [e]; omega)
    obtain ⟨g', e, _, _, f1, f2⟩ := hF2 k (Nat.le_refl _) hk
    cases e
    exact ⟨p0.1, p0.2.1, ⟨_, f1⟩, f2, p.2.2.2.far g k _ (by omega) (by omega) (by omega) (by omega) (by have := h.ge; omega), hF2.set _⟩
  have HC : Hid (∀ W r, QB B mb hb rb ws.heap.size w0 W Y r 2 i n (.slice a xs.length cap) → W.cell? ⟨ws.heap.size, 1, none⟩ = some (.int .i64 (i : Nat))) := fun W r hW => hW.box.cells.1
  have HFin : Hid (∀ W, QB B mb hb rb ws.heap.size w0 W Y (lay l i (xs.take xs.length)) 2 i n (.slice a xs.length cap) → ∃ l', QM B mb hb rb w0 W l' l' ∧ LenIs l' N) := fun W hW => ⟨Y, by have := hW.qm; rw [List.take_of_length_le (Nat.le_refl _), HY.out] at this; exact this, by rw [← HY.out]; exact (lay_len hf).trans hN⟩
  have hil : (i : Int) + ((xs.length : Nat) : Int) ≤ ((l.length : Nat) : Int) := by omega
  have hll : ((l.length : Nat) : Int) ≤ 16384 := by omega
  have hx9 : xs.length ≤ 16384 := by omega
  have hl9 : l.length ≤ 16384 := hl
  clear h hf c1 c2 c3 c4 hI lm lr HY hl
  generalize l.length = L at *
  go_enter Tryd.func6, Tryd.ntmps6
  go_wp2_with (at_builtin; refine app_step rfl (.tmp 85) (.tmp 87) rfl (ws.heap.size + 1) (some ⟨ws.heap.size + 1, 0, none⟩) 0 [] (by rfl) C1.out.1 a cap xs (by rfl) HX.out.2 C1.out.2.1 xs rfl HX.out.1 C1.out.2.2 ?_)
  intro a2 c2 w2 o2 k2
  have HCp : Hid (Cp B mb hb rb ws.heap.size w0 w2 l 2 i n (.slice a xs.length cap) a2 c2 xs) := C4.out a2 c2 w2 o2 k2
  clear o2 k2 C1 C4
  have b1 := HCp.out.cell
  go_wp2_with fail
  refine (HW.out _ _ _ HCp.out).mono ?_
  rintro e w3 ⟨rfl, h3⟩
  clear HW b1 HCp
  have b1 := HC.out _ _ h3.out.1
  go_wp2_with fail
  refine (HF.out _).mono ?_
  rintro e w4 ⟨rfl, rfl⟩
  clear HF b1
  go_wp2
  go_loopw [15] (fun j wq => ∃ k : Nat, k ≤ xs.length ∧ j = .int .i64 k ∧ Hid (QB B mb hb rb ws.heap.size w0 wq Y (lay l i (xs.take k)) 2 i n (.slice a xs.length cap) ∧ Flip wq (ws.heap.size + 1) a2 xs k)) (fun j _ => xs.length - (intOf j).toNat)
  case atStart => exact ⟨0, Nat.zero_le _, rfl, h3⟩
  case round =>
    obtain ⟨k, hk, rfl, hq⟩ := hrel
    clear h3
    by_cases hlt : k < xs.length
    · obtain ⟨gd, hgd, hge, _, hcd, hfd⟩ := hq.out.2 k (Nat.le_refl _) hlt
      subst hgd
      obtain ⟨⟨u, s2⟩, s3, ⟨u2, s4⟩, s5, s6, s7⟩ := HS.out _ gd k hlt hge hq.out.1 hq.out.2
      have b1 := HC.out _ _ hq.out.1
      have HN : Hid (_ ∧ _) := ⟨s6, s7⟩
      clear s6 s7 hq HS HC HFin
      generalize xs[k]?.getD 0 = v at *
      go_wp2
      go_region
      all_goals
        go_wp2
        exact ⟨⟨k + 1, by omega, by go_num, HN.out⟩, by simp [intOf]; omega⟩
    · obtain rfl : k = xs.length := by omega
      have HF := HFin.out _ hq.out.1
      have HF2 : Hid (∃ l', QM B mb hb rb w0 _ l' l' ∧ LenIs l' N) := HF
      clear hq HFin HF HS HC
      go_wp2
      go_ret
      exact ⟨rfl, HF2.out⟩
end Go.Proofs.YtgeigfgmokikcaiDoor
