/-
  The walk of granarylaw3.RingSees: it returns true, and nothing that was there has turned.
-/
import Derived.Test.YtnfjfffchhiooaaDoorTake
import Derived.Test.YtnfjfffchhiooaaDoorQuo
import Derived.Test.YtnfjfffchhiooaaDoorTold
namespace Go.Proofs.YtnfjfffchhiooaaDoor
open Go.RowKit
set_option linter.unusedVariables false

set_option maxHeartbeats 1600000 in
/-- The same numbers are the same. -/
theorem ints_same (a b : Option Addr) (ca cb L : Nat) (l : List Int) (w : World) (hl : l.length = L) (hL : L ≤ 1048576) (h1 : IL w a l) (h2 : IL w b l) :
    Calls Tryd.prog 18 #[.slice a L ca, .slice b L cb] w fun e w' => e = .returned (.bool true) ∧ Below w.heap.size w w' := by
  have ht : (((L : Nat) : Int) != ((L : Nat) : Int)) = false := by simp
  have HA : Hid (∀ w', Below w.heap.size w w' → ∀ i, i < L → ∃ g o g' o', a = some ⟨g, o, none⟩ ∧ b = some ⟨g', o', none⟩ ∧ w'.cell? ⟨g, o + i, none⟩ = some (.int .i64 (gI l i)) ∧ w'.cell? ⟨g', o' + i, none⟩ = some (.int .i64 (gI l i))) := fun w' hb i hi => by
    obtain ⟨g, o, ha, hc⟩ := (h1.below hb).some_of (i := i) (by omega)
    obtain ⟨g', o', hb', hc'⟩ := (h2.below hb).some_of (i := i) (by omega)
    exact ⟨g, o, g', o', ha, hb', hc i (by omega), hc' i (by omega)⟩
  have H0 : Hid (Below w.heap.size w w) := Below.refl _ _
  clear h1 h2 hl
  go_enter Tryd.func18, Tryd.ntmps18
  go_wp2
  go_loopw [5] (fun j wq => ∃ (i : Nat), i ≤ L ∧ j = .int .i64 i ∧ Hid (Below w.heap.size w wq)) (fun j _ => L - (intOf j).toNat)
  case atStart => exact ⟨0, Nat.zero_le _, rfl, H0.out⟩
  case round =>
    obtain ⟨i, hi, rfl, hR⟩ := hrel
    clear H0
    by_cases hlt : i < L
    · obtain ⟨g, o, g', o', rfl, rfl, c1, c2⟩ := HA.out wr hR.out i hlt
      have HN : Hid (∀ q, Below w.heap.size w (wr.drewN q)) := fun q => below_drewN hR.out q
      clear hR
      generalize gI l i = x at *
      go_wp2
      go_quiet (fail)
      go_wp2
      exact ⟨⟨i + 1, by omega, by go_num, HN.out _⟩, by simp [intOf]; omega⟩
    · obtain rfl : i = L := by omega
      go_wp2
      go_ret
      exact ⟨rfl, hR.out⟩
/-- Lists of phases that came in. -/
structure PhAt (w : World) (a : Option Addr) (L : Nat) (ph : Nat → Bool) : Prop where
  at_ : L = 0 ∨ ∃ g o, a = some ⟨g, o, none⟩ ∧ BR w g o L ph
/-- .. many of them. -/
def RDs (w : World) (a : Option Addr) (N : Nat) : Prop := N = 0 ∨ ∃ b off, a = some ⟨b, off, none⟩ ∧ ∀ i, i < N → ∃ a1 L c ph, w.cell? ⟨b, off + i, none⟩ = some (.slice a1 L c) ∧ L ≤ 9223372036854775807 ∧ PhAt w a1 L ph
set_option maxRecDepth 100000 in
set_option maxHeartbeats 1600000 in
theorem sees_no (n : Int) (a2 : Option Addr) (n2 cap2 : Nat) (w : World) (h : ¬ GoodP n) (hE : EType w) : Calls Tryd.prog 5 #[.int .i64 n, .slice a2 n2 cap2] w fun e w' => e = .returned (.bool true) ∧ Below w.heap.size w w' := by
  have HF := seer_no n w h
  have HE : Hid (∀ w', Below w.heap.size w w' → EType w') := fun w' hb => hE.below hb hE.pos
  unfold GoodP at h
  have ht : (n < 2) ∨ (¬ n < 2 ∧ 16 < n) := by omega
  clear hE h
  rcases ht with h1 | ⟨h1, h2⟩
  · have t1 : decide (n < 2) = true := decide_eq_true h1
    clear h1
    go_enter Tryd.func5, Tryd.ntmps5
    go_wp2_with fail
    refine HF.mono ?_
    rintro e w1 ⟨rfl, hb⟩
    have HB := error_same 1 w1 (HE.out _ hb)
    have HBe : Hid (Below w.heap.size w w1) := hb
    clear hb HF
    go_wp2_with fail
    refine HB.mono ?_
    rintro e w2 ⟨rfl, hb2⟩
    have H2 : Hid (Below w.heap.size w w2) := HBe.out.trans (hb2.mono HBe.out.size)
    clear hb2 HB
    go_wp2
    go_ret
    exact ⟨rfl, H2.out⟩
  · have t1 : decide (n < 2) = false := decide_eq_false h1
    have t2 : decide (16 < n) = true := decide_eq_true h2
    clear h1 h2
    go_enter Tryd.func5, Tryd.ntmps5
    go_wp2_with fail
    refine HF.mono ?_
    rintro e w1 ⟨rfl, hb⟩
    have HB := error_same 1 w1 (HE.out _ hb)
    have HBe : Hid (Below w.heap.size w w1) := hb
    clear hb HF
    go_wp2_with fail
    refine HB.mono ?_
    rintro e w2 ⟨rfl, hb2⟩
    have H2 : Hid (Below w.heap.size w w2) := HBe.out.trans (hb2.mono HBe.out.size)
    clear hb2 HB
    go_wp2
    go_ret
    exact ⟨rfl, H2.out⟩
/-- WHAT LIES THERE BETWEEN TWO CALLS: a seer of the call's own. -/
structure SS (w wr : World) (T : TypeId) (n pb sb q : Nat) : Prop where
  pv : PV wr T n pb sb (q % n) q
  bel : Below w.heap.size w wr
  ge : w.heap.size ≤ pb
theorem SS.below {w wr w' : World} {T : TypeId} {n pb sb q : Nat} (r : SS w wr T n pb sb q) (hb : Below wr.heap.size wr w') : SS w w' T n pb sb q :=
  ⟨r.pv.below hb, r.bel.trans (hb.mono r.bel.size), r.ge⟩
theorem SS.step {w wr w' : World} {T : TypeId} {n pb sb q q' : Nat} (r : SS w wr T n pb sb q) (hp : PV w' T n pb sb (q' % n) q') (hk : Keep (fun b => b = pb) wr w') : SS w w' T n pb sb q' :=
  ⟨hp, r.bel.trans (hk.below r.bel.size (fun b e => by have := r.ge; omega)), r.ge⟩
/-- .. while what it should have taken is written down. -/
structure SW (w wr : World) (T : TypeId) (n pb sb q k m B : Nat) (a a' : Option Addr) (cap cap' : Nat) (ph : Nat → Bool) : Prop where
  ss : SS w wr T n pb sb (q + k)
  il : IL wr a (tkL n q k)
  ab : ∀ b, blk a b → b < B
  own : OwnI wr B a' cap' (tkL n q m)
  all : ∀ i, i < m → ph ((q + i) % n) = phs n (q + i)
  B1 : pb < B
  B2 : B ≤ wr.heap.size
  B0 : w.heap.size ≤ B
theorem SW.drewN {w wr : World} {T : TypeId} {n pb sb q k m B : Nat} {a a' : Option Addr} {cap cap' : Nat} {ph : Nat → Bool} (h : SW w wr T n pb sb q k m B a a' cap cap' ph) (x : Nat) : SW w (wr.drewN x) T n pb sb q k m B a a' cap cap' ph :=
  have hb : Below wr.heap.size wr (wr.drewN x) := below_drewN (Below.refl _ _) x
  ⟨h.ss.below hb, h.il.below hb, h.ab, h.own.below hb, h.all, h.B1, Nat.le_trans h.B2 hb.size, h.B0⟩
theorem SW.own1 {w wr : World} {T : TypeId} {n pb sb q k m B : Nat} {a a' : Option Addr} {cap cap' : Nat} {ph : Nat → Bool} (h : SW w wr T n pb sb q k m B a a' cap cap' ph) (o : Obj) : OwnI (wr.alloc o) B a' cap' (tkL n q m) ∧ B ≤ (wr.alloc o).heap.size :=
  ⟨h.own.below (alloc_below' _ _), Nat.le_trans h.B2 (alloc_below' _ _).size⟩
theorem SW.more {w wr w2 : World} {T : TypeId} {n pb sb q k m B : Nat} {a a' a1 : Option Addr} {cap cap' c1 : Nat} {ph : Nat → Bool} (h : SW w wr T n pb sb q k m B a a' cap cap' ph) (hm : ph ((q + m) % n) = phs n (q + m)) (o : Obj) (ho : OwnI w2 B a1 c1 (tkL n q (m + 1))) (hk : Keep (blk a') (wr.alloc o) w2) : SW w w2 T n pb sb q k (m + 1) B a a1 cap c1 ph := by
  have k1 : Keep (blk a') wr w2 := ((Keep.refl _ wr).alloc o).trans hk
  have hB1 := h.B1
  have hB0 := h.B0
  have hnb : ∀ b, blk a' b → B ≤ b := fun b hb => (h.own.blk hb).1
  refine ⟨⟨h.ss.pv.keep k1 (fun e => by have := hnb _ e; omega), h.ss.bel.trans (k1.below h.ss.bel.size (fun b e => by have := hnb _ e; omega)), h.ss.ge⟩, h.il.keep k1 (fun b hb _ e => by have := hnb _ e; have := h.ab _ hb; omega), h.ab, ho, ?_, hB1, Nat.le_trans h.B2 k1.size, hB0⟩
  intro i hi
  by_cases e : i = m
  · subst e; exact hm
  · exact h.all i (by omega)
end Go.Proofs.YtnfjfffchhiooaaDoor
