/-
  What the call of record.readBatch gives: the batch that the bytes begin with, and how many bytes it has; a panic is recovered, and there is none.
-/
import Derived.Test.YtalmcjkaheofpaeDoorSum
import Derived.Defers
import Derived.Laws.Pointers
namespace Go.Proofs.YtalmcjkaheofpaeDoor
open Go.RowKit
set_option linter.unusedVariables false

theorem catch_panicking (p : Addr) (x : Bool) (u : TypeId) (pv : Value) (older : List PanicEntry) (w : World) (hc : w.cell? p = some (.bool x)) (hz : w.frozen? p = false) :
    CallsD Tryd.prog 30 #[.pointer (some p)] (.panicking ({ v := .iface u pv, recovered := false } :: older)) w fun e u' w' =>
      e = .returned (.tuple #[]) ∧ u' = .panicking ({ v := .iface u pv, recovered := true } :: older) ∧ w' = w.setCell p (.bool false) := by
  refine callsD_of_wpS Tryd.func30 rfl fun c₀ cs hu => ?_
  apply wpS_region
  simp [wpOpsS, go_sem, recoverD, hu, Tryd.ntmps30, hc, hz, bodyPostS, results, Tryd.results30]
theorem catch_idle (p : Addr) (x : Bool) (w : World) (hc : w.cell? p = some (.bool x)) (hz : w.frozen? p = false) :
    CallsD Tryd.prog 30 #[.pointer (some p)] .returning w fun e u' w' => e = .returned (.tuple #[]) ∧ u' = .returning ∧ w' = w.setCell p (.bool true) := by
  refine callsD_of_wpS Tryd.func30 rfl fun c₀ cs hu => ?_
  apply wpS_region
  simp [wpOpsS, go_sem, recoverD, hu, Tryd.ntmps30, hc, hz, bodyPostS, results, Tryd.results30]
  cases c₀
  simp_all
/-- The world in which a batch is read: a place for what is told, a reader. -/
def W1 (w : World) (da : Option Addr) (n cap : Nat) : World :=
  (w.alloc (.cells #[.bool false] 4)).alloc (.cells #[.slice da n cap, .int .i64 0] 61)
theorem w1_below (w : World) (da : Option Addr) (n cap : Nat) : Below w.heap.size w (W1 w da n cap) :=
  ((Below.refl _ _).alloc (Nat.le_refl _) _).alloc (by simp) _
theorem w1_size (w : World) (da : Option Addr) (n cap : Nat) : (W1 w da n cap).heap.size = w.heap.size + 2 := by simp [W1]
theorem w1_rd {w : World} {da : Option Addr} {bs : List Nat} {cap : Nat} (hL : Lies w da bs) (ha : AllB bs) (hl : bs.length ≤ 1073741824) (hlc : bs.length ≤ cap) (hE : ErrV w) : RD (W1 w da bs.length cap) (w.heap.size + 1) da bs cap 0 := by
  have hb := w1_below w da bs.length cap
  refine ⟨?_, ?_, ?_, hL.below hb, fun b off h1 h2 => by have := hL.lt b off h1 h2; omega, Nat.zero_le _, hE.below hb, ?_, ha, hl, hlc⟩
  · simp [W1, go_sem]
  · simp [W1, go_sem]
  · intro o; simp [W1, go_sem]
  · obtain ⟨T, pv, h⟩ := hE
    have := World.block_lt_of_cell? w _ h
    simp at this
    omega
theorem w1_ok (w : World) (da : Option Addr) (n cap : Nat) : (W1 w da n cap).cell? ⟨w.heap.size, 0, none⟩ = some (.bool false) ∧ (W1 w da n cap).frozen? ⟨w.heap.size, 0, none⟩ = false := by
  constructor
  · simp [W1, go_sem]
  · simp [W1, go_sem]
/-- What readBatch gives. -/
def BatPost (w w' : World) (e : Ending) (bs : List Nat) : Prop :=
  Below w.heap.size w w' ∧ ((∃ es k g, rbat bs = some (es, k) ∧ e = .returned (.tuple #[.slice (some ⟨g, 0, none⟩) es.length es.length, .int .i64 (k : Nat), .bool true]) ∧ EB w' g es.length es ∧ w.heap.size ≤ g) ∨ (rbat bs = none ∧ e = .returned (.tuple #[.slice none 0 0, .int .i64 0, .bool false])))
set_option maxRecDepth 20000 in
set_option maxHeartbeats 1600000 in
theorem readBatch_any (da : Option Addr) (bs : List Nat) (cap : Nat) (w : World) (hL : Lies w da bs) (ha : AllB bs) (hl : bs.length ≤ 1073741824) (hlc : bs.length ≤ cap) (hE : ErrV w) :
    Calls Tryd.prog 21 #[.slice da bs.length cap] w fun e w' => BatPost w w' e bs := by
  have hmf : ∀ (fn : Fn) (first cap : Array Value) (w : World), (Instr.makeFunc fn first cap).run Tryd.prog w = .ok (.func fn first cap) w := fun _ _ _ _ => rfl
  have HR : Hid (RD (W1 w da bs.length cap) (w.heap.size + 1) da bs cap 0) := w1_rd hL ha hl hlc hE
  have HB : Hid (Below w.heap.size w (W1 w da bs.length cap)) := w1_below w da bs.length cap
  have HO : Hid (∀ w', Keep (fun b => b = w.heap.size + 1) (W1 w da bs.length cap) w' → w'.cell? ⟨w.heap.size, 0, none⟩ = some (.bool false) ∧ w'.frozen? ⟨w.heap.size, 0, none⟩ = false) := fun w' hk => by
    have h2 := w1_ok w da bs.length cap
    have hs := w1_size w da bs.length cap
    exact ⟨by rw [hk.cell (p := ⟨w.heap.size, 0, none⟩) (by simp [hs]) (by simp)]; exact h2.1, by rw [hk.frozen (p := ⟨w.heap.size, 0, none⟩) (by simp [hs]) (by simp)]; exact h2.2⟩
  have HZ : Hid (∀ w', Keep (fun b => b = w.heap.size + 1) (W1 w da bs.length cap) w' → Below w.heap.size w w') := fun w' hk =>
    (w1_below w da bs.length cap).trans (hk.below (by rw [w1_size]; omega) (fun k e => by omega))
  clear hL ha hE
  go_enter_defers Tryd.func21, Tryd.ntmps21
  go_wp2_with fail
  refine (entries_any (w.heap.size + 1) da bs cap 0 (W1 w da bs.length cap) HR.out).mono ?_
  rintro e w2 ⟨hk2, ⟨es, u, g, hh, rfl, hEB, hg, hr2⟩ | ⟨hh, T, pv, rfl⟩⟩
  · go_wp2_with fail
    refine (sum_any (w.heap.size + 1) da bs cap (0 + u) w2 hr2).mono ?_
    rintro e w3 ⟨hk3, ⟨hs, rfl, hr3⟩ | ⟨hs, T, pv, rfl⟩⟩
    · have hc1 := hr3.c1
      obtain ⟨ho, hz⟩ := HO.out w3 (hk2.trans hk3)
      go_wp2
      go_region
      go_wp2
      have hcl : ((w3.setCell ⟨w.heap.size, 0, none⟩ (.bool true)).setCell ⟨w.heap.size, 0, none⟩ (.bool true)).cell? ⟨w.heap.size, 0, none⟩ = some (.bool true) :=
        World.cell?_setCell_same _ _ _ (u := .bool true) (World.cell?_setCell_same _ _ _ ho)
      have HP : Hid (BatPost w ((w3.setCell ⟨w.heap.size, 0, none⟩ (.bool true)).setCell ⟨w.heap.size, 0, none⟩ (.bool true)).drew (.returned (.tuple #[.slice (some ⟨g, 0, none⟩) es.length es.length, .int .i64 ((u : Int) + 4), .bool true])) bs) := by
        have hg2 : w.heap.size + 2 ≤ g := by have := hg; rw [w1_size] at this; exact this
        refine ⟨(((HZ.out w3 (hk2.trans hk3)).setCell (Nat.le_refl _) _).setCell (Nat.le_refl _) _).drew, Or.inl ⟨es, u + 4, g, ?_, rfl, ?_, by omega⟩⟩
        · rw [rbat_head, show rhead bs = some (es, u) from hh]
          simp only []
          rw [Nat.zero_add] at hs
          rw [if_pos hs]
        · have hkk : Keep (fun b => b = w.heap.size) w3 ((w3.setCell ⟨w.heap.size, 0, none⟩ (.bool true)).setCell ⟨w.heap.size, 0, none⟩ (.bool true)).drew :=
            Keep.drew (Keep.set (S := fun b => b = w.heap.size) (p := ⟨w.heap.size, 0, none⟩) (Keep.set (S := fun b => b = w.heap.size) (p := ⟨w.heap.size, 0, none⟩) (Keep.refl _ _) rfl _) rfl _)
          exact (hEB.keep hk3 (fun e => by omega)).keep hkk (fun e => by omega)
      refine leaves_cons (f := 30) (args := #[.pointer (some ⟨w.heap.size, 0, none⟩)]) (by simp) (by simp [go_sem]) ?_
      refine (catch_idle ⟨w.heap.size, 0, none⟩ true (w3.setCell ⟨w.heap.size, 0, none⟩ (.bool true)).drew (World.cell?_setCell_same w3 _ _ ho) ?_).mono ?_
      · simp [hz]
      rintro e u' w'' ⟨rfl, rfl, rfl⟩
      simp [Leaves, settle, results, Tryd.results21, go_sem, hcl]
      exact HP.out
    · obtain ⟨ho, hz⟩ := HO.out w3 (hk2.trans hk3)
      have hcl : (w3.setCell ⟨w.heap.size, 0, none⟩ (.bool false)).cell? ⟨w.heap.size, 0, none⟩ = some (.bool false) := World.cell?_setCell_same _ _ _ ho
      have HP : Hid (BatPost w (w3.setCell ⟨w.heap.size, 0, none⟩ (.bool false)) (.returned (.tuple #[.slice none 0 0, .int .i64 0, .bool false])) bs) :=
        ⟨(HZ.out w3 (hk2.trans hk3)).setCell (Nat.le_refl _) _, Or.inr ⟨by rw [rbat_head, show rhead bs = some (es, u) from hh]; simp only []; rw [Nat.zero_add] at hs; rw [if_neg hs], rfl⟩⟩
      go_wp2
      refine leaves_cons (f := 30) (args := #[.pointer (some ⟨w.heap.size, 0, none⟩)]) (by simp) (by simp [go_sem]) ?_
      refine (catch_panicking ⟨w.heap.size, 0, none⟩ false T pv [] _ ho hz).mono ?_
      rintro e u' w'' ⟨rfl, rfl, rfl⟩
      simp [Leaves, settle, results, Tryd.results21, go_sem, hcl]
      exact HP.out
  · obtain ⟨ho, hz⟩ := HO.out w2 hk2
    have hcl : (w2.setCell ⟨w.heap.size, 0, none⟩ (.bool false)).cell? ⟨w.heap.size, 0, none⟩ = some (.bool false) := World.cell?_setCell_same _ _ _ ho
    have HP : Hid (BatPost w (w2.setCell ⟨w.heap.size, 0, none⟩ (.bool false)) (.returned (.tuple #[.slice none 0 0, .int .i64 0, .bool false])) bs) :=
      ⟨(HZ.out w2 hk2).setCell (Nat.le_refl _) _, Or.inr ⟨by rw [rbat_head, show rhead bs = none from hh], rfl⟩⟩
    go_wp2
    refine leaves_cons (f := 30) (args := #[.pointer (some ⟨w.heap.size, 0, none⟩)]) (by simp) (by simp [go_sem]) ?_
    refine (catch_panicking ⟨w.heap.size, 0, none⟩ false T pv [] _ ho hz).mono ?_
    rintro e u' w'' ⟨rfl, rfl, rfl⟩
    simp [Leaves, settle, results, Tryd.results21, go_sem, hcl]
    exact HP.out
end Go.Proofs.YtalmcjkaheofpaeDoor
