/-
  What the calls of package ring's posts and seers give: NewPost, NewSeer, Put, Free.
-/
import Derived.Test.YtnfjfffchhiooaaDoorPhased2
namespace Go.Proofs.YtnfjfffchhiooaaDoor
open Go.RowKit
set_option linter.unusedVariables false

/-- What a ring's number may be. -/
def GoodP (n : Int) : Prop := 2 ≤ n ∧ n ≤ 16
theorem GoodP.nat {n : Int} (h : GoodP n) : ∃ N : Nat, n = N ∧ 2 ≤ N ∧ N ≤ 16 := by
  unfold GoodP at h
  exact ⟨n.toNat, by omega, by omega, by omega⟩
theorem infoU : (Tryd.prog.info? 74).map (fun i => (i.zero, i.size, i.bytes)) = some (some (.agg #[]), 0, 0) := by kernel_rfl
theorem made_unit (n : Nat) (hn : n ≤ 1048576) (w : World) : (Instr.makeSlice 64 (.int .i64 (n : Int)) (.int .i64 (n : Int))).run Tryd.prog w = .ok (.slice (some ⟨w.heap.size, 0, none⟩) n n) (w.alloc (.cells #[] 74)) := by
  obtain ⟨i0, hi, hz0, hz1, hz2⟩ := info_parts infoU
  have h := run_make (P := Tryd.prog) w 64 74 i0 (.agg #[]) Tryd.underlying64 hi hz0 .i64 .i64 n n (by omega) (by omega) (by rw [hz2]; omega) (by omega)
  rw [h]
  have e : madeCells (Value.agg #[]).cells ((n : Int).toNat * i0.size) = #[] := by
    rw [hz1, Nat.mul_zero]
    simp [madeCells]
  rw [e]
  simp
set_option maxHeartbeats 800000 in
theorem pround_no (n : Int) (w : World) (h : ¬ GoodP n) : Calls Tryd.prog 31 #[.int .i64 n] w fun e w' => e = .returned (.tuple #[.agg #[.slice none 0 0, .int .i64 0, .int .i64 0], .iface 29 (.int .i64 1)]) ∧ Below w.heap.size w w' := by
  unfold GoodP at h
  have HB : Hid (∀ o, Below w.heap.size w (w.alloc o)) := fun o => alloc_below' w o
  by_cases h1 : n < 2
  · clear h
    go_enter Tryd.func31, Tryd.ntmps31
    go_wp2
    refine bodyPost_ret (v := .tuple #[.agg #[.slice none 0 0, .int .i64 0, .int .i64 0], .iface 29 (.int .i64 1)]) (by simp [results, Tryd.results31, go_sem]) rfl ?_
    exact ⟨rfl, HB.out _⟩
  · have h2 : 16 < n := by omega
    clear h
    go_enter Tryd.func31, Tryd.ntmps31
    go_wp2
    refine bodyPost_ret (v := .tuple #[.agg #[.slice none 0 0, .int .i64 0, .int .i64 0], .iface 29 (.int .i64 1)]) (by simp [results, Tryd.results31, go_sem]) rfl ?_
    exact ⟨rfl, HB.out _⟩
set_option maxHeartbeats 1600000 in
theorem pround_yes (n : Nat) (w : World) (h1 : 2 ≤ n) (h2 : n ≤ 16) : Calls Tryd.prog 31 #[.int .i64 (n : Nat)] w fun e w' => ∃ sb, e = .returned (.tuple #[.agg #[.slice (some ⟨sb, 0, none⟩) n n, .int .i64 0, .int .i64 0], .nilIface]) ∧ Below w.heap.size w w' := by
  have t1 : ¬ ((n : Int) < 2) := by omega
  have t2 : ¬ ((16 : Int) < (n : Int)) := by omega
  have hm := made_unit n (by omega)
  have HS : Hid (∀ o u, Below w.heap.size w ((w.alloc o).alloc u)) := fun o u => (alloc_below' w o).alloc (by simp) _
  clear h1 h2
  go_enter Tryd.func31, Tryd.ntmps31
  go_wp2
  refine bodyPost_ret (v := .tuple #[.agg #[.slice (some ⟨w.heap.size + 1, 0, none⟩) n n, .int .i64 0, .int .i64 0], .nilIface]) (by simp [results, Tryd.results31, go_sem]) rfl ?_
  exact ⟨⟨_, rfl⟩, HS.out _ _⟩
theorem four_set {w : World} {rb : Nat} {t : TypeId} {u0 u1 u2 u3 : Value} (h : Stc w rb t [u0, u1, u2, u3]) (v0 v1 v2 v3 : Value) : Stc ((((w.setCell ⟨rb, 0, none⟩ v0).setCell ⟨rb, 1, none⟩ v1).setCell ⟨rb, 2, none⟩ v2).setCell ⟨rb, 3, none⟩ v3) rb t [v0, v1, v2, v3] :=
  (((h.set 0 v0).set 1 v1).set 2 v2).set 3 v3
theorem below_four {B : Nat} {w0 w : World} {rb : Nat} (h : Below B w0 w) (hb : B ≤ rb) (v0 v1 v2 v3 : Value) : Below B w0 ((((w.setCell ⟨rb, 0, none⟩ v0).setCell ⟨rb, 1, none⟩ v1).setCell ⟨rb, 2, none⟩ v2).setCell ⟨rb, 3, none⟩ v3) :=
  (((h.setCell (p := ⟨rb, 0, none⟩) hb v0).setCell (p := ⟨rb, 1, none⟩) hb v1).setCell (p := ⟨rb, 2, none⟩) hb v2).setCell (p := ⟨rb, 3, none⟩) hb v3
/-- The nought that a phased round begins as. -/
theorem zero_of {w w1 : World} {Z : Obj} (hZ : Z = Obj.cells #[Value.slice none 0 0, .int .i64 0, .int .i64 0, .bool false] 68) (hb : Below (w.heap.size + 1) (w.alloc Z) w1) :
    Stc w1 w.heap.size 68 [.slice none 0 0, .int .i64 0, .int .i64 0, .bool false] ∧ Below w.heap.size w w1 := by
  refine ⟨(hb.block w.heap.size (by omega)).trans ?_, (alloc_below' w Z).trans (hb.mono (by omega))⟩
  rw [hZ]
  exact heap_alloc_new w _
/-- What lies there behind four stores. -/
def HFour (w w1 : World) : Prop := ∀ (v0 v1 v2 v3 : Value) (o : Obj),
    Stc (((((w1.setCell ⟨w.heap.size, 0, none⟩ v0).setCell ⟨w.heap.size, 1, none⟩ v1).setCell ⟨w.heap.size, 2, none⟩ v2).setCell ⟨w.heap.size, 3, none⟩ v3).alloc o) w.heap.size 68 [v0, v1, v2, v3] ∧ Below w.heap.size w (((((w1.setCell ⟨w.heap.size, 0, none⟩ v0).setCell ⟨w.heap.size, 1, none⟩ v1).setCell ⟨w.heap.size, 2, none⟩ v2).setCell ⟨w.heap.size, 3, none⟩ v3).alloc o)
theorem four_of {w w1 : World} (hst : Stc w1 w.heap.size 68 [.slice none 0 0, .int .i64 0, .int .i64 0, .bool false]) (hb : Below w.heap.size w w1) : HFour w w1 := by
  intro v0 v1 v2 v3 o
  have h1 := four_set hst v0 v1 v2 v3
  have h2 := below_four hb (Nat.le_refl _) v0 v1 v2 v3
  exact ⟨h1.below (alloc_below' _ _), h2.alloc h2.size o⟩
set_option maxHeartbeats 1600000 in
theorem phased_no (n : Int) (w : World) (h : ¬ GoodP n) : Calls Tryd.prog 25 #[.int .i64 n] w fun e w' => e = .returned (.tuple #[.agg #[.slice none 0 0, .int .i64 0, .int .i64 0, .bool false], .iface 29 (.int .i64 1)]) ∧ Below w.heap.size w w' := by
  have H : Hid (∀ o, Calls Tryd.prog 31 #[.int .i64 n] (w.alloc o) fun e w' => e = .returned (.tuple #[.agg #[.slice none 0 0, .int .i64 0, .int .i64 0], .iface 29 (.int .i64 1)]) ∧ Below (w.heap.size + 1) (w.alloc o) w') := fun o => by
    have e := pround_no n (w.alloc o) h
    rw [show (w.alloc o).heap.size = w.heap.size + 1 by simp] at e
    exact e
  clear h
  go_enter Tryd.func25, Tryd.ntmps25
  go_wp2_with fail
  refine (H.out _).mono ?_
  rintro e w1 ⟨rfl, hb⟩
  obtain ⟨hst, hb1⟩ := zero_of rfl hb
  have hlt : w.heap.size < w1.heap.size := heap_lt hst
  have HB : Hid (HFour w w1) := four_of hst hb1
  have r0 : w1.cell? ⟨w.heap.size, 0, none⟩ = some (.slice none 0 0) := hst.cell 0
  have r1 : w1.cell? ⟨w.heap.size, 1, none⟩ = some (.int .i64 0) := hst.cell 1
  have r2 : w1.cell? ⟨w.heap.size, 2, none⟩ = some (.int .i64 0) := hst.cell 2
  have r3 : w1.cell? ⟨w.heap.size, 3, none⟩ = some (.bool false) := hst.cell 3
  have f0 := hst.free 0
  have f1 := hst.free 1
  have f2 := hst.free 2
  have f3 := hst.free 3
  clear hb hb1 H hst
  go_wp2_with fail
  have hz := fun o => (HB.out (.slice none 0 0) (.int .i64 0) (.int .i64 0) (.bool false) o).1
  refine bodyPost_ret (v := .tuple #[.agg #[.slice none 0 0, .int .i64 0, .int .i64 0, .bool false], .iface 29 (.int .i64 1)]) (by simp [results, Tryd.results25, go_sem, (hz _).cell 0, (hz _).cell 1, (hz _).cell 2, (hz _).cell 3]) rfl ?_
  exact ⟨rfl, (HB.out _ _ _ _ _).2⟩
set_option maxHeartbeats 1600000 in
theorem phased_yes (n : Nat) (w : World) (h1 : 2 ≤ n) (h2 : n ≤ 16) : Calls Tryd.prog 25 #[.int .i64 (n : Nat)] w fun e w' => (∃ sb, e = .returned (.tuple #[.agg #[.slice (some ⟨sb, 0, none⟩) n n, .int .i64 0, .int .i64 0, .bool true], .nilIface])) ∧ Below w.heap.size w w' := by
  have H : Hid (∀ o, Calls Tryd.prog 31 #[.int .i64 (n : Nat)] (w.alloc o) fun e w' => (∃ sb, e = .returned (.tuple #[.agg #[.slice (some ⟨sb, 0, none⟩) n n, .int .i64 0, .int .i64 0], .nilIface])) ∧ Below (w.heap.size + 1) (w.alloc o) w') := fun o => by
    refine (pround_yes n (w.alloc o) h1 h2).mono ?_
    rintro e w' ⟨sb, he, hb⟩
    rw [show (w.alloc o).heap.size = w.heap.size + 1 by simp] at hb
    exact ⟨⟨sb, he⟩, hb⟩
  clear h1 h2
  go_enter Tryd.func25, Tryd.ntmps25
  go_wp2_with fail
  refine (H.out _).mono ?_
  rintro e w1 ⟨⟨sb, rfl⟩, hb⟩
  obtain ⟨hst, hb1⟩ := zero_of rfl hb
  have hlt : w.heap.size < w1.heap.size := heap_lt hst
  have HB : Hid (HFour w w1) := four_of hst hb1
  have r0 : w1.cell? ⟨w.heap.size, 0, none⟩ = some (.slice none 0 0) := hst.cell 0
  have r1 : w1.cell? ⟨w.heap.size, 1, none⟩ = some (.int .i64 0) := hst.cell 1
  have r2 : w1.cell? ⟨w.heap.size, 2, none⟩ = some (.int .i64 0) := hst.cell 2
  have r3 : w1.cell? ⟨w.heap.size, 3, none⟩ = some (.bool false) := hst.cell 3
  have f0 := hst.free 0
  have f1 := hst.free 1
  have f2 := hst.free 2
  have f3 := hst.free 3
  clear hb hb1 H hst
  go_wp2_with fail
  have hz := fun o => (HB.out (.slice (some ⟨sb, 0, none⟩) n n) (.int .i64 0) (.int .i64 0) (.bool true) o).1
  refine bodyPost_ret (v := .tuple #[.agg #[.slice (some ⟨sb, 0, none⟩) n n, .int .i64 0, .int .i64 0, .bool true], .nilIface]) (by simp [results, Tryd.results25, go_sem, (hz _).cell 0, (hz _).cell 1, (hz _).cell 2, (hz _).cell 3]) rfl ?_
  exact ⟨⟨_, rfl⟩, (HB.out _ _ _ _ _).2⟩
end Go.Proofs.YtnfjfffchhiooaaDoor
