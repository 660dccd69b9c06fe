/-
  What the calls of package ring's phased rounds give.
-/
import Derived.Test.YtnfjfffchhiooaaDoorBase
namespace Go.Proofs.YtnfjfffchhiooaaDoor
open Go.RowKit
set_option linter.unusedVariables false

/-- A POST OR A SEER LIES THERE: n slots that hold nothing, head h, tail t, and a phase. -/
structure PO (w : World) (T : TypeId) (n pb sb h t : Nat) (ph : Bool) : Prop where
  st : Stc w pb T [.slice (some ⟨sb, 0, none⟩) n n, .int .i64 (h : Nat), .int .i64 (t : Nat), .bool ph]
  hh : h < n
  ht : t < n
  n2 : 2 ≤ n
  nm : n ≤ 16
theorem PO.keep {S : Nat → Prop} {w w' : World} {T : TypeId} {n pb sb h t : Nat} {ph : Bool} (r : PO w T n pb sb h t ph) (hk : Keep S w w') (h1 : ¬ S pb) : PO w' T n pb sb h t ph :=
  ⟨r.st.keep hk h1, r.hh, r.ht, r.n2, r.nm⟩
theorem PO.below {w w' : World} {T : TypeId} {n pb sb h t : Nat} {ph : Bool} (r : PO w T n pb sb h t ph) (hb : Below w.heap.size w w') : PO w' T n pb sb h t ph :=
  r.keep (S := fun _ => False) (Keep.of_below hb) (fun e => e)
theorem PO.drewN {w : World} {T : TypeId} {n pb sb h t : Nat} {ph : Bool} (r : PO w T n pb sb h t ph) (q : Nat) : PO (w.drewN q) T n pb sb h t ph :=
  r.keep (S := fun _ => False) ((Keep.refl _ w).drewN q) (fun e => e)
set_option maxHeartbeats 800000 in
theorem pbehind_any {w : World} {T : TypeId} {n pb sb h t s : Nat} {ph : Bool} (r : PO w T n pb sb h t ph) (hs : s < n) :
    Calls Tryd.prog 38 #[.pointer (some ⟨pb, 0, none⟩), .int .i64 (s : Nat)] w fun e w' => e = .returned (.int .i64 (nx n s : Nat)) ∧ w' = w := by
  have c0 : w.cell? ⟨pb, 0, none⟩ = some (.slice (some ⟨sb, 0, none⟩) n n) := r.st.cell 0
  have h2 := r.n2
  have hm := r.nm
  have hn0 : ¬ ((n : Int) = 0) := by omega
  have HE : Hid (Int.tmod ((s : Int) + 1) (n : Int) = ((nx n s : Nat) : Int)) := by
    show _ = _
    unfold nx
    rw [Int.tmod_eq_emod_of_nonneg (by omega), Int.natCast_emod]
    rfl
  clear r
  go_enter Tryd.func38, Tryd.ntmps38
  go_wp2
  go_ret
  exact ⟨ret_int HE.out, rfl⟩
theorem int_beq (a b : Nat) : ((a : Int) == (b : Int)) = (a == b) := by
  by_cases e : a = b
  · subst e; simp
  · have h : ¬ (a : Int) = (b : Int) := by omega
    rw [beq_eq_false_iff_ne.mpr h, beq_eq_false_iff_ne.mpr e]
set_option maxHeartbeats 1600000 in
theorem pisFull_any {w : World} {T : TypeId} {n pb sb h t : Nat} {ph : Bool} (r : PO w T n pb sb h t ph) (v : Bool) (hv : ((nx n t : Nat) == h) = v) :
    Calls Tryd.prog 37 #[.pointer (some ⟨pb, 0, none⟩)] w fun e w' => e = .returned (.bool v) ∧ ∃ q, w' = w.drewN q := by
  have c1 : w.cell? ⟨pb, 1, none⟩ = some (.int .i64 (h : Nat)) := r.st.cell 1
  have c2 : w.cell? ⟨pb, 2, none⟩ = some (.int .i64 (t : Nat)) := r.st.cell 2
  have HC : Hid (∀ q, Calls Tryd.prog 38 #[.pointer (some ⟨pb, 0, none⟩), .int .i64 (t : Nat)] (w.drewN q) fun e w' => e = .returned (.int .i64 (nx n t : Nat)) ∧ w' = w.drewN q) := fun q => pbehind_any (r.drewN q) r.ht
  generalize nx n t = V at *
  have HD : Hid (((V : Int) == (h : Int)) = v) := by exact (int_beq _ _).trans hv
  clear r hv
  go_enter Tryd.func37, Tryd.ntmps37
  go_wp2
  go_quiet (exact (HC.out _).mono (fun _ _ ⟨he, hm⟩ => ⟨he, _, hm⟩))
  go_wp2
  go_ret
  exact ⟨by rw [← HD.out]; rfl, _, rfl⟩
set_option maxHeartbeats 1600000 in
theorem ppush_full {w : World} {T : TypeId} {n pb sb h t : Nat} {ph : Bool} (r : PO w T n pb sb h t ph) (hf : nx n t = h) :
    Calls Tryd.prog 32 #[.pointer (some ⟨pb, 0, none⟩), .agg #[]] w fun e w' => e = .returned (.iface 29 (.int .i64 3)) ∧ Below w.heap.size w w' := by
  have HW : Hid (∀ o q, Below w.heap.size w ((w.alloc o).drewN q)) := fun o q => below_drewN (alloc_below' w o) q
  have HC : Hid (∀ o, Calls Tryd.prog 37 #[.pointer (some ⟨pb, 0, none⟩)] (w.alloc o) fun e w' => e = .returned (.bool true) ∧ ∃ q, w' = (w.alloc o).drewN q) := fun o => pisFull_any (r.below (alloc_below' w o)) true (by rw [hf]; simp)
  have hlt : pb < w.heap.size := heap_lt r.st
  have c1 : w.cell? ⟨pb, 1, none⟩ = some (.int .i64 (h : Nat)) := r.st.cell 1
  have c2 : w.cell? ⟨pb, 2, none⟩ = some (.int .i64 (t : Nat)) := r.st.cell 2
  clear r hf
  go_enter Tryd.func32, Tryd.ntmps32
  go_wp2_with fail
  refine (HC.out _).mono ?_
  rintro e w1 ⟨rfl, q, rfl⟩
  go_wp2
  go_ret
  exact ⟨rfl, HW.out _ _⟩
end Go.Proofs.YtnfjfffchhiooaaDoor
