/-
  What the calls of package ring's phased rounds give: push where there is room, goOn.
-/
import Derived.Test.YtnfjfffchhiooaaDoorPhased
namespace Go.Proofs.YtnfjfffchhiooaaDoor
open Go.RowKit
set_option linter.unusedVariables false

theorem PO.tail {w : World} {T : TypeId} {n pb sb h t : Nat} {ph : Bool} (r : PO w T n pb sb h t ph) (q : Nat) (o : Obj) : PO (((w.alloc o).drewN q).setCell ⟨pb, 2, none⟩ (.int .i64 (nx n t : Nat))) T n pb sb h (nx n t) ph :=
  ⟨((r.below (alloc_below' w o)).drewN q).st.set 2 _, r.hh, nx_lt r.n2, r.n2, r.nm⟩
theorem keep_one {w : World} {pb : Nat} (o : Obj) (q i : Nat) (u : Value) : Keep (fun b => b = pb) w (((w.alloc o).drewN q).setCell ⟨pb, i, none⟩ u) :=
  (((Keep.refl _ w).alloc o).drewN q).set1 i u
set_option maxHeartbeats 3200000 in
theorem ppush_room {w : World} {T : TypeId} {n pb sb h t : Nat} {ph : Bool} (r : PO w T n pb sb h t ph) (hf : ¬ nx n t = h) :
    Calls Tryd.prog 32 #[.pointer (some ⟨pb, 0, none⟩), .agg #[]] w fun e w' => e = .returned .nilIface ∧ PO w' T n pb sb h (nx n t) ph ∧ Keep (fun b => b = pb) w w' := by
  have HC : Hid (∀ o, ∀ q, Calls Tryd.prog 38 #[.pointer (some ⟨pb, 0, none⟩), .int .i64 (t : Nat)] ((w.alloc o).drewN q) fun e w' => e = .returned (.int .i64 (nx n t : Nat)) ∧ w' = (w.alloc o).drewN q) := fun o q =>
    pbehind_any ((r.below (alloc_below' w o)).drewN q) r.ht
  have HC1 : Hid (∀ o, Calls Tryd.prog 37 #[.pointer (some ⟨pb, 0, none⟩)] (w.alloc o) fun e w' => e = .returned (.bool false) ∧ ∃ q, w' = (w.alloc o).drewN q) := fun o => pisFull_any (r.below (alloc_below' w o)) false (by simp; exact hf)
  have hlt : pb < w.heap.size := heap_lt r.st
  have c0 : w.cell? ⟨pb, 0, none⟩ = some (.slice (some ⟨sb, 0, none⟩) n n) := r.st.cell 0
  have c1 : w.cell? ⟨pb, 1, none⟩ = some (.int .i64 (h : Nat)) := r.st.cell 1
  have c2 : w.cell? ⟨pb, 2, none⟩ = some (.int .i64 (t : Nat)) := r.st.cell 2
  have f2 : w.frozen? ⟨pb, 2, none⟩ = false := r.st.free 2
  have htn := r.ht
  have hm := r.nm
  have HF : Hid (∀ o q, PO (((w.alloc o).drewN q).setCell ⟨pb, 2, none⟩ (.int .i64 (nx n t : Nat))) T n pb sb h (nx n t) ph) := fun o q => r.tail q o
  generalize nx n t = V at *
  have hd : ((V : Int) == (h : Int)) = false := by simp; omega
  clear r hf
  go_enter Tryd.func32, Tryd.ntmps32
  go_wp2_with fail
  refine (HC1.out _).mono ?_
  rintro e w1 ⟨rfl, q, rfl⟩
  go_wp2
  go_region
  all_goals
    go_wp2_with fail
    refine (HC.out _ _).mono ?_
    rintro e w1 ⟨rfl, rfl⟩
    go_wp2
    go_ret
    exact ⟨rfl, HF.out _ _, keep_one _ _ _ _⟩
/-- .. as it stands behind q puts (or takes). -/
def PV (w : World) (T : TypeId) (n pb sb h q : Nat) : Prop := PO w T n pb sb h (q % n) (phs n q)
theorem PV.below {w w' : World} {T : TypeId} {n pb sb h q : Nat} (r : PV w T n pb sb h q) (hb : Below w.heap.size w w') : PV w' T n pb sb h q := PO.below r hb
theorem PV.keep {S : Nat → Prop} {w w' : World} {T : TypeId} {n pb sb h q : Nat} (r : PV w T n pb sb h q) (hk : Keep S w w') (h1 : ¬ S pb) : PV w' T n pb sb h q := PO.keep r hk h1
set_option maxHeartbeats 1600000 in
theorem goOn_full {w : World} {T : TypeId} {n pb sb h q : Nat} (r : PV w T n pb sb h q) (hf : (q + 1) % n = h) :
    Calls Tryd.prog 26 #[.pointer (some ⟨pb, 0, none⟩)] w fun e w' => e = .returned (.tuple #[.int .i64 0, .bool false, .iface 29 (.int .i64 3)]) ∧ Below w.heap.size w w' := by
  have HC : Hid (∀ x, Calls Tryd.prog 32 #[.pointer (some ⟨pb, 0, none⟩), .agg #[]] (w.drewN x) fun e w' => e = .returned (.iface 29 (.int .i64 3)) ∧ Below w.heap.size w w') := fun x =>
    (ppush_full (PO.drewN r x) (by rw [nx_mod]; exact hf)).mono fun e w' ⟨he, hb⟩ => ⟨he, (below_drewN (Below.refl _ _) x).trans (hb.mono (by simp))⟩
  have c2 : w.cell? ⟨pb, 2, none⟩ = some (.int .i64 (q % n : Nat)) := r.st.cell 2
  have c3 : w.cell? ⟨pb, 3, none⟩ = some (.bool (phs n q)) := r.st.cell 3
  generalize phs n q = f at *
  generalize q % n = t at *
  clear r hf
  go_enter Tryd.func26, Tryd.ntmps26
  go_wp2
  go_quiet (fail)
  go_wp2_with fail
  refine (HC.out _).mono ?_
  rintro e w1 ⟨rfl, hb⟩
  go_wp2
  go_ret3
  exact ⟨rfl, hb⟩
set_option maxHeartbeats 3200000 in
theorem goOn_room {w : World} {T : TypeId} {n pb sb h q : Nat} (r : PV w T n pb sb h q) (hf : ¬ (q + 1) % n = h) :
    Calls Tryd.prog 26 #[.pointer (some ⟨pb, 0, none⟩)] w fun e w' => e = .returned (.tuple #[.int .i64 (q % n : Nat), .bool (phs n q), .nilIface]) ∧ PV w' T n pb sb h (q + 1) ∧ Keep (fun b => b = pb) w w' := by
  have HC : Hid (∀ x, Calls Tryd.prog 32 #[.pointer (some ⟨pb, 0, none⟩), .agg #[]] (w.drewN x) fun e w' => e = .returned .nilIface ∧ PO w' T n pb sb h ((q + 1) % n) (phs n q) ∧ Keep (fun b => b = pb) w w') := fun x =>
    (ppush_room (PO.drewN r x) (by rw [nx_mod]; exact hf)).mono fun e w' ⟨he, hp, hk⟩ => ⟨he, by rw [nx_mod] at hp; exact hp, ((Keep.refl _ w).drewN x).trans hk⟩
  have c2 : w.cell? ⟨pb, 2, none⟩ = some (.int .i64 (q % n : Nat)) := r.st.cell 2
  have c3 : w.cell? ⟨pb, 3, none⟩ = some (.bool (phs n q)) := r.st.cell 3
  have hn2 := r.n2
  have HP : Hid (phs n (q + 1) = if (q + 1) % n = 0 then !(phs n q) else phs n q) := phs_next hn2
  have HV : Hid (∀ w', PO w' T n pb sb h ((q + 1) % n) (phs n (q + 1)) → PV w' T n pb sb h (q + 1)) := fun _ h => h
  generalize PV = PVV at HV
  rw [HP.out] at HV
  clear HP r hf hn2
  generalize phs n q = f at *
  generalize q % n = t at *
  generalize (q + 1) % n = t' at *
  go_enter Tryd.func26, Tryd.ntmps26
  go_wp2
  go_quiet (fail)
  go_wp2_with fail
  refine (HC.out _).mono ?_
  rintro e w1 ⟨rfl, hp, hk⟩
  have d2 : w1.cell? ⟨pb, 2, none⟩ = some (.int .i64 (t' : Nat)) := hp.st.cell 2
  have d3 : w1.cell? ⟨pb, 3, none⟩ = some (.bool f) := hp.st.cell 3
  have f3 : w1.frozen? ⟨pb, 3, none⟩ = false := hp.st.free 3
  clear HC
  by_cases h0 : t' = 0
  · subst h0
    have HF : Hid (PVV (w1.setCell ⟨pb, 3, none⟩ (.bool (!f))) T n pb sb h (q + 1) ∧ Keep (fun b => b = pb) w (w1.setCell ⟨pb, 3, none⟩ (.bool (!f)))) :=
      ⟨HV.out _ (by rw [if_pos rfl]; exact ⟨hp.st.set 3 _, hp.hh, hp.ht, hp.n2, hp.nm⟩), hk.set1 3 _⟩
    clear hp hk HV
    go_wp2
    go_ret3
    exact ⟨rfl, HF.out⟩
  · have hd : ((t' : Int) == 0) = false := by simp; omega
    have HF : Hid (PVV w1 T n pb sb h (q + 1) ∧ Keep (fun b => b = pb) w w1) := ⟨HV.out _ (by rw [if_neg h0]; exact hp), hk⟩
    clear hp hk HV
    go_wp2
    go_ret3
    exact ⟨rfl, HF.out⟩
end Go.Proofs.YtnfjfffchhiooaaDoor
