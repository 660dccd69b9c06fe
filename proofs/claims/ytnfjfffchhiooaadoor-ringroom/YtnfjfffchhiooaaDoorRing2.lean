/-
  What the calls of package ring's ring of numbers give: push, pop, count.
-/
import Derived.Test.YtnfjfffchhiooaaDoorRing
namespace Go.Proofs.YtnfjfffchhiooaaDoor
open Go.RowKit
set_option linter.unusedVariables false

set_option maxHeartbeats 3200000 in
theorem push_room {w : World} {n rb sb h t : Nat} {sl : List Int} (r : RO w n rb sb h t sl) (x : Int) (hf : ¬ nx n t = h) :
    Calls Tryd.prog 22 #[.pointer (some ⟨rb, 0, none⟩), .int .i64 x] w fun e w' => e = .returned .nilIface ∧ RO w' n rb sb h (nx n t) (sl.set t x) ∧ Keep (RB rb sb) w w' := by
  have c0 : w.cell? ⟨rb, 0, none⟩ = some (.slice (some ⟨sb, 0, none⟩) n n) := r.st.cell 0
  have c1 : w.cell? ⟨rb, 1, none⟩ = some (.int .i64 (h : Nat)) := r.st.cell 1
  have c2 : w.cell? ⟨rb, 2, none⟩ = some (.int .i64 (t : Nat)) := r.st.cell 2
  have ct : w.cell? ⟨sb, t, none⟩ = some (.int .i64 (gI sl t)) := stc_int r.sr (by rw [r.ln]; exact r.ht)
  have ft : w.frozen? ⟨sb, t, none⟩ = false := r.sr.free t
  have f2 : w.frozen? ⟨rb, 2, none⟩ = false := r.st.free 2
  have hne := r.ne
  have hne2 : ¬ sb = rb := fun e => hne e.symm
  have htn := r.ht
  have hm := r.nm
  have HC := isFull_any r false (by simp; exact hf)
  have HC2 : Hid (∀ q, Calls Tryd.prog 30 #[.pointer (some ⟨rb, 0, none⟩), .int .i64 (t : Nat)] ((w.drewN q).setCell ⟨sb, t, none⟩ (.int .i64 x)) fun e w' => e = .returned (.int .i64 (nx n t : Nat)) ∧ w' = (w.drewN q).setCell ⟨sb, t, none⟩ (.int .i64 x)) := fun q => by
    have r' := r.drewN q
    refine behind_any (sl := sl.set t x) (h := h) (t := t) ⟨r'.st.set_other (fun e => r.ne e.symm) t _, stc_int_set r'.sr t x, by rw [List.length_set]; exact r.ln, r.hh, r.ht, r.n2, r.nm, r.ne⟩ r.ht
  have HF : Hid (∀ q, RO (((w.drewN q).setCell ⟨sb, t, none⟩ (.int .i64 x)).setCell ⟨rb, 2, none⟩ (.int .i64 (nx n t : Nat))) n rb sb h (nx n t) (sl.set t x)) := fun q => r.push x q
  generalize nx n t = T at *
  have hd : ((T : Int) == (h : Int)) = false := by simp; omega
  clear r hf
  go_enter Tryd.func22, Tryd.ntmps22
  go_wp2_with fail
  refine HC.mono ?_
  rintro e w1 ⟨rfl, q, rfl⟩
  go_wp2
  go_region
  all_goals
    go_wp2_with fail
    refine (HC2.out _).mono ?_
    rintro e w1 ⟨rfl, rfl⟩
    go_wp2
    go_ret
    exact ⟨rfl, HF.out _, keep_two _ _ _ _ _⟩
end Go.Proofs.YtnfjfffchhiooaaDoor
