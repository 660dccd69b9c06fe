/-
  What the calls of package ring's ring of numbers give: pop, count, New, and the calls by name.
-/
import Derived.Test.YtnfjfffchhiooaaDoorRing2
namespace Go.Proofs.YtnfjfffchhiooaaDoor
open Go.RowKit
set_option linter.unusedVariables false

set_option maxHeartbeats 1600000 in
theorem pop_none {w : World} {n rb sb h : Nat} {sl : List Int} (r : RO w n rb sb h h sl) :
    Calls Tryd.prog 23 #[.pointer (some ⟨rb, 0, none⟩)] w fun e w' => e = .returned (.tuple #[.int .i64 0, .iface 29 (.int .i64 4)]) ∧ Below w.heap.size w w' := by
  have c1 : w.cell? ⟨rb, 1, none⟩ = some (.int .i64 (h : Nat)) := r.st.cell 1
  have c2 : w.cell? ⟨rb, 2, none⟩ = some (.int .i64 (h : Nat)) := r.st.cell 2
  clear r
  go_enter Tryd.func23, Tryd.ntmps23
  go_wp2
  go_quiet (fail)
  go_wp2
  go_ret2
  exact ⟨rfl, below_drewN (Below.refl _ _) _⟩
theorem RO.pop {w : World} {n rb sb h t : Nat} {sl : List Int} (r : RO w n rb sb h t sl) (q : Nat) : RO (((w.drewN q).setCell ⟨sb, h, none⟩ (.int .i64 0)).setCell ⟨rb, 1, none⟩ (.int .i64 (nx n h : Nat))) n rb sb (nx n h) t (sl.set h 0) := by
  have r' := r.drewN q
  refine ⟨?_, ?_, by rw [List.length_set]; exact r.ln, nx_lt r.n2, r.ht, r.n2, r.nm, r.ne⟩
  · exact ((r'.st.set_other (fun e => r.ne e.symm) h (.int .i64 0)).set 1 _)
  · exact (stc_int_set r'.sr h 0).set_other r.ne 1 _
set_option maxHeartbeats 3200000 in
theorem pop_some {w : World} {n rb sb h t : Nat} {sl : List Int} (r : RO w n rb sb h t sl) (hf : ¬ h = t) :
    Calls Tryd.prog 23 #[.pointer (some ⟨rb, 0, none⟩)] w fun e w' => e = .returned (.tuple #[.int .i64 (gI sl h), .nilIface]) ∧ RO w' n rb sb (nx n h) t (sl.set h 0) ∧ Keep (RB rb sb) w w' := by
  have c0 : w.cell? ⟨rb, 0, none⟩ = some (.slice (some ⟨sb, 0, none⟩) n n) := r.st.cell 0
  have c1 : w.cell? ⟨rb, 1, none⟩ = some (.int .i64 (h : Nat)) := r.st.cell 1
  have c2 : w.cell? ⟨rb, 2, none⟩ = some (.int .i64 (t : Nat)) := r.st.cell 2
  have ct : w.cell? ⟨sb, h, none⟩ = some (.int .i64 (gI sl h)) := stc_int r.sr (by rw [r.ln]; exact r.hh)
  have ft : w.frozen? ⟨sb, h, none⟩ = false := r.sr.free h
  have f2 : w.frozen? ⟨rb, 1, none⟩ = false := r.st.free 1
  have hne := r.ne
  have hne2 : ¬ sb = rb := fun e => hne e.symm
  have htn := r.hh
  have hm := r.nm
  have HC2 : Hid (∀ q, Calls Tryd.prog 30 #[.pointer (some ⟨rb, 0, none⟩), .int .i64 (h : Nat)] ((w.drewN q).setCell ⟨sb, h, none⟩ (.int .i64 0)) fun e w' => e = .returned (.int .i64 (nx n h : Nat)) ∧ w' = (w.drewN q).setCell ⟨sb, h, none⟩ (.int .i64 0)) := fun q => by
    have r' := r.drewN q
    refine behind_any (sl := sl.set h 0) (h := h) (t := t) ⟨r'.st.set_other (fun e => r.ne e.symm) h _, stc_int_set r'.sr h 0, by rw [List.length_set]; exact r.ln, r.hh, r.ht, r.n2, r.nm, r.ne⟩ r.hh
  have HF : Hid (∀ q, RO (((w.drewN q).setCell ⟨sb, h, none⟩ (.int .i64 0)).setCell ⟨rb, 1, none⟩ (.int .i64 (nx n h : Nat))) n rb sb (nx n h) t (sl.set h 0)) := fun q => r.pop q
  generalize nx n h = T at *
  have hd : ((h : Int) == (t : Int)) = false := by simp; omega
  clear r hf
  go_enter Tryd.func23, Tryd.ntmps23
  go_wp2
  go_quiet (fail)
  go_wp2
  go_quiet (fail)
  go_wp2
  go_region
  all_goals
    go_wp2_with fail
    refine (HC2.out _).mono ?_
    rintro e w1 ⟨rfl, rfl⟩
    go_wp2
    go_ret2
    exact ⟨rfl, HF.out _, keep_two _ _ _ _ _⟩
set_option maxHeartbeats 1600000 in
theorem count_any {w : World} {n rb sb h t : Nat} {sl : List Int} (r : RO w n rb sb h t sl) :
    Calls Tryd.prog 24 #[.pointer (some ⟨rb, 0, none⟩)] w fun e w' => e = .returned (.int .i64 (((t + n - h) % n : Nat) : Int)) ∧ Below w.heap.size w w' := by
  have c0 : w.cell? ⟨rb, 0, none⟩ = some (.slice (some ⟨sb, 0, none⟩) n n) := r.st.cell 0
  have c1 : w.cell? ⟨rb, 1, none⟩ = some (.int .i64 (h : Nat)) := r.st.cell 1
  have c2 : w.cell? ⟨rb, 2, none⟩ = some (.int .i64 (t : Nat)) := r.st.cell 2
  have h2 := r.n2
  have hm := r.nm
  have hht := r.ht
  have hhh := r.hh
  have hn0 : ¬ ((n : Int) = 0) := by omega
  have w1 : IntKind.i64.wrap ((t : Int) - (h : Int)) = (t : Int) - (h : Int) := wrap_ok (by omega) (by omega)
  have w2 : IntKind.i64.wrap ((t : Int) - (h : Int) + (n : Int)) = (t : Int) - (h : Int) + (n : Int) := wrap_ok (by omega) (by omega)
  have HE : Hid (((t : Int) - (h : Int) + (n : Int)) % (n : Int) = (((t + n - h) % n : Nat) : Int)) := by
    show _ = _
    rw [Int.natCast_emod]
    congr 1
    omega
  clear r
  go_enter Tryd.func24, Tryd.ntmps24
  go_wp2
  go_quiet (fail)
  go_wp2
  go_ret
  exact ⟨ret_int HE.out, below_drewN (Below.refl _ _) _⟩
set_option maxHeartbeats 800000 in
theorem Push_full {w : World} {n rb sb h t : Nat} {sl : List Int} (r : RO w n rb sb h t sl) (x : Int) (hf : nx n t = h) :
    Calls Tryd.prog 9 #[.pointer (some ⟨rb, 0, none⟩), .int .i64 x] w fun e w' => e = .returned (.iface 29 (.int .i64 3)) ∧ Below w.heap.size w w' := by
  have H := push_full r x hf
  clear r
  go_enter Tryd.func9, Tryd.ntmps9
  go_wp2_with fail
  refine H.mono ?_
  rintro e w1 ⟨rfl, hb⟩
  go_wp2
  go_ret
  exact ⟨rfl, hb⟩
set_option maxHeartbeats 800000 in
theorem Push_room {w : World} {n rb sb h t : Nat} {sl : List Int} (r : RO w n rb sb h t sl) (x : Int) (hf : ¬ nx n t = h) :
    Calls Tryd.prog 9 #[.pointer (some ⟨rb, 0, none⟩), .int .i64 x] w fun e w' => e = .returned .nilIface ∧ RO w' n rb sb h (nx n t) (sl.set t x) ∧ Keep (RB rb sb) w w' := by
  have H := push_room r x hf
  clear r
  go_enter Tryd.func9, Tryd.ntmps9
  go_wp2_with fail
  refine H.mono ?_
  rintro e w1 ⟨rfl, hb⟩
  go_wp2
  go_ret
  exact ⟨rfl, hb⟩
set_option maxHeartbeats 800000 in
theorem Pop_none {w : World} {n rb sb h : Nat} {sl : List Int} (r : RO w n rb sb h h sl) :
    Calls Tryd.prog 10 #[.pointer (some ⟨rb, 0, none⟩)] w fun e w' => e = .returned (.tuple #[.int .i64 0, .iface 29 (.int .i64 4)]) ∧ Below w.heap.size w w' := by
  have H := pop_none r
  clear r
  go_enter Tryd.func10, Tryd.ntmps10
  go_wp2_with fail
  refine H.mono ?_
  rintro e w1 ⟨rfl, hb⟩
  go_wp2
  go_ret2
  exact ⟨rfl, hb⟩
set_option maxHeartbeats 800000 in
theorem Pop_some {w : World} {n rb sb h t : Nat} {sl : List Int} (r : RO w n rb sb h t sl) (hf : ¬ h = t) :
    Calls Tryd.prog 10 #[.pointer (some ⟨rb, 0, none⟩)] w fun e w' => e = .returned (.tuple #[.int .i64 (gI sl h), .nilIface]) ∧ RO w' n rb sb (nx n h) t (sl.set h 0) ∧ Keep (RB rb sb) w w' := by
  have H := pop_some r hf
  clear r
  go_enter Tryd.func10, Tryd.ntmps10
  go_wp2_with fail
  refine H.mono ?_
  rintro e w1 ⟨rfl, hb⟩
  go_wp2
  go_ret2
  exact ⟨rfl, hb⟩
set_option maxHeartbeats 800000 in
theorem Len_any {w : World} {n rb sb h t : Nat} {sl : List Int} (r : RO w n rb sb h t sl) :
    Calls Tryd.prog 11 #[.pointer (some ⟨rb, 0, none⟩)] w fun e w' => e = .returned (.int .i64 (((t + n - h) % n : Nat) : Int)) ∧ Below w.heap.size w w' := by
  have H := count_any r
  clear r
  generalize (((t + n - h) % n : Nat) : Int) = z at *
  go_enter Tryd.func11, Tryd.ntmps11
  go_wp2_with fail
  refine H.mono ?_
  rintro e w1 ⟨rfl, hb⟩
  go_wp2
  go_ret
  exact ⟨rfl, hb⟩
set_option maxHeartbeats 800000 in
theorem Ends_any {w : World} {n rb sb h t : Nat} {sl : List Int} (r : RO w n rb sb h t sl) :
    Calls Tryd.prog 12 #[.pointer (some ⟨rb, 0, none⟩)] w fun e w' => e = .returned (.tuple #[.int .i64 (h : Nat), .int .i64 (t : Nat)]) ∧ Below w.heap.size w w' := by
  have c1 : w.cell? ⟨rb, 1, none⟩ = some (.int .i64 (h : Nat)) := r.st.cell 1
  have c2 : w.cell? ⟨rb, 2, none⟩ = some (.int .i64 (t : Nat)) := r.st.cell 2
  clear r
  go_enter Tryd.func12, Tryd.ntmps12
  go_wp2
  go_quiet (fail)
  go_wp2
  go_ret2
  exact ⟨rfl, below_drewN (Below.refl _ _) _⟩
end Go.Proofs.YtnfjfffchhiooaaDoor
