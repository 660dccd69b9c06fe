/-
  What the calls of package ring's ring of numbers give.
-/
import Derived.Test.YtnfjfffchhiooaaDoorBase
namespace Go.Proofs.YtnfjfffchhiooaaDoor
open Go.RowKit
set_option linter.unusedVariables false

/-- A RING LIES THERE: its block rb, its slots' block sb, of n slots, head h, tail t. -/
structure RO (w : World) (n rb sb h t : Nat) (sl : List Int) : Prop where
  st : Stc w rb 62 [.slice (some ⟨sb, 0, none⟩) n n, .int .i64 (h : Nat), .int .i64 (t : Nat)]
  sr : Stc w sb 3 (sl.map ivI)
  ln : sl.length = n
  hh : h < n
  ht : t < n
  n2 : 2 ≤ n
  nm : n ≤ 16
  ne : ¬ rb = sb
def RB (rb sb b : Nat) : Prop := b = rb ∨ b = sb
theorem RO.keep {S : Nat → Prop} {w w' : World} {n rb sb h t : Nat} {sl : List Int} (r : RO w n rb sb h t sl) (hk : Keep S w w') (h1 : ¬ S rb) (h2 : ¬ S sb) : RO w' n rb sb h t sl :=
  ⟨r.st.keep hk h1, r.sr.keep hk h2, r.ln, r.hh, r.ht, r.n2, r.nm, r.ne⟩
theorem RO.below {w w' : World} {n rb sb h t : Nat} {sl : List Int} (r : RO w n rb sb h t sl) (hb : Below w.heap.size w w') : RO w' n rb sb h t sl :=
  r.keep (S := fun _ => False) (Keep.of_below hb) (fun e => e) (fun e => e)
theorem RO.drewN {w : World} {n rb sb h t : Nat} {sl : List Int} (r : RO w n rb sb h t sl) (q : Nat) : RO (w.drewN q) n rb sb h t sl :=
  r.keep (S := fun _ => False) ((Keep.refl _ w).drewN q) (fun e => e) (fun e => e)
set_option maxHeartbeats 800000 in
theorem behind_any {w : World} {n rb sb h t s : Nat} {sl : List Int} (r : RO w n rb sb h t sl) (hs : s < n) :
    Calls Tryd.prog 30 #[.pointer (some ⟨rb, 0, none⟩), .int .i64 (s : Nat)] w fun e w' => e = .returned (.int .i64 (nx n s : Nat)) ∧ w' = w := by
  have c0 : w.cell? ⟨rb, 0, none⟩ = some (.slice (some ⟨sb, 0, none⟩) n n) := r.st.cell 0
  have h2 := r.n2
  have hm := r.nm
  have hn0 : ¬ ((n : Int) = 0) := by omega
  have HE : Hid (Int.tmod ((s : Int) + 1) (n : Int) = ((nx n s : Nat) : Int)) := by
    show _ = _
    unfold nx
    rw [Int.tmod_eq_emod_of_nonneg (by omega), Int.natCast_emod]
    rfl
  clear r
  go_enter Tryd.func30, Tryd.ntmps30
  go_wp2
  go_ret
  exact ⟨ret_int HE.out, rfl⟩
theorem RO.push {w : World} {n rb sb h t : Nat} {sl : List Int} (r : RO w n rb sb h t sl) (x : Int) (q : Nat) : RO (((w.drewN q).setCell ⟨sb, t, none⟩ (.int .i64 x)).setCell ⟨rb, 2, none⟩ (.int .i64 (nx n t : Nat))) n rb sb h (nx n t) (sl.set t x) := by
  have r' := r.drewN q
  refine ⟨?_, ?_, by rw [List.length_set]; exact r.ln, r.hh, nx_lt r.n2, r.n2, r.nm, r.ne⟩
  · exact ((r'.st.set_other (fun e => r.ne e.symm) t (.int .i64 x)).set 2 _)
  · exact (stc_int_set r'.sr t x).set_other r.ne 2 _
theorem keep_two {w : World} {rb sb : Nat} (q i j : Nat) (u v : Value) : Keep (RB rb sb) w (((w.drewN q).setCell ⟨sb, i, none⟩ u).setCell ⟨rb, j, none⟩ v) :=
  (((Keep.refl _ w).drewN q).set (p := ⟨sb, i, none⟩) (Or.inr rfl) u).set (p := ⟨rb, j, none⟩) (Or.inl rfl) v
theorem int_beq (a b : Nat) : ((a : Int) == (b : Int)) = (a == b) := by
  by_cases e : a = b
  · subst e; simp
  · have h : ¬ (a : Int) = (b : Int) := by omega
    rw [beq_eq_false_iff_ne.mpr h, beq_eq_false_iff_ne.mpr e]
set_option maxHeartbeats 1600000 in
theorem isFull_any {w : World} {n rb sb h t : Nat} {sl : List Int} (r : RO w n rb sb h t sl) (v : Bool) (hv : ((nx n t : Nat) == h) = v) :
    Calls Tryd.prog 29 #[.pointer (some ⟨rb, 0, none⟩)] w fun e w' => e = .returned (.bool v) ∧ ∃ q, w' = w.drewN q := by
  have c1 : w.cell? ⟨rb, 1, none⟩ = some (.int .i64 (h : Nat)) := r.st.cell 1
  have c2 : w.cell? ⟨rb, 2, none⟩ = some (.int .i64 (t : Nat)) := r.st.cell 2
  have HC : Hid (∀ q, Calls Tryd.prog 30 #[.pointer (some ⟨rb, 0, none⟩), .int .i64 (t : Nat)] (w.drewN q) fun e w' => e = .returned (.int .i64 (nx n t : Nat)) ∧ w' = w.drewN q) := fun q => behind_any (r.drewN q) r.ht
  generalize nx n t = T at *
  have HD : Hid (((T : Int) == (h : Int)) = v) := by exact (int_beq _ _).trans hv
  clear r hv
  go_enter Tryd.func29, Tryd.ntmps29
  go_wp2
  go_quiet (exact (HC.out _).mono (fun _ _ ⟨he, hm⟩ => ⟨he, _, hm⟩))
  go_wp2
  go_ret
  exact ⟨by rw [← HD.out]; rfl, _, rfl⟩
set_option maxHeartbeats 1600000 in
theorem push_full {w : World} {n rb sb h t : Nat} {sl : List Int} (r : RO w n rb sb h t sl) (x : Int) (hf : nx n t = h) :
    Calls Tryd.prog 22 #[.pointer (some ⟨rb, 0, none⟩), .int .i64 x] w fun e w' => e = .returned (.iface 29 (.int .i64 3)) ∧ Below w.heap.size w w' := by
  have c1 : w.cell? ⟨rb, 1, none⟩ = some (.int .i64 (h : Nat)) := r.st.cell 1
  have c2 : w.cell? ⟨rb, 2, none⟩ = some (.int .i64 (t : Nat)) := r.st.cell 2
  have HC := isFull_any r true (by rw [hf]; simp)
  clear r hf
  go_enter Tryd.func22, Tryd.ntmps22
  go_wp2_with fail
  refine HC.mono ?_
  rintro e w1 ⟨rfl, q, rfl⟩
  go_wp2
  go_ret
  exact ⟨rfl, below_drewN (Below.refl _ _) _⟩
end Go.Proofs.YtnfjfffchhiooaaDoor
