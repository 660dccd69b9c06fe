/-
  What the calls of package ring's posts and seers give: NewPost, NewSeer, Put, Free.
-/
import Derived.Test.YtnfjfffchhiooaaPost
namespace Go.Proofs.Ytnfjfffchhiooaa
open Go.RowKit
set_option linter.unusedVariables false

theorem pv_new {w w1 : World} {T : TypeId} {n sb : Nat} (o : Obj) (hb : Below w.heap.size w w1) (h1 : 2 ≤ n) (h2 : n ≤ 16) :
    PV ((w1.alloc o).alloc (.cells #[.slice (some ⟨sb, 0, none⟩) n n, .int .i64 0, .int .i64 0, .bool true] T)) T n (w1.heap.size + 1) sb 0 0 ∧ Below w.heap.size w ((w1.alloc o).alloc (.cells #[.slice (some ⟨sb, 0, none⟩) n n, .int .i64 0, .int .i64 0, .bool true] T)) := by
  have hs1 : (w1.alloc o).heap.size = w1.heap.size + 1 := by simp
  have hsz := hb.size
  have e : Stc ((w1.alloc o).alloc (.cells #[.slice (some ⟨sb, 0, none⟩) n n, .int .i64 0, .int .i64 0, .bool true] T)) (w1.alloc o).heap.size T [.slice (some ⟨sb, 0, none⟩) n n, .int .i64 0, .int .i64 0, .bool true] := stc_new _ _ _ _ rfl
  rw [hs1] at e
  refine ⟨⟨?_, by omega, Nat.mod_lt _ (by omega), h1, h2⟩, (hb.alloc hsz o).alloc (by rw [hs1]; omega) _⟩
  have hp : phs n 0 = true := by unfold phs; simp
  rw [Nat.zero_mod, hp]
  exact e
set_option maxHeartbeats 800000 in
theorem post_no (n : Int) (w : World) (h : ¬ GoodP n) : Calls Try.prog 4 #[.int .i64 n] w fun e w' => e = .returned (.tuple #[.pointer none, .iface 51 (.int .i64 1)]) ∧ Below w.heap.size w w' := by
  have H := phased_no n w h
  clear h
  go_enter Try.func4, Try.ntmps4
  go_wp2_with fail
  refine H.mono ?_
  rintro e w1 ⟨rfl, hb⟩
  have HB : Hid (∀ o, Below w.heap.size w (w1.alloc o)) := fun o => hb.alloc hb.size o
  clear hb H
  go_wp2
  go_ret2
  exact ⟨rfl, HB.out _⟩
set_option maxHeartbeats 1600000 in
theorem post_yes (n : Nat) (w : World) (h1 : 2 ≤ n) (h2 : n ≤ 16) : Calls Try.prog 4 #[.int .i64 (n : Nat)] w fun e w' => ∃ pb sb, e = .returned (.tuple #[.pointer (some ⟨pb, 0, none⟩), .nilIface]) ∧ PV w' 49 n pb sb 0 0 ∧ Below w.heap.size w w' ∧ w.heap.size ≤ pb := by
  have H := phased_yes n w h1 h2
  have HN : Hid (2 ≤ n ∧ n ≤ 16) := ⟨h1, h2⟩
  clear h1 h2
  go_enter Try.func4, Try.ntmps4
  go_wp2_with fail
  refine H.mono ?_
  rintro e w1 ⟨⟨sb, rfl⟩, hb⟩
  have HF : Hid (∀ o, PV ((w1.alloc o).alloc (.cells #[.slice (some ⟨sb, 0, none⟩) n n, .int .i64 0, .int .i64 0, .bool true] 49)) 49 n (w1.heap.size + 1) sb 0 0 ∧ Below w.heap.size w ((w1.alloc o).alloc (.cells #[.slice (some ⟨sb, 0, none⟩) n n, .int .i64 0, .int .i64 0, .bool true] 49))) := fun o => pv_new o hb HN.out.1 HN.out.2
  have HS : Hid (w.heap.size ≤ w1.heap.size + 1) := Nat.le_succ_of_le hb.size
  clear hb H
  go_wp2
  go_ret2
  exact ⟨_, _, rfl, (HF.out _).1, (HF.out _).2, HS.out⟩
set_option maxHeartbeats 800000 in
theorem seer_no (n : Int) (w : World) (h : ¬ GoodP n) : Calls Try.prog 5 #[.int .i64 n] w fun e w' => e = .returned (.tuple #[.pointer none, .iface 51 (.int .i64 1)]) ∧ Below w.heap.size w w' := by
  have H := phased_no n w h
  clear h
  go_enter Try.func5, Try.ntmps5
  go_wp2_with fail
  refine H.mono ?_
  rintro e w1 ⟨rfl, hb⟩
  have HB : Hid (∀ o, Below w.heap.size w (w1.alloc o)) := fun o => hb.alloc hb.size o
  clear hb H
  go_wp2
  go_ret2
  exact ⟨rfl, HB.out _⟩
set_option maxHeartbeats 1600000 in
theorem seer_yes (n : Nat) (w : World) (h1 : 2 ≤ n) (h2 : n ≤ 16) : Calls Try.prog 5 #[.int .i64 (n : Nat)] w fun e w' => ∃ pb sb, e = .returned (.tuple #[.pointer (some ⟨pb, 0, none⟩), .nilIface]) ∧ PV w' 50 n pb sb 0 0 ∧ Below w.heap.size w w' ∧ w.heap.size ≤ pb := by
  have H := phased_yes n w h1 h2
  have HN : Hid (2 ≤ n ∧ n ≤ 16) := ⟨h1, h2⟩
  clear h1 h2
  go_enter Try.func5, Try.ntmps5
  go_wp2_with fail
  refine H.mono ?_
  rintro e w1 ⟨⟨sb, rfl⟩, hb⟩
  have HF : Hid (∀ o, PV ((w1.alloc o).alloc (.cells #[.slice (some ⟨sb, 0, none⟩) n n, .int .i64 0, .int .i64 0, .bool true] 50)) 50 n (w1.heap.size + 1) sb 0 0 ∧ Below w.heap.size w ((w1.alloc o).alloc (.cells #[.slice (some ⟨sb, 0, none⟩) n n, .int .i64 0, .int .i64 0, .bool true] 50))) := fun o => pv_new o hb HN.out.1 HN.out.2
  have HS : Hid (w.heap.size ≤ w1.heap.size + 1) := Nat.le_succ_of_le hb.size
  clear hb H
  go_wp2
  go_ret2
  exact ⟨_, _, rfl, (HF.out _).1, (HF.out _).2, HS.out⟩
set_option maxHeartbeats 800000 in
theorem put_full {w : World} {T : TypeId} {n pb sb h q : Nat} (r : PV w T n pb sb h q) (hf : (q + 1) % n = h) :
    Calls Try.prog 6 #[.pointer (some ⟨pb, 0, none⟩)] w fun e w' => e = .returned (.tuple #[.int .i64 0, .bool false, .iface 51 (.int .i64 3)]) ∧ Below w.heap.size w w' := by
  have H := goOn_full r hf
  clear r hf
  go_enter Try.func6, Try.ntmps6
  go_wp2_with fail
  refine H.mono ?_
  rintro e w1 ⟨rfl, hb⟩
  go_wp2
  go_ret3
  exact ⟨rfl, hb⟩
set_option maxHeartbeats 800000 in
theorem put_room {w : World} {T : TypeId} {n pb sb h q : Nat} (r : PV w T n pb sb h q) (hf : ¬ (q + 1) % n = h) :
    Calls Try.prog 6 #[.pointer (some ⟨pb, 0, none⟩)] w fun e w' => e = .returned (.tuple #[.int .i64 (q % n : Nat), .bool (phs n q), .nilIface]) ∧ PV w' T n pb sb h (q + 1) ∧ Keep (fun b => b = pb) w w' := by
  have H := goOn_room r hf
  clear r hf
  generalize q % n = t at *
  generalize phs n q = f at *
  go_enter Try.func6, Try.ntmps6
  go_wp2_with fail
  refine H.mono ?_
  rintro e w1 ⟨rfl, hb⟩
  have HB : Hid (PV w1 T n pb sb h (q + 1) ∧ Keep (fun b => b = pb) w w1) := hb
  clear hb H
  go_wp2
  go_ret3
  exact ⟨rfl, HB.out⟩
/-- Is there such a slot? -/
def hasB (n : Nat) (x : Int) : Bool := decide (0 ≤ x ∧ x < (n : Int))
set_option maxHeartbeats 800000 in
theorem has_any {w : World} {T : TypeId} {n pb sb h t : Nat} {ph : Bool} (r : PO w T n pb sb h t ph) (x : Int) :
    Calls Try.prog 11 #[.pointer (some ⟨pb, 0, none⟩), .int .i64 x] w fun e w' => e = .returned (.bool (hasB n x)) ∧ w' = w := by
  have c0 : w.cell? ⟨pb, 0, none⟩ = some (.slice (some ⟨sb, 0, none⟩) n n) := r.st.cell 0
  clear r
  by_cases h0 : 0 ≤ x
  · by_cases h1 : x < (n : Int)
    · have HD : Hid (hasB n x = true) := decide_eq_true ⟨h0, h1⟩
      go_enter Try.func11, Try.ntmps11
      go_wp2
      go_ret
      exact ⟨by rw [HD.out]; rfl, rfl⟩
    · have HD : Hid (hasB n x = false) := decide_eq_false (fun e => h1 e.2)
      go_enter Try.func11, Try.ntmps11
      go_wp2
      go_ret
      exact ⟨by rw [HD.out]; rfl, rfl⟩
  · have HD : Hid (hasB n x = false) := decide_eq_false (fun e => h0 e.1)
    go_enter Try.func11, Try.ntmps11
    go_wp2
    go_ret
    exact ⟨by rw [HD.out]; rfl, rfl⟩
set_option maxHeartbeats 800000 in
theorem free_no {w : World} {T : TypeId} {n pb sb h q : Nat} (r : PV w T n pb sb h q) (x : Int) (hx : ¬ (0 ≤ x ∧ x < (n : Int))) :
    Calls Try.prog 8 #[.pointer (some ⟨pb, 0, none⟩), .int .i64 x] w fun e w' => e = .returned (.iface 51 (.int .i64 1)) ∧ w' = w := by
  have H := has_any r x
  rw [show hasB n x = false from decide_eq_false hx] at H
  clear r hx
  go_enter Try.func8, Try.ntmps8
  go_wp2_with fail
  refine H.mono ?_
  rintro e w1 ⟨rfl, rfl⟩
  go_wp2
  go_ret
  exact ⟨rfl, rfl⟩
set_option maxHeartbeats 800000 in
theorem free_yes {w : World} {T : TypeId} {n pb sb h q : Nat} (r : PV w T n pb sb h q) (x : Nat) (hx : x < n) :
    Calls Try.prog 8 #[.pointer (some ⟨pb, 0, none⟩), .int .i64 (x : Nat)] w fun e w' => e = .returned .nilIface ∧ PV w' T n pb sb x q ∧ Keep (fun b => b = pb) w w' := by
  have H := has_any r (x : Int)
  rw [show hasB n (x : Int) = true from decide_eq_true (by omega)] at H
  have c1 : w.cell? ⟨pb, 1, none⟩ = some (.int .i64 (h : Nat)) := r.st.cell 1
  have f1 : w.frozen? ⟨pb, 1, none⟩ = false := r.st.free 1
  have HF : Hid (PV (w.setCell ⟨pb, 1, none⟩ (.int .i64 (x : Nat))) T n pb sb x q ∧ Keep (fun b => b = pb) w (w.setCell ⟨pb, 1, none⟩ (.int .i64 (x : Nat)))) :=
    ⟨⟨r.st.set 1 _, hx, r.ht, r.n2, r.nm⟩, (Keep.refl _ w).set1 1 _⟩
  clear r hx
  go_enter Try.func8, Try.ntmps8
  go_wp2_with fail
  refine H.mono ?_
  rintro e w1 ⟨rfl, rfl⟩
  go_wp2
  go_ret
  exact ⟨rfl, HF.out⟩
end Go.Proofs.Ytnfjfffchhiooaa
