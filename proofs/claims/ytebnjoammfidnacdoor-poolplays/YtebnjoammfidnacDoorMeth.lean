/-
  Which function a method of a heap is; what the calls of Len, Less, Swap and Pop of pool.freeBlocks give.
-/
import Derived.Test.YtebnjoammfidnacDoorBase
namespace Go.Proofs.YtebnjoammfidnacDoor
open Go.RowKit
set_option linter.unusedVariables false

theorem wrap_nil (a : Addr) (s : String) (w : World) : (Builtin.ssaWrapNilChk_ #[56] 56 #[.pointer (some a), strVal "", strVal s]).run Tryd.prog w = .ok (.pointer (some a)) w := rfl
/-- A method of the slice itself, asked of a pointer to it. -/
theorem method_of {name : String} {f : Nat} (ti : ∀ w, ∃ I, (typeInfo 56).run Tryd.prog w = .ok I w ∧ (I.methods.find? (·.name == name)).map (fun m => (m.path, m.func)) = some (#[], some (f, false)))
    (a : Addr) (w : World) (x : Option Addr) (n c : Nat) (h : w.cell? a = some (.slice x n c)) : (Go.method 231 56 (.pointer (some a)) name).run Tryd.prog w = .ok (f, .slice x n c) w := by
  obtain ⟨I, h1, h2⟩ := ti w
  rw [show (231 : Nat) = (231 - 1) + 1 from rfl, Go.method]
  cases hf : I.methods.find? (·.name == name) with
  | none => rw [hf] at h2; cases h2
  | some m =>
    rw [hf] at h2
    simp only [Option.map_some, Option.some.injEq, Prod.mk.injEq] at h2
    simp only [Sem.run_bind, h1, Result.andThen_ok, hf, h2.1, h2.2]
    simp only [follow, receiverAt, Place.get, underlying, Sem.run_bind, Sem.run_pure, Result.andThen_ok]
    simp [wrap_nil, loadVar, isAgg, asAddr, underlying, Tryd.underlying56, Tryd.underlying50, h, Result.andThen]
theorem method_len (a : Addr) (w : World) (x : Option Addr) (n c : Nat) (h : w.cell? a = some (.slice x n c)) : (Go.method 231 56 (.pointer (some a)) "Len").run Tryd.prog w = .ok (19, .slice x n c) w :=
  method_of (fun w => ⟨(Tryd.prog.info? 56).get!, by kernel_rfl, by kernel_rfl⟩) a w x n c h
theorem method_less (a : Addr) (w : World) (x : Option Addr) (n c : Nat) (h : w.cell? a = some (.slice x n c)) : (Go.method 231 56 (.pointer (some a)) "Less").run Tryd.prog w = .ok (53, .slice x n c) w :=
  method_of (fun w => ⟨(Tryd.prog.info? 56).get!, by kernel_rfl, by kernel_rfl⟩) a w x n c h
theorem method_swap (a : Addr) (w : World) (x : Option Addr) (n c : Nat) (h : w.cell? a = some (.slice x n c)) : (Go.method 231 56 (.pointer (some a)) "Swap").run Tryd.prog w = .ok (54, .slice x n c) w :=
  method_of (fun w => ⟨(Tryd.prog.info? 56).get!, by kernel_rfl, by kernel_rfl⟩) a w x n c h
theorem method_push (a : Addr) (w : World) : (Go.method 231 56 (.pointer (some a)) "Push").run Tryd.prog w = .ok (56, .pointer (some a)) w := by kernel_rfl
theorem method_pop (a : Addr) (w : World) : (Go.method 231 56 (.pointer (some a)) "Pop").run Tryd.prog w = .ok (55, .pointer (some a)) w := by kernel_rfl

set_option maxHeartbeats 400000 in
theorem len_any (a : Option Addr) (n cap : Nat) (w : World) : Calls Tryd.prog 19 #[.slice a n cap] w fun e w' => e = .returned (.int .i64 n) ∧ w' = w := by
  go_enter Tryd.func19, Tryd.ntmps19
  go_wp2
  go_ret
  exact ⟨rfl, rfl⟩
set_option maxRecDepth 100000 in
set_option maxHeartbeats 1000000 in
theorem less_any {w : World} {pb bb cap g : Nat} {wn : Nat → Nat} {L : List Nat} (h : HP w pb bb (some ⟨g, 0, none⟩) cap wn L) (hL : L.length ≤ 64) (i j : Nat) (hi : i < L.length) (hj : j < L.length) :
    Calls Tryd.prog 53 #[.slice (some ⟨g, 0, none⟩) L.length cap, .int .i64 i, .int .i64 j] w fun e w' => e = .returned (.bool (ltsB wn (nth L i) (nth L j))) ∧ Below w.heap.size w w' := by
  have ci := h.own.cell hi
  have cj := h.own.cell hj
  obtain ⟨ni, wi⟩ := h.nw _ (nth_mem hi)
  obtain ⟨nj, wj⟩ := h.nw _ (nth_mem hj)
  unfold pv at ci cj
  clear h
  have HX : Hid (∀ X Y : Nat, nth L i = X → nth L j = Y → ltsB wn (nth L i) (nth L j) = decide (wn X < wn Y ∨ (wn X = wn Y ∧ X < Y))) := by rintro X Y rfl rfl; rfl
  have HX2 := HX.out _ _ rfl rfl
  rw [HX2]
  clear HX HX2
  generalize nth L i = X at *
  generalize nth L j = Y at *
  generalize wn X = A at *
  generalize wn Y = B at *
  by_cases he : A = B
  · subst he
    have t1 : ((A : Int) != (A : Int)) = false := by simp
    have t2 : decide (A < A ∨ A = A ∧ X < Y) = decide (X < Y) := by simp
    rw [t2]
    clear t2
    go_enter Tryd.func53, Tryd.ntmps53
    go_wp2
    go_quiet (fail)
    go_wp2
    go_quiet (fail)
    go_wp2
    go_ret
    exact ⟨rfl, below_drewN (below_drewN (Below.refl _ _) _) _⟩
  · have t1 : ((A : Int) != (B : Int)) = true := by simp; omega
    have t2 : decide (A < B ∨ A = B ∧ X < Y) = decide (A < B) := by
      apply decide_eq_decide.2; omega
    rw [t2]
    clear t2 he
    go_enter Tryd.func53, Tryd.ntmps53
    go_wp2
    go_quiet (fail)
    go_wp2
    go_quiet (fail)
    go_wp2
    go_ret
    exact ⟨rfl, below_drewN (below_drewN (Below.refl _ _) _) _⟩
set_option maxRecDepth 100000 in
set_option maxHeartbeats 1000000 in
theorem swap_cells (W : World) (g cap n i j : Nat) (x y : Addr) (hn : n ≤ 64) (hi : i < n) (hj : j < n) (ci : W.cell? ⟨g, i, none⟩ = some (.pointer (some x))) (cj : W.cell? ⟨g, j, none⟩ = some (.pointer (some y))) (fi : W.frozen? ⟨g, i, none⟩ = false) (fj : W.frozen? ⟨g, j, none⟩ = false) :
    Calls Tryd.prog 54 #[.slice (some ⟨g, 0, none⟩) n cap, .int .i64 i, .int .i64 j] W fun e w' => e = .returned (.tuple #[]) ∧ ∃ q, w' = ((W.setCell ⟨g, i, none⟩ (.pointer (some y))).setCell ⟨g, j, none⟩ (.pointer (some x))).drewN q := by
  obtain ⟨v', hy'⟩ : ∃ v, (W.setCell ⟨g, i, none⟩ (.pointer (some y))).cell? ⟨g, j, none⟩ = some v := by
    by_cases e : i = j
    · subst e; exact ⟨_, World.cell?_setCell_same _ _ _ ci⟩
    · exact ⟨_, by rw [far _ (fun h => e h.2)]; exact cj⟩
  go_enter Tryd.func54, Tryd.ntmps54
  go_wp2
  go_region
  all_goals (try go_wp2)
  all_goals go_end0
  all_goals exact ⟨rfl, 1, rfl⟩
theorem swap_any {w : World} {pb bb cap g : Nat} {wn : Nat → Nat} {L : List Nat} (h : HP w pb bb (some ⟨g, 0, none⟩) cap wn L) (hL : L.length ≤ 64) (i j : Nat) (hi : i < L.length) (hj : j < L.length) :
    Calls Tryd.prog 54 #[.slice (some ⟨g, 0, none⟩) L.length cap, .int .i64 i, .int .i64 j] w fun e w' => e = .returned (.tuple #[]) ∧ HP w' pb bb (some ⟨g, 0, none⟩) cap wn (sw L i j) ∧ Keep (fun b => b = g) w w' := by
  refine (swap_cells w g cap L.length i j _ _ hL hi hj (h.own.cell hi) (h.own.cell hj) (h.own.free _) (h.own.free _)).mono ?_
  rintro e w' ⟨rfl, q, rfl⟩
  have hk : Keep (fun b => b = g) w ((w.setCell ⟨g, i, none⟩ (pv bb (nth L j))).setCell ⟨g, j, none⟩ (pv bb (nth L i))) := ((Keep.refl _ _).set1 _ _).set1 _ _
  have h1 := h.row hk (h.own.swap hi hj) (sw_len _ _ _) (fun x hx => (sw_perm hi hj).mem_iff.1 hx)
  exact ⟨rfl, h1.below (below_drewN (Below.refl _ _) q), hk.drewN q⟩
theorem HP.pop {w : World} {pb bb cap g m : Nat} {wn : Nat → Nat} {L : List Nat} (h : HP w pb bb (some ⟨g, 0, none⟩) cap wn L) (hm : m ≤ L.length) : HP (w.setCell ⟨pb, 2, none⟩ (.slice (some ⟨g, 0, none⟩) m cap)) pb bb (some ⟨g, 0, none⟩) cap wn (L.take m) := by
  have hl : (L.take m).length = m := by rw [List.length_take]; omega
  have hk : Keep (fun b => b = pb) w (w.setCell ⟨pb, 2, none⟩ (.slice (some ⟨g, 0, none⟩) m cap)) := (Keep.refl _ _).set1 _ _
  refine ⟨?_, by rw [World.frozen?_setCell]; exact h.fp, (h.own.cut hm).keep hk (fun b hb e => (h.ne b hb).1 e), fun x hx => ?_, h.ne, h.n0⟩
  · rw [hl]; exact World.cell?_setCell_same _ _ _ h.c2
  · have := h.n0
    rw [far _ (by omega), far _ (by omega)]
    exact h.nw x (List.mem_of_mem_take hx)
set_option maxRecDepth 100000 in
set_option maxHeartbeats 1000000 in
theorem pop_cells (w : World) (pb g cap n : Nat) (x : Addr) (hn : n ≤ 64) (hc : n < cap) (hcap : cap ≤ 9223372036854775807) (c2 : w.cell? ⟨pb, 2, none⟩ = some (.slice (some ⟨g, 0, none⟩) (n + 1) cap)) (fp : w.frozen? ⟨pb, 2, none⟩ = false) (cx : w.cell? ⟨g, n, none⟩ = some (.pointer (some x))) :
    Calls Tryd.prog 55 #[.pointer (some ⟨pb, 2, none⟩)] w fun e w' => e = .returned (.iface 57 (.pointer (some x))) ∧ w' = w.setCell ⟨pb, 2, none⟩ (.slice (some ⟨g, 0, none⟩) n cap) := by
  go_enter Tryd.func55, Tryd.ntmps55
  go_wp2
  go_ret
  exact ⟨rfl, rfl⟩
end Go.Proofs.YtebnjoammfidnacDoor
