/-
  What the arguments give the walks: lists of phases.
-/
import Derived.Test.YtnfjfffchhiooaaDoorOpenA
import Derived.Test.YtnfjfffchhiooaaDoorSeesWalk
namespace Go.Proofs.YtnfjfffchhiooaaDoor
open Go.ChangeShapes Go.WideShapes Go.ChangeAt Go.RowKit

theorem cells4 : Tryd.prog.cellsOf 4 = 1 := by kernel_rfl
theorem cellsB : Tryd.prog.cellsOf 52 = 1 := by kernel_rfl
theorem bytesB : Tryd.prog.bytesOf 52 = 24 := by kernel_rfl
section
variable {H : Type} {enc : TypeId × Value → H} {W : World}
theorem no_spot {a : Addr} {v : Value} (h : W.cell? (a.add 0) = some v) : a.spot = none := by
  simpa [Addr.add] using World.cell?_spot h
theorem phases_cells {fuel : Nat} {v : Value} {x : DataW H × List MemPlace} (h : DataW.trod enc Tryd.prog W 0 (fun _ => true) true fuel 52 [v] = some x) :
    ∃ a1 L c ph, v = .slice a1 L c ∧ L ≤ 9223372036854775807 ∧ PhAt W a1 L ph := by
  rcases Go.Deep.open_slice1 Tryd.underlying52 cells4 h with ⟨hcs, _⟩ | ⟨a, len, cap, m, n, V, D, Pl, hcs, _, hl, hm, hmm, _, hel⟩
  · simp at hcs
    exact ⟨none, 0, 0, fun _ => false, hcs, by omega, ⟨Or.inl rfl⟩⟩
  · simp at hcs
    have hlm : len ≤ m := by rw [hmm]; split <;> omega
    refine ⟨some a, len, cap, fun i => match V i with | .bool b => b | _ => false, hcs, by unfold maxLen at hm; omega, ⟨?_⟩⟩
    by_cases h0 : len = 0
    · exact Or.inl h0
    · right
      obtain ⟨b, off, spot⟩ := a
      have hs : spot = none := no_spot (hel 0 (by omega)).1
      subst hs
      refine ⟨b, off, rfl, fun i hi => ?_⟩
      obtain ⟨q1, q2⟩ := hel i (by omega)
      obtain ⟨n4, e4, _⟩ := DataW.trod_bool Tryd.underlying4 q2
      simp at e4
      rw [Go.WideShapes.add_plain] at q1
      rw [q1]
      show some (V i) = some (.bool (match V i with | .bool b => b | _ => false))
      rw [e4]
/-- Lists of phases that came in. -/
theorem rounds_open {v : Value} {d : DataW H} {p : List MemPlace} {ts : List TypeId} {ds : List (DataW H)} {j : Nat}
    (h : DataW.Trod enc Tryd.prog W 0 (fun _ => true) true 46 v d p) (hv : ∃ a len cap, v = .slice a len cap) (hsz : (DataW.weightsEach Tryd.prog ts ds).all (· ≤ reachBytes) = true) (ht : ts[j]? = some 46) (hd : ds[j]? = some d) :
    ∃ (a : Option Addr) (len cap : Nat), v = .slice a len cap ∧ RDs W a len ∧ len ≤ 140737488355328 := by
  obtain ⟨a0, l0, c0, rfl⟩ := hv
  obtain ⟨fuel, hf⟩ := h
  rcases Go.Deep.open_slice1 Tryd.underlying46 cellsB hf with ⟨hcs, _⟩ | ⟨a, len, cap, m, n, V, D, Pl, hcs, _, hl, hm, hmm, hx, hel⟩
  · simp [Value.cells] at hcs
    obtain ⟨rfl, rfl, rfl⟩ := hcs
    exact ⟨_, _, _, rfl, Or.inl rfl, by omega⟩
  · simp [Value.cells] at hcs
    obtain ⟨rfl, rfl, rfl⟩ := hcs
    have hlm : l0 ≤ m := by rw [hmm]; split <;> omega
    have hdx := congrArg Prod.fst hx
    simp only at hdx
    rw [hdx] at hd
    have hsh := slice_short Tryd.underlying46 bytesB (by decide) hsz ht hd
    simp at hsh
    refine ⟨_, _, _, rfl, ?_, by omega⟩
    by_cases h0 : l0 = 0
    · exact Or.inl h0
    · right
      obtain ⟨b, off, spot⟩ := a
      have hs : spot = none := no_spot (hel 0 (by omega)).1
      subst hs
      refine ⟨b, off, rfl, fun i hi => ?_⟩
      obtain ⟨q1, q2⟩ := hel i (by omega)
      obtain ⟨a1, L, c, ph, e, h1, h2⟩ := phases_cells q2
      rw [Go.WideShapes.add_plain, e] at q1
      exact ⟨a1, L, c, ph, q1, h1, h2⟩
end
end Go.Proofs.YtnfjfffchhiooaaDoor
