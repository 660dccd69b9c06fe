/-
  What the arguments give the walks: a script of calls.
-/
import Derived.Test.YtnfjfffchhiooaaDoorRows
import Derived.Test.YtnfjfffchhiooaaDoorScript
import Derived.ProofKit
import Derived.OpenShut
import Derived.SizedLaws
import Derived.ChangeOld
import Derived.Deep.Slices
namespace Go.Proofs.YtnfjfffchhiooaaDoor
open Go.ChangeShapes Go.WideShapes Go.ChangeAt Go.RowKit

theorem own : ownKnob Tryd.prog.godebug = none := by kernel_rfl
theorem laidOut : laidOutB Tryd.prog = true := by kernel_rfl
theorem cells3 : Tryd.prog.cellsOf 3 = 1 := by kernel_rfl
theorem cellsOp : Tryd.prog.cellsOf 42 = 2 := by kernel_rfl
theorem list2 {α : Type} {l : List α} (h : l.length = 2) : ∃ a b, l = [a, b] :=
  match l, h with
  | [a, b], _ => ⟨a, b, rfl⟩
section
variable {H : Type} {enc : TypeId × Value → H} {W : World}
/-- A script that came in. -/
theorem script_open {v : Value} {d : DataW H} {p : List MemPlace}
    (h : DataW.Trod enc Tryd.prog W 0 (fun _ => true) true 37 v d p) (hv : ∃ a len cap, v = .slice a len cap) :
    ∃ (a : Option Addr) (len cap : Nat), v = .slice a len cap ∧ Script W a len ∧ len ≤ 9223372036854775807 := by
  obtain ⟨a0, l0, c0, rfl⟩ := hv
  obtain ⟨fuel, hf⟩ := h
  rcases Go.Deep.open_slice Tryd.underlying37 hf with ⟨hcs, hx⟩ | ⟨x', len, cap, m, n, Dd, Pl, hcs, _, hl, hm, hmm, hx, hel⟩
  · simp [Value.cells] at hcs
    obtain ⟨rfl, rfl, rfl⟩ := hcs
    exact ⟨_, _, _, rfl, Or.inl rfl, by omega⟩
  · simp [Value.cells] at hcs
    obtain ⟨rfl, rfl, rfl⟩ := hcs
    refine ⟨_, _, _, rfl, ?_, by unfold maxLen at hm; omega⟩
    by_cases h0 : l0 = 0
    · exact Or.inl h0
    · right
      have hlm : l0 ≤ m := by rw [hmm]; split <;> omega
      rw [cellsOp] at hel
      obtain ⟨b, off, spot⟩ := x'
      have hspot : spot = none := by
        obtain ⟨cs', q1, q2⟩ := hel 0 (by omega)
        obtain ⟨_, q4, q5⟩ := World.cells?_some q1
        have q6 := q5 0 (by omega)
        rw [List.getElem?_eq_getElem (by omega)] at q6
        simpa [Addr.add] using World.cell?_spot q6
      subst hspot
      refine ⟨b, off, rfl, fun i hi => ?_⟩
      obtain ⟨cs', q1, q2⟩ := hel i (by omega)
      obtain ⟨_, q4, q5⟩ := World.cells?_some q1
      obtain ⟨xs, n', _, _, _, hxl, hfs⟩ := DataW.trod_struct Tryd.underlying42 q2
      obtain ⟨c0, c1, rfl⟩ := list2 q4
      obtain ⟨y0, y1, rfl⟩ := list2 (l := xs) hxl
      have f0 := hfs 0 _ rfl
      have f1 := hfs 1 _ rfl
      simp [cells3] at f0 f1
      obtain ⟨n0, e0, _⟩ := DataW.trod_int Tryd.underlying3 f0
      obtain ⟨n1, e1, _⟩ := DataW.trod_int Tryd.underlying3 f1
      simp at e0 e1
      subst e0 e1
      have g0 := q5 0 (by omega)
      have g1 := q5 1 (by omega)
      simp [Go.WideShapes.add_plain] at g0 g1
      exact ⟨⟨n0, n1⟩, g0, g1⟩
end
end Go.Proofs.YtnfjfffchhiooaaDoor
