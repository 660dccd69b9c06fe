/-
  What the arguments give the walks: blocks; numbers; how long they can be.
-/
import Derived.Test.YtgmobibogoebpafDoorRows
import Derived.Test.YtgmobibogoebpafDoorBase
import Derived.ProofKit
import Derived.OpenShut
import Derived.SizedLaws
import Derived.ChangeOld
import Derived.Deep.Slices
namespace Go.Proofs.YtgmobibogoebpafDoor
open Go.ChangeShapes Go.WideShapes Go.ChangeAt Go.RowKit

theorem own : ownKnob Tryd.prog.godebug = none := by kernel_rfl
theorem laidOut : laidOutB Tryd.prog = true := by kernel_rfl
theorem cells3 : Tryd.prog.cellsOf 3 = 1 := by kernel_rfl
theorem cells4 : Tryd.prog.cellsOf 4 = 1 := by kernel_rfl
theorem cellsBk : Tryd.prog.cellsOf 87 = 3 := by kernel_rfl
theorem bytes3 : Tryd.prog.bytesOf 3 = 8 := by kernel_rfl
theorem bytesBk : Tryd.prog.bytesOf 87 = 24 := by kernel_rfl
theorem reach_eq : reachBytes = 140737488351232 := rfl
theorem list3 {α : Type} {l : List α} (h : l.length = 3) : ∃ a b c, l = [a, b, c] :=
  match l, h with
  | [a, b, c], _ => ⟨a, b, c, rfl⟩
theorem gB_ofFn {n : Nat} (f : Fin n → Bl) (i : Nat) (h : i < n) : gB (List.ofFn f) i = f ⟨i, h⟩ := by
  unfold gB
  rw [List.getElem?_eq_getElem (by simpa using h)]
  simp
section
variable {H : Type} {enc : TypeId × Value → H} {W : World}
/-- WHAT THE WALK IS TOLD OF BLOCKS THAT CAME IN. -/
theorem blocks_open {v : Value} {d : DataW H} {p : List MemPlace} {ts : List TypeId} {ds : List (DataW H)} {j : Nat}
    (h : DataW.Trod enc Tryd.prog W 0 (fun _ => true) true 57 v d p) (hv : ∃ a len cap, v = .slice a len cap) (hsz : (DataW.weightsEach Tryd.prog ts ds).all (· ≤ reachBytes) = true) (ht : ts[j]? = some 57) (hd : ds[j]? = some d) :
    ∃ (a : Option Addr) (cap : Nat) (l : List Bl), v = .slice a l.length cap ∧ BL W a l ∧ l.length * 24 ≤ 140737488355328 ∧ (a = none → cap = 0) := by
  obtain ⟨a0, l0, c0, rfl⟩ := hv
  obtain ⟨fuel, hf⟩ := h
  rcases Go.Deep.open_slice Tryd.underlying57 hf with ⟨hcs, hx⟩ | ⟨x', len, cap, m, n, Dd, Pl, hcs, _, hl, hm, hmm, hx, hel⟩
  · simp [Value.cells] at hcs
    obtain ⟨rfl, rfl, rfl⟩ := hcs
    exact ⟨none, 0, [], rfl, Or.inl rfl, by simp, fun _ => rfl⟩
  · simp [Value.cells] at hcs
    obtain ⟨rfl, rfl, rfl⟩ := hcs
    have ed : d = (DataW.slice ((List.range l0).map Dd) ((List.range (m - l0)).map fun j => Dd (l0 + j)) : DataW H) := (Prod.ext_iff.1 hx).1
    rw [ed] at hd
    have hlm : l0 ≤ m := by rw [hmm]; split <;> omega
    have hlen : l0 * 24 ≤ 140737488351232 := by
      have := of_decide_eq_true (List.all_eq_true.1 hsz _ (DataW.weights_mem_each ht hd (((List.range l0).map Dd).length * 24 + (m - l0) * 24) (by
        simp only [DataW.weights, Tryd.underlying57, List.mem_cons]
        exact Or.inl (by rw [bytesBk, List.length_map, List.length_map, List.length_range, List.length_range, Nat.add_mul]))))
      rw [reach_eq, List.length_map, List.length_range] at this
      omega
    by_cases h0 : l0 = 0
    · subst h0
      exact ⟨_, c0, [], rfl, Or.inl rfl, by simp, fun e => by cases e⟩
    rw [cellsBk] at hel
    obtain ⟨b, off, spot⟩ := x'
    have hspot : spot = none := by
      obtain ⟨cs', q1, q2⟩ := hel 0 (by omega)
      obtain ⟨_, q4, q5⟩ := World.cells?_some q1
      have q6 := q5 0 (by omega)
      rw [List.getElem?_eq_getElem (by omega)] at q6
      simpa [Addr.add] using World.cell?_spot q6
    subst hspot
    have hall : ∀ i : Fin l0, ∃ x : Bl, BlAt W b off i.1 x := fun i => by
      obtain ⟨cs', q1, q2⟩ := hel i.1 (by omega)
      obtain ⟨_, q4, q5⟩ := World.cells?_some q1
      obtain ⟨xs, n', _, hxe, _, hxl, hfs⟩ := DataW.trod_struct Tryd.underlying87 q2
      obtain ⟨e0, e1, e2, rfl⟩ := list3 q4
      obtain ⟨y0, y1, y2, rfl⟩ := list3 (l := xs) hxl
      have f0 := hfs 0 _ rfl
      have f1 := hfs 1 _ rfl
      have f2 := hfs 2 _ rfl
      simp [cells3, cells4] at f0 f1 f2
      obtain ⟨b0, e0', _⟩ := DataW.trod_bool Tryd.underlying4 f0
      obtain ⟨n1, e1', _, w1⟩ := DataW.trod_int Tryd.underlying3 f1
      obtain ⟨n2, e2', _, w2⟩ := DataW.trod_int Tryd.underlying3 f2
      simp at e0' e1' e2'
      subst e0' e1' e2'
      have g0 := q5 0 (by omega)
      have g1 := q5 1 (by omega)
      have g2 := q5 2 (by omega)
      simp [Go.WideShapes.add_plain] at g0 g1 g2
      exact ⟨⟨b0, n1, n2⟩, g0, g1, g2⟩
    obtain ⟨f, hf2⟩ : ∃ f : Fin l0 → Bl, ∀ i, BlAt W b off i.1 (f i) := ⟨fun i => Classical.choose (hall i), fun i => Classical.choose_spec (hall i)⟩
    refine ⟨some ⟨b, off, none⟩, c0, List.ofFn f, by simp, Or.inr ⟨b, off, rfl, fun i hi => ?_⟩, by simp; omega, fun e => by cases e⟩
    have hi2 : i < l0 := by simpa using hi
    rw [gB_ofFn f i hi2]
    exact hf2 ⟨i, hi2⟩
end
end Go.Proofs.YtgmobibogoebpafDoor
