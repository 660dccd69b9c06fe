/-
  What the arguments give the walks: numbers.
-/
import Derived.Test.YtnfjfffchhiooaaDoorRows
import Derived.Test.YtnfjfffchhiooaaDoorInts
import Derived.ProofKit
import Derived.OpenShut
import Derived.SizedLaws
import Derived.ChangeOld
import Derived.Deep.Slices
namespace Go.Proofs.YtnfjfffchhiooaaDoor
open Go.ChangeShapes Go.WideShapes Go.ChangeAt Go.RowKit
set_option linter.unusedVariables false

theorem own : ownKnob Tryd.prog.godebug = none := by kernel_rfl
theorem laidOut : laidOutB Tryd.prog = true := by kernel_rfl
theorem cells3 : Tryd.prog.cellsOf 3 = 1 := by kernel_rfl
theorem bytes3 : Tryd.prog.bytesOf 3 = 8 := by kernel_rfl
theorem reach_eq : reachBytes = 140737488351232 := rfl
section
variable {H : Type} {enc : TypeId × Value → H} {W : World}
/-- A slice that came in is not too long. -/
theorem slice_short {t e : TypeId} {ts : List TypeId} {ds : List (DataW H)} {j B : Nat} {elems spare : List (DataW H)} (hu : Tryd.prog.underlying t = some (.slice e)) (hB : Tryd.prog.bytesOf e = B) (h1 : 1 ≤ B)
    (hsz : (DataW.weightsEach Tryd.prog ts ds).all (· ≤ reachBytes) = true) (ht : ts[j]? = some t) (hd : ds[j]? = some (.slice elems spare)) : elems.length ≤ 140737488351232 := by
  have := of_decide_eq_true (List.all_eq_true.1 hsz _ (DataW.weights_mem_each ht hd ((elems.length + spare.length) * Tryd.prog.bytesOf e) (by simp [DataW.weights, hu])))
  rw [reach_eq, hB] at this
  have h2 : (elems.length + spare.length) * 1 ≤ (elems.length + spare.length) * B := Nat.mul_le_mul_left _ h1
  omega
theorem ints_open {v : Value} {d : DataW H} {p : List MemPlace} {ts : List TypeId} {ds : List (DataW H)} {j : Nat}
    (h : DataW.Trod enc Tryd.prog W 0 (fun _ => true) true 22 v d p) (hv : ∃ a len cap, v = .slice a len cap) (hsz : (DataW.weightsEach Tryd.prog ts ds).all (· ≤ reachBytes) = true) (ht : ts[j]? = some 22) (hd : ds[j]? = some d) :
    ∃ (a : Option Addr) (cap : Nat) (ps : List Int), v = .slice a ps.length cap ∧ IL W a ps ∧ ps.length ≤ 140737488351232 := by
  obtain ⟨a0, l0, c0, rfl⟩ := hv
  obtain ⟨fuel, hf⟩ := h
  rcases open_ints Tryd.underlying22 Tryd.underlying3 cells3 hf with ⟨hcs, hx⟩ | ⟨x', len, cap, zs, hcs, _, hl, hm, hz, hx, hcell, hwz⟩
  · simp [Value.cells] at hcs
    obtain ⟨rfl, rfl, rfl⟩ := hcs
    exact ⟨none, 0, [], rfl, Or.inl rfl, by simp⟩
  · simp [Value.cells] at hcs
    obtain ⟨rfl, rfl, rfl⟩ := hcs
    have hzl : zs.length = c0 := by simpa using hz
    have hlen : (zs.take l0).length = l0 := by simp; omega
    have hg : ∀ i, i < l0 → gI (zs.take l0) i = zs.getD i 0 := fun i hi => by
      unfold gI
      rw [List.getElem?_take, if_pos hi, List.getD_eq_getElem?_getD]
    have hdx : d = (DataW.slice (lits .i64 (zs.take l0)) (lits .i64 (zs.drop l0)) : DataW H) := by simpa using congrArg Prod.fst hx
    rw [hdx] at hd
    have hsh := slice_short Tryd.underlying22 bytes3 (by decide) hsz ht hd
    refine ⟨some x', c0, zs.take l0, by rw [hlen], ?_, by simpa [lits] using hsh⟩
    by_cases h0 : l0 = 0
    · subst h0; exact Or.inl (by simp)
    · obtain ⟨b, off, rfl, hc⟩ := ints_at hcell (by omega)
      refine Or.inr ⟨b, off, rfl, fun i hi => ?_⟩
      rw [hlen] at hi
      rw [hg i hi]
      exact hc i (by omega)
end
end Go.Proofs.YtnfjfffchhiooaaDoor
