/-
  What an argument that is a list of numbers gives the walk.
-/
import Derived.Test.YtgmobibogoebpagOpen
import Derived.Test.YtgmobibogoebpagLeastWalk
namespace Go.Proofs.Ytgmobibogoebpag
open Go.ChangeShapes Go.WideShapes Go.ChangeAt Go.RowKit

section
variable {H : Type} {enc : TypeId × Value → H} {W : World}
/-- Numbers that came in. -/
theorem ints_open {v : Value} {d : DataW H} {p : List MemPlace} {ts : List TypeId} {ds : List (DataW H)} {j : Nat}
    (h : DataW.Trod enc Try.prog W 0 (fun _ => true) true 23 v d p) (hv : ∃ a len cap, v = .slice a len cap) (hsz : (DataW.weightsEach Try.prog ts ds).all (· ≤ reachBytes) = true) (ht : ts[j]? = some 23) (hd : ds[j]? = some d) :
    ∃ (a : Option Addr) (cap : Nat) (xs : List Int), v = .slice a xs.length cap ∧ IL W a xs ∧ xs.length ≤ 4611686018427387904 := by
  obtain ⟨a0, l0, c0, rfl⟩ := hv
  obtain ⟨fuel, hf⟩ := h
  rcases open_ints Try.underlying23 Try.underlying3 cells3 hf with ⟨hcs, hx⟩ | ⟨x', len, cap, zs, hcs, _, hl, hm, hz, hx, hcell, hwz⟩
  · simp [Value.cells] at hcs
    obtain ⟨rfl, rfl, rfl⟩ := hcs
    exact ⟨none, 0, [], rfl, Or.inl rfl, by simp⟩
  · simp [Value.cells] at hcs
    obtain ⟨rfl, rfl, rfl⟩ := hcs
    have hzl : zs.length = c0 := by simpa using hz
    have ed : d = (DataW.slice (lits .i64 (zs.take l0)) (lits .i64 (zs.drop l0)) : DataW H) := (Prod.ext_iff.1 hx).1
    rw [ed] at hd
    have hlen : l0 ≤ 4611686018427387904 := by
      have := sized_slice hsz (j := j) (t := 23) (e := 3) ht hd Try.underlying23
      rw [bytes3] at this
      simp only [lits, List.length_map, List.length_take, List.length_drop, reachBytes] at this
      omega
    have hl2 : (zs.take l0).length = l0 := by rw [List.length_take]; omega
    refine ⟨_, c0, zs.take l0, by rw [hl2], ?_, by rw [hl2]; exact hlen⟩
    by_cases h0 : l0 = 0
    · subst h0
      exact Or.inl (by simp)
    · obtain ⟨b, off, rfl, hc⟩ := ints_at hcell (by omega)
      refine Or.inr ⟨b, off, rfl, fun i hi => ?_⟩
      rw [hl2] at hi
      have e : (zs.take l0)[i]?.getD 0 = zs.getD i 0 := by
        rw [List.getElem?_take, if_pos hi, List.getD_eq_getElem?_getD]
      have hw := bounds_i64 (hwz (zs.getD i 0) (by
        rw [List.getD_eq_getElem?_getD, List.getElem?_eq_getElem (by omega : i < zs.length)]; exact List.getElem_mem _))
      rw [e]
      exact ⟨hc i (by omega), by omega, by omega⟩
end
end Go.Proofs.Ytgmobibogoebpag
