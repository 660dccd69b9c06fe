/-
  What the arguments give the walks: numbers that came in.
-/
import Derived.Test.YtdkafcgangcgbajOpen
import Derived.Test.YtdkafcgangcgbajBackWalk
namespace Go.Proofs.Ytdkafcgangcgbaj
open Go.ChangeShapes Go.WideShapes Go.ChangeAt Go.RowKit
set_option linter.unusedVariables false

section
variable {H : Type} {enc : TypeId × Value → H} {W : World}
theorem ints_open {v : Value} {d : DataW H} {p : List MemPlace} {ts : List TypeId} {ds : List (DataW H)} {j : Nat}
    (h : DataW.Trod enc Try.prog W 0 (fun _ => true) true 23 v d p) (hv : ∃ a len cap, v = .slice a len cap) (hsz : (DataW.weightsEach Try.prog ts ds).all (· ≤ reachBytes) = true) (ht : ts[j]? = some 23) (hd : ds[j]? = some d) :
    ∃ (a : Option Addr) (cap : Nat) (ps : List Int), v = .slice a ps.length cap ∧ IIn W a cap ps := by
  obtain ⟨a0, l0, c0, rfl⟩ := hv
  obtain ⟨fuel, hf⟩ := h
  rcases open_ints Try.underlying23 Try.underlying3 cells3 hf with ⟨hcs, hx⟩ | ⟨x', len, cap, zs, hcs, _, hl, hm, hz, hx, hcell, hwz⟩
  · simp [Value.cells] at hcs
    obtain ⟨rfl, rfl, rfl⟩ := hcs
    exact ⟨none, 0, [], rfl, ⟨Or.inl rfl, Nat.le_refl _, fun i hi => by simp at hi⟩⟩
  · simp [Value.cells] at hcs
    obtain ⟨rfl, rfl, rfl⟩ := hcs
    have hzl : zs.length = c0 := by simpa using hz
    have hlen : (zs.take l0).length = l0 := by simp; omega
    have hg : ∀ i, i < l0 → gI (zs.take l0) i = zs.getD i 0 := fun i hi => by
      unfold gI
      rw [List.getElem?_take, if_pos hi, List.getD_eq_getElem?_getD]
    refine ⟨some x', c0, zs.take l0, by rw [hlen], ⟨?_, by rw [hlen]; exact hl, fun i hi => ?_⟩⟩
    · by_cases h0 : l0 = 0
      · subst h0; exact Or.inl (by simp)
      · obtain ⟨b, off, rfl, hc⟩ := ints_at hcell (by omega)
        refine Or.inr ⟨b, off, rfl, fun i hi => ?_⟩
        rw [hlen] at hi
        rw [hg i hi]
        exact hc i (by omega)
    · rw [hlen] at hi
      rw [hg i hi]
      have hb := bounds_i64 (hwz (zs.getD i 0) (by
        rw [List.getD_eq_getElem?_getD, List.getElem?_eq_getElem (by omega : i < zs.length)]; exact List.getElem_mem _))
      omega
end
end Go.Proofs.Ytdkafcgangcgbaj
