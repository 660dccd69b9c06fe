/-
  What the arguments give the walks: bytes.
-/
import Derived.Test.YtbajdgadljdnkaeDoorRows
import Derived.Test.YtbajdgadljdnkaeDoorLook
import Derived.ProofKit
import Derived.OpenShut
import Derived.ChangeOld
import Derived.Deep.Slices
namespace Go.Proofs.YtbajdgadljdnkaeDoor
open Go.ChangeShapes Go.WideShapes Go.ChangeAt Go.RowKit

theorem own : ownKnob Tryd.prog.godebug = none := by kernel_rfl
theorem laidOut : laidOutB Tryd.prog = true := by kernel_rfl
theorem cells5 : Tryd.prog.cellsOf 5 = 1 := by kernel_rfl
section
variable {H : Type} {enc : TypeId × Value → H} {W : World}
theorem bytes_cells {fuel : Nat} {cs : List Value} {x : DataW H × List MemPlace} (h : DataW.trod enc Tryd.prog W 0 (fun _ => true) true fuel 23 cs = some x) :
    ∃ (a : Option Addr) (cap : Nat) (bs : List Nat), cs = [.slice a bs.length cap] ∧ BIn W a cap bs := by
  rcases open_ints Tryd.underlying23 Tryd.underlying5 cells5 h with ⟨hcs, hx⟩ | ⟨x', len, cap, zs, hcs, _, hl, hm, hz, hx, hcell, hwz⟩
  · exact ⟨none, 0, [], hcs, ⟨fun _ h => by simp at h, Or.inl rfl, Nat.le_refl _, fun _ => rfl, Nat.zero_le _⟩⟩
  · have hzl : zs.length = cap := by simpa using hz
    have hlen : ((zs.take len).map Int.toNat).length = len := by simp; omega
    refine ⟨some x', cap, (zs.take len).map Int.toNat, by rw [hlen]; exact hcs, ⟨?_, ?_, by rw [hlen]; exact hl, (fun e => by cases e), by rw [hlen]; unfold maxLen at hm; omega⟩⟩
    · intro y hy
      obtain ⟨z, hz1, rfl⟩ := List.mem_map.1 hy
      have := bounds_u8 (hwz z (List.mem_of_mem_take hz1))
      omega
    · by_cases h0 : len = 0
      · subst h0; exact Or.inl (by simp)
      · obtain ⟨b, off, rfl, hc⟩ := ints_at hcell (by omega)
        refine Or.inr ⟨b, off, rfl, fun i hi => ?_⟩
        have hi2 : i < len := by omega
        rw [hc i (by omega)]
        have hb := bounds_u8 (hwz (zs.getD i 0) (by
          rw [List.getD_eq_getElem?_getD, List.getElem?_eq_getElem (by omega : i < zs.length)]; exact List.getElem_mem _))
        have e : ((zs.take len).map Int.toNat)[i]?.getD 0 = (zs.getD i 0).toNat := by
          rw [List.getElem?_map, List.getElem?_take, if_pos hi2, List.getD_eq_getElem?_getD, List.getElem?_eq_getElem (by omega : i < zs.length)]
          rfl
        rw [e, Int.toNat_of_nonneg hb.1]
theorem bytes_open {v : Value} {d : DataW H} {p : List MemPlace} (h : DataW.Trod enc Tryd.prog W 0 (fun _ => true) true 23 v d p) (hv : ∃ a len cap, v = .slice a len cap) :
    ∃ (a : Option Addr) (cap : Nat) (bs : List Nat), v = .slice a bs.length cap ∧ BIn W a cap bs := by
  obtain ⟨a0, l0, c0, rfl⟩ := hv
  obtain ⟨fuel, hf⟩ := h
  obtain ⟨a, cap, bs, hcs, h1⟩ := bytes_cells hf
  simp [Value.cells] at hcs
  obtain ⟨rfl, rfl, rfl⟩ := hcs
  exact ⟨_, _, bs, rfl, h1⟩
end
end Go.Proofs.YtbajdgadljdnkaeDoor
