/-
  What an argument that is a slice of bytes gives the walks, and that the listed table of places is there.
-/
import Derived.Test.YtgflkfbddiccaaaDoorRows
import Derived.Test.YtgflkfbddiccaaaDoorNear
import Derived.ProofKit
import Derived.LaidMore
import Derived.OpenShut
import Derived.SizedLaws
import Derived.Stop.Joined
import Derived.Lib.LaidTab
import Derived.ChangeOld
namespace Go.Proofs.YtgflkfbddiccaaaDoor
open Go.ChangeShapes Go.WideShapes Go.ChangeAt Go.RowKit

theorem own : ownKnob Tryd.prog.godebug = none := by kernel_rfl
theorem laidOut : laidOutB Tryd.prog = true := by kernel_rfl
theorem gPlaces : Tryd.prog.globalNamed "granary/code.places" = some 0 := by kernel_rfl
theorem tPlaces : (Tryd.prog.globals[0]?).map (·.type) = some 61 := by kernel_rfl
theorem cells61 : Tryd.prog.cellsOf 61 = 64 := by kernel_rfl
theorem cells5 : Tryd.prog.cellsOf 5 = 1 := by kernel_rfl
theorem bytes5 : Tryd.prog.bytesOf 5 = 1 := by kernel_rfl
def placesI : List Int := placesL.map fun p : Nat => (p : Int)

/-- WHAT THE ROW's LIST GIVES: the table of places. -/
theorem plc_of {W : World} (h : laidMet Tryd.prog [("granary/code.places", Rows.laid_granary_code_places)] W) : Plc W := by
  have ht : Lib.TabIs Tryd.prog W "granary/code.places" .u8 placesI :=
    Lib.tabIs_of_head (rest := []) gPlaces tPlaces Tryd.underlying61 Tryd.underlying5 cells5 cells61 h
  unfold Lib.TabIs at ht
  simp only [World.var?, gPlaces, Option.bind_some] at ht
  split at ht
  · rename_i cs t fr hc
    refine ⟨t, fr, ?_⟩
    rw [hc]
    have e : cs = PL := by
      have := Option.some.inj ht
      rw [this]
      simp [PL, placesI]
    rw [e]
  · cases ht

/-- WHAT THE WALK IS TOLD OF BYTES THAT CAME IN. -/
theorem bytes_open {H : Type} {enc : TypeId × Value → H} {W : World} {a : Option Addr} {len cap : Nat} {d : DataW H} {p : List MemPlace} {ts : List TypeId} {ds : List (DataW H)} {j : Nat}
    (h : DataW.Trod enc Tryd.prog W 0 (fun _ => true) true 22 (.slice a len cap) d p) (hsz : (DataW.weightsEach Tryd.prog ts ds).all (· ≤ reachBytes) = true) (ht : ts[j]? = some 22) (hd : ds[j]? = some d) :
    ∃ bs : List Nat, bs.length = len ∧ AllB bs ∧ Lies W a bs ∧ len ≤ 140737488351232 := by
  obtain ⟨fuel, hf⟩ := h
  rcases open_ints Tryd.underlying22 Tryd.underlying5 cells5 hf with ⟨hcs, _⟩ | ⟨x, l, c, zs, hcs, _, hl, hm, hz, hx, hcell, hwz⟩
  · simp [Value.cells] at hcs
    obtain ⟨rfl, rfl, rfl⟩ := hcs
    exact ⟨[], rfl, fun _ h => by simp at h, Or.inl rfl, by omega⟩
  · simp [Value.cells] at hcs
    obtain ⟨rfl, rfl, rfl⟩ := hcs
    have hzl : zs.length = cap := by simpa using hz
    have hlen : len ≤ 140737488351232 := by
      simp only [Prod.mk.injEq] at hx
      rw [hx.1] at hd
      have := sized_slice hsz (j := j) (t := 22) (e := 5) ht hd Tryd.underlying22
      rw [bytes5] at this
      simp only [lits, List.length_map, List.length_take, List.length_drop, reachBytes] at this
      omega
    refine ⟨(zs.take len).map Int.toNat, by simp; omega, ?_, ?_, hlen⟩
    · intro y hy
      obtain ⟨z, hz1, rfl⟩ := List.mem_map.1 hy
      have := bounds_u8 (hwz z (List.mem_of_mem_take hz1))
      omega
    · by_cases h0 : len = 0
      · subst h0; exact Or.inl (by simp)
      · obtain ⟨b, off, rfl, hc⟩ := ints_at hcell (by omega)
        refine Or.inr ⟨b, off, rfl, fun i hi => ?_⟩
        have hi2 : i < len := by simp at hi; omega
        rw [hc i (by omega)]
        have hb := bounds_u8 (hwz (zs.getD i 0) (by
          rw [List.getD_eq_getElem?_getD, List.getElem?_eq_getElem (by omega : i < zs.length)]; exact List.getElem_mem _))
        have e : ((zs.take len).map Int.toNat)[i]?.getD 0 = (zs.getD i 0).toNat := by
          rw [List.getElem?_map, List.getElem?_take, if_pos hi2, List.getD_eq_getElem?_getD, List.getElem?_eq_getElem (by omega : i < zs.length)]
          rfl
        rw [e, Int.toNat_of_nonneg hb.1]
end Go.Proofs.YtgflkfbddiccaaaDoor
