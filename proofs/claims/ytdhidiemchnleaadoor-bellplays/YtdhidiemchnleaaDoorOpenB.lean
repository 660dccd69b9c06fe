/-
  What the arguments give the walks: numbers.
-/
import Derived.Test.YtdhidiemchnleaaDoorRows
import Derived.Test.YtdhidiemchnleaaDoorInts
import Derived.ProofKit
import Derived.OpenShut
import Derived.SizedLaws
import Derived.ChangeOld
import Derived.Deep.Slices
namespace Go.Proofs.YtdhidiemchnleaaDoor
open Go.ChangeShapes Go.WideShapes Go.ChangeAt Go.RowKit
set_option linter.unusedVariables false

theorem own : ownKnob Tryd.prog.godebug = none := by kernel_rfl
theorem laidOut : laidOutB Tryd.prog = true := by kernel_rfl
theorem cells3 : Tryd.prog.cellsOf 3 = 1 := by kernel_rfl
theorem bytes3 : Tryd.prog.bytesOf 3 = 8 := by kernel_rfl
theorem reach_eq : reachBytes = 140737488351232 := rfl
section
variable {H : Type} {enc : TypeId × Value → H} {W : World}
/-- A slice that came in is not too long. -/
theorem slice_short {t e : TypeId} {ts : List TypeId} {ds : List (DataW H)} {j B : Nat} {elems spare : List (DataW H)} (hu : Tryd.prog.underlying t = some (.slice e)) (hB : Tryd.prog.bytesOf e = B) (h1 : 1 ≤ B)
    (hsz : (DataW.weightsEach Tryd.prog ts ds).all (· ≤ reachBytes) = true) (ht : ts[j]? = some t) (hd : ds[j]? = some (.slice elems spare)) : elems.length ≤ 140737488351232 := by
  have := of_decide_eq_true (List.all_eq_true.1 hsz _ (DataW.weights_mem_each ht hd ((elems.length + spare.length) * Tryd.prog.bytesOf e) (by simp [DataW.weights, hu])))
  rw [reach_eq, hB] at this
  have h2 : (elems.length + spare.length) * 1 ≤ (elems.length + spare.length) * B := Nat.mul_le_mul_left _ h1
  omega
theorem slice_short8 {t e : TypeId} {ts : List TypeId} {ds : List (DataW H)} {j : Nat} {elems spare : List (DataW H)} (hu : Tryd.prog.underlying t = some (.slice e)) (hB : Tryd.prog.bytesOf e = 8)
    (hsz : (DataW.weightsEach Tryd.prog ts ds).all (· ≤ reachBytes) = true) (ht : ts[j]? = some t) (hd : ds[j]? = some (.slice elems spare)) : elems.length * 8 ≤ 140737488355328 := by
  have := of_decide_eq_true (List.all_eq_true.1 hsz _ (DataW.weights_mem_each ht hd ((elems.length + spare.length) * Tryd.prog.bytesOf e) (by simp [DataW.weights, hu])))
  rw [reach_eq, hB] at this
  omega
theorem gI_mem {zs : List Int} (hw : ∀ n ∈ zs, (Lit.int IntKind.i64 n).wf = true) (j : Nat) : -9223372036854775808 ≤ gI zs j ∧ gI zs j ≤ 9223372036854775807 := by
  unfold gI
  cases h : zs[j]? with
  | none => simp
  | some x =>
    have := hw x (List.mem_of_getElem? h)
    have := bounds_i64 this
    simp
    omega
/-- Numbers that stand in cells. -/
theorem ints_cells {fuel : Nat} {cs : List Value} {x : DataW H × List MemPlace} (h : DataW.trod enc Tryd.prog W 0 (fun _ => true) true fuel 22 cs = some x) :
    ∃ (a : Option Addr) (cap : Nat) (ps : List Int), cs = [.slice a ps.length cap] ∧ IL W a ps ∧ (a = none → cap = 0) ∧ ps.length ≤ 9223372036854775807 ∧ (∀ j, -9223372036854775808 ≤ gI ps j ∧ gI ps j ≤ 9223372036854775807) ∧ (x.1 = .nil ∧ ps = [] ∨ ∃ zs, x.1 = (DataW.slice (lits .i64 ps) zs : DataW H)) := by
  rcases open_ints Tryd.underlying22 Tryd.underlying3 cells3 h with ⟨hcs, hx⟩ | ⟨x', len, cap, zs, hcs, _, hl, hm, hz, hx, hcell, hwz⟩
  · exact ⟨none, 0, [], hcs, Or.inl rfl, fun _ => rfl, by simp, fun j => by simp [gI], Or.inl ⟨by rw [hx], rfl⟩⟩
  · have hzl : zs.length = cap := by simpa using hz
    have hlen : (zs.take len).length = len := by simp; omega
    have hg : ∀ i, i < len → gI (zs.take len) i = zs.getD i 0 := fun i hi => by
      unfold gI
      rw [List.getElem?_take, if_pos hi, List.getD_eq_getElem?_getD]
    refine ⟨some x', cap, zs.take len, by rw [hlen]; exact hcs, ?_, fun e => (by cases e), by unfold maxLen at hm; omega, gI_mem (fun n hn => hwz n (List.mem_of_mem_take hn)), Or.inr ⟨_, by rw [hx]⟩⟩
    by_cases h0 : len = 0
    · subst h0; exact Or.inl (by simp)
    · obtain ⟨b, off, rfl, hc⟩ := ints_at hcell (by omega)
      refine Or.inr ⟨b, off, rfl, fun i hi => ?_⟩
      rw [hlen] at hi
      rw [hg i hi]
      exact hc i (by omega)
theorem ints_open {v : Value} {d : DataW H} {p : List MemPlace} {ts : List TypeId} {ds : List (DataW H)} {j : Nat}
    (h : DataW.Trod enc Tryd.prog W 0 (fun _ => true) true 22 v d p) (hv : ∃ a len cap, v = .slice a len cap) (hsz : (DataW.weightsEach Tryd.prog ts ds).all (· ≤ reachBytes) = true) (ht : ts[j]? = some 22) (hd : ds[j]? = some d) :
    ∃ (a : Option Addr) (cap : Nat) (ps : List Int), v = .slice a ps.length cap ∧ IL W a ps ∧ (a = none → cap = 0) ∧ ps.length ≤ 140737488351232 ∧ ps.length * 8 ≤ 140737488355328 := by
  obtain ⟨a0, l0, c0, rfl⟩ := hv
  obtain ⟨fuel, hf⟩ := h
  obtain ⟨a, cap, ps, hcs, hI, hn, _, _, hx⟩ := ints_cells hf
  simp [Value.cells] at hcs
  obtain ⟨rfl, rfl, rfl⟩ := hcs
  refine ⟨a0, c0, ps, rfl, hI, hn, ?_⟩
  rcases hx with ⟨_, e⟩ | ⟨zs, e⟩
  · rw [e]; simp
  · simp only at e
    rw [e] at hd
    have hsh := slice_short Tryd.underlying22 bytes3 (by decide) hsz ht hd
    have hsh8 := slice_short8 Tryd.underlying22 bytes3 hsz ht hd
    exact ⟨by simpa [lits] using hsh, by simpa [lits] using hsh8⟩
end
end Go.Proofs.YtdhidiemchnleaaDoor
