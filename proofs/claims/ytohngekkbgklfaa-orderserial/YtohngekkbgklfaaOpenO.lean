/-
  What the arguments give the walks: numbers, lists of numbers, calls.
-/
import Derived.Test.YtohngekkbgklfaaRows
import Derived.Test.YtohngekkbgklfaaCalls
import Derived.ProofKit
import Derived.OpenShut
import Derived.SizedLaws
import Derived.ChangeOld
import Derived.Deep.Slices
namespace Go.Proofs.Ytohngekkbgklfaa
open Go.ChangeShapes Go.WideShapes Go.ChangeAt Go.RowKit
set_option linter.unusedVariables false

theorem own : ownKnob Try.prog.godebug = none := by kernel_rfl
theorem laidOut : laidOutB Try.prog = true := by kernel_rfl
theorem cells3 : Try.prog.cellsOf 3 = 1 := by kernel_rfl
theorem bytes3 : Try.prog.bytesOf 3 = 8 := by kernel_rfl
theorem cells4 : Try.prog.cellsOf 4 = 1 := by kernel_rfl
theorem cellsCl : Try.prog.cellsOf 29 = 5 := by kernel_rfl
theorem bytesCl : Try.prog.bytesOf 29 = 40 := by kernel_rfl
theorem reach_eq : reachBytes = 140737488351232 := rfl
theorem list5 {α : Type} {l : List α} (h : l.length = 5) : ∃ a b c d e, l = [a, b, c, d, e] :=
  match l, h with
  | [a, b, c, d, e], _ => ⟨a, b, c, d, e, rfl⟩
theorem gC_ofFn {n : Nat} (f : Fin n → Cl) (i : Nat) (h : i < n) : gC (List.ofFn f) i = f ⟨i, h⟩ := by
  unfold gC
  rw [List.getElem?_eq_getElem (by simpa using h)]
  simp
/-- A call's numbers are in bounds. -/
def InB (c : Cl) : Prop := (-9223372036854775808 ≤ c.f ∧ c.f ≤ 9223372036854775807) ∧ (-9223372036854775808 ≤ c.t ∧ c.t ≤ 9223372036854775807) ∧ (-9223372036854775808 ≤ c.b ∧ c.b ≤ 9223372036854775807) ∧ (-9223372036854775808 ≤ c.v ∧ c.v ≤ 9223372036854775807)
section
variable {H : Type} {enc : TypeId × Value → H} {W : World}
/-- A slice that came in is not too long. -/
theorem slice_short {t e : TypeId} {ts : List TypeId} {ds : List (DataW H)} {j B : Nat} {elems spare : List (DataW H)} (hu : Try.prog.underlying t = some (.slice e)) (hB : Try.prog.bytesOf e = B) (h1 : 1 ≤ B)
    (hsz : (DataW.weightsEach Try.prog ts ds).all (· ≤ reachBytes) = true) (ht : ts[j]? = some t) (hd : ds[j]? = some (.slice elems spare)) : elems.length ≤ 140737488351232 := by
  have := of_decide_eq_true (List.all_eq_true.1 hsz _ (DataW.weights_mem_each ht hd ((elems.length + spare.length) * Try.prog.bytesOf e) (by simp [DataW.weights, hu])))
  rw [reach_eq, hB] at this
  have h2 : (elems.length + spare.length) * 1 ≤ (elems.length + spare.length) * B := Nat.mul_le_mul_left _ h1
  omega
theorem slice_short8 {t e : TypeId} {ts : List TypeId} {ds : List (DataW H)} {j : Nat} {elems spare : List (DataW H)} (hu : Try.prog.underlying t = some (.slice e)) (hB : Try.prog.bytesOf e = 8)
    (hsz : (DataW.weightsEach Try.prog ts ds).all (· ≤ reachBytes) = true) (ht : ts[j]? = some t) (hd : ds[j]? = some (.slice elems spare)) : elems.length * 8 ≤ 140737488355328 := by
  have := of_decide_eq_true (List.all_eq_true.1 hsz _ (DataW.weights_mem_each ht hd ((elems.length + spare.length) * Try.prog.bytesOf e) (by simp [DataW.weights, hu])))
  rw [reach_eq, hB] at this
  omega
theorem gI_mem {zs : List Int} (hw : ∀ n ∈ zs, (Lit.int IntKind.i64 n).wf = true) (j : Nat) : -9223372036854775808 ≤ gI zs j ∧ gI zs j ≤ 9223372036854775807 := by
  unfold gI
  cases h : zs[j]? with
  | none => simp
  | some x =>
    have := hw x (List.mem_of_getElem? h)
    have := bounds_i64 this
    simp
    omega
/-- Numbers that stand in cells. -/
theorem ints_cells {fuel : Nat} {cs : List Value} {x : DataW H × List MemPlace} (h : DataW.trod enc Try.prog W 0 (fun _ => true) true fuel 23 cs = some x) :
    ∃ (a : Option Addr) (cap : Nat) (ps : List Int), cs = [.slice a ps.length cap] ∧ IL W a ps ∧ (a = none → cap = 0) ∧ ps.length ≤ 9223372036854775807 ∧ (∀ j, -9223372036854775808 ≤ gI ps j ∧ gI ps j ≤ 9223372036854775807) ∧ (x.1 = .nil ∧ ps = [] ∨ ∃ zs, x.1 = (DataW.slice (lits .i64 ps) zs : DataW H)) := by
  rcases open_ints Try.underlying23 Try.underlying3 cells3 h with ⟨hcs, hx⟩ | ⟨x', len, cap, zs, hcs, _, hl, hm, hz, hx, hcell, hwz⟩
  · exact ⟨none, 0, [], hcs, Or.inl rfl, fun _ => rfl, by simp, fun j => by simp [gI], Or.inl ⟨by rw [hx], rfl⟩⟩
  · have hzl : zs.length = cap := by simpa using hz
    have hlen : (zs.take len).length = len := by simp; omega
    have hg : ∀ i, i < len → gI (zs.take len) i = zs.getD i 0 := fun i hi => by
      unfold gI
      rw [List.getElem?_take, if_pos hi, List.getD_eq_getElem?_getD]
    refine ⟨some x', cap, zs.take len, by rw [hlen]; exact hcs, ?_, fun e => (by cases e), by unfold maxLen at hm; omega, gI_mem (fun n hn => hwz n (List.mem_of_mem_take hn)), Or.inr ⟨_, by rw [hx]⟩⟩
    by_cases h0 : len = 0
    · subst h0; exact Or.inl (by simp)
    · obtain ⟨b, off, rfl, hc⟩ := ints_at hcell (by omega)
      refine Or.inr ⟨b, off, rfl, fun i hi => ?_⟩
      rw [hlen] at hi
      rw [hg i hi]
      exact hc i (by omega)
theorem ints_open {v : Value} {d : DataW H} {p : List MemPlace} {ts : List TypeId} {ds : List (DataW H)} {j : Nat}
    (h : DataW.Trod enc Try.prog W 0 (fun _ => true) true 23 v d p) (hv : ∃ a len cap, v = .slice a len cap) (hsz : (DataW.weightsEach Try.prog ts ds).all (· ≤ reachBytes) = true) (ht : ts[j]? = some 23) (hd : ds[j]? = some d) :
    ∃ (a : Option Addr) (cap : Nat) (ps : List Int), v = .slice a ps.length cap ∧ IL W a ps ∧ (∀ j, -9223372036854775808 ≤ gI ps j ∧ gI ps j ≤ 9223372036854775807) ∧ (a = none → cap = 0) ∧ ps.length ≤ 140737488351232 ∧ ps.length * 8 ≤ 140737488355328 := by
  obtain ⟨a0, l0, c0, rfl⟩ := hv
  obtain ⟨fuel, hf⟩ := h
  obtain ⟨a, cap, ps, hcs, hI, hn, _, hgb, hx⟩ := ints_cells hf
  simp [Value.cells] at hcs
  obtain ⟨rfl, rfl, rfl⟩ := hcs
  refine ⟨a0, c0, ps, rfl, hI, hgb, hn, ?_⟩
  rcases hx with ⟨_, e⟩ | ⟨zs, e⟩
  · rw [e]; simp
  · simp only at e
    rw [e] at hd
    have hsh := slice_short Try.underlying23 bytes3 (by decide) hsz ht hd
    have hsh8 := slice_short8 Try.underlying23 bytes3 hsz ht hd
    exact ⟨by simpa [lits] using hsh, by simpa [lits] using hsh8⟩
/-- WHAT THE WALK IS TOLD OF CALLS THAT CAME IN. -/
theorem calls_open {v : Value} {d : DataW H} {p : List MemPlace} {ts : List TypeId} {ds : List (DataW H)} {j : Nat}
    (h : DataW.Trod enc Try.prog W 0 (fun _ => true) true 22 v d p) (hv : ∃ a len cap, v = .slice a len cap) (hsz : (DataW.weightsEach Try.prog ts ds).all (· ≤ reachBytes) = true) (ht : ts[j]? = some 22) (hd : ds[j]? = some d) :
    ∃ (a : Option Addr) (cap : Nat) (l : List Cl), v = .slice a l.length cap ∧ CL W a l ∧ l.length * 40 ≤ 140737488355328 ∧ (a = none → cap = 0) ∧ (∀ i, i < l.length → InB (gC l i)) := by
  obtain ⟨a0, l0, c0, rfl⟩ := hv
  obtain ⟨fuel, hf⟩ := h
  rcases Go.Deep.open_slice Try.underlying22 hf with ⟨hcs, hx⟩ | ⟨x', len, cap, m, n, Dd, Pl, hcs, _, hl, hm, hmm, hx, hel⟩
  · simp [Value.cells] at hcs
    obtain ⟨rfl, rfl, rfl⟩ := hcs
    exact ⟨none, 0, [], rfl, Or.inl rfl, by simp, fun _ => rfl, fun i hi => by simp at hi⟩
  · simp [Value.cells] at hcs
    obtain ⟨rfl, rfl, rfl⟩ := hcs
    have ed : d = (DataW.slice ((List.range l0).map Dd) ((List.range (m - l0)).map fun j => Dd (l0 + j)) : DataW H) := (Prod.ext_iff.1 hx).1
    rw [ed] at hd
    have hlm : l0 ≤ m := by rw [hmm]; split <;> omega
    have hlen : l0 * 40 ≤ 140737488351232 := by
      have := of_decide_eq_true (List.all_eq_true.1 hsz _ (DataW.weights_mem_each ht hd (((List.range l0).map Dd).length * 40 + (m - l0) * 40) (by
        simp only [DataW.weights, Try.underlying22, List.mem_cons]
        exact Or.inl (by rw [bytesCl, List.length_map, List.length_map, List.length_range, List.length_range, Nat.add_mul]))))
      rw [reach_eq, List.length_map, List.length_range] at this
      omega
    by_cases h0 : l0 = 0
    · subst h0
      exact ⟨_, c0, [], rfl, Or.inl rfl, by simp, (fun e => by cases e), fun i hi => by simp at hi⟩
    rw [cellsCl] at hel
    obtain ⟨b, off, spot⟩ := x'
    have hspot : spot = none := by
      obtain ⟨cs', q1, q2⟩ := hel 0 (by omega)
      obtain ⟨_, q4, q5⟩ := World.cells?_some q1
      have q6 := q5 0 (by omega)
      rw [List.getElem?_eq_getElem (by omega)] at q6
      simpa [Addr.add] using World.cell?_spot q6
    subst hspot
    have hall : ∀ i : Fin l0, ∃ x : Cl, ClAt W b off i.1 x ∧ InB x := fun i => by
      obtain ⟨cs', q1, q2⟩ := hel i.1 (by omega)
      obtain ⟨_, q4, q5⟩ := World.cells?_some q1
      obtain ⟨xs, n', _, hxe, _, hxl, hfs⟩ := DataW.trod_struct Try.underlying29 q2
      obtain ⟨e0, e1, e2, e3, e4, rfl⟩ := list5 q4
      obtain ⟨y0, y1, y2, y3, y4, rfl⟩ := list5 (l := xs) hxl
      have f0 := hfs 0 _ rfl
      have f1 := hfs 1 _ rfl
      have f2 := hfs 2 _ rfl
      have f3 := hfs 3 _ rfl
      have f4 := hfs 4 _ rfl
      simp [cells3, cells4] at f0 f1 f2 f3 f4
      obtain ⟨n0, e0', _, w0⟩ := DataW.trod_int Try.underlying3 f0
      obtain ⟨n1, e1', _, w1⟩ := DataW.trod_int Try.underlying3 f1
      obtain ⟨b2, e2', _⟩ := DataW.trod_bool Try.underlying4 f2
      obtain ⟨n3, e3', _, w3⟩ := DataW.trod_int Try.underlying3 f3
      obtain ⟨n4, e4', _, w4⟩ := DataW.trod_int Try.underlying3 f4
      simp at e0' e1' e2' e3' e4'
      subst e0' e1' e2' e3' e4'
      have g0 := q5 0 (by omega)
      have g1 := q5 1 (by omega)
      have g2 := q5 2 (by omega)
      have g3 := q5 3 (by omega)
      have g4 := q5 4 (by omega)
      simp [Go.WideShapes.add_plain] at g0 g1 g2 g3 g4
      exact ⟨⟨n0, n1, b2, n3, n4⟩, ⟨g0, g1, g2, g3, g4⟩, bounds_i64 w0, bounds_i64 w1, bounds_i64 w3, bounds_i64 w4⟩
    obtain ⟨f, hf2⟩ : ∃ f : Fin l0 → Cl, ∀ i, ClAt W b off i.1 (f i) ∧ InB (f i) := ⟨fun i => Classical.choose (hall i), fun i => Classical.choose_spec (hall i)⟩
    refine ⟨some ⟨b, off, none⟩, c0, List.ofFn f, by simp, Or.inr ⟨b, off, rfl, fun i hi => ?_⟩, by simp; omega, (fun e => by cases e), fun i hi => ?_⟩
    · have hi2 : i < l0 := by simpa using hi
      rw [gC_ofFn f i hi2]
      exact (hf2 ⟨i, hi2⟩).1
    · have hi2 : i < l0 := by simpa using hi
      rw [gC_ofFn f i hi2]
      exact (hf2 ⟨i, hi2⟩).2
end
end Go.Proofs.Ytohngekkbgklfaa
