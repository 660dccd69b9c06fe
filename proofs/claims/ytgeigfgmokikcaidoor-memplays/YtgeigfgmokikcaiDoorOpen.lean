/-
  What the arguments give the walks: bytes, and a script of calls with their data; how long they can be.
-/
import Derived.Test.YtgeigfgmokikcaiDoorRows
import Derived.Test.YtgeigfgmokikcaiDoorStep
import Derived.Test.YtgeigfgmokikcaiDoorApartWalk
import Derived.ProofKit
import Derived.OpenShut
import Derived.SizedLaws
import Derived.ChangeOld
import Derived.Deep.Slices
namespace Go.Proofs.YtgeigfgmokikcaiDoor
open Go.ChangeShapes Go.WideShapes Go.ChangeAt Go.RowKit

theorem own : ownKnob Tryd.prog.godebug = none := by kernel_rfl
theorem laidOut : laidOutB Tryd.prog = true := by kernel_rfl
theorem cells3 : Tryd.prog.cellsOf 3 = 1 := by kernel_rfl
theorem cells5 : Tryd.prog.cellsOf 5 = 1 := by kernel_rfl
theorem cellsY : Tryd.prog.cellsOf 30 = 1 := by kernel_rfl
theorem cellsOp : Tryd.prog.cellsOf 33 = 4 := by kernel_rfl
theorem bytes5 : Tryd.prog.bytesOf 5 = 1 := by kernel_rfl
theorem bytesOp : Tryd.prog.bytesOf 33 = 48 := by kernel_rfl
theorem reach_eq : reachBytes = 140737488351232 := rfl
theorem list4 {α : Type} {l : List α} (h : l.length = 4) : ∃ a b c d, l = [a, b, c, d] :=
  match l, h with
  | [a, b, c, d], _ => ⟨a, b, c, d, rfl⟩
theorem wAll_mem {H : Type} {P : Program} {e : TypeId} : ∀ {l : List (DataW H)} {d : DataW H}, d ∈ l → ∀ n ∈ d.weights P e, n ∈ DataW.weightsAll P e l
  | d' :: r, d, hd, n, hn => by
    simp only [DataW.weightsAll, List.mem_append]
    rcases List.mem_cons.1 hd with rfl | h
    · exact Or.inl hn
    · exact Or.inr (wAll_mem h n hn)
section
variable {H : Type} {enc : TypeId × Value → H} {W : World}
theorem bytes_cells {fuel : Nat} {cs : List Value} {x : DataW H × List MemPlace} (h : DataW.trod enc Tryd.prog W 0 (fun _ => true) true fuel 30 cs = some x) :
    ∃ (a : Option Addr) (cap : Nat) (bs : List Nat), cs = [.slice a bs.length cap] ∧ (Lies W a bs ∧ AllB bs ∧ (a = none → cap = 0) ∧ bs.length ≤ cap) ∧ (bs = [] ∨ ∃ n, n ∈ x.1.weights Tryd.prog 30 ∧ bs.length ≤ n) := by
  rcases open_ints Tryd.underlying30 Tryd.underlying5 cells5 h with ⟨hcs, hx⟩ | ⟨x', len, cap, zs, hcs, _, hl, hm, hz, hx, hcell, hwz⟩
  · exact ⟨none, 0, [], hcs, ⟨Or.inl rfl, fun _ h => by simp at h, fun _ => rfl, Nat.le_refl _⟩, Or.inl rfl⟩
  · have hzl : zs.length = cap := by simpa using hz
    have hlen : ((zs.take len).map Int.toNat).length = len := by simp; omega
    refine ⟨some x', cap, (zs.take len).map Int.toNat, by rw [hlen]; exact hcs, ⟨?_, ?_, (fun e => by cases e), by rw [hlen]; exact hl⟩, Or.inr ⟨((lits .u8 (zs.take len) : List (DataW H)).length + (lits .u8 (zs.drop len) : List (DataW H)).length) * 1, ?_, ?_⟩⟩
    · by_cases h0 : len = 0
      · subst h0; exact Or.inl (by simp)
      · obtain ⟨b, off, rfl, hc⟩ := ints_at hcell (by omega)
        refine Or.inr ⟨b, off, rfl, fun i hi => ?_⟩
        have hi2 : i < len := by omega
        rw [hc i (by omega)]
        have hb := bounds_u8 (hwz (zs.getD i 0) (by
          rw [List.getD_eq_getElem?_getD, List.getElem?_eq_getElem (by omega : i < zs.length)]; exact List.getElem_mem _))
        have e : ((zs.take len).map Int.toNat)[i]?.getD 0 = (zs.getD i 0).toNat := by
          rw [List.getElem?_map, List.getElem?_take, if_pos hi2, List.getD_eq_getElem?_getD, List.getElem?_eq_getElem (by omega : i < zs.length)]
          rfl
        rw [e, Int.toNat_of_nonneg hb.1]
    · intro y hy
      obtain ⟨z, hz1, rfl⟩ := List.mem_map.1 hy
      have := bounds_u8 (hwz z (List.mem_of_mem_take hz1))
      omega
    · rw [hx]
      simp only [DataW.weights, Tryd.underlying30, List.mem_cons]
      exact Or.inl (by rw [bytes5])
    · rw [hlen]
      simp [lits]
      omega
/-- WHAT THE WALK IS TOLD OF BYTES THAT CAME IN. -/
theorem bytes_open {v : Value} {d : DataW H} {p : List MemPlace} {ts : List TypeId} {ds : List (DataW H)} {j : Nat}
    (h : DataW.Trod enc Tryd.prog W 0 (fun _ => true) true 30 v d p) (hv : ∃ a len cap, v = .slice a len cap) (hsz : (DataW.weightsEach Tryd.prog ts ds).all (· ≤ reachBytes) = true) (ht : ts[j]? = some 30) (hd : ds[j]? = some d) :
    ∃ (a : Option Addr) (cap : Nat) (bs : List Nat), v = .slice a bs.length cap ∧ BIn W a cap bs := by
  obtain ⟨a0, l0, c0, rfl⟩ := hv
  obtain ⟨fuel, hf⟩ := h
  obtain ⟨a, cap, bs, hcs, h1, h2⟩ := bytes_cells hf
  simp [Value.cells] at hcs
  obtain ⟨rfl, rfl, rfl⟩ := hcs
  refine ⟨_, _, bs, rfl, ⟨h1.1, h1.2.1, ?_, h1.2.2.1, h1.2.2.2⟩⟩
  rcases h2 with rfl | ⟨n, h2, h3⟩
  · exact Nat.zero_le _
  · have := of_decide_eq_true (List.all_eq_true.1 hsz _ (DataW.weights_mem_each ht hd n h2))
    rw [reach_eq] at this
    omega
/-- A script that came in. -/
theorem script_open {v : Value} {d : DataW H} {p : List MemPlace} {ts : List TypeId} {ds : List (DataW H)} {j : Nat}
    (h : DataW.Trod enc Tryd.prog W 0 (fun _ => true) true 22 v d p) (hv : ∃ a len cap, v = .slice a len cap) (hsz : (DataW.weightsEach Tryd.prog ts ds).all (· ≤ reachBytes) = true) (ht : ts[j]? = some 22) (hd : ds[j]? = some d) :
    ∃ (a : Option Addr) (len cap : Nat), v = .slice a len cap ∧ Script W a len ∧ len * 48 ≤ 140737488351232 := by
  obtain ⟨a0, l0, c0, rfl⟩ := hv
  obtain ⟨fuel, hf⟩ := h
  rcases Go.Deep.open_slice Tryd.underlying22 hf with ⟨hcs, hx⟩ | ⟨x', len, cap, m, n, Dd, Pl, hcs, _, hl, hm, hmm, hx, hel⟩
  · simp [Value.cells] at hcs
    obtain ⟨rfl, rfl, rfl⟩ := hcs
    exact ⟨_, _, _, rfl, Or.inl rfl, by omega⟩
  · simp [Value.cells] at hcs
    obtain ⟨rfl, rfl, rfl⟩ := hcs
    have ed : d = (DataW.slice ((List.range l0).map Dd) ((List.range (m - l0)).map fun j => Dd (l0 + j)) : DataW H) := (Prod.ext_iff.1 hx).1
    rw [ed] at hd
    have hwt : ∀ n, n ∈ (DataW.slice ((List.range l0).map Dd) ((List.range (m - l0)).map fun j => Dd (l0 + j)) : DataW H).weights Tryd.prog 22 → n ≤ 140737488351232 := fun n hn => by
      have := of_decide_eq_true (List.all_eq_true.1 hsz _ (DataW.weights_mem_each ht hd n hn))
      rw [reach_eq] at this
      exact this
    refine ⟨_, _, _, rfl, ?_, ?_⟩
    · by_cases h0 : l0 = 0
      · exact Or.inl h0
      · right
        have hlm : l0 ≤ m := by rw [hmm]; split <;> omega
        rw [cellsOp] at hel
        obtain ⟨b, off, spot⟩ := x'
        have hspot : spot = none := by
          obtain ⟨cs', q1, q2⟩ := hel 0 (by omega)
          obtain ⟨_, q4, q5⟩ := World.cells?_some q1
          have q6 := q5 0 (by omega)
          rw [List.getElem?_eq_getElem (by omega)] at q6
          simpa [Addr.add] using World.cell?_spot q6
        subst hspot
        refine ⟨b, off, rfl, fun i hi => ?_⟩
        obtain ⟨cs', q1, q2⟩ := hel i (by omega)
        obtain ⟨_, q4, q5⟩ := World.cells?_some q1
        obtain ⟨xs, n', _, hxe, _, hxl, hfs⟩ := DataW.trod_struct Tryd.underlying33 q2
        obtain ⟨c0, c1, c2, c3, rfl⟩ := list4 q4
        obtain ⟨y0, y1, y2, y3, rfl⟩ := list4 (l := xs) hxl
        have f0 := hfs 0 _ rfl
        have f1 := hfs 1 _ rfl
        have f2 := hfs 2 _ rfl
        have f3 := hfs 3 _ rfl
        simp [cells3, cellsY] at f0 f1 f2 f3
        obtain ⟨n0, e0, _, w0⟩ := DataW.trod_int Tryd.underlying3 f0
        obtain ⟨n1, e1, _, w1⟩ := DataW.trod_int Tryd.underlying3 f1
        obtain ⟨n2, e2, _, w2⟩ := DataW.trod_int Tryd.underlying3 f2
        obtain ⟨a2, cap2, bs2, e3, l2, z2⟩ := bytes_cells f3
        simp at e0 e1 e2 e3
        subst e0 e1 e2 e3
        have g0 := q5 0 (by omega)
        have g1 := q5 1 (by omega)
        have g2 := q5 2 (by omega)
        have g3 := q5 3 (by omega)
        simp [Go.WideShapes.add_plain] at g0 g1 g2 g3
        refine ⟨⟨n0, n1, n2, a2, bs2, cap2⟩, g0, g1, g2, g3, ⟨l2.1, l2.2.1, ?_, l2.2.2.1, l2.2.2.2⟩, (by have := bounds_i64 w1; show -9223372036854775808 ≤ n1 ∧ n1 ≤ 9223372036854775807; omega)⟩
        rcases z2 with rfl | ⟨q, z2, z3⟩
        · exact Nat.zero_le _
        · have eD : Dd i = .agg [y0.1, y1.1, y2.1, y3.1] := (Prod.ext_iff.1 hxe).1
          have hq : q ≤ 140737488351232 := by
            refine hwt q ?_
            simp only [DataW.weights, Tryd.underlying22, List.mem_cons, List.mem_append]
            refine Or.inr (Or.inl (wAll_mem (d := Dd i) (List.mem_map.2 ⟨i, List.mem_range.2 hi, rfl⟩) q ?_))
            rw [eD]
            simp only [DataW.weights, Tryd.underlying33]
            simp only [List.map_cons, List.map_nil, DataW.weightsEach, List.mem_append]
            exact Or.inr (Or.inr (Or.inr (Or.inl z2)))
          show bs2.length ≤ _
          omega
    · have hlm : l0 ≤ m := by rw [hmm]; split <;> omega
      have := hwt (((List.range l0).map Dd).length * 48 + (m - l0) * 48) (by
        simp only [DataW.weights, Tryd.underlying22, List.mem_cons]
        exact Or.inl (by rw [bytesOp, List.length_map, List.length_map, List.length_range, List.length_range, Nat.add_mul]))
      rw [List.length_map, List.length_range] at this
      omega
end
end Go.Proofs.YtgeigfgmokikcaiDoor
