/-
  What the arguments give the walks: a geometry, bytes, a script; and what the listed variable holds.
-/
import Derived.Test.YtjeelaaimhckhabDoorRows
import Derived.Test.YtjeelaaimhckhabDoorAids
import Derived.ProofKit
import Derived.LaidMore
import Derived.OpenShut
import Derived.SizedLaws
import Derived.Stop.Joined
import Derived.ChangeOld
import Derived.LaidHandle
import Derived.Deep.Slices
namespace Go.Proofs.YtjeelaaimhckhabDoor
open Go.ChangeShapes Go.WideShapes Go.ChangeAt Go.RowKit

theorem own : ownKnob Tryd.prog.godebug = none := by kernel_rfl
theorem laidOut : laidOutB Tryd.prog = true := by kernel_rfl
theorem cells5 : Tryd.prog.cellsOf 5 = 1 := by kernel_rfl
theorem cells3 : Tryd.prog.cellsOf 3 = 1 := by kernel_rfl
theorem cells36 : Tryd.prog.cellsOf 36 = 1 := by kernel_rfl
theorem cells23 : Tryd.prog.cellsOf 23 = 4 := by kernel_rfl
theorem cells38 : Tryd.prog.cellsOf 38 = 6 := by kernel_rfl
theorem bytes5 : Tryd.prog.bytesOf 5 = 1 := by kernel_rfl
theorem bytes38 : Tryd.prog.bytesOf 38 = 64 := by kernel_rfl

theorem list4 {α : Type} {l : List α} (h : l.length = 4) : ∃ a b c d, l = [a, b, c, d] :=
  match l, h with
  | [a, b, c, d], _ => ⟨a, b, c, d, rfl⟩
theorem list6 {α : Type} {l : List α} (h : l.length = 6) : ∃ a b c d e f, l = [a, b, c, d, e, f] :=
  match l, h with
  | [a, b, c, d, e, f], _ => ⟨a, b, c, d, e, f, rfl⟩
section
variable {H : Type} {enc : TypeId × Value → H} {W : World}
theorem bytes_cells {fuel : Nat} {cs : List Value} {x : DataW H × List MemPlace} (h : DataW.trod enc Tryd.prog W 0 (fun _ => true) true fuel 36 cs = some x) :
    ∃ (a : Option Addr) (cap : Nat) (bs : List Nat), cs = [.slice a bs.length cap] ∧ AllB bs ∧ Lies W a bs ∧ bs.length ≤ cap ∧ (x.1 = .nil ∨ ∃ e sp, x.1 = .slice e sp ∧ e.length = bs.length) := by
  rcases open_ints Tryd.underlying36 Tryd.underlying5 cells5 h with ⟨hcs, hx⟩ | ⟨x', len, cap, zs, hcs, _, hl, hm, hz, hx, hcell, hwz⟩
  · exact ⟨none, 0, [], hcs, fun _ h => by simp at h, Or.inl rfl, Nat.le_refl _, Or.inl (by rw [hx])⟩
  · have hzl : zs.length = cap := by simpa using hz
    have hlen : ((zs.take len).map Int.toNat).length = len := by simp; omega
    refine ⟨some x', cap, (zs.take len).map Int.toNat, by rw [hlen]; exact hcs, ?_, ?_, by rw [hlen]; exact hl, Or.inr ⟨lits .u8 (zs.take len), lits .u8 (zs.drop len), by rw [hx], by simp [lits]⟩⟩
    · intro y hy
      obtain ⟨z, hz1, rfl⟩ := List.mem_map.1 hy
      have := bounds_u8 (hwz z (List.mem_of_mem_take hz1))
      omega
    · by_cases h0 : len = 0
      · subst h0; exact Or.inl (by simp)
      · obtain ⟨b, off, rfl, hc⟩ := ints_at hcell (by omega)
        refine Or.inr ⟨b, off, rfl, fun i hi => ?_⟩
        have hi2 : i < len := by omega
        rw [hc i (by omega)]
        have hb := bounds_u8 (hwz (zs.getD i 0) (by
          rw [List.getD_eq_getElem?_getD, List.getElem?_eq_getElem (by omega : i < zs.length)]; exact List.getElem_mem _))
        have e : ((zs.take len).map Int.toNat)[i]?.getD 0 = (zs.getD i 0).toNat := by
          rw [List.getElem?_map, List.getElem?_take, if_pos hi2, List.getD_eq_getElem?_getD, List.getElem?_eq_getElem (by omega : i < zs.length)]
          rfl
        rw [e, Int.toNat_of_nonneg hb.1]
/-- WHAT THE WALK IS TOLD OF BYTES THAT CAME IN. -/
theorem bytes_open {v : Value} {d : DataW H} {p : List MemPlace} {ts : List TypeId} {ds : List (DataW H)} {j : Nat}
    (h : DataW.Trod enc Tryd.prog W 0 (fun _ => true) true 36 v d p) (hv : ∃ a len cap, v = .slice a len cap) (hsz : (DataW.weightsEach Tryd.prog ts ds).all (· ≤ reachBytes) = true) (ht : ts[j]? = some 36) (hd : ds[j]? = some d) :
    ∃ (a : Option Addr) (cap : Nat) (bs : List Nat), v = .slice a bs.length cap ∧ AllB bs ∧ Lies W a bs ∧ bs.length ≤ cap ∧ bs.length ≤ 140737488351232 := by
  obtain ⟨a0, l0, c0, rfl⟩ := hv
  obtain ⟨fuel, hf⟩ := h
  obtain ⟨a, cap, bs, hcs, h1, h2, h3, h4⟩ := bytes_cells hf
  simp [Value.cells] at hcs
  obtain ⟨rfl, rfl, rfl⟩ := hcs
  refine ⟨_, _, bs, rfl, h1, h2, h3, ?_⟩
  rcases h4 with h4 | ⟨e, sp, h4, h5⟩
  · have hb : bs.length = 0 := by
      rcases open_ints Tryd.underlying36 Tryd.underlying5 cells5 hf with ⟨hcs, hx⟩ | ⟨x', len, cap, zs, hcs, _, hl, hm, hz, hx, hcell, hwz⟩
      · simp [Value.cells] at hcs; exact (congrArg List.length hcs.2.1).trans rfl
      · simp only [Prod.mk.injEq] at hx
        rw [hx.1] at h4
        cases h4
    omega
  · have h4' : d = .slice e sp := h4
    rw [h4'] at hd
    have := sized_slice hsz (j := j) (t := 36) (e := 5) ht hd Tryd.underlying36
    rw [bytes5] at this
    simp only [reachBytes] at this
    omega
/-- A geometry that came in. -/
theorem geo_open {r : Reach} {b0 : Nat} {v : Value} {d : DataW H} {p : List MemPlace} (hval : True → Value.okWide Tryd.prog W r b0 23 v) (h : DataW.Trod enc Tryd.prog W 0 (fun _ => true) true 23 v d p) :
    ∃ g0 g1 g2 g3 : Int, v = .agg #[.int .i64 g0, .int .i64 g1, .int .i64 g2, .int .i64 g3] := by
  have hv : ∃ cs : Array Value, v = .agg cs ∧ cs.size = Tryd.prog.cellsOf 23 := by
    simp only [Value.okWide, Tryd.underlying23] at hval
    obtain ⟨cs, h1, h2, _⟩ := hval trivial
    exact ⟨cs, h1, h2⟩
  obtain ⟨cs, rfl, hsz⟩ := hv
  rw [cells23] at hsz
  obtain ⟨fuel, hf⟩ := h
  obtain ⟨xs, n, _, _, _, hxl, hfs⟩ := DataW.trod_struct Tryd.underlying23 hf
  obtain ⟨l⟩ := cs
  obtain ⟨c0, c1, c2, c3, rfl⟩ := list4 (l := l) hsz
  obtain ⟨y0, y1, y2, y3, rfl⟩ := list4 (l := xs) hxl
  have f0 := hfs 0 _ rfl
  have f1 := hfs 1 _ rfl
  have f2 := hfs 2 _ rfl
  have f3 := hfs 3 _ rfl
  simp [cells3, Value.cells] at f0 f1 f2 f3
  obtain ⟨n0, e0, _⟩ := DataW.trod_int Tryd.underlying3 f0
  obtain ⟨n1, e1, _⟩ := DataW.trod_int Tryd.underlying3 f1
  obtain ⟨n2, e2, _⟩ := DataW.trod_int Tryd.underlying3 f2
  obtain ⟨n3, e3, _⟩ := DataW.trod_int Tryd.underlying3 f3
  simp at e0 e1 e2 e3
  subst e0 e1 e2 e3
  exact ⟨n0, n1, n2, n3, rfl⟩
/-- A script that came in. -/
theorem script_open {v : Value} {d : DataW H} {p : List MemPlace} {ts : List TypeId} {ds : List (DataW H)} {j : Nat}
    (h : DataW.Trod enc Tryd.prog W 0 (fun _ => true) true 24 v d p) (hv : ∃ a len cap, v = .slice a len cap) (hsz : (DataW.weightsEach Tryd.prog ts ds).all (· ≤ reachBytes) = true) (ht : ts[j]? = some 24) (hd : ds[j]? = some d) :
    ∃ (a : Option Addr) (len cap : Nat), v = .slice a len cap ∧ Script W a len ∧ len ≤ 140737488351232 := by
  obtain ⟨a0, l0, c0, rfl⟩ := hv
  obtain ⟨fuel, hf⟩ := h
  rcases Go.Deep.open_slice Tryd.underlying24 hf with ⟨hcs, hx⟩ | ⟨x', len, cap, m, n, Dd, Pl, hcs, _, hl, hm, hmm, hx, hel⟩
  · simp [Value.cells] at hcs
    obtain ⟨rfl, rfl, rfl⟩ := hcs
    exact ⟨_, _, _, rfl, Or.inl rfl, by omega⟩
  · simp [Value.cells] at hcs
    obtain ⟨rfl, rfl, rfl⟩ := hcs
    refine ⟨_, _, _, rfl, ?_, ?_⟩
    · by_cases h0 : l0 = 0
      · exact Or.inl h0
      · right
        have hlm : l0 ≤ m := by rw [hmm]; split <;> omega
        rw [cells38] at hel
        obtain ⟨b, off, spot⟩ := x'
        have hspot : spot = none := by
          obtain ⟨cs', q1, q2⟩ := hel 0 (by omega)
          obtain ⟨_, q4, q5⟩ := World.cells?_some q1
          have q6 := q5 0 (by omega)
          rw [List.getElem?_eq_getElem (by omega)] at q6
          simpa [Addr.add] using World.cell?_spot q6
        subst hspot
        refine ⟨b, off, rfl, fun i hi => ?_⟩
        obtain ⟨cs', q1, q2⟩ := hel i (by omega)
        obtain ⟨_, q4, q5⟩ := World.cells?_some q1
        obtain ⟨xs, n', _, _, _, hxl, hfs⟩ := DataW.trod_struct Tryd.underlying38 q2
        obtain ⟨c0, c1, c2, c3, c4, c5, rfl⟩ := list6 q4
        obtain ⟨y0, y1, y2, y3, y4, y5, rfl⟩ := list6 (l := xs) hxl
        have f0 := hfs 0 _ rfl
        have f1 := hfs 1 _ rfl
        have f2 := hfs 2 _ rfl
        have f3 := hfs 3 _ rfl
        have f4 := hfs 4 _ rfl
        have f5 := hfs 5 _ rfl
        simp [cells3, cells36] at f0 f1 f2 f3 f4 f5
        obtain ⟨n0, e0, _⟩ := DataW.trod_int Tryd.underlying3 f0
        obtain ⟨n1, e1, _⟩ := DataW.trod_int Tryd.underlying3 f1
        obtain ⟨n2, e2, _⟩ := DataW.trod_int Tryd.underlying3 f2
        obtain ⟨n3, e3, _⟩ := DataW.trod_int Tryd.underlying3 f3
        obtain ⟨n5, e5, _⟩ := DataW.trod_int Tryd.underlying3 f5
        obtain ⟨da, dc, bs, e4, r1, r2, r3, _⟩ := bytes_cells f4
        simp at e0 e1 e2 e3 e4 e5
        subst e0 e1 e2 e3 e4 e5
        have g0 := q5 0 (by omega)
        have g1 := q5 1 (by omega)
        have g2 := q5 2 (by omega)
        have g3 := q5 3 (by omega)
        have g4 := q5 4 (by omega)
        have g5 := q5 5 (by omega)
        simp [Go.WideShapes.add_plain] at g0 g1 g2 g3 g4 g5
        exact ⟨⟨n0, n1, n2, n3, n5, da, bs, dc⟩, g0, g1, g2, g3, g4, g5, r1, r2, r3⟩
    · simp only [Prod.mk.injEq] at hx
      rw [hx.1] at hd
      have := sized_slice hsz (j := j) (t := 24) (e := 38) ht hd Tryd.underlying24
      rw [bytes38] at this
      simp only [List.length_map, List.length_range, reachBytes] at this
      omega
end
theorem gError : Tryd.prog.globalNamed "errors.errorType" = some 0 := by kernel_rfl
theorem gRtype : (Tryd.prog.cutTypes.find? (·.1 == "internal/reflectlite.rtype")).map (·.2) = some 94 := by kernel_rfl
theorem gOneRow : ((List.range 137).filter fun t => Tryd.prog.rowNamed t [101, 114, 114, 111, 114]) = [27] := by kernel_rfl
theorem gTypes : Tryd.prog.types.size = 137 := by kernel_rfl
theorem etype_of {W : World} (h : laidMetH Tryd.prog [("errors.errorType", Rows.laid_errors_errorType)] W) : EType W := by
  have h' : laidMet Tryd.prog [] W ∧ handlesMet Tryd.prog [("errors.errorType", Rows.laid_errors_errorType)] W := h
  obtain ⟨name, u, ty, e1, e2, e3, e4, e5⟩ := h'.2 _ (List.mem_singleton.2 rfl)
  have en : name = [101, 114, 114, 111, 114] := (Option.some.inj e1).symm
  subst en
  obtain rfl := Option.some.inj (gRtype.symm.trans e2)
  have hm : ty ∈ (List.range 137).filter fun t => Tryd.prog.rowNamed t [101, 114, 114, 111, 114] := List.mem_filter.2 ⟨List.mem_range.2 (by rw [← gTypes]; exact e3), e4⟩
  rw [gOneRow] at hm
  obtain rfl := List.mem_singleton.1 hm
  have hh : typeHandle Tryd.prog 27 = .pointer (some ⟨1, 27, none⟩) := by kernel_rfl
  rw [hh] at e5
  unfold EType
  simpa using World.var?_cell gError e5 0
end Go.Proofs.YtjeelaaimhckhabDoor
