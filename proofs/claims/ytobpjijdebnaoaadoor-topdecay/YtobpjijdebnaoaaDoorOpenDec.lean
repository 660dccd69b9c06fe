/- Part of the proof. -/
import Derived.Test.YtobpjijdebnaoaaDoorRows
import Derived.Test.YtobpjijdebnaoaaDoorUpto
import Derived.Test.YtobpjijdebnaoaaDoorDecRun
import Derived.ProofKit
import Derived.LaidMore
import Derived.OpenShut
import Derived.SizedLaws
import Derived.Stop.Joined
import Derived.Lib.LaidTab
import Derived.ChangeOld
import Derived.Deep.Slices
import Derived.SevenTiedAt
namespace Go.Proofs.YtobpjijdebnaoaaDoor
open Go Go.ChangeShapes Go.WideShapes Go.ChangeAt Go.RowKit
theorem gPlaces : Tryd.prog.globalNamed "granary/code.places" = some 0 := by kernel_rfl
theorem tPlaces : (Tryd.prog.globals[0]?).map (·.type) = some 76 := by kernel_rfl
theorem cellsPl : Tryd.prog.cellsOf 76 = 64 := by kernel_rfl
theorem cells5 : Tryd.prog.cellsOf 5 = 1 := by kernel_rfl
theorem cells3 : Tryd.prog.cellsOf 3 = 1 := by kernel_rfl
theorem cellsCm : Tryd.prog.cellsOf 24 = 4 := by kernel_rfl
theorem cellsBy : Tryd.prog.cellsOf 22 = 1 := by kernel_rfl
def placesI : List Int := YtobpjijdebnaoaaDoorQC.placesL.map fun p : Nat => (p : Int)
/-- WHAT THE ROW's LIST GIVES: the table of places. -/
theorem plc_of {W : World} (h : laidMet Tryd.prog [("granary/code.places", Rows.laid_granary_code_places)] W) : YtobpjijdebnaoaaDoorQC.Plc W := by
  have ht : Lib.TabIs Tryd.prog W "granary/code.places" .u8 placesI :=
    Lib.tabIs_of_head (rest := []) gPlaces tPlaces Tryd.underlying76 Tryd.underlying5 cells5 cellsPl h
  unfold Lib.TabIs at ht
  simp only [World.var?, gPlaces, Option.bind_some] at ht
  split at ht
  · rename_i cs t fr hc
    refine ⟨t, fr, ?_⟩
    rw [hc]
    have e : cs = YtobpjijdebnaoaaDoorQC.PL := by
      have := Option.some.inj ht
      rw [this]
      simp [YtobpjijdebnaoaaDoorQC.PL, placesI]
    rw [e]
  · cases ht
theorem list4 {α : Type} {l : List α} (h : l.length = 4) : ∃ a b c d, l = [a, b, c, d] :=
  match l, h with
  | [a, b, c, d], _ => ⟨a, b, c, d, rfl⟩
section
variable {H : Type} {enc : TypeId × Value → H} {W : World}
theorem ints_in {v : Value} {d : DataW H} {p : List MemPlace} (h : DataW.Trod enc Tryd.prog W 0 (fun _ => true) true 25 v d p) (hv : ∃ a len cap, v = .slice a len cap) :
    ∃ (a : Option Addr) (len cap : Nat) (z : Nat → Int), v = .slice a len cap ∧ len ≤ cap ∧ NIn W a cap z ∧ (∀ j, j < cap → -9223372036854775808 ≤ z j) ∧ cap ≤ 9223372036854775807 := by
  obtain ⟨a0, l0, c0, rfl⟩ := hv
  obtain ⟨fuel, hf⟩ := h
  rcases open_ints Tryd.underlying25 Tryd.underlying3 cells3 hf with ⟨hcs, hx⟩ | ⟨x', len, cap, zs, hcs, _, hl, hm, hz, hx, hcell, hwz⟩
  · simp [Value.cells] at hcs
    obtain ⟨rfl, rfl, rfl⟩ := hcs
    exact ⟨none, 0, 0, fun _ => 0, rfl, Nat.le_refl _, ⟨fun j hj => by omega, fun j hj => by omega⟩, fun j hj => by omega, by omega⟩
  · simp [Value.cells] at hcs
    obtain ⟨rfl, rfl, rfl⟩ := hcs
    have hzl : zs.length = c0 := by simpa using hz
    refine ⟨some x', l0, c0, fun j => zs.getD j 0, rfl, hl, ⟨fun j hj => ?_, fun j hj => ?_⟩, fun j hj => ?_, by have h9 := hm; unfold maxLen at h9; simpa using h9⟩
    · obtain ⟨b, off, rfl, hc⟩ := ints_at hcell (by omega)
      exact ⟨b, off, rfl, hc j (by omega)⟩
    · have hb := bounds_i64 (hwz (zs.getD j 0) (by
        rw [List.getD_eq_getElem?_getD, List.getElem?_eq_getElem (by omega : j < zs.length)]; exact List.getElem_mem _))
      omega
    · have hb := bounds_i64 (hwz (zs.getD j 0) (by
        rw [List.getD_eq_getElem?_getD, List.getElem?_eq_getElem (by omega : j < zs.length)]; exact List.getElem_mem _))
      exact hb.1
theorem frame_in {r : Reach} {b0 : Nat} {v : Value} {d : DataW H} {p : List MemPlace} (hval : True → Value.okWide Tryd.prog W r b0 24 v) (h : DataW.Trod enc Tryd.prog W 0 (fun _ => true) true 24 v d p) :
    ∃ (k l s : Int) (a : Option Addr) (dl cap : Nat), v = .agg #[.int .i64 k, .int .i64 l, .int .i64 s, .slice a dl cap] ∧ PIn W a dl cap := by
  have hv : ∃ cs : Array Value, v = .agg cs ∧ cs.size = Tryd.prog.cellsOf 24 := by
    simp only [Value.okWide, Tryd.underlying24] at hval
    obtain ⟨cs, h1, h2, _⟩ := hval trivial
    exact ⟨cs, h1, h2⟩
  obtain ⟨cs, rfl, hsz⟩ := hv
  rw [cellsCm] at hsz
  obtain ⟨fuel, hf⟩ := h
  obtain ⟨xs, n, _, _, _, hxl, hfs⟩ := DataW.trod_struct Tryd.underlying24 hf
  obtain ⟨l⟩ := cs
  obtain ⟨c0, c1, c2, c3, rfl⟩ := list4 (l := l) hsz
  obtain ⟨y0, y1, y2, y3, rfl⟩ := list4 (l := xs) hxl
  have f0 := hfs 0 _ rfl
  have f1 := hfs 1 _ rfl
  have f2 := hfs 2 _ rfl
  have f3 := hfs 3 _ rfl
  simp [cells3, cellsBy, Value.cells] at f0 f1 f2 f3
  obtain ⟨n0, e0, _⟩ := DataW.trod_int Tryd.underlying3 f0
  obtain ⟨n1, e1, _⟩ := DataW.trod_int Tryd.underlying3 f1
  obtain ⟨n2, e2, _⟩ := DataW.trod_int Tryd.underlying3 f2
  obtain ⟨a, dl, cap, e3, hp⟩ := page_in f3
  simp at e0 e1 e2
  subst e0 e1 e2 e3
  exact ⟨n0, n1, n2, a, dl, cap, rfl, hp⟩
end
/-- A tied card without a companion, of a row whose call starts goroutines. -/
theorem tied_goes (Lk : Looks) {p : Pinned} {s : OpenSpec} {c : OpenClaim} (kinds : List LaidKind) (tests : Bool) (har : Bool × String) (lk : Bool)
    (hc : c.holds p s) (hw : c.wfByText s = true) (htie : c.laidByTextAt Lk p kinds tests)
    (hst : c.start = .entering) (hnb : c.noBlocks = false ∧ c.again = false) (hm : p.checked.prog.mainIs = some (har.1, har.2.toList)) (hn : (!har.1 && har.2.isEmpty && !lk) = false)
    (hl : ∀ f fn, p.checked.prog.funcNamed c.func = some f → p.checked.prog.funcs[f]? = some fn → lk = p.checked.prog.looks [] ∧ ∀ (j : Nat) t, fn.params[j]? = some t → p.checked.prog.wantsStandIn t = false)
    (hg : true = c.goesBy p.checked.prog) :
    Claim7.holds p (.plain s) { stood := { row := c, standIns := [], harness := har, looks := lk }, kinds := [], alts := [], goes := true, laidByText := true, laidKinds := kinds, laidTests := tests, laidLooks := Lk } := by
  have h6 : Claim7.isSixth { stood := { row := c, standIns := [], harness := har, looks := lk }, kinds := [] } = false := by simpa [Claim7.isSixth] using hn
  obtain ⟨_, rest⟩ := Claim7.new_of_sixth hc har lk hst hnb hm h6 hl
  exact ⟨⟨hw, rest⟩, (fun D hD => by cases hD), htie, (fun h => by cases h), hg⟩
end Go.Proofs.YtobpjijdebnaoaaDoor
