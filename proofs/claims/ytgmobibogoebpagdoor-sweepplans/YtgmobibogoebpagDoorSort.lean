/-
  What the call of slices.SortFunc gives at numbers of blocks, sorted by the closure: the same numbers, each ahead of those that are emptied behind it; by the library's contract.
-/
import Derived.Test.YtgmobibogoebpagDoorLay
import Derived.Test.YtgmobibogoebpagDoorClos2
namespace Go.Proofs.YtgmobibogoebpagDoor
open Go.Shelf Go.RowKit Go.Lib Go.Sort
set_option linter.unusedVariables false

theorem ltB_trans {l : List Bl} {i j k : Nat} (h1 : ltB l i j) (h2 : ltB l j k) : ltB l i k := by unfold ltB at *; omega
theorem ltB_ntrans {l : List Bl} {i j k : Nat} (h1 : ¬ ltB l i j) (h2 : ¬ ltB l j k) : ¬ ltB l i k := by unfold ltB at *; omega
theorem ltB_tot {l : List Bl} {i j : Nat} (h : i ≠ j) : ltB l i j ∨ ltB l j i := by unfold ltB; omega
/-- The numbers of blocks, as numbers that are below their count. -/
def cfX (l : List Bl) (x y : {i : Nat // i < l.length}) : Int := cfB l x.1 y.1
theorem ltX (l : List Bl) (x y : {i : Nat // i < l.length}) : ltOf (cfX l) x y = true ↔ ltB l x.1 y.1 := by
  unfold ltOf cfX
  rw [decide_eq_true_iff]
  exact cfB_lt l x.1 y.1
theorem ltX_no (l : List Bl) (x y : {i : Nat // i < l.length}) : ltOf (cfX l) x y = false ↔ ¬ ltB l x.1 y.1 := by
  rw [← ltX l x y]
  simp
theorem swoX (l : List Bl) : SWO (ltOf (cfX l)) :=
  ⟨fun x => (ltX_no l x x).2 (ltB_irrefl l x.1), fun x y z h1 h2 => (ltX l x z).2 (ltB_trans ((ltX l x y).1 h1) ((ltX l y z).1 h2)), fun x y z h1 h2 => (ltX_no l x z).2 (ltB_ntrans ((ltX_no l x y).1 h1) ((ltX_no l y z).1 h2))⟩
def encX (l : List Bl) (x : {i : Nat // i < l.length}) : Value := .int .i64 (x.1 : Int)
/-- The world that the sort leaves: all but the row is as it was. -/
theorem sw_keep {α : Type} [Inhabited α] (enc : α → Value) (w : World) (g n : Nat) (d : Array α) (os : Array Obj) : Keep (fun b => b = g) w (sortWorld enc w g 0 n d os) := by
  refine ⟨rfl, rfl, rfl, ?_, fun k hk hs => ?_⟩
  · unfold sortWorld
    rw [size_grow, size_putRow, heap_ahead]
    omega
  · unfold sortWorld
    rw [heap_grow_old _ _ (by rw [size_putRow, heap_ahead]; exact hk)]
    have hne : ¬ g = k := fun e => hs e.symm
    simp [putRow, mapBlock, Array.getElem?_modify, hne]
theorem sw_row {α : Type} [Inhabited α] (enc : α → Value) (w : World) (g n : Nat) (d : Array α) (os : Array Obj) {cur : Array Value} {t : TypeId} {f : Nat × Nat} (h : w.heap[g]? = some (.cells cur t f)) : (sortWorld enc w g 0 n d os).heap[g]? = some (.cells (putCells enc 0 d cur) t f) := by
  unfold sortWorld
  rw [heap_grow_old _ _ (by rw [size_putRow, heap_ahead]; exact heap_lt h)]
  simp [putRow, mapBlock, Array.getElem?_modify, h, onCells]
theorem put_size {α : Type} [Inhabited α] (enc : α → Value) (d : Array α) (cur : Array Value) : (putCells enc 0 d cur).size = cur.size := by simp [putCells]
theorem put_take {α : Type} [Inhabited α] (enc : α → Value) (d : Array α) (cur : Array Value) (h : d.size ≤ cur.size) : (putCells enc 0 d cur).toList.take d.size = d.toList.map enc := by
  apply List.ext_getElem
  · simp [putCells]; omega
  · intro i h1 h2
    have hi : i < d.size := by simpa using h2
    have e1 : ((putCells enc 0 d cur).toList.take d.size)[i] = enc d[i]! := by
      simp [putCells, List.getElem_take, hi]
    rw [e1]
    simp [getElem!_pos d i hi]
set_option maxHeartbeats 1000000 in
theorem sort_some (bx g off cap : Nat) (l : List Bl) (w : World) (base gr capr : Nat) (c : List Nat) (h64 : l.length ≤ 64) (hc : ∀ i ∈ c, i < l.length) (h0 : 0 < c.length) (hcl : c.length ≤ 64) (hbx : w.cell? ⟨bx, 0, none⟩ = some (.slice (some ⟨g, off, none⟩) l.length cap)) (hat : ∀ i, i < l.length → BlAt w g off i (gB l i)) (hO : OwnI w base (some ⟨gr, 0, none⟩) capr c) (hb1 : bx < base) (hb2 : g < base) :
    Calls Tryd.prog 14 #[.slice (some ⟨gr, 0, none⟩) c.length capr, .func (.func 15) #[] #[.pointer (some ⟨bx, 0, none⟩)]] w fun e w' => e = .returned (.tuple #[]) ∧ ∃ o : List Nat, o.Perm c ∧ o.Pairwise (fun i j => ¬ ltB l j i) ∧ OwnI w' base (some ⟨gr, 0, none⟩) capr o ∧ Keep (fun b => b = gr) w w' := by
  have hl0 : 0 < l.length := by
    cases c with
    | nil => simp at h0
    | cons x r => have := hc x List.mem_cons_self; omega
  have : Inhabited {i : Nat // i < l.length} := ⟨⟨0, hl0⟩⟩
  obtain ⟨d, hd⟩ : ∃ d : Array {i : Nat // i < l.length}, d.toList.map Subtype.val = c := ⟨(c.attachWith (fun i => i < l.length) hc).toArray, by simp⟩
  have hds : d.size = c.length := by rw [← hd]; simp
  have hge : base ≤ gr := (hO.blk ⟨_, rfl, rfl⟩).1
  have hgl : gr < w.heap.size := (hO.blk ⟨_, rfl, rfl⟩).2
  have hH : Holds (encX l) w gr 0 d := fun j hj => by
    refine ⟨?_, hO.free _⟩
    rw [Nat.zero_add, hO.cell (by omega : j < c.length)]
    have e : c[j]?.getD 0 = (d[j]!).1 := by
      rw [← hd, List.getElem?_map, Array.getElem?_toList, Array.getElem?_eq_getElem hj, getElem!_pos d j hj]
      rfl
    rw [e]
    rfl
  have eg : ∀ args w, (callFunc 15 args).run Tryd.prog w = .ok (.enter 15 args) w := enters_of Tryd.func15 (by kernel_rfl) rfl
  have hcmp : CmpLays1 Tryd.prog 15 #[.pointer (some ⟨bx, 0, none⟩)] (encX l) (cfX l) gr 0 d.size w := fun m os dk hs x y => by
    have hk := sw_keep (encX l) w gr m dk os
    refine clos_any bx g off cap l.length x.1 y.1 (gB l x.1) (gB l y.1) _ x.2 y.2 h64 ?_ ?_ ?_
    · rw [hk.cell (p := ⟨bx, 0, none⟩) (World.block_lt_of_cell? w _ hbx) (by show ¬ bx = gr; omega)]
      exact hbx
    · exact (hat x.1 x.2).keep hk (by show ¬ g = gr; omega)
    · exact (hat y.1 y.2).keep hk (by show ¬ g = gr; omega)
  have hS := Any.slices_SortFunc sortL (encX l) (fun _ => rfl) (cfX l) (swoX l) 15 #[.pointer (some ⟨bx, 0, none⟩)] gr 0 capr d w eg hcmp hH hgl (by omega)
  change Calls Tryd.prog 14 _ _ _ at hS
  rw [hds] at hS
  refine hS.mono ?_
  rintro e w' ⟨he, d', n, os, hp, hs, hw⟩
  have hsz : d'.size = d.size := hp.1
  have hperm : d'.toList.Perm d.toList := by
    have := hp.2.2
    rw [← hds, ← hsz, Array.extract_size, hsz, Array.extract_size] at this
    exact this
  refine ⟨he, d'.toList.map Subtype.val, by rw [← hd]; exact hperm.map _, ?_, ?_, hw ▸ sw_keep (encX l) w gr n d' os⟩
  · rw [List.pairwise_iff_getElem]
    intro i j h1 h2 hij
    have hi : i < d'.size := by simpa using h1
    have hj : j < d'.size := by simpa using h2
    have := hs i j (Nat.zero_le _) hij (by omega)
    rw [ltX_no, getElem!_pos d' i hi, getElem!_pos d' j hj] at this
    simpa using this
  · have hlen : (d'.toList.map Subtype.val).length = c.length := by simp; omega
    rcases hO.parts with ⟨e, _⟩ | ⟨g', cur, e, h1, h2, h3, h4, h5, h6⟩
    · cases e
    · cases e
      refine ⟨by simp, Or.inr ⟨gr, capr, putCells (encX l) 0 d' cur, rfl, h1, by rw [hw]; exact sw_row (encX l) w gr n d' os h2, by omega, h4, by rw [put_size]; omega, ?_⟩⟩
      have ht := put_take (encX l) d' cur (by omega)
      rw [Nat.mul_one, hlen, ← hds, ← hsz, ht]
      simp [iv, encX]
end Go.Proofs.YtgmobibogoebpagDoor
