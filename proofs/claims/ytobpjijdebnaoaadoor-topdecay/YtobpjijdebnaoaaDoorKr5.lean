/- Part of the proof. -/
import Derived.Test.YtobpjijdebnaoaaDoorKr3
import Derived.Test.YtobpjijdebnaoaaDoorKrR
namespace Go.Proofs.YtobpjijdebnaoaaDoor
open Go Go.Conc
def zSight : Value := .agg #[.int .i64 0, .int .i64 0, .int .i64 0, .int .i64 0, .int .i64 0]
def sV (y : Lk) (br : Nat) (t : Nat → Value) : Array Value := #[t 0, t 1, t 2, t 3, t 4, .nilIface, t 6, t 7, t 8, .slice (some ⟨br, 0, none⟩) y.len y.len, t 10, t 11, t 12, t 13, t 14, t 15, t 16, t 17, t 18, t 19, t 20, t 21, t 22, t 23, t 24, t 25, t 26, t 27, t 28, t 29, t 30, t 31, t 32, t 33, t 34, t 35, t 36, .chan (some y.bc), t 38, t 39, t 40, t 41, t 42, t 43, t 44, t 45, t 46, t 47]
structure SlV (y : Lk) (br : Nat) (T : Array Value) : Prop where
  size : T.size = 48
  s5 : T[5]? = some .nilIface
  s9 : T[9]? = some (.slice (some ⟨br, 0, none⟩) y.len y.len)
  s37 : T[37]? = some (.chan (some y.bc))
theorem SlV.form {y : Lk} {br : Nat} {T : Array Value} (h : SlV y br T) : ∃ t, T = sV y br t := by
  obtain ⟨t, e⟩ := arr48 T h.size
  obtain ⟨_, s5, s9, s37⟩ := h
  rw [e] at s5 s9 s37
  replace s5 : t 5 = _ := Option.some.inj s5
  replace s9 : t 9 = _ := Option.some.inj s9
  replace s37 : t 37 = _ := Option.some.inj s37
  refine ⟨t, ?_⟩
  rw [e]
  unfold T48 sV
  rw [s5, s9, s37]
/-! ### to the first receive -/
def lT0 (P : Program) (y : Lk) (n : Nat) (t : Nat → Value) : Goroutine := nxN P true 2 (atC P 25 9 (sT y n t) y.cs)
def lT1 (P : Program) (y : Lk) (n : Nat) (t : Nat → Value) : Goroutine := go1 P (lT0 P y n t) (.value (.chan (some y.bc)))
def lT2 (P : Program) (y : Lk) (n : Nat) (t : Nat → Value) : Goroutine := nxN P true 3 (go1 P (lT1 P y n t) (.value (.tuple #[])))
def lT3 (P : Program) (y : Lk) (n : Nat) (t : Nat → Value) : Goroutine := nxN P true 1 (go1 P (lT2 P y n t) (.value y.pages))
def lT4 (P : Program) (y : Lk) (n : Nat) (t : Nat → Value) (br : Nat) : Goroutine := nxN P true 5 (go1 P (lT3 P y n t) (.value (.slice (some ⟨br, 0, none⟩) y.len y.len)))
def lT5 (P : Program) (y : Lk) (n : Nat) (t : Nat → Value) (br : Nat) : Goroutine := nxN P true 5 (go1 P (lT4 P y n t br) (.value (.chan (some y.bc))))
def rHead (P : Program) (y : Lk) (T : Array Value) : Goroutine := G { (lT5 P y 0 (fun _ => .nilFunc) 0).frame with tmps := T } y.cs
theorem pur_lT0 (y : Lk) (n : Nat) (t : Nat → Value) : Pur Tryd.prog true 2 (atC Tryd.prog 25 9 (sT y n t) y.cs) := by
  iterate 2 (refine Pur.step (by kernel_rfl) (fun w => by kernel_rfl) ?_)
  exact Pur.nil
theorem ask_lT0 (y : Lk) (n : Nat) (t : Nat → Value) : Asks Tryd.prog true (lT0 Tryd.prog y n t) [{ v := .chan (some y.bc) }] (.value (.chan (some y.bc))) [{ k := 0, ad := ⟨y.b8, 0, none⟩, v := .chan (some y.bc) }] #[⟨.cell ⟨y.b8, 0, none⟩, false, false⟩] := ⟨by kernel_rfl, by kernel_rfl, fun w => by kernel_rfl, by kernel_rfl, by kernel_rfl, by kernel_rfl, by kernel_rfl⟩
theorem at_lT1 (y : Lk) (n : Nat) (t : Nat → Value) : At1 Tryd.prog true (lT1 Tryd.prog y n t) (do pure (.value (← Builtin.close_ #[89] 0 #[.chan (some y.bc)]))) := ⟨by kernel_rfl, by kernel_rfl, fun w => by kernel_rfl, by kernel_rfl, by kernel_rfl⟩
theorem pur_lT2 (y : Lk) (n : Nat) (t : Nat → Value) : Pur Tryd.prog true 3 (go1 Tryd.prog (lT1 Tryd.prog y n t) (.value (.tuple #[]))) := by
  iterate 3 (refine Pur.step (by kernel_rfl) (fun w => by kernel_rfl) ?_)
  exact Pur.nil
theorem ask_lT2 (y : Lk) (n : Nat) (t : Nat → Value) : Asks Tryd.prog true (lT2 Tryd.prog y n t) [{ v := y.pages }] (.value y.pages) [{ k := 0, ad := ⟨y.b2, 0, none⟩, v := y.pages }] #[⟨.cell ⟨y.b2, 0, none⟩, false, false⟩] := ⟨by kernel_rfl, by kernel_rfl, fun w => by kernel_rfl, by kernel_rfl, by kernel_rfl, by kernel_rfl, by kernel_rfl⟩
theorem pur_lT3 (y : Lk) (n : Nat) (t : Nat → Value) : Pur Tryd.prog true 1 (go1 Tryd.prog (lT2 Tryd.prog y n t) (.value y.pages)) := by
  iterate 1 (refine Pur.step (by kernel_rfl) (fun w => by kernel_rfl) ?_)
  exact Pur.nil
theorem at_lT3 (y : Lk) (n : Nat) (t : Nat → Value) : At1 Tryd.prog true (lT3 Tryd.prog y n t) (do pure (.value (← Instr.makeSlice 62 (.int .i64 (y.len : Nat)) (.int .i64 (y.len : Nat))))) := ⟨by kernel_rfl, by kernel_rfl, fun w => by kernel_rfl, by kernel_rfl, by kernel_rfl⟩
theorem pur_lT4 (y : Lk) (n : Nat) (t : Nat → Value) (br : Nat) : Pur Tryd.prog true 5 (go1 Tryd.prog (lT3 Tryd.prog y n t) (.value (.slice (some ⟨br, 0, none⟩) y.len y.len))) := by
  iterate 5 (refine Pur.step (by kernel_rfl) (fun w => by kernel_rfl) ?_)
  exact Pur.nil
theorem ask_lT4 (y : Lk) (n : Nat) (t : Nat → Value) (br : Nat) : Asks Tryd.prog true (lT4 Tryd.prog y n t br) [{ v := .chan (some y.bc) }] (.value (.chan (some y.bc))) [{ k := 0, ad := ⟨y.b8, 0, none⟩, v := .chan (some y.bc) }] #[⟨.cell ⟨y.b8, 0, none⟩, false, false⟩] := ⟨by kernel_rfl, by kernel_rfl, fun w => by kernel_rfl, by kernel_rfl, by kernel_rfl, by kernel_rfl, by kernel_rfl⟩
theorem pur_lT5 (y : Lk) (n : Nat) (t : Nat → Value) (br : Nat) : Pur Tryd.prog true 5 (go1 Tryd.prog (lT4 Tryd.prog y n t br) (.value (.chan (some y.bc)))) := by
  iterate 5 (refine Pur.step (by kernel_rfl) (fun w => by kernel_rfl) ?_)
  exact Pur.nil
theorem lT5_head (y : Lk) (n : Nat) (t : Nat → Value) (br : Nat) : lT5 Tryd.prog y n t br = rHead Tryd.prog y (lT5 Tryd.prog y n t br).frame.tmps := by kernel_rfl
theorem lT5_ok (y : Lk) (n : Nat) (t : Nat → Value) (br : Nat) : SlV y br (lT5 Tryd.prog y n t br).frame.tmps := ⟨by kernel_rfl, by kernel_rfl, by kernel_rfl, by kernel_rfl⟩
/-! ### a receive -/
theorem rv_comm (y : Lk) (br : Nat) (t : Nat → Value) : AtRecv Tryd.prog (rHead Tryd.prog y (sV y br t)) (rHead Tryd.prog y (sV y br t)) y.bc zSight true (.recv true) := ⟨by kernel_rfl, fun w => by kernel_rfl⟩
def rA (P : Program) (y : Lk) (br : Nat) (t : Nat → Value) (i : Nat) : Goroutine := nxN P true 9 (got P (rHead P y (sV y br t)) y.bc zSight (.recv true) (y.sight i) true)
def rB (P : Program) (y : Lk) (br : Nat) (t : Nat → Value) (i bx : Nat) : Goroutine := go1 P (rA P y br t i) (.value (.pointer (some ⟨bx, 0, none⟩)))
def rC (P : Program) (y : Lk) (br : Nat) (t : Nat → Value) (i bx : Nat) : Goroutine := nxN P true 5 (go1 P (rB P y br t i bx) .skip)
def rD (P : Program) (y : Lk) (br : Nat) (t : Nat → Value) (i bx : Nat) : Goroutine := go1 P (rC P y br t i bx) (.value (.int .i64 (i : Nat)))
def rE (P : Program) (y : Lk) (br : Nat) (t : Nat → Value) (i bx : Nat) : Goroutine := go1 P (rD P y br t i bx) (.value (y.sight i))
def rF (P : Program) (y : Lk) (br : Nat) (t : Nat → Value) (i bx : Nat) : Goroutine := go1 P (rE P y br t i bx) (.value (.pointer (some ⟨br, 5 * i, none⟩)))
def rG (P : Program) (y : Lk) (br : Nat) (t : Nat → Value) (i bx : Nat) : Goroutine := nxN P true 5 (go1 P (rF P y br t i bx) .skip)
theorem pur_rA (y : Lk) (br : Nat) (t : Nat → Value) (i : Nat) : Pur Tryd.prog true 9 (got Tryd.prog (rHead Tryd.prog y (sV y br t)) y.bc zSight (.recv true) (y.sight i) true) := by
  iterate 9 (refine Pur.step (by kernel_rfl) (fun w => by kernel_rfl) ?_)
  exact Pur.nil
theorem ask_rA (y : Lk) (br : Nat) (t : Nat → Value) (i bx : Nat) : Asks Tryd.prog true (rA Tryd.prog y br t i) [{ n := bx }] (.value (.pointer (some ⟨bx, 0, none⟩))) [{ k := 4, ad := ⟨bx, 0, none⟩, o := .cells #[.int .i64 0, .int .i64 0, .int .i64 0, .int .i64 0, .int .i64 0] 66 }] #[] := ⟨by kernel_rfl, by kernel_rfl, fun w => by kernel_rfl, by kernel_rfl, by kernel_rfl, by kernel_rfl, by kernel_rfl⟩
theorem ask_rB (y : Lk) (br : Nat) (t : Nat → Value) (i bx : Nat) : Asks Tryd.prog true (rB Tryd.prog y br t i bx) [] .skip [{ k := 1, ad := ⟨bx, 0, none⟩, v := .int .i64 (y.st i : Nat) }, { k := 1, ad := ⟨bx, 1, none⟩, v := .int .i64 (y.lb i : Nat) }, { k := 1, ad := ⟨bx, 2, none⟩, v := .int .i64 (i : Nat) }, { k := 1, ad := ⟨bx, 3, none⟩, v := .int .i64 (y.sq i : Nat) }, { k := 1, ad := ⟨bx, 4, none⟩, v := .int .i64 (y.kd i : Nat) }] #[⟨.cell ⟨bx, 0, none⟩, true, false⟩, ⟨.cell ⟨bx, 1, none⟩, true, false⟩, ⟨.cell ⟨bx, 2, none⟩, true, false⟩, ⟨.cell ⟨bx, 3, none⟩, true, false⟩, ⟨.cell ⟨bx, 4, none⟩, true, false⟩] := ⟨by kernel_rfl, by kernel_rfl, fun w => by kernel_rfl, by kernel_rfl, by kernel_rfl, by kernel_rfl, by kernel_rfl⟩
theorem pur_rC (y : Lk) (br : Nat) (t : Nat → Value) (i bx : Nat) : Pur Tryd.prog true 5 (go1 Tryd.prog (rB Tryd.prog y br t i bx) .skip) := by
  iterate 5 (refine Pur.step (by kernel_rfl) (fun w => by kernel_rfl) ?_)
  exact Pur.nil
theorem ask_rC (y : Lk) (br : Nat) (t : Nat → Value) (i bx : Nat) : Asks Tryd.prog true (rC Tryd.prog y br t i bx) [{ v := .int .i64 (i : Nat) }] (.value (.int .i64 (i : Nat))) [{ k := 0, ad := ⟨bx, 2, none⟩, v := .int .i64 (i : Nat) }] #[⟨.cell ⟨bx, 2, none⟩, false, false⟩] := ⟨by kernel_rfl, by kernel_rfl, fun w => by kernel_rfl, by kernel_rfl, by kernel_rfl, by kernel_rfl, by kernel_rfl⟩
theorem ask_rD (y : Lk) (br : Nat) (t : Nat → Value) (i bx : Nat) : Asks Tryd.prog true (rD Tryd.prog y br t i bx) [{ v := .int .i64 (y.st i : Nat) }, { v := .int .i64 (y.lb i : Nat) }, { v := .int .i64 (i : Nat) }, { v := .int .i64 (y.sq i : Nat) }, { v := .int .i64 (y.kd i : Nat) }] (.value (y.sight i)) [{ k := 0, ad := ⟨bx, 0, none⟩, v := .int .i64 (y.st i : Nat) }, { k := 0, ad := ⟨bx, 1, none⟩, v := .int .i64 (y.lb i : Nat) }, { k := 0, ad := ⟨bx, 2, none⟩, v := .int .i64 (i : Nat) }, { k := 0, ad := ⟨bx, 3, none⟩, v := .int .i64 (y.sq i : Nat) }, { k := 0, ad := ⟨bx, 4, none⟩, v := .int .i64 (y.kd i : Nat) }] #[⟨.cell ⟨bx, 0, none⟩, false, false⟩, ⟨.cell ⟨bx, 1, none⟩, false, false⟩, ⟨.cell ⟨bx, 2, none⟩, false, false⟩, ⟨.cell ⟨bx, 3, none⟩, false, false⟩, ⟨.cell ⟨bx, 4, none⟩, false, false⟩] := ⟨by kernel_rfl, by kernel_rfl, fun w => by kernel_rfl, by kernel_rfl, by kernel_rfl, by kernel_rfl, by kernel_rfl⟩
theorem at_rE (y : Lk) (br : Nat) (t : Nat → Value) (i bx : Nat) : At1 Tryd.prog true (rE Tryd.prog y br t i bx) (do pure (.value (← Instr.indexAt 62 (.slice (some ⟨br, 0, none⟩) y.len y.len) (.int .i64 (i : Nat))))) := ⟨by kernel_rfl, by kernel_rfl, fun w => by kernel_rfl, by kernel_rfl, by kernel_rfl⟩
theorem ask_rF (y : Lk) (br : Nat) (t : Nat → Value) (i bx : Nat) : Asks Tryd.prog true (rF Tryd.prog y br t i bx) [] .skip [{ k := 1, ad := ⟨br, 5 * i, none⟩, v := .int .i64 (y.st i : Nat) }, { k := 1, ad := ⟨br, 5 * i + 1, none⟩, v := .int .i64 (y.lb i : Nat) }, { k := 1, ad := ⟨br, 5 * i + 2, none⟩, v := .int .i64 (i : Nat) }, { k := 1, ad := ⟨br, 5 * i + 3, none⟩, v := .int .i64 (y.sq i : Nat) }, { k := 1, ad := ⟨br, 5 * i + 4, none⟩, v := .int .i64 (y.kd i : Nat) }] #[⟨.cell ⟨br, 5 * i, none⟩, true, false⟩, ⟨.cell ⟨br, 5 * i + 1, none⟩, true, false⟩, ⟨.cell ⟨br, 5 * i + 2, none⟩, true, false⟩, ⟨.cell ⟨br, 5 * i + 3, none⟩, true, false⟩, ⟨.cell ⟨br, 5 * i + 4, none⟩, true, false⟩] := ⟨by kernel_rfl, by kernel_rfl, fun w => by kernel_rfl, by kernel_rfl, by kernel_rfl, by kernel_rfl, by kernel_rfl⟩
theorem pur_rG (y : Lk) (br : Nat) (t : Nat → Value) (i bx : Nat) : Pur Tryd.prog true 5 (go1 Tryd.prog (rF Tryd.prog y br t i bx) .skip) := by
  iterate 5 (refine Pur.step (by kernel_rfl) (fun w => by kernel_rfl) ?_)
  exact Pur.nil
theorem rG_head (y : Lk) (br : Nat) (t : Nat → Value) (i bx : Nat) : rG Tryd.prog y br t i bx = rHead Tryd.prog y (rG Tryd.prog y br t i bx).frame.tmps := by kernel_rfl
theorem rG_ok (y : Lk) (br : Nat) (t : Nat → Value) (i bx : Nat) : SlV y br (rG Tryd.prog y br t i bx).frame.tmps := ⟨by kernel_rfl, by kernel_rfl, by kernel_rfl, by kernel_rfl⟩
/-! ### the channel is empty -/
def rZ (P : Program) (y : Lk) (br : Nat) (t : Nat → Value) : Goroutine := nxN P true 12 (got P (rHead P y (sV y br t)) y.bc zSight (.recv true) zSight false)
theorem pur_rZ (y : Lk) (br : Nat) (t : Nat → Value) : Pur Tryd.prog true 12 (got Tryd.prog (rHead Tryd.prog y (sV y br t)) y.bc zSight (.recv true) zSight false) := by
  iterate 12 (refine Pur.step (by kernel_rfl) (fun w => by kernel_rfl) ?_)
  exact Pur.nil
theorem rZ_back (y : Lk) (br : Nat) (t : Nat → Value) (c : Frame) (k : List Frame) (w : World) : stepG Tryd.prog true (rZ Tryd.prog { y with cs := c :: k } br t) w = .go (G (c.finish (.tuple #[.slice (some ⟨br, 0, none⟩) y.len y.len, .nilIface])) k) w #[] := by kernel_rfl
theorem run_rZ (y : Lk) (br : Nat) (t : Nat → Value) : (rZ Tryd.prog y br t).status = .running := by kernel_rfl
/-! ### five cells are written -/
section
variable {w : World} {b : Nat} {cells : Array Value} {e : TypeId}
theorem set1 (h : w.heap[b]? = some (.cells cells e)) {o : Nat} (ho : o < cells.size) (v : Value) :
    (w.cell? ⟨b, o, none⟩).isSome = true ∧ w.frozen? ⟨b, o, none⟩ = false ∧ (w.setCell ⟨b, o, none⟩ v).heap[b]? = some (.cells (cells.setIfInBounds o v) e) := by
  have hs := heap_setCell (w := w) (a := ⟨b, o, none⟩) (v := v) h rfl b
  rw [if_pos rfl] at hs
  exact ⟨by simp [World.cell?, h, ho], by simp [World.frozen?, h], hs⟩
def set5w (w : World) (b o : Nat) (v0 v1 v2 v3 v4 : Value) : World := ((((w.setCell ⟨b, o, none⟩ v0).setCell ⟨b, o + 1, none⟩ v1).setCell ⟨b, o + 2, none⟩ v2).setCell ⟨b, o + 3, none⟩ v3).setCell ⟨b, o + 4, none⟩ v4
def set5c (cells : Array Value) (o : Nat) (v0 v1 v2 v3 v4 : Value) : Array Value := ((((cells.setIfInBounds o v0).setIfInBounds (o + 1) v1).setIfInBounds (o + 2) v2).setIfInBounds (o + 3) v3).setIfInBounds (o + 4) v4
theorem set5_size (o : Nat) (v0 v1 v2 v3 v4 : Value) : (set5c cells o v0 v1 v2 v3 v4).size = cells.size := by simp [set5c]
theorem set5_get (o k : Nat) (v0 v1 v2 v3 v4 : Value) (ho : o + 5 ≤ cells.size) : (set5c cells o v0 v1 v2 v3 v4)[k]? = if k = o then some v0 else if k = o + 1 then some v1 else if k = o + 2 then some v2 else if k = o + 3 then some v3 else if k = o + 4 then some v4 else cells[k]? := by
  unfold set5c
  simp only [Array.getElem?_setIfInBounds, Array.size_setIfInBounds]
  repeat' split
  all_goals first | rfl | omega
theorem set5_ok (h : w.heap[b]? = some (.cells cells e)) {o : Nat} (ho : o + 5 ≤ cells.size) (v0 v1 v2 v3 v4 : Value) :
    OkQ [{ k := 1, ad := ⟨b, o, none⟩, v := v0 }, { k := 1, ad := ⟨b, o + 1, none⟩, v := v1 }, { k := 1, ad := ⟨b, o + 2, none⟩, v := v2 }, { k := 1, ad := ⟨b, o + 3, none⟩, v := v3 }, { k := 1, ad := ⟨b, o + 4, none⟩, v := v4 }] w (set5w w b o v0 v1 v2 v3 v4) ∧
    (set5w w b o v0 v1 v2 v3 v4).heap[b]? = some (.cells (set5c cells o v0 v1 v2 v3 v4) e) ∧ (∀ b', b' ≠ b → (set5w w b o v0 v1 v2 v3 v4).heap[b']? = w.heap[b']?) ∧ (set5w w b o v0 v1 v2 v3 v4).heap.size = w.heap.size := by
  have a0 := set1 h (o := o) (by omega) v0
  have a1 := set1 a0.2.2 (o := o + 1) (by simp; omega) v1
  have a2 := set1 a1.2.2 (o := o + 2) (by simp; omega) v2
  have a3 := set1 a2.2.2 (o := o + 3) (by simp; omega) v3
  have a4 := set1 a3.2.2 (o := o + 4) (by simp; omega) v4
  refine ⟨show OkQ _ _ _ from ⟨a0.1, a0.2.1, a1.1, a1.2.1, a2.1, a2.2.1, a3.1, a3.2.1, a4.1, a4.2.1, rfl⟩, a4.2.2, fun b' hb => ?_, by simp only [set5w, cell_size]⟩
  unfold set5w
  rw [cell_other _ _ _ hb, cell_other _ _ _ hb, cell_other _ _ _ hb, cell_other _ _ _ hb, cell_other _ _ _ hb]
theorem set5_rest (w : World) (b o : Nat) (v0 v1 v2 v3 v4 : Value) : (set5w w b o v0 v1 v2 v3 v4).tape = w.tape ∧ (set5w w b o v0 v1 v2 v3 v4).os = w.os ∧ (set5w w b o v0 v1 v2 v3 v4).output = w.output := by
  unfold set5w
  refine ⟨?_, ?_, ?_⟩
  · rw [(aside_setCell _ _ _).tape, (aside_setCell _ _ _).tape, (aside_setCell _ _ _).tape, (aside_setCell _ _ _).tape, (aside_setCell _ _ _).tape]
  · rw [(aside_setCell _ _ _).os, (aside_setCell _ _ _).os, (aside_setCell _ _ _).os, (aside_setCell _ _ _).os, (aside_setCell _ _ _).os]
  · rw [(aside_setCell _ _ _).output, (aside_setCell _ _ _).output, (aside_setCell _ _ _).output, (aside_setCell _ _ _).output, (aside_setCell _ _ _).output]
end
theorem evl_cell {S : Nat → Prop} {B b o : Nat} {wr : Bool} (hS : ¬ S b) (hb : b < B) : EvL (ShunB S) B ⟨.cell ⟨b, o, none⟩, wr, false⟩ ∧ ∀ a, MemAct.ofEvent ⟨.cell ⟨b, o, none⟩, wr, false⟩ ≠ .mark (.release a) := by
  have h : EvC (fun _ => False) (fun x => x = b) ⟨.cell ⟨b, o, none⟩, wr, false⟩ := .inl ⟨b, rfl, rfl, .inl rfl⟩
  exact ⟨evL_evC h (fun _ e => e ▸ ⟨hb, hS⟩) fun _ e => e.elim, fun a => evC_nor h a⟩
theorem runT_index {P : Program} {t : TypeId} {inf : TypeInfo} (h : P.underlying t = some (.slice (P.elem t))) (hi : P.info? (P.elem t) = some inf) (h5 : inf.size = 5) (br i n : Nat) (hin : i < n) (w : World) :
    (Instr.indexAt t (.slice (some ⟨br, 0, none⟩) n n) (.int .i64 (i : Nat))).runT P w #[] = (.ok (.pointer (some ⟨br, 5 * i, none⟩)) w, #[]) := by
  have hlt : (0 : Int) ≤ (i : Int) ∧ (i : Int) < (n : Int) := ⟨by omega, by omega⟩
  rw [Sem.runT_eq, run_indexAt_slice w t _ n n .i64 _ h, events_indexAt_slice t _ n n .i64 _ h hlt, if_pos hlt]
  simp [sizeOf, typeInfo, hi, h5, Addr.add, Nat.mul_comm]
  exact fun h => h.symm
/-! ### the loop -/
/-- What stands there while it receives. -/
structure LI (y : Lk) (br : Nat) (dn rest : List Nat) (w1 w : World) : Prop where
  ch : ∃ a r tm, w.heap[y.bc]? = some (.chan y.len (rest.map y.sight).toArray true a r tm)
  row : ∃ cells, w.heap[br]? = some (.cells cells 66) ∧ cells.size = 5 * y.len ∧ ∀ i ∈ dn, cells[5 * i]? = some (.int .i64 (y.st i : Nat)) ∧ cells[5 * i + 1]? = some (.int .i64 (y.lb i : Nat)) ∧ cells[5 * i + 2]? = some (.int .i64 (i : Nat)) ∧ cells[5 * i + 3]? = some (.int .i64 (y.sq i : Nat)) ∧ cells[5 * i + 4]? = some (.int .i64 (y.kd i : Nat))
  keep : ∀ b, b < br → b ≠ y.bc → w.heap[b]? = w1.heap[b]?
  size : br < w.heap.size
  rest : w.tape = w1.tape ∧ w.os = w1.os ∧ w.output = w1.output
section
variable {y : Lk} {S : Nat → Prop} {B0 br : Nat} {dn rest : List Nat} {w1 w : World}
theorem look_take {i : Nat} (hi : i < y.len) (hbc : y.bc < br) (hS : ∀ b, br ≤ b → ¬ S b) (t : Nat → Value) (h : LI y br dn (i :: rest) w1 w) :
    ∃ t' w', Bs Tryd.prog S B0 (rHead Tryd.prog y (sV y br t)) w (rHead Tryd.prog y (sV y br t')) w' ∧ LI y br (i :: dn) rest w1 w' := by
  obtain ⟨⟨a, r, tm, hch⟩, ⟨cells, hrow, hcs, hdn⟩, keep, hsz, hrest⟩ := h
  obtain ⟨w2, hw2⟩ : ∃ w2, w2 = w.setChan y.bc y.len (rest.map y.sight).toArray true a (r + 1) tm := ⟨_, rfl⟩
  have b1 : Bs Tryd.prog S B0 (rHead Tryd.prog y (sV y br t)) w _ w2 := hw2 ▸ bs_recv (rv_comm y br t) hch
  have k2 : ∀ b, b ≠ y.bc → w2.heap[b]? = w.heap[b]? := fun b hb => by rw [hw2]; simp [World.setChan, Array.getElem?_setIfInBounds_ne (Ne.symm hb)]
  have s2 : w2.heap.size = w.heap.size := by rw [hw2]; simp [World.setChan]
  have c2 : w2.heap[y.bc]? = some (.chan y.len (rest.map y.sight).toArray true a (r + 1) tm) := by
    rw [hw2]; simp only [World.setChan]
    rw [Array.getElem?_setIfInBounds_self_of_lt (Array.getElem?_eq_some_iff.1 hch).1]
  obtain ⟨bx, hbx⟩ : ∃ bx, bx = w2.heap.size := ⟨_, rfl⟩
  obtain ⟨w3, hw3⟩ : ∃ w3 : World, w3 = { w2 with heap := w2.heap.push (.cells #[.int .i64 0, .int .i64 0, .int .i64 0, .int .i64 0, .int .i64 0] 66) } := ⟨_, rfl⟩
  have b3 : Bs Tryd.prog S B0 (rA Tryd.prog y br t i) w2 (rB Tryd.prog y br t i bx) w3 := bs_ask (ask_rA y br t i bx) (show OkQ _ _ _ from ⟨hbx.symm, hw3⟩) (fun e he => by simp at he) (by rw [hw3]; simp)
  have k3 : ∀ b, b < bx → w3.heap[b]? = w2.heap[b]? := fun b hb => by
    rw [hw3]; simp only [Array.getElem?_push]; rw [if_neg (by omega)]
  have s3 : w3.heap.size = bx + 1 := by rw [hw3, hbx]; simp
  have x3 : w3.heap[bx]? = some (.cells #[.int .i64 0, .int .i64 0, .int .i64 0, .int .i64 0, .int .i64 0] 66) := by rw [hw3, hbx]; simp
  obtain ⟨o4, x4, k4, s4⟩ := set5_ok x3 (o := 0) (by simp) (.int .i64 (y.st i : Nat)) (.int .i64 (y.lb i : Nat)) (.int .i64 (i : Nat)) (.int .i64 (y.sq i : Nat)) (.int .i64 (y.kd i : Nat))
  obtain ⟨w4, hw4⟩ : ∃ w4, w4 = set5w w3 bx 0 (.int .i64 (y.st i : Nat)) (.int .i64 (y.lb i : Nat)) (.int .i64 (i : Nat)) (.int .i64 (y.sq i : Nat)) (.int .i64 (y.kd i : Nat)) := ⟨_, rfl⟩
  rw [← hw4] at o4 x4 k4 s4
  have hbrx : br < bx := by omega
  have hSx : ¬ S bx := hS bx (by omega)
  have hSr : ¬ S br := hS br (Nat.le_refl _)
  have ex : ∀ o wr, EvL (ShunB S) w4.heap.size ⟨.cell ⟨bx, o, none⟩, wr, false⟩ ∧ ∀ a, MemAct.ofEvent ⟨.cell ⟨bx, o, none⟩, wr, false⟩ ≠ .mark (.release a) := fun o wr => evl_cell hSx (by omega)
  have b4 : Bs Tryd.prog S B0 (rB Tryd.prog y br t i bx) w3 _ w4 := bs_ask (ask_rB y br t i bx) o4 (fun e he => by
    have : e = ⟨.cell ⟨bx, 0, none⟩, true, false⟩ ∨ e = ⟨.cell ⟨bx, 1, none⟩, true, false⟩ ∨ e = ⟨.cell ⟨bx, 2, none⟩, true, false⟩ ∨ e = ⟨.cell ⟨bx, 3, none⟩, true, false⟩ ∨ e = ⟨.cell ⟨bx, 4, none⟩, true, false⟩ := by simpa using he
    rcases this with rfl | rfl | rfl | rfl | rfl <;> exact ex _ _) (by omega)
  have hc4 : ∀ o, w4.cell? ⟨bx, o, none⟩ = (set5c #[.int .i64 0, .int .i64 0, .int .i64 0, .int .i64 0, .int .i64 0] 0 (.int .i64 (y.st i : Nat)) (.int .i64 (y.lb i : Nat)) (.int .i64 (i : Nat)) (.int .i64 (y.sq i : Nat)) (.int .i64 (y.kd i : Nat)))[o]? := fun o => by simp [World.cell?, x4]
  have b5 : Bs Tryd.prog S B0 (rC Tryd.prog y br t i bx) w4 (rD Tryd.prog y br t i bx) w4 := bs_ask (ask_rC y br t i bx) (show OkQ _ _ _ from ⟨(hc4 2).trans rfl, rfl⟩) (fun e he => by
    have : e = ⟨.cell ⟨bx, 2, none⟩, false, false⟩ := by simpa using he
    exact this ▸ ex _ _) (Nat.le_refl _)
  have b6 : Bs Tryd.prog S B0 (rD Tryd.prog y br t i bx) w4 (rE Tryd.prog y br t i bx) w4 := bs_ask (ask_rD y br t i bx) (show OkQ _ _ _ from ⟨(hc4 0).trans rfl, (hc4 1).trans rfl, (hc4 2).trans rfl, (hc4 3).trans rfl, (hc4 4).trans rfl, rfl⟩) (fun e he => by
    have : e = ⟨.cell ⟨bx, 0, none⟩, false, false⟩ ∨ e = ⟨.cell ⟨bx, 1, none⟩, false, false⟩ ∨ e = ⟨.cell ⟨bx, 2, none⟩, false, false⟩ ∨ e = ⟨.cell ⟨bx, 3, none⟩, false, false⟩ ∨ e = ⟨.cell ⟨bx, 4, none⟩, false, false⟩ := by simpa using he
    rcases this with rfl | rfl | rfl | rfl | rfl <;> exact ex _ _) (Nat.le_refl _)
  have b7 : Bs Tryd.prog S B0 (rE Tryd.prog y br t i bx) w4 (rF Tryd.prog y br t i bx) w4 := bs_at1 (at_rE y br t i bx) (es := #[]) (fun d => ⟨d, by
    rw [bind_eq', Sem.runT_bind', runT_index (inf := ((Tryd.prog).info? (Tryd.prog.elem 62)).getD default) (by kernel_rfl) (by kernel_rfl) (by kernel_rfl) br i y.len hi (w4.at d)]
    rfl⟩) rfl (fun e he => by simp at he) (Nat.le_refl _)
  have r4 : w4.heap[br]? = some (.cells cells 66) := by rw [k4 br (by omega), k3 br hbrx, k2 br (by omega), hrow]
  obtain ⟨o8, x8, k8, s8⟩ := set5_ok r4 (o := 5 * i) (by omega) (.int .i64 (y.st i : Nat)) (.int .i64 (y.lb i : Nat)) (.int .i64 (i : Nat)) (.int .i64 (y.sq i : Nat)) (.int .i64 (y.kd i : Nat))
  obtain ⟨w8, hw8⟩ : ∃ w8, w8 = set5w w4 br (5 * i) (.int .i64 (y.st i : Nat)) (.int .i64 (y.lb i : Nat)) (.int .i64 (i : Nat)) (.int .i64 (y.sq i : Nat)) (.int .i64 (y.kd i : Nat)) := ⟨_, rfl⟩
  rw [← hw8] at o8 x8 k8 s8
  have er : ∀ o wr, EvL (ShunB S) w8.heap.size ⟨.cell ⟨br, o, none⟩, wr, false⟩ ∧ ∀ a, MemAct.ofEvent ⟨.cell ⟨br, o, none⟩, wr, false⟩ ≠ .mark (.release a) := fun o wr => evl_cell hSr (by omega)
  have b8 : Bs Tryd.prog S B0 (rF Tryd.prog y br t i bx) w4 _ w8 := bs_ask (ask_rF y br t i bx) o8 (fun e he => by
    have : e = ⟨.cell ⟨br, 5 * i, none⟩, true, false⟩ ∨ e = ⟨.cell ⟨br, 5 * i + 1, none⟩, true, false⟩ ∨ e = ⟨.cell ⟨br, 5 * i + 2, none⟩, true, false⟩ ∨ e = ⟨.cell ⟨br, 5 * i + 3, none⟩, true, false⟩ ∨ e = ⟨.cell ⟨br, 5 * i + 4, none⟩, true, false⟩ := by simpa using he
    rcases this with rfl | rfl | rfl | rfl | rfl <;> exact er _ _) (by omega)
  obtain ⟨t', ht'⟩ := (rG_ok y br t i bx).form
  have hG := rG_head y br t i bx
  rw [ht'] at hG
  have bA := bs_pur (w := w2) (S := S) (B0 := B0) 9 (pur_rA y br t i)
  have bC := bs_pur (w := w4) (S := S) (B0 := B0) 5 (pur_rC y br t i bx)
  have bG := bs_pur (w := w8) (S := S) (B0 := B0) 5 (pur_rG y br t i bx)
  refine ⟨t', w8, hG ▸ (b1.trans (bA.trans (b3.trans (b4.trans (bC.trans (b5.trans (b6.trans (b7.trans (b8.trans bG))))))))), ?_⟩
  have m4 := set5_rest w3 bx 0 (.int .i64 (y.st i : Nat)) (.int .i64 (y.lb i : Nat)) (.int .i64 (i : Nat)) (.int .i64 (y.sq i : Nat)) (.int .i64 (y.kd i : Nat))
  have m8 := set5_rest w4 br (5 * i) (.int .i64 (y.st i : Nat)) (.int .i64 (y.lb i : Nat)) (.int .i64 (i : Nat)) (.int .i64 (y.sq i : Nat)) (.int .i64 (y.kd i : Nat))
  rw [← hw4] at m4
  rw [← hw8] at m8
  have q2 : w2.tape = w.tape ∧ w2.os = w.os ∧ w2.output = w.output := by rw [hw2]; exact ⟨rfl, rfl, rfl⟩
  have q3 : w3.tape = w2.tape ∧ w3.os = w2.os ∧ w3.output = w2.output := by rw [hw3]; exact ⟨rfl, rfl, rfl⟩
  have kk : ∀ b, b < bx → b ≠ br → b ≠ y.bc → w8.heap[b]? = w.heap[b]? := fun b h1 h2 h3 => by rw [k8 b h2, k4 b (by omega), k3 b h1, k2 b h3]
  refine ⟨⟨a, r + 1, tm, ?_⟩, ⟨_, x8, by rw [set5_size]; exact hcs, fun j hj => ?_⟩, fun b h1 h2 => ?_, by omega, ?_⟩
  · rw [k8 _ (by omega), k4 _ (by omega), k3 _ (by omega)]
    exact c2
  · have g := fun k => set5_get (cells := cells) (5 * i) k (.int .i64 (y.st i : Nat)) (.int .i64 (y.lb i : Nat)) (.int .i64 (i : Nat)) (.int .i64 (y.sq i : Nat)) (.int .i64 (y.kd i : Nat)) (by omega)
    by_cases hij : j = i
    · subst hij
      refine ⟨?_, ?_, ?_, ?_, ?_⟩
      · rw [g, if_pos rfl]
      · rw [g, if_neg (by omega), if_pos rfl]
      · rw [g, if_neg (by omega), if_neg (by omega), if_pos rfl]
      · rw [g, if_neg (by omega), if_neg (by omega), if_neg (by omega), if_pos rfl]
      · rw [g, if_neg (by omega), if_neg (by omega), if_neg (by omega), if_neg (by omega), if_pos rfl]
    · have hd := hdn j ((List.mem_cons.1 hj).resolve_left hij)
      refine ⟨?_, ?_, ?_, ?_, ?_⟩
      · rw [g, if_neg (by omega), if_neg (by omega), if_neg (by omega), if_neg (by omega), if_neg (by omega)]; exact hd.1
      · rw [g, if_neg (by omega), if_neg (by omega), if_neg (by omega), if_neg (by omega), if_neg (by omega)]; exact hd.2.1
      · rw [g, if_neg (by omega), if_neg (by omega), if_neg (by omega), if_neg (by omega), if_neg (by omega)]; exact hd.2.2.1
      · rw [g, if_neg (by omega), if_neg (by omega), if_neg (by omega), if_neg (by omega), if_neg (by omega)]; exact hd.2.2.2.1
      · rw [g, if_neg (by omega), if_neg (by omega), if_neg (by omega), if_neg (by omega), if_neg (by omega)]; exact hd.2.2.2.2
  · rw [kk b (by omega) (by omega) h2]
    exact keep b h1 h2
  · exact ⟨m8.1.trans (m4.1.trans (q3.1.trans (q2.1.trans hrest.1))), m8.2.1.trans (m4.2.1.trans (q3.2.1.trans (q2.2.1.trans hrest.2.1))), m8.2.2.trans (m4.2.2.trans (q3.2.2.trans (q2.2.2.trans hrest.2.2)))⟩
/-- It takes all that was sent. -/
theorem look_takes (hbc : y.bc < br) (hS : ∀ b, br ≤ b → ¬ S b) : ∀ (rest dn : List Nat) (w : World) (t : Nat → Value), (∀ i ∈ rest, i < y.len) → LI y br dn rest w1 w →
    ∃ t' w', Bs Tryd.prog S B0 (rHead Tryd.prog y (sV y br t)) w (rZ Tryd.prog y br t') w' ∧ LI y br (rest.reverse ++ dn) [] w1 w'
  | [], dn, w, t, _, h => by
    obtain ⟨a, r, tm, hch⟩ := h.ch
    have b1 : Bs Tryd.prog S B0 (rHead Tryd.prog y (sV y br t)) w _ w := bs_recv_end (rv_comm y br t) hch
    exact ⟨t, w, b1.trans (bs_pur 12 (pur_rZ y br t)), h⟩
  | i :: rest, dn, w, t, hr, h => by
    obtain ⟨t1, w', b1, h1⟩ := look_take (B0 := B0) (hr i List.mem_cons_self) hbc hS t h
    obtain ⟨t2, w'', b2, h2⟩ := look_takes hbc hS rest (i :: dn) w' t1 (fun j hj => hr j (List.mem_cons_of_mem _ hj)) h1
    exact ⟨t2, w'', b1.trans b2, by simpa using h2⟩
/-- From where all have left: what look hands back. -/
theorem look_end {n : Nat} (ok : y.Ok Tryd.prog) {bl : List Nat} {a r : Nat} {tm : Bool} (hp : bl.Perm (List.range y.len)) (hch : w.heap[y.bc]? = some (.chan y.len (bl.map y.sight).toArray false a r tm)) (hw : Kw y w) (hbc : y.bc < w.heap.size) (hF : ∀ b, y.Fz b → ¬ S b) (hS : ∀ b, S b → b < w.heap.size) (t : Nat → Value) :
    ∃ t' w', Bs Tryd.prog S B0 (atC Tryd.prog 25 9 (sT y n t) y.cs) w (rZ Tryd.prog y w.heap.size t') w' ∧ LI y w.heap.size (bl.reverse) [] w w' := by
  have hb8 := (hw.fz _ ok.f8).trans ok.b8
  have hb2 := (hw.fz _ ok.f2).trans ok.b2
  have hn8 : y.b8 ≠ y.bc := (ok.fl _ ok.f8).2.2.2
  have hn2 : y.b2 ≠ y.bc := (ok.fl _ ok.f2).2.2.2
  have l8 : y.b8 < w.heap.size := Nat.lt_of_lt_of_le (ok.fl _ ok.f8).1 hw.size
  have l2 : y.b2 < w.heap.size := Nat.lt_of_lt_of_le (ok.fl _ ok.f2).1 hw.size
  obtain ⟨w1, hw1⟩ : ∃ w1 : World, w1 = { w with heap := w.heap.setIfInBounds y.bc (.chan y.len (bl.map y.sight).toArray true a r tm) } := ⟨_, rfl⟩
  have k1 : ∀ b, b ≠ y.bc → w1.heap[b]? = w.heap[b]? := fun b hb => by rw [hw1]; simp [Array.getElem?_setIfInBounds_ne (Ne.symm hb)]
  have s1 : w1.heap.size = w.heap.size := by rw [hw1]; simp
  have c1 : w1.heap[y.bc]? = some (.chan y.len (bl.map y.sight).toArray true a r tm) := by
    rw [hw1]; exact Array.getElem?_setIfInBounds_self_of_lt hbc
  have ev : ∀ {B b o : Nat}, y.Fz b → b < B → ∀ e ∈ (#[⟨.cell ⟨b, o, none⟩, false, false⟩] : Array Event), EvL (ShunB S) B e ∧ ∀ a, MemAct.ofEvent e ≠ .mark (.release a) := fun hf hb e he => by
    have : e = _ := Array.mem_singleton.1 he
    exact this ▸ evl_cell (hF _ hf) hb
  have b0 : Bs Tryd.prog S B0 (lT0 Tryd.prog y n t) w (lT1 Tryd.prog y n t) w := bs_ask (ask_lT0 y n t) (show OkQ _ _ _ from ⟨by simp [World.cell?, hb8], rfl⟩) (ev ok.f8 l8) (Nat.le_refl _)
  have b1 : Bs Tryd.prog S B0 (lT1 Tryd.prog y n t) w _ w1 := hw1 ▸ bs_close (at_lT1 y n t) hch
  have b2 : Bs Tryd.prog S B0 (lT2 Tryd.prog y n t) w1 _ w1 := bs_ask (ask_lT2 y n t) (show OkQ _ _ _ from ⟨by simp [World.cell?, k1 _ hn2, hb2], rfl⟩) (ev ok.f2 (by omega)) (Nat.le_refl _)
  obtain ⟨w2, hw2⟩ : ∃ w2 : World, w2 = { w1 with heap := w1.heap.push (.cells (madeCells (zSight).cells (y.len * 5)) 66) } := ⟨_, rfl⟩
  have h5 : ((Tryd.prog.info? 66).getD default).size = 5 := by kernel_rfl
  have b3 : Bs Tryd.prog S B0 (lT3 Tryd.prog y n t) w1 (go1 Tryd.prog (lT3 Tryd.prog y n t) (.value (.slice (some ⟨w1.heap.size, 0, none⟩) y.len y.len))) w2 := by
    have := bs_make (S := S) (B0 := B0) (w := w1) (e := 66) (i := (Tryd.prog.info? 66).getD default) (z := zSight) (at_lT3 y n t) (by kernel_rfl) (by kernel_rfl) (by kernel_rfl) ok.most (Nat.le_of_ble_eq_true (by kernel_rfl))
    rw [h5, ← hw2] at this
    exact this
  rw [s1] at b3
  have k2 : ∀ b, b < w.heap.size → w2.heap[b]? = w1.heap[b]? := fun b hb => by
    rw [hw2]; simp only [Array.getElem?_push]; rw [if_neg (by omega)]
  have s2 : w2.heap.size = w.heap.size + 1 := by rw [hw2]; simp [s1]
  have x2 : w2.heap[w.heap.size]? = some (.cells (madeCells (zSight).cells (y.len * 5)) 66) := by rw [hw2, ← s1]; simp
  have b4 : Bs Tryd.prog S B0 (lT4 Tryd.prog y n t w.heap.size) w2 _ w2 := bs_ask (ask_lT4 y n t _) (show OkQ _ _ _ from ⟨by simp [World.cell?, k2 _ l8, k1 _ hn8, hb8], rfl⟩) (ev ok.f8 (by omega)) (Nat.le_refl _)
  obtain ⟨t1, ht1⟩ := (lT5_ok y n t w.heap.size).form
  have hH := lT5_head y n t w.heap.size
  rw [ht1] at hH
  have p0 := bs_pur (w := w) (S := S) (B0 := B0) 2 (pur_lT0 y n t)
  have p2 := bs_pur (w := w1) (S := S) (B0 := B0) 3 (pur_lT2 y n t)
  have p3 := bs_pur (w := w1) (S := S) (B0 := B0) 1 (pur_lT3 y n t)
  have p4 := bs_pur (w := w2) (S := S) (B0 := B0) 5 (pur_lT4 y n t w.heap.size)
  have p5 := bs_pur (w := w2) (S := S) (B0 := B0) 5 (pur_lT5 y n t w.heap.size)
  have hli : LI y w.heap.size [] bl w w2 := ⟨⟨a, r, tm, by rw [k2 _ hbc]; exact c1⟩, ⟨_, x2, by rw [size_madeCells, Nat.mul_comm], fun i hi => by simp at hi⟩, fun b h1 h2 => by rw [k2 b h1, k1 b h2], by omega, by rw [hw2, hw1]; exact ⟨rfl, rfl, rfl⟩⟩
  obtain ⟨t2, w', b6, hl⟩ := look_takes (S := S) (B0 := B0) hbc (fun b hb hs => by have := hS b hs; omega) bl [] w2 t1 (fun i hi => List.mem_range.1 (hp.mem_iff.1 hi)) hli
  rw [List.append_nil] at hl
  refine ⟨t2, w', ?_, hl⟩
  have b5 : Bs Tryd.prog S B0 (go1 Tryd.prog (lT4 Tryd.prog y n t w.heap.size) (.value (.chan (some y.bc)))) w2 (rHead Tryd.prog y (sV y w.heap.size t1)) w2 := hH ▸ p5
  exact p0.trans (b0.trans (b1.trans (p2.trans (b2.trans (p3.trans (b3.trans (p4.trans (b4.trans (b5.trans b6)))))))))
end
end Go.Proofs.YtobpjijdebnaoaaDoor
namespace Go.Proofs.YtobpjijdebnaoaaDoor
open Go Go.Conc
open Go.ConcR (wgBlock)
def kE (P : Program) (y : Lk) (n : Nat) : Goroutine := G (Frame.enter P 25 #[y.pages, .int .i64 (n : Nat)] .normal) y.cs
def kA (P : Program) (y : Lk) (n : Nat) : Goroutine := nxN P true 2 (kE P y n)
def kB (P : Program) (y : Lk) (n : Nat) : Goroutine := nxN P true 18 (go1 P (kA P y n) (.value (ptr y.b2)))
def kC (P : Program) (y : Lk) (n : Nat) : Goroutine := nxN P true 1 (go1 P (kB P y n) (.value y.pages))
def kD (P : Program) (y : Lk) (n : Nat) : Goroutine := nxN P true 5 (go1 P (kC P y n) (.value (.bool false)))
def kF (P : Program) (y : Lk) (n : Nat) : Goroutine := nxN P true 3 (go1 P (kD P y n) (.value (ptr y.b6)))
def kG (P : Program) (y : Lk) (n : Nat) : Goroutine := nxN P true 3 (go1 P (kF P y n) (.value (ptr y.b7)))
def kH (P : Program) (y : Lk) (n : Nat) : Goroutine := nxN P true 1 (go1 P (kG P y n) (.value y.pages))
def kI (P : Program) (y : Lk) (n : Nat) : Goroutine := go1 P (kH P y n) (.value (.chan (some y.bc)))
def kJ (P : Program) (y : Lk) (n : Nat) : Goroutine := go1 P (kI P y n) (.value (ptr y.b8))
def kK (P : Program) (y : Lk) (n : Nat) : Goroutine := nxN P true 1 (go1 P (kJ P y n) .skip)
theorem pur_kA (y : Lk) (n : Nat) (h1 : 1 ≤ n) (h8 : n ≤ 8) : Pur Tryd.prog true 2 (kE Tryd.prog y n) := by
  rcases (by omega : n = 1 ∨ n = 2 ∨ n = 3 ∨ n = 4 ∨ n = 5 ∨ n = 6 ∨ n = 7 ∨ n = 8) with rfl | rfl | rfl | rfl | rfl | rfl | rfl | rfl
  all_goals
    iterate 2 (refine Pur.step (by kernel_rfl) (fun w => by kernel_rfl) ?_)
    exact Pur.nil
theorem ask_kA (y : Lk) (n : Nat) (h1 : 1 ≤ n) (h8 : n ≤ 8) : Asks Tryd.prog true (kA Tryd.prog y n) [{ n := y.b2 }] (.value (ptr y.b2)) [{ k := 4, ad := ⟨y.b2, 0, none⟩, o := .cells #[y.pages] 42 }] #[] := by
  rcases (by omega : n = 1 ∨ n = 2 ∨ n = 3 ∨ n = 4 ∨ n = 5 ∨ n = 6 ∨ n = 7 ∨ n = 8) with rfl | rfl | rfl | rfl | rfl | rfl | rfl | rfl
  all_goals exact ⟨by kernel_rfl, by kernel_rfl, fun w => by kernel_rfl, by kernel_rfl, by kernel_rfl, by kernel_rfl, by kernel_rfl⟩
theorem pur_kB (y : Lk) (n : Nat) (h1 : 1 ≤ n) (h8 : n ≤ 8) : Pur Tryd.prog true 18 (go1 Tryd.prog (kA Tryd.prog y n) (.value (ptr y.b2))) := by
  rcases (by omega : n = 1 ∨ n = 2 ∨ n = 3 ∨ n = 4 ∨ n = 5 ∨ n = 6 ∨ n = 7 ∨ n = 8) with rfl | rfl | rfl | rfl | rfl | rfl | rfl | rfl
  all_goals
    iterate 18 (refine Pur.step (by kernel_rfl) (fun w => by kernel_rfl) ?_)
    exact Pur.nil
theorem ask_kB (y : Lk) (n : Nat) (h1 : 1 ≤ n) (h8 : n ≤ 8) : Asks Tryd.prog true (kB Tryd.prog y n) [{ v := y.pages }] (.value y.pages) [{ k := 0, ad := ⟨y.b2, 0, none⟩, v := y.pages }] #[⟨.cell ⟨y.b2, 0, none⟩, false, false⟩] := by
  rcases (by omega : n = 1 ∨ n = 2 ∨ n = 3 ∨ n = 4 ∨ n = 5 ∨ n = 6 ∨ n = 7 ∨ n = 8) with rfl | rfl | rfl | rfl | rfl | rfl | rfl | rfl
  all_goals exact ⟨by kernel_rfl, by kernel_rfl, fun w => by kernel_rfl, by kernel_rfl, by kernel_rfl, by kernel_rfl, by kernel_rfl⟩
theorem pur_kC (y : Lk) (n : Nat) (h1 : 1 ≤ n) (h8 : n ≤ 8) : Pur Tryd.prog true 1 (go1 Tryd.prog (kB Tryd.prog y n) (.value y.pages)) := by
  rcases (by omega : n = 1 ∨ n = 2 ∨ n = 3 ∨ n = 4 ∨ n = 5 ∨ n = 6 ∨ n = 7 ∨ n = 8) with rfl | rfl | rfl | rfl | rfl | rfl | rfl | rfl
  all_goals
    iterate 1 (refine Pur.step (by kernel_rfl) (fun w => by kernel_rfl) ?_)
    exact Pur.nil
theorem ask_kC (y : Lk) (n : Nat) (h1 : 1 ≤ n) (h8 : n ≤ 8) : Asks Tryd.prog true (kC Tryd.prog y n) [] (.value (.bool (decide ((y.len : Int) > 4096)))) [] #[] := by
  rcases (by omega : n = 1 ∨ n = 2 ∨ n = 3 ∨ n = 4 ∨ n = 5 ∨ n = 6 ∨ n = 7 ∨ n = 8) with rfl | rfl | rfl | rfl | rfl | rfl | rfl | rfl
  all_goals exact ⟨by kernel_rfl, by kernel_rfl, fun w => by kernel_rfl, by kernel_rfl, by kernel_rfl, by kernel_rfl, by kernel_rfl⟩
theorem pur_kD (y : Lk) (n : Nat) (h1 : 1 ≤ n) (h8 : n ≤ 8) : Pur Tryd.prog true 5 (go1 Tryd.prog (kC Tryd.prog y n) (.value (.bool false))) := by
  rcases (by omega : n = 1 ∨ n = 2 ∨ n = 3 ∨ n = 4 ∨ n = 5 ∨ n = 6 ∨ n = 7 ∨ n = 8) with rfl | rfl | rfl | rfl | rfl | rfl | rfl | rfl
  all_goals
    iterate 5 (refine Pur.step (by kernel_rfl) (fun w => by kernel_rfl) ?_)
    exact Pur.nil
theorem ask_kD (y : Lk) (n : Nat) (h1 : 1 ≤ n) (h8 : n ≤ 8) : Asks Tryd.prog true (kD Tryd.prog y n) [{ n := y.b6 }] (.value (ptr y.b6)) [{ k := 4, ad := ⟨y.b6, 0, none⟩, o := .cells #[.int .i64 0] 83 }] #[] := by
  rcases (by omega : n = 1 ∨ n = 2 ∨ n = 3 ∨ n = 4 ∨ n = 5 ∨ n = 6 ∨ n = 7 ∨ n = 8) with rfl | rfl | rfl | rfl | rfl | rfl | rfl | rfl
  all_goals exact ⟨by kernel_rfl, by kernel_rfl, fun w => by kernel_rfl, by kernel_rfl, by kernel_rfl, by kernel_rfl, by kernel_rfl⟩
theorem pur_kF (y : Lk) (n : Nat) (h1 : 1 ≤ n) (h8 : n ≤ 8) : Pur Tryd.prog true 3 (go1 Tryd.prog (kD Tryd.prog y n) (.value (ptr y.b6))) := by
  rcases (by omega : n = 1 ∨ n = 2 ∨ n = 3 ∨ n = 4 ∨ n = 5 ∨ n = 6 ∨ n = 7 ∨ n = 8) with rfl | rfl | rfl | rfl | rfl | rfl | rfl | rfl
  all_goals
    iterate 3 (refine Pur.step (by kernel_rfl) (fun w => by kernel_rfl) ?_)
    exact Pur.nil
theorem ask_kF (y : Lk) (n : Nat) (h1 : 1 ≤ n) (h8 : n ≤ 8) : Asks Tryd.prog true (kF Tryd.prog y n) [{ n := y.b7 }] (.value (ptr y.b7)) [{ k := 4, ad := ⟨y.b7, 0, none⟩, o := wgBlock 88 0 0 }] #[] := by
  rcases (by omega : n = 1 ∨ n = 2 ∨ n = 3 ∨ n = 4 ∨ n = 5 ∨ n = 6 ∨ n = 7 ∨ n = 8) with rfl | rfl | rfl | rfl | rfl | rfl | rfl | rfl
  all_goals exact ⟨by kernel_rfl, by kernel_rfl, fun w => by kernel_rfl, by kernel_rfl, by kernel_rfl, by kernel_rfl, by kernel_rfl⟩
theorem pur_kG (y : Lk) (n : Nat) (h1 : 1 ≤ n) (h8 : n ≤ 8) : Pur Tryd.prog true 3 (go1 Tryd.prog (kF Tryd.prog y n) (.value (ptr y.b7))) := by
  rcases (by omega : n = 1 ∨ n = 2 ∨ n = 3 ∨ n = 4 ∨ n = 5 ∨ n = 6 ∨ n = 7 ∨ n = 8) with rfl | rfl | rfl | rfl | rfl | rfl | rfl | rfl
  all_goals
    iterate 3 (refine Pur.step (by kernel_rfl) (fun w => by kernel_rfl) ?_)
    exact Pur.nil
theorem ask_kG (y : Lk) (n : Nat) (h1 : 1 ≤ n) (h8 : n ≤ 8) : Asks Tryd.prog true (kG Tryd.prog y n) [{ v := y.pages }] (.value y.pages) [{ k := 0, ad := ⟨y.b2, 0, none⟩, v := y.pages }] #[⟨.cell ⟨y.b2, 0, none⟩, false, false⟩] := by
  rcases (by omega : n = 1 ∨ n = 2 ∨ n = 3 ∨ n = 4 ∨ n = 5 ∨ n = 6 ∨ n = 7 ∨ n = 8) with rfl | rfl | rfl | rfl | rfl | rfl | rfl | rfl
  all_goals exact ⟨by kernel_rfl, by kernel_rfl, fun w => by kernel_rfl, by kernel_rfl, by kernel_rfl, by kernel_rfl, by kernel_rfl⟩
theorem pur_kH (y : Lk) (n : Nat) (h1 : 1 ≤ n) (h8 : n ≤ 8) : Pur Tryd.prog true 1 (go1 Tryd.prog (kG Tryd.prog y n) (.value y.pages)) := by
  rcases (by omega : n = 1 ∨ n = 2 ∨ n = 3 ∨ n = 4 ∨ n = 5 ∨ n = 6 ∨ n = 7 ∨ n = 8) with rfl | rfl | rfl | rfl | rfl | rfl | rfl | rfl
  all_goals
    iterate 1 (refine Pur.step (by kernel_rfl) (fun w => by kernel_rfl) ?_)
    exact Pur.nil
theorem at_kH (y : Lk) (n : Nat) (h1 : 1 ≤ n) (h8 : n ≤ 8) : At1 Tryd.prog true (kH Tryd.prog y n) (do pure (.value (← Instr.makeChan 89 (.int .i64 (y.len : Nat))))) := by
  rcases (by omega : n = 1 ∨ n = 2 ∨ n = 3 ∨ n = 4 ∨ n = 5 ∨ n = 6 ∨ n = 7 ∨ n = 8) with rfl | rfl | rfl | rfl | rfl | rfl | rfl | rfl
  all_goals exact ⟨by kernel_rfl, by kernel_rfl, fun w => by kernel_rfl, by kernel_rfl, by kernel_rfl⟩
theorem ask_kI (y : Lk) (n : Nat) (h1 : 1 ≤ n) (h8 : n ≤ 8) : Asks Tryd.prog true (kI Tryd.prog y n) [{ n := y.b8 }] (.value (ptr y.b8)) [{ k := 4, ad := ⟨y.b8, 0, none⟩, o := .cells #[.chan none] 89 }] #[] := by
  rcases (by omega : n = 1 ∨ n = 2 ∨ n = 3 ∨ n = 4 ∨ n = 5 ∨ n = 6 ∨ n = 7 ∨ n = 8) with rfl | rfl | rfl | rfl | rfl | rfl | rfl | rfl
  all_goals exact ⟨by kernel_rfl, by kernel_rfl, fun w => by kernel_rfl, by kernel_rfl, by kernel_rfl, by kernel_rfl, by kernel_rfl⟩
theorem ask_kJ (y : Lk) (n : Nat) (h1 : 1 ≤ n) (h8 : n ≤ 8) : Asks Tryd.prog true (kJ Tryd.prog y n) [] .skip [{ k := 1, ad := ⟨y.b8, 0, none⟩, v := .chan (some y.bc) }] #[⟨.cell ⟨y.b8, 0, none⟩, true, false⟩] := by
  rcases (by omega : n = 1 ∨ n = 2 ∨ n = 3 ∨ n = 4 ∨ n = 5 ∨ n = 6 ∨ n = 7 ∨ n = 8) with rfl | rfl | rfl | rfl | rfl | rfl | rfl | rfl
  all_goals exact ⟨by kernel_rfl, by kernel_rfl, fun w => by kernel_rfl, by kernel_rfl, by kernel_rfl, by kernel_rfl, by kernel_rfl⟩
theorem pur_kK (y : Lk) (n : Nat) (h1 : 1 ≤ n) (h8 : n ≤ 8) : Pur Tryd.prog true 1 (go1 Tryd.prog (kJ Tryd.prog y n) .skip) := by
  rcases (by omega : n = 1 ∨ n = 2 ∨ n = 3 ∨ n = 4 ∨ n = 5 ∨ n = 6 ∨ n = 7 ∨ n = 8) with rfl | rfl | rfl | rfl | rfl | rfl | rfl | rfl
  all_goals
    iterate 1 (refine Pur.step (by kernel_rfl) (fun w => by kernel_rfl) ?_)
    exact Pur.nil
theorem kK_at (y : Lk) (n : Nat) (h1 : 1 ≤ n) (h8 : n ≤ 8) : kK Tryd.prog y n = atC Tryd.prog 25 6 (kK Tryd.prog y n).frame.tmps y.cs := by
  rcases (by omega : n = 1 ∨ n = 2 ∨ n = 3 ∨ n = 4 ∨ n = 5 ∨ n = 6 ∨ n = 7 ∨ n = 8) with rfl | rfl | rfl | rfl | rfl | rfl | rfl | rfl
  all_goals kernel_rfl
theorem kK_ok (y : Lk) (n : Nat) (h1 : 1 ≤ n) (h8 : n ≤ 8) : SlB y n (kK Tryd.prog y n).frame.tmps := by
  rcases (by omega : n = 1 ∨ n = 2 ∨ n = 3 ∨ n = 4 ∨ n = 5 ∨ n = 6 ∨ n = 7 ∨ n = 8) with rfl | rfl | rfl | rfl | rfl | rfl | rfl | rfl
  all_goals exact ⟨by kernel_rfl, by kernel_rfl, by kernel_rfl, by kernel_rfl, by kernel_rfl, by kernel_rfl, by kernel_rfl, by kernel_rfl, by kernel_rfl⟩
end Go.Proofs.YtobpjijdebnaoaaDoor
namespace Go.Proofs.YtobpjijdebnaoaaDoor
open Go Go.Conc
open Go.ConcR (wgBlock WgAt Payload)
/-! ### its beginning -/
def lk0h (w : World) (pages : Value) (len : Nat) : World := { w with heap := ((((w.heap.push (.cells #[pages] 42)).push (.cells #[.int .i64 0] 83)).push (wgBlock 88 0 0)).push (.chan len #[] false 0 0 false)).push (.cells #[.chan none] 89) }
def lk0 (w : World) (pages : Value) (len : Nat) : World := (lk0h w pages len).setCell ⟨w.heap.size + 4, 0, none⟩ (.chan (some (w.heap.size + 3)))
/-- What stands there before its workers start. -/
structure Lk0 (w w0 : World) (pages : Value) (len : Nat) : Prop where
  old : ∀ b, b < w.heap.size → w0.heap[b]? = w.heap[b]?
  h2 : w0.heap[w.heap.size]? = some (.cells #[pages] 42)
  h6 : w0.heap[w.heap.size + 1]? = some (.cells #[.int .i64 0] 83)
  h7 : w0.heap[w.heap.size + 2]? = some (wgBlock 88 0 0)
  hc : w0.heap[w.heap.size + 3]? = some (.chan len #[] false 0 0 false)
  h8 : w0.heap[w.heap.size + 4]? = some (.cells #[.chan (some (w.heap.size + 3))] 89)
  size : w0.heap.size = w.heap.size + 5
  rest : w0.tape = w.tape ∧ w0.os = w.os ∧ w0.output = w.output
theorem lk0_ok (w : World) (pages : Value) (len : Nat) : Lk0 w (lk0 w pages len) pages len := by
  have e8 : (lk0h w pages len).heap[w.heap.size + 4]? = some (.cells #[.chan none] 89) := by
    simp only [lk0h, Array.getElem?_push, Array.size_push]
    exact if_pos trivial
  have hs := heap_setCell (w := lk0h w pages len) (a := ⟨w.heap.size + 4, 0, none⟩) (v := .chan (some (w.heap.size + 3))) e8 rfl
  have hp : ∀ b, b ≠ w.heap.size + 4 → (lk0 w pages len).heap[b]? = (lk0h w pages len).heap[b]? := fun b hb => by
    have := hs b
    rw [if_neg hb] at this
    exact this
  refine ⟨fun b hb => ?_, ?_, ?_, ?_, ?_, ?_, ?_, (aside_setCell _ _ _).tape, (aside_setCell _ _ _).os, (aside_setCell _ _ _).output⟩
  · rw [hp b (by omega)]
    simp only [lk0h, Array.getElem?_push, Array.size_push]
    rw [if_neg (by omega), if_neg (by omega), if_neg (by omega), if_neg (by omega), if_neg (by omega)]
  · rw [hp _ (by omega)]
    simp only [lk0h, Array.getElem?_push, Array.size_push]
    rw [if_neg (by omega), if_neg (by omega), if_neg (by omega), if_neg (by omega)]
    exact if_pos trivial
  · rw [hp _ (by omega)]
    simp only [lk0h, Array.getElem?_push, Array.size_push]
    rw [if_neg (by omega), if_neg (by omega), if_neg (by omega)]
    exact if_pos trivial
  · rw [hp _ (by omega)]
    simp only [lk0h, Array.getElem?_push, Array.size_push]
    rw [if_neg (by omega), if_neg (by omega)]
    exact if_pos trivial
  · rw [hp _ (by omega)]
    simp only [lk0h, Array.getElem?_push, Array.size_push]
    rw [if_neg (by omega)]
    exact if_pos trivial
  · have := hs (w.heap.size + 4)
    rw [if_pos rfl] at this
    exact this
  · have := cell_size (lk0h w pages len) ⟨w.heap.size + 4, 0, none⟩ (.chan (some (w.heap.size + 3)))
    unfold lk0
    rw [this]
    simp [lk0h]
/-- The call's blocks lie behind w's. -/
structure Lk.At (y : Lk) (w : World) : Prop where
  b2 : y.b2 = w.heap.size
  b6 : y.b6 = w.heap.size + 1
  b7 : y.b7 = w.heap.size + 2
  bc : y.bc = w.heap.size + 3
  b8 : y.b8 = w.heap.size + 4
  w0 : y.w0 = lk0 w y.pages y.len
section
variable {y : Lk} {S : Nat → Prop} {B0 : Nat} {w : World}
theorem look_begin (hy : y.At w) {n : Nat} (h1 : 1 ≤ n) (h8 : n ≤ 8) (hl : y.len ≤ 4096) (hS : ∀ b, S b → b < w.heap.size) :
    ∃ t, Bs Tryd.prog S B0 (kE Tryd.prog y n) w (atC Tryd.prog 25 6 (sT y n t) y.cs) y.w0 := by
  have none_ : ∀ {B : Nat}, ∀ e ∈ (#[] : Array Event), EvL (ShunB S) B e ∧ ∀ a, MemAct.ofEvent e ≠ .mark (.release a) := fun e he => by simp at he
  have ev : ∀ {B b o : Nat} {wr : Bool}, w.heap.size ≤ b → b < B → ∀ e ∈ (#[⟨.cell ⟨b, o, none⟩, wr, false⟩] : Array Event), EvL (ShunB S) B e ∧ ∀ a, MemAct.ofEvent e ≠ .mark (.release a) := fun hf hb e he => by
    have : e = _ := Array.mem_singleton.1 he
    exact this ▸ evl_cell (fun hs => by have := hS _ hs; omega) hb
  obtain ⟨wA, eA⟩ : ∃ wA : World, wA = { w with heap := w.heap.push (.cells #[y.pages] 42) } := ⟨_, rfl⟩
  have sA : wA.heap.size = w.heap.size + 1 := by rw [eA]; simp
  have cA : wA.cell? ⟨y.b2, 0, none⟩ = some y.pages := by rw [hy.b2, eA]; simp [World.cell?]
  have bA : Bs Tryd.prog S B0 (kA Tryd.prog y n) w _ wA := bs_ask (ask_kA y n h1 h8) (show OkQ _ _ _ from ⟨hy.b2.symm, eA⟩) none_ (by omega)
  have bB : Bs Tryd.prog S B0 (kB Tryd.prog y n) wA _ wA := bs_ask (ask_kB y n h1 h8) (show OkQ _ _ _ from ⟨cA, rfl⟩) (ev (by rw [hy.b2]; exact Nat.le_refl _) (by rw [hy.b2]; omega)) (Nat.le_refl _)
  have hd : decide ((y.len : Int) > 4096) = false := by simp; omega
  have bC : Bs Tryd.prog S B0 (kC Tryd.prog y n) wA _ wA := bs_ask (asks_eq (ask_kC y n h1 h8) (by rw [hd])) (show OkQ [] wA wA from rfl) none_ (Nat.le_refl _)
  obtain ⟨wD, eD⟩ : ∃ wD : World, wD = { wA with heap := wA.heap.push (.cells #[.int .i64 0] 83) } := ⟨_, rfl⟩
  have sD : wD.heap.size = w.heap.size + 2 := by rw [eD]; simp [sA]
  have bD : Bs Tryd.prog S B0 (kD Tryd.prog y n) wA _ wD := bs_ask (ask_kD y n h1 h8) (show OkQ _ _ _ from ⟨by rw [hy.b6, sA], eD⟩) none_ (by omega)
  obtain ⟨wF, eF⟩ : ∃ wF : World, wF = { wD with heap := wD.heap.push (wgBlock 88 0 0) } := ⟨_, rfl⟩
  have sF : wF.heap.size = w.heap.size + 3 := by rw [eF]; simp [sD]
  have bF : Bs Tryd.prog S B0 (kF Tryd.prog y n) wD _ wF := bs_ask (ask_kF y n h1 h8) (show OkQ _ _ _ from ⟨by rw [hy.b7, sD], eF⟩) none_ (by omega)
  have cF : wF.cell? ⟨y.b2, 0, none⟩ = some y.pages := by
    rw [← cA]
    unfold World.cell?
    have : wF.heap[y.b2]? = wA.heap[y.b2]? := by
      rw [eF]
      simp only [Array.getElem?_push]
      rw [if_neg (by rw [hy.b2]; omega), eD]
      simp only [Array.getElem?_push]
      rw [if_neg (by rw [hy.b2]; omega)]
    rw [this]
  have bG : Bs Tryd.prog S B0 (kG Tryd.prog y n) wF _ wF := bs_ask (ask_kG y n h1 h8) (show OkQ _ _ _ from ⟨cF, rfl⟩) (ev (by rw [hy.b2]; exact Nat.le_refl _) (by rw [hy.b2]; omega)) (Nat.le_refl _)
  obtain ⟨wH, eH⟩ : ∃ wH : World, wH = { wF with heap := wF.heap.push (.chan y.len #[] false 0 0 false) } := ⟨_, rfl⟩
  have sH : wH.heap.size = w.heap.size + 4 := by rw [eH]; simp [sF]
  have bH : Bs Tryd.prog S B0 (kH Tryd.prog y n) wF (kI Tryd.prog y n) wH := by
    have hb : (((Tryd.prog.info? 66).getD default).bytes : Int) ≤ 1024 := Int.ofNat_le.2 (Nat.le_of_ble_eq_true (by kernel_rfl))
    have := bs_makeChan (S := S) (B0 := B0) (w := wF) (dir := .both) (e := 66) (i := (Tryd.prog.info? 66).getD default) (at_kH y n h1 h8) (by kernel_rfl) (by kernel_rfl) (by omega) (Int.le_trans (Int.mul_le_mul_of_nonneg_right hb (by omega)) (by omega))
    rw [sF, ← hy.bc, ← eH] at this
    exact this
  obtain ⟨wI, eI⟩ : ∃ wI : World, wI = { wH with heap := wH.heap.push (.cells #[.chan none] 89) } := ⟨_, rfl⟩
  have sI : wI.heap.size = w.heap.size + 5 := by rw [eI]; simp [sH]
  have bI : Bs Tryd.prog S B0 (kI Tryd.prog y n) wH (kJ Tryd.prog y n) wI := bs_ask (ask_kI y n h1 h8) (show OkQ _ _ _ from ⟨by rw [hy.b8, sH], eI⟩) none_ (by omega)
  have xI : wI.heap[y.b8]? = some (.cells #[.chan none] 89) := by rw [hy.b8, ← sH, eI]; simp
  have a8 := set1 xI (o := 0) (by simp) (.chan (some y.bc))
  have eJ : wI.setCell ⟨y.b8, 0, none⟩ (.chan (some y.bc)) = y.w0 := by
    rw [hy.w0, hy.b8, hy.bc, eI, eH, eF, eD, eA]
    rfl
  have sJ : y.w0.heap.size = w.heap.size + 5 := by rw [← eJ, cell_size]; exact sI
  have bJ : Bs Tryd.prog S B0 (kJ Tryd.prog y n) wI _ y.w0 := bs_ask (ask_kJ y n h1 h8) (show OkQ _ _ _ from ⟨a8.1, a8.2.1, eJ.symm⟩) (ev (by rw [hy.b8]; omega) (by rw [hy.b8]; omega)) (by omega)
  obtain ⟨t, ht⟩ := (kK_ok y n h1 h8).form
  have hK := kK_at y n h1 h8
  rw [ht] at hK
  have pK : Bs Tryd.prog S B0 (go1 Tryd.prog (kJ Tryd.prog y n) .skip) y.w0 (atC Tryd.prog 25 6 (sT y n t) y.cs) y.w0 := hK ▸ bs_pur 1 (pur_kK y n h1 h8)
  have pA := bs_pur (w := w) (S := S) (B0 := B0) 2 (pur_kA y n h1 h8)
  have pB := bs_pur (w := wA) (S := S) (B0 := B0) 18 (pur_kB y n h1 h8)
  have pC := bs_pur (w := wA) (S := S) (B0 := B0) 1 (pur_kC y n h1 h8)
  have pD := bs_pur (w := wA) (S := S) (B0 := B0) 5 (pur_kD y n h1 h8)
  have pF := bs_pur (w := wD) (S := S) (B0 := B0) 3 (pur_kF y n h1 h8)
  have pG := bs_pur (w := wF) (S := S) (B0 := B0) 3 (pur_kG y n h1 h8)
  have pH := bs_pur (w := wF) (S := S) (B0 := B0) 1 (pur_kH y n h1 h8)
  exact ⟨t, pA.trans (bA.trans (pB.trans (bB.trans (pC.trans (bC.trans (pD.trans (bD.trans (pF.trans (bF.trans (pG.trans (bG.trans (pH.trans (bH.trans (bI.trans (bJ.trans pK)))))))))))))))⟩
/-! ### the whole call -/
/-- What it leaves: a row with what was seen, in the pages' order. -/
structure LkOut (y : Lk) (br : Nat) (w w' : World) : Prop where
  row : ∃ cells, w'.heap[br]? = some (.cells cells 66) ∧ cells.size = 5 * y.len ∧ ∀ i, i < y.len → cells[5 * i]? = some (.int .i64 (y.st i : Nat)) ∧ cells[5 * i + 1]? = some (.int .i64 (y.lb i : Nat)) ∧ cells[5 * i + 2]? = some (.int .i64 (i : Nat)) ∧ cells[5 * i + 3]? = some (.int .i64 (y.sq i : Nat)) ∧ cells[5 * i + 4]? = some (.int .i64 (y.kd i : Nat))
  new : w.heap.size ≤ br ∧ br < w'.heap.size ∧ br ≠ y.b7 ∧ y.b7 < br
  keep : ∀ b, b < w.heap.size → y.Fz b → w'.heap[b]? = w.heap[b]?
  rest : w'.tape = w.tape ∧ w'.os = w.os ∧ w'.output = w.output
theorem look_call [Payload] (ok : y.Ok Tryd.prog) (hy : y.At w) (h1 : 1 ≤ y.n) (h8 : y.n ≤ 8) (hS : ∀ b, S b → b < w.heap.size) (hSF : ∀ b, y.Fz b → ¬ S b) {c : Frame} {k : List Frame} (hcs : y.cs = c :: k)
    {gs : Array Goroutine} {d : Nat} {sl : Option (Nat × Nat)} {t : Trace} {q : Nat → Nat} (hm : y.m0 = gs.size) (hB : Bx Tryd.prog S B0 (kE Tryd.prog y y.n) w gs t q) :
    ∃ N gs' w' sl' t' q' br, runNT Tryd.prog N (crowd gs (w.at d) sl) t = (.next (crowd gs' w' sl'), t') ∧ gs'.size = gs.size + y.n ∧
      Bx Tryd.prog (fun b => S b ∨ b = y.b7) w'.heap.size (G (c.finish (.tuple #[.slice (some ⟨br, 0, none⟩) y.len y.len, .nilIface])) k) w' gs' t' q' ∧ LkOut y br w w' := by
  have k0 := lk0_ok w y.pages y.len
  rw [← hy.w0] at k0
  have e2 := hy.b2
  have e6 := hy.b6
  have e7 := hy.b7
  have ec := hy.bc
  have e8 := hy.b8
  have hB0 : Bx Tryd.prog S w.heap.size (kE Tryd.prog y y.n) w gs t q := ⟨hB.at0, hB.lv, hB.past, fun b hb => nor_of hB.past hb⟩
  obtain ⟨tt, hbeg⟩ := look_begin (S := S) (B0 := w.heap.size) hy h1 h8 ok.most hS
  obtain ⟨N1, gs1, d1, sl1, t1, q1, r1, z1, hB1⟩ := hbeg gs d sl t q hB0
  have bg : y.Beg S := by
    refine ⟨?_, ?_, ?_, by omega, by omega, by omega, fun b hb => ?_⟩
    · show y.w0.heap[y.b7]? = _
      rw [e7]; exact k0.h7
    · rw [e6]; exact k0.h6
    · rw [ec]; exact k0.hc
    · have := hS b hb
      exact ⟨by rw [k0.size]; omega, fun hf => hSF b hf hb, by omega, by omega, by omega⟩
  obtain ⟨N2, gs2, w2, sl2, t2, r2, F⟩ := look_mid (d := d1) (sl := sl1) ok bg h1 h8 (hm.trans z1.symm) hB1 (by omega)
  obtain ⟨⟨O, g, hg, hco, hO⟩, z2, ⟨q2, hq2⟩, hp2, _, ⟨bl, a, r, tm, hperm, hch⟩, hlow⟩ := F
  have hB2 : Bx Tryd.prog (fun b => S b ∨ b = y.b7) w2.heap.size g w2 gs2 t2 q2 := ⟨hg, hq2, hp2, fun b hb => nor_of hp2 hb⟩
  have hF' : ∀ b, y.Fz b → ¬ (S b ∨ b = y.b7) := fun b hf h => h.elim (hSF b hf) (ok.fl b hf).2.2.1
  have hS2 : ∀ b, (S b ∨ b = y.b7) → b < w2.heap.size := fun b h => h.elim (hlow.2.2 b) fun e => e ▸ (hlow.2.1 _ (.inl rfl)).1
  obtain ⟨N3, gs3, O3, g3, w3, sl3, t3, q3, r3, z3, hB3, ⟨⟨T, hT, hsl⟩, hkv⟩, k3, s3, m3⟩ := co_beside (S := fun b => S b ∨ b = y.b7) (B0 := w2.heap.size) (fun w d h => h) hF' hco (fun b hb => ⟨(hO b hb).1, fun h => h.elim (hO b hb).2.2.2 fun e => (hO b hb).2.2.1 (.inl e)⟩) (fun b hb => (hlow.1 b hb).1) hS2 gs2 w2.drawn sl2 t2 q2 hB2
  have lc2 : y.bc < w2.heap.size := (hlow.2.1 y.bc (.inr (.inr rfl))).1
  have hch3 : w3.heap[y.bc]? = some (.chan y.len (bl.map y.sight).toArray false a r tm) := (k3 y.bc lc2 fun h => (hO _ h).2.2.1 (.inr (.inr rfl))).trans hch
  obtain ⟨u, hu⟩ := hsl.form
  rw [hu] at hT
  rw [hT] at hB3
  obtain ⟨u', w4, hend, hli⟩ := look_end (n := y.n) (S := fun b => S b ∨ b = y.b7) (B0 := w2.heap.size) ok hperm hch3 hkv.kw (Nat.lt_of_lt_of_le lc2 s3) hF' (fun b hb => Nat.lt_of_lt_of_le (hS2 b hb) s3) u
  have hback : ∀ w, stepG Tryd.prog true (rZ Tryd.prog y w3.heap.size u') w = .go (G (c.finish (.tuple #[.slice (some ⟨w3.heap.size, 0, none⟩) y.len y.len, .nilIface])) k) w #[] := fun w => by
    have := rZ_back y w3.heap.size u' c k w
    rw [← hcs] at this
    exact this
  have hlast : Bs Tryd.prog (fun b => S b ∨ b = y.b7) w2.heap.size (rZ Tryd.prog y w3.heap.size u') w4 (G (c.finish (.tuple #[.slice (some ⟨w3.heap.size, 0, none⟩) y.len y.len, .nilIface])) k) w4 :=
    bs_step (es := #[]) (run_rZ y _ u') (fun d => ⟨d, hback _⟩) (fun e he => by simp at he) (Nat.le_refl _)
  obtain ⟨N5, gs5, d5, sl5, t5, q5, r5, z5, hB5⟩ := (hend.trans hlast) gs3 w3.drawn sl3 t3 q3 hB3
  refine ⟨N1 + (N2 + (N3 + N5)), gs5, w4.at d5, sl5, t5, q5, w3.heap.size, ?_, ?_, ⟨hB5.at0, hB5.lv, hB5.past, fun b hb => nor_of hB5.past hb⟩, ?_⟩
  · have r3' : runNT Tryd.prog N3 (crowd gs2 w2 sl2) t2 = (.next (crowd gs3 w3 sl3), t3) := r3
    rw [runNT_add N1 _ _ _ r1, runNT_add N2 _ _ _ r2, runNT_add N3 _ _ _ r3']
    exact r5
  · rw [z5, z3, z2]
    show y.m0 + y.n = _
    rw [hm]
  · have hsz := hkv.kw.size
    rw [k0.size] at hsz
    refine ⟨?_, ⟨by omega, hli.size, by omega, by omega⟩, fun b hb hf => ?_, ?_⟩
    · obtain ⟨cells, c1, c2, c3⟩ := hli.row
      exact ⟨cells, c1, c2, fun i hi => c3 i (List.mem_reverse.2 (hperm.mem_iff.2 (List.mem_range.2 hi)))⟩
    · have : (w4.at d5).heap[b]? = w4.heap[b]? := rfl
      rw [this, hli.keep b (by omega) (by omega), hkv.kw.fz b hf, k0.old b hb]
    · have h4 := hli.rest
      have h3 := hkv.rest
      have h0 := k0.rest
      exact ⟨h4.1.trans (h3.1.trans h0.1), h4.2.1.trans (h3.2.1.trans h0.2.1), h4.2.2.trans (h3.2.2.trans h0.2.2)⟩
end
end Go.Proofs.YtobpjijdebnaoaaDoor
namespace Go.Proofs.YtobpjijdebnaoaaDoor
open Go Go.Conc
/-! ### too many pages -/
def kX (P : Program) (y : Lk) (n : Nat) : Goroutine := nxN P true 9 (go1 P (kC P y n) (.value (.bool true)))
theorem pur_kX (y : Lk) (n : Nat) (h1 : 1 ≤ n) (h8 : n ≤ 8) : Pur Tryd.prog true 9 (go1 Tryd.prog (kC Tryd.prog y n) (.value (.bool true))) := by
  rcases (by omega : n = 1 ∨ n = 2 ∨ n = 3 ∨ n = 4 ∨ n = 5 ∨ n = 6 ∨ n = 7 ∨ n = 8) with rfl | rfl | rfl | rfl | rfl | rfl | rfl | rfl
  all_goals
    iterate 9 (refine Pur.step (by kernel_rfl) (fun w => by kernel_rfl) ?_)
    exact Pur.nil
theorem run_kX (y : Lk) (n : Nat) (h1 : 1 ≤ n) (h8 : n ≤ 8) : (kX Tryd.prog y n).status = .running := by
  rcases (by omega : n = 1 ∨ n = 2 ∨ n = 3 ∨ n = 4 ∨ n = 5 ∨ n = 6 ∨ n = 7 ∨ n = 8) with rfl | rfl | rfl | rfl | rfl | rfl | rfl | rfl
  all_goals kernel_rfl
theorem kX_back (y : Lk) (n : Nat) (h1 : 1 ≤ n) (h8 : n ≤ 8) (c : Frame) (k : List Frame) (w : World) : stepG Tryd.prog true (kX Tryd.prog { y with cs := c :: k } n) w = .go (G (c.finish (.tuple #[.slice none 0 0, .iface 47 (.int .i64 3)])) k) w #[] := by
  rcases (by omega : n = 1 ∨ n = 2 ∨ n = 3 ∨ n = 4 ∨ n = 5 ∨ n = 6 ∨ n = 7 ∨ n = 8) with rfl | rfl | rfl | rfl | rfl | rfl | rfl | rfl
  all_goals kernel_rfl
/-! ### too few workers, too many -/
def zE (P : Program) (y : Lk) (n : Int) : Goroutine := G (Frame.enter P 25 #[y.pages, .int .i64 n] .normal) y.cs
def zA (P : Program) (y : Lk) (n : Int) : Goroutine := nxN P true 2 (zE P y n)
def zB (P : Program) (y : Lk) (n : Int) : Goroutine := nxN P true 7 (go1 P (zA P y n) (.value (ptr y.b2)))
def zC (P : Program) (y : Lk) (n : Int) : Goroutine := nxN P true 13 (go1 P (zB P y n) (.value (.bool true)))
def zD (P : Program) (y : Lk) (n : Int) : Goroutine := nxN P true 2 (go1 P (zB P y n) (.value (.bool false)))
def zF (P : Program) (y : Lk) (n : Int) : Goroutine := nxN P true 10 (go1 P (zD P y n) (.value (.bool true)))
theorem pur_zA (y : Lk) (n : Int) : Pur Tryd.prog true 2 (zE Tryd.prog y n) := by
  iterate 2 (refine Pur.step (by kernel_rfl) (fun w => by kernel_rfl) ?_)
  exact Pur.nil
theorem ask_zA (y : Lk) (n : Int) : Asks Tryd.prog true (zA Tryd.prog y n) [{ n := y.b2 }] (.value (ptr y.b2)) [{ k := 4, ad := ⟨y.b2, 0, none⟩, o := .cells #[y.pages] 42 }] #[] := ⟨by kernel_rfl, by kernel_rfl, fun w => by kernel_rfl, by kernel_rfl, by kernel_rfl, by kernel_rfl, by kernel_rfl⟩
theorem pur_zB (y : Lk) (n : Int) : Pur Tryd.prog true 7 (go1 Tryd.prog (zA Tryd.prog y n) (.value (ptr y.b2))) := by
  iterate 7 (refine Pur.step (by kernel_rfl) (fun w => by kernel_rfl) ?_)
  exact Pur.nil
theorem ask_zB (y : Lk) (n : Int) : Asks Tryd.prog true (zB Tryd.prog y n) [] (.value (.bool (decide (n < 1)))) [] #[] := ⟨by kernel_rfl, by kernel_rfl, fun w => by kernel_rfl, by kernel_rfl, by kernel_rfl, by kernel_rfl, by kernel_rfl⟩
theorem pur_zC (y : Lk) (n : Int) : Pur Tryd.prog true 13 (go1 Tryd.prog (zB Tryd.prog y n) (.value (.bool true))) := by
  iterate 13 (refine Pur.step (by kernel_rfl) (fun w => by kernel_rfl) ?_)
  exact Pur.nil
theorem run_zC (y : Lk) (n : Int) : (zC Tryd.prog y n).status = .running := by kernel_rfl
theorem zC_back (y : Lk) (n : Int) (c : Frame) (k : List Frame) (w : World) : stepG Tryd.prog true (zC Tryd.prog { y with cs := c :: k } n) w = .go (G (c.finish (.tuple #[.slice none 0 0, .iface 47 (.int .i64 1)])) k) w #[] := by kernel_rfl
theorem pur_zD (y : Lk) (n : Int) : Pur Tryd.prog true 2 (go1 Tryd.prog (zB Tryd.prog y n) (.value (.bool false))) := by
  iterate 2 (refine Pur.step (by kernel_rfl) (fun w => by kernel_rfl) ?_)
  exact Pur.nil
theorem ask_zD (y : Lk) (n : Int) : Asks Tryd.prog true (zD Tryd.prog y n) [] (.value (.bool (decide (n > 8)))) [] #[] := ⟨by kernel_rfl, by kernel_rfl, fun w => by kernel_rfl, by kernel_rfl, by kernel_rfl, by kernel_rfl, by kernel_rfl⟩
theorem pur_zF (y : Lk) (n : Int) : Pur Tryd.prog true 10 (go1 Tryd.prog (zD Tryd.prog y n) (.value (.bool true))) := by
  iterate 10 (refine Pur.step (by kernel_rfl) (fun w => by kernel_rfl) ?_)
  exact Pur.nil
theorem run_zF (y : Lk) (n : Int) : (zF Tryd.prog y n).status = .running := by kernel_rfl
theorem zF_back (y : Lk) (n : Int) (c : Frame) (k : List Frame) (w : World) : stepG Tryd.prog true (zF Tryd.prog { y with cs := c :: k } n) w = .go (G (c.finish (.tuple #[.slice none 0 0, .iface 47 (.int .i64 1)])) k) w #[] := by kernel_rfl
section
variable {y : Lk} {S : Nat → Prop} {B0 : Nat} {w : World}
theorem bs_back {g : Goroutine} {c : Frame} {k : List Frame} {v : Value} (hr : g.status = .running) (hs : ∀ w, stepG Tryd.prog true g w = .go (G (c.finish v) k) w #[]) : Bs Tryd.prog S B0 g w (G (c.finish v) k) w :=
  bs_step (es := #[]) hr (fun d => ⟨d, hs _⟩) (fun e he => by simp at he) (Nat.le_refl _)
theorem look_full (h2 : y.b2 = w.heap.size) {n : Nat} (h1 : 1 ≤ n) (h8 : n ≤ 8) (hl : 4096 < y.len) (hS : ∀ b, S b → b < w.heap.size) {c : Frame} {k : List Frame} (hcs : y.cs = c :: k) :
    Bs Tryd.prog S B0 (kE Tryd.prog y n) w (G (c.finish (.tuple #[.slice none 0 0, .iface 47 (.int .i64 3)])) k) { w with heap := w.heap.push (.cells #[y.pages] 42) } := by
  have none_ : ∀ {B : Nat}, ∀ e ∈ (#[] : Array Event), EvL (ShunB S) B e ∧ ∀ a, MemAct.ofEvent e ≠ .mark (.release a) := fun e he => by simp at he
  obtain ⟨wA, eA⟩ : ∃ wA : World, wA = { w with heap := w.heap.push (.cells #[y.pages] 42) } := ⟨_, rfl⟩
  have sA : wA.heap.size = w.heap.size + 1 := by rw [eA]; simp
  have cA : wA.cell? ⟨y.b2, 0, none⟩ = some y.pages := by rw [h2, eA]; simp [World.cell?]
  rw [← eA]
  have bA : Bs Tryd.prog S B0 (kA Tryd.prog y n) w _ wA := bs_ask (ask_kA y n h1 h8) (show OkQ _ _ _ from ⟨h2.symm, eA⟩) none_ (by omega)
  have bB : Bs Tryd.prog S B0 (kB Tryd.prog y n) wA _ wA := bs_ask (ask_kB y n h1 h8) (show OkQ _ _ _ from ⟨cA, rfl⟩) (fun e he => by
    have : e = _ := Array.mem_singleton.1 he
    exact this ▸ evl_cell (fun hs => by have := hS _ hs; omega) (by omega)) (Nat.le_refl _)
  have hd : decide ((y.len : Int) > 4096) = true := by simp; omega
  have bC : Bs Tryd.prog S B0 (kC Tryd.prog y n) wA _ wA := bs_ask (asks_eq (ask_kC y n h1 h8) (by rw [hd])) (show OkQ [] wA wA from rfl) none_ (Nat.le_refl _)
  have pA := bs_pur (w := w) (S := S) (B0 := B0) 2 (pur_kA y n h1 h8)
  have pB := bs_pur (w := wA) (S := S) (B0 := B0) 18 (pur_kB y n h1 h8)
  have pC := bs_pur (w := wA) (S := S) (B0 := B0) 1 (pur_kC y n h1 h8)
  have pX := bs_pur (w := wA) (S := S) (B0 := B0) 9 (pur_kX y n h1 h8)
  have hX : ∀ w, stepG Tryd.prog true (kX Tryd.prog y n) w = .go (G (c.finish (.tuple #[.slice none 0 0, .iface 47 (.int .i64 3)])) k) w #[] := fun w => by
    have := kX_back y n h1 h8 c k w
    rw [← hcs] at this
    exact this
  exact pA.trans (bA.trans (pB.trans (bB.trans (pC.trans (bC.trans (pX.trans (bs_back (run_kX y n h1 h8) hX)))))))
theorem look_range (h2 : y.b2 = w.heap.size) {n : Int} (hn : n < 1 ∨ 8 < n) {c : Frame} {k : List Frame} (hcs : y.cs = c :: k) :
    Bs Tryd.prog S B0 (zE Tryd.prog y n) w (G (c.finish (.tuple #[.slice none 0 0, .iface 47 (.int .i64 1)])) k) { w with heap := w.heap.push (.cells #[y.pages] 42) } := by
  have none_ : ∀ {B : Nat}, ∀ e ∈ (#[] : Array Event), EvL (ShunB S) B e ∧ ∀ a, MemAct.ofEvent e ≠ .mark (.release a) := fun e he => by simp at he
  obtain ⟨wA, eA⟩ : ∃ wA : World, wA = { w with heap := w.heap.push (.cells #[y.pages] 42) } := ⟨_, rfl⟩
  have sA : wA.heap.size = w.heap.size + 1 := by rw [eA]; simp
  rw [← eA]
  have bA : Bs Tryd.prog S B0 (zA Tryd.prog y n) w _ wA := bs_ask (ask_zA y n) (show OkQ _ _ _ from ⟨h2.symm, eA⟩) none_ (by omega)
  have pA := bs_pur (w := w) (S := S) (B0 := B0) 2 (pur_zA y n)
  have pB := bs_pur (w := wA) (S := S) (B0 := B0) 7 (pur_zB y n)
  by_cases h1 : n < 1
  · have hd : decide (n < 1) = true := by simp [h1]
    have bB : Bs Tryd.prog S B0 (zB Tryd.prog y n) wA _ wA := bs_ask (asks_eq (ask_zB y n) (by rw [hd])) (show OkQ [] wA wA from rfl) none_ (Nat.le_refl _)
    have pC := bs_pur (w := wA) (S := S) (B0 := B0) 13 (pur_zC y n)
    have hX : ∀ w, stepG Tryd.prog true (zC Tryd.prog y n) w = .go (G (c.finish (.tuple #[.slice none 0 0, .iface 47 (.int .i64 1)])) k) w #[] := fun w => by
      have := zC_back y n c k w
      rw [← hcs] at this
      exact this
    exact pA.trans (bA.trans (pB.trans (bB.trans (pC.trans (bs_back (run_zC y n) hX)))))
  · have hd : decide (n < 1) = false := by simp; omega
    have he : decide (n > 8) = true := by simp; omega
    have bB : Bs Tryd.prog S B0 (zB Tryd.prog y n) wA _ wA := bs_ask (asks_eq (ask_zB y n) (by rw [hd])) (show OkQ [] wA wA from rfl) none_ (Nat.le_refl _)
    have bD : Bs Tryd.prog S B0 (zD Tryd.prog y n) wA _ wA := bs_ask (asks_eq (ask_zD y n) (by rw [he])) (show OkQ [] wA wA from rfl) none_ (Nat.le_refl _)
    have pD := bs_pur (w := wA) (S := S) (B0 := B0) 2 (pur_zD y n)
    have pF := bs_pur (w := wA) (S := S) (B0 := B0) 10 (pur_zF y n)
    have hX : ∀ w, stepG Tryd.prog true (zF Tryd.prog y n) w = .go (G (c.finish (.tuple #[.slice none 0 0, .iface 47 (.int .i64 1)])) k) w #[] := fun w => by
      have := zF_back y n c k w
      rw [← hcs] at this
      exact this
    exact pA.trans (bA.trans (pB.trans (bB.trans (pD.trans (bD.trans (pF.trans (bs_back (run_zF y n) hX)))))))
end
end Go.Proofs.YtobpjijdebnaoaaDoor
