/-
  The walk of granarylaw3.PickWaits: it returns true, and nothing that was there has turned.
-/
import Derived.Test.YthkcgbbfnbnheaaDoorSharesWalk
namespace Go.Proofs.YthkcgbbfnbnheaaDoor
open Go.RowKit
set_option linter.unusedVariables false

/-- Lists of numbers that came in. -/
def SCs (w : World) (a : Option Addr) (N : Nat) : Prop := N = 0 ∨ ∃ b off, a = some ⟨b, off, none⟩ ∧ ∀ i, i < N → ∃ (a1 : Option Addr) (c : Nat) (ps : List Int), w.cell? ⟨b, off + i, none⟩ = some (.slice a1 ps.length c) ∧ IL w a1 ps ∧ ps.length ≤ 9223372036854775807 ∧ ∀ j, -9223372036854775808 ≤ gI ps j ∧ gI ps j ≤ 9223372036854775807
theorem SCs.at {w w' : World} {a : Option Addr} {N : Nat} (h : SCs w a N) (hb : Below w.heap.size w w') {i : Nat} (hi : i < N) : ∃ b off a1 c ps, a = some ⟨b, off, none⟩ ∧ (∀ w'', Below w.heap.size w w'' → w''.cell? ⟨b, off + i, none⟩ = some (.slice a1 ps.length c) ∧ IL w'' a1 ps) ∧ ps.length ≤ 9223372036854775807 ∧ ∀ j, -9223372036854775808 ≤ gI ps j ∧ gI ps j ≤ 9223372036854775807 := by
  rcases h with h | ⟨b, off, e, h⟩
  · omega
  · obtain ⟨a1, c, ps, h1, h2, h3, h4⟩ := h i hi
    exact ⟨b, off, a1, c, ps, e, fun w'' hb => ⟨(hb.cell (World.block_lt_of_cell? w _ h1)).trans h1, h2.below hb⟩, h3, h4⟩
def mkI (n : Nat) : Array Value := ((List.replicate n (0 : Int)).map ivI).toArray
theorem made_ints (n : Nat) (hn : n ≤ 1048576) (w : World) : (Instr.makeSlice 22 (.int .i64 (n : Int)) (.int .i64 (n : Int))).run Tryd.prog w = .ok (.slice (some ⟨w.heap.size, 0, none⟩) n n) (w.alloc (.cells (mkI n) 3)) := by
  obtain ⟨i0, hi, hz0, hz1, hz2⟩ := info_parts infoInt
  have h := run_make (P := Tryd.prog) w 22 3 i0 (.int .i64 0) Tryd.underlying22 hi hz0 .i64 .i64 n n (by omega) (by omega) (by rw [hz2]; omega) (by omega)
  rw [h]
  have e : madeCells (Value.int .i64 0).cells ((n : Int).toNat * i0.size) = mkI n := by
    unfold mkI
    apply Array.toList_inj.1
    rw [hz1, Int.toNat_natCast, Nat.mul_one]
    have := toList_madeCells_one (Value.int .i64 0) n
    simp only [List.map_replicate]
    exact this
  rw [e]
  simp
theorem stc_mk (w : World) (n : Nat) : Stc (w.alloc (.cells (mkI n) 3)) w.heap.size 3 ((List.replicate n (0 : Int)).map ivI) := stc_new _ _ _ _ rfl
theorem il_stc {w : World} {g : Nat} {l : List Int} (h : Stc w g 3 (l.map ivI)) : IL w (some ⟨g, 0, none⟩) l := Or.inr ⟨g, 0, rfl, fun i hi => by rw [Nat.zero_add]; exact stc_int h hi⟩
/-- A picker of the call's own, and a row of numbers. -/
structure WS (w wq : World) (pb cap : Nat) (wa : Option Addr) (W : List Int) (a c wb : Nat) (l : List Int) : Prop where
  ps : PS w wq pb cap wa W a c
  st : Stc wq wb 3 (l.map ivI)
  ne : ¬ wb = pb
  nw : ∀ b, blk wa b → b < wq.heap.size → ¬ b = wb
  ge : w.heap.size ≤ wb
theorem WS.turn {w wq w2 : World} {pb cap a c a' c' wb : Nat} {wa : Option Addr} {W l : List Int} (h : WS w wq pb cap wa W a c wb l) (hp : PK 44 w2 pb wa cap W a' c') (hk : Keep (fun b => b = pb) wq w2) : WS w w2 pb cap wa W a' c' wb l :=
  ⟨h.ps.step hp hk, h.st.keep hk (fun e => h.ne e), h.ne, fun b hb _ e => by
    subst e
    exact h.nw _ hb (heap_lt h.st) rfl, h.ge⟩
theorem WS.set {w wq : World} {pb cap a c wb : Nat} {wa : Option Addr} {W l : List Int} (h : WS w wq pb cap wa W a c wb l) (i : Nat) (x : Int) : WS w (wq.setCell ⟨wb, i, none⟩ (.int .i64 x)) pb cap wa W a c wb (l.set i x) := by
  have k : Keep (fun b => b = wb) wq (wq.setCell ⟨wb, i, none⟩ (.int .i64 x)) := (Keep.refl _ wq).set1 i _
  have hge := h.ge
  refine ⟨⟨h.ps.pk.keep k (fun e => h.ne e.symm) (fun b hb hlt e => h.nw b hb hlt e), h.ps.bel.trans (k.below h.ps.bel.size (fun b e => by omega)), h.ps.ge⟩, stc_int_set h.st i x, h.ne, fun b hb _ e => ?_, hge⟩
  subst e
  exact h.nw _ hb (heap_lt h.st) rfl
/-- .. a row that is made. -/
theorem WS.made {w wq : World} {pb cap a c : Nat} {wa : Option Addr} {W : List Int} (h : PS w wq pb cap wa W a c) (hw : ∀ b, blk wa b → b < wq.heap.size) (n : Nat) : WS w (wq.alloc (.cells (mkI n) 3)) pb cap wa W a c wq.heap.size (List.replicate n 0) := by
  have hlt := heap_lt h.pk.st
  have hs := h.bel.size
  exact ⟨h.below (alloc_below' _ _), stc_mk wq n, by omega, fun b hb _ e => by have := hw b hb; omega, by omega⟩
theorem gI_rep {n i : Nat} : gI (List.replicate n 0) i = 0 := by
  unfold gI
  rw [List.getElem?_replicate]
  split <;> rfl
/-- Something waits in q alone. -/
def onlyQ (n q : Nat) : List Int := (List.replicate n (0 : Int)).set q 1
theorem onlyQ_len {n q : Nat} : (onlyQ n q).length = n := by simp [onlyQ]
theorem gI_onlyQ {n q i : Nat} (hq : q < n) : gI (onlyQ n q) i = if i = q then 1 else 0 := by
  unfold onlyQ
  rw [gI_set (by simpa using hq)]
  split
  · rfl
  · exact gI_rep
end Go.Proofs.YthkcgbbfnbnheaaDoor
