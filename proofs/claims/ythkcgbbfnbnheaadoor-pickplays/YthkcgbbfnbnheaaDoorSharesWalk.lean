/-
  The walk of granarylaw3.PickShares: it returns true, and nothing that was there has turned.
-/
import Derived.Test.YthkcgbbfnbnheaaDoorPLaw
namespace Go.Proofs.YthkcgbbfnbnheaaDoor
open Go.RowKit
set_option linter.unusedVariables false

/-- A picker of the call's own, and numbers of the call's own. -/
structure SH (w wq : World) (B pb cap : Nat) (wa : Option Addr) (W : List Int) (a c : Nat) (a1 : Option Addr) (c1 : Nat) (l : List Int) : Prop where
  ps : PS w wq pb cap wa W a c
  own : OwnI wq B a1 c1 l
  lt : pb < B
  wl : ∀ b, blk wa b → b < B
  B0 : w.heap.size ≤ B
  B2 : B ≤ wq.heap.size
theorem SH.own1 {w wq : World} {B pb cap a c c1 : Nat} {wa a1 : Option Addr} {W l : List Int} (h : SH w wq B pb cap wa W a c a1 c1 l) (o : Obj) : OwnI (wq.alloc o) B a1 c1 l ∧ B ≤ (wq.alloc o).heap.size :=
  ⟨h.own.below (alloc_below' _ _), Nat.le_trans h.B2 (alloc_below' _ _).size⟩
theorem SH.more {w wq w2 : World} {B pb cap a c c1 c2 : Nat} {wa a1 a2 : Option Addr} {W l l2 : List Int} (h : SH w wq B pb cap wa W a c a1 c1 l) (o : Obj) (ho : OwnI w2 B a2 c2 l2) (hk : Keep (blk a1) (wq.alloc o) w2) : SH w w2 B pb cap wa W a c a2 c2 l2 := by
  have k1 : Keep (blk a1) wq w2 := ((Keep.refl _ wq).alloc o).trans hk
  have hB0 := h.B0
  have hlt := h.lt
  have hnb : ∀ b, blk a1 b → B ≤ b := fun b hb => (h.own.blk hb).1
  refine ⟨⟨h.ps.pk.keep k1 (fun e => by have := hnb _ e; omega) (fun b hb _ e => by have := hnb _ e; have := h.wl _ hb; omega), h.ps.bel.trans (k1.below h.ps.bel.size (fun b e => by have := hnb _ e; omega)), h.ps.ge⟩, ho, hlt, h.wl, hB0, Nat.le_trans h.B2 k1.size⟩
theorem SH.turn {w wq w2 : World} {B pb cap a c a' c' c1 : Nat} {wa a1 : Option Addr} {W l : List Int} (h : SH w wq B pb cap wa W a c a1 c1 l) (hp : PK 44 w2 pb wa cap W a' c') (hk : Keep (fun b => b = pb) wq w2) : SH w w2 B pb cap wa W a' c' a1 c1 l :=
  ⟨h.ps.step hp hk, h.own.keep hk (fun b hb e => by have := (h.own.blk hb).1; have := h.lt; omega), h.lt, h.wl, h.B0, Nat.le_trans h.B2 hk.size⟩
end Go.Proofs.YthkcgbbfnbnheaaDoor
