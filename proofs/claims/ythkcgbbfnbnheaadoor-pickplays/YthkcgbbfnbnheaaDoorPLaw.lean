/-
  What the laws of package pick share: numbers that are picked, a picker of the call's own between two calls, the first fact.
-/
import Derived.Test.YthkcgbbfnbnheaaDoorPNext
namespace Go.Proofs.YthkcgbbfnbnheaaDoor
open Go.RowKit
set_option linter.unusedVariables false

/-- What granarysame.Pick answers. -/
def pkN (c : Int) (n : Nat) : Nat := (if 0 ≤ c then c.toNat else (-(c + 1)).toNat) % n
theorem pkN_lt (c : Int) {n : Nat} (h : 1 ≤ n) : pkN c n < n := Nat.mod_lt _ h
/-- WHAT LIES THERE BETWEEN TWO CALLS: a picker of the call's own. -/
structure PS (w wr : World) (pb cap : Nat) (wa : Option Addr) (W : List Int) (a c : Nat) : Prop where
  pk : PK 44 wr pb wa cap W a c
  bel : Below w.heap.size w wr
  ge : w.heap.size ≤ pb
theorem PS.below {w wr w' : World} {pb cap a c : Nat} {wa : Option Addr} {W : List Int} (h : PS w wr pb cap wa W a c) (hb : Below wr.heap.size wr w') : PS w w' pb cap wa W a c :=
  ⟨h.pk.below hb, h.bel.trans (hb.mono h.bel.size), h.ge⟩
theorem PS.step {w wr w' : World} {pb cap a c a' c' : Nat} {wa : Option Addr} {W : List Int} (h : PS w wr pb cap wa W a c) (hp : PK 44 w' pb wa cap W a' c') (hk : Keep (fun b => b = pb) wr w') : PS w w' pb cap wa W a' c' :=
  ⟨hp, h.bel.trans (hk.below h.bel.size (fun b e => by have := h.ge; omega)), h.ge⟩
end Go.Proofs.YthkcgbbfnbnheaaDoor
