/-
  What lies there between the calls of a law on a bell.
-/
import Derived.Test.YtdhidiemchnleaaDoorBell2
namespace Go.Proofs.YtdhidiemchnleaaDoor
open Go.RowKit
set_option linter.unusedVariables false

theorem GoodB.nat {l d : Int} (h : GoodB l d) : ∃ L D : Nat, l = L ∧ d = D ∧ 1 ≤ L ∧ L ≤ 64 ∧ D ≤ 1000 := by
  unfold GoodB at h
  exact ⟨l.toNat, d.toNat, by omega, by omega, by omega, by omega, by omega⟩
/-- WHAT LIES THERE BETWEEN TWO CALLS: a bell of the call's own. -/
structure BS (w wr : World) (bb L D : Nat) (s : Sb) : Prop where
  be : BE wr bb L D s
  bel : Below w.heap.size w wr
  g : w.heap.size ≤ bb
theorem BS.step {w wr w' : World} {bb L D : Nat} {s s' : Sb} (h : BS w wr bb L D s) (hb : BE w' bb L D s') (hk : Keep (fun b => b = bb) wr w') : BS w w' bb L D s' :=
  ⟨hb, h.bel.trans (hk.below h.bel.size (fun b e => by subst e; exact h.g)), h.g⟩
theorem BS.below {w wr w' : World} {bb L D : Nat} {s : Sb} (h : BS w wr bb L D s) (hb : Below wr.heap.size wr w') : BS w w' bb L D s :=
  ⟨h.be.below hb, h.bel.trans (hb.mono h.bel.size), h.g⟩
end Go.Proofs.YtdhidiemchnleaaDoor
