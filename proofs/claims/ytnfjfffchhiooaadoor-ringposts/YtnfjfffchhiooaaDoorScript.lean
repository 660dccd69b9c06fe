/-
  Scripts of calls: as they lie.
-/
import Derived.Test.YtnfjfffchhiooaaDoorBase
namespace Go.Proofs.YtnfjfffchhiooaaDoor
open Go.RowKit
set_option linter.unusedVariables false

/-- One call of a script. -/
structure OpD where
  kind : Int
  n : Int
/-- .. as it lies at the i-th place. -/
structure OpAt (w : World) (b off i : Nat) (o : OpD) : Prop where
  k0 : w.cell? ⟨b, off + i * 2, none⟩ = some (.int .i64 o.kind)
  k1 : w.cell? ⟨b, off + i * 2 + 1, none⟩ = some (.int .i64 o.n)
theorem OpAt.below {w w' : World} {b off i B : Nat} {o : OpD} (h : OpAt w b off i o) (hb : Below B w w') (hB : w.heap.size ≤ B) : OpAt w' b off i o := by
  have hc : ∀ q, w'.cell? ⟨b, q, none⟩ = w.cell? ⟨b, q, none⟩ := fun q => hb.cell (p := ⟨b, q, none⟩) (Nat.lt_of_lt_of_le (World.block_lt_of_cell? w ⟨b, off + i * 2, none⟩ h.k0) hB)
  exact ⟨by rw [hc]; exact h.k0, by rw [hc]; exact h.k1⟩
/-- A script of n calls. -/
def Script (w : World) (a : Option Addr) (n : Nat) : Prop := n = 0 ∨ ∃ b off, a = some ⟨b, off, none⟩ ∧ ∀ i, i < n → ∃ o, OpAt w b off i o
theorem Script.slice {w : World} {a : Option Addr} {n i : Nat} (h : Script w a n) (hi : i < n) : ∃ b off, a = some ⟨b, off, none⟩ ∧ ∃ o, OpAt w b off i o := by
  rcases h with h | ⟨b, off, e, h⟩
  · omega
  · exact ⟨b, off, e, h i hi⟩
end Go.Proofs.YtnfjfffchhiooaaDoor
