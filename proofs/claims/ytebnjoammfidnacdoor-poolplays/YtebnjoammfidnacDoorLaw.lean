/-
  What the laws ask of a pool that lies apart: Count, Latched, Worn; and what the call of granarysame.Error's fellows wants of a script.
-/
import Derived.Test.YtebnjoammfidnacDoorNew
namespace Go.Proofs.YtebnjoammfidnacDoor
open Go.RowKit
set_option linter.unusedVariables false

theorem pa_latched {n sp : Nat} {R : Nat → Prop} {w : World} {pb bb : Nat} {s : St} (h : PA n sp R w pb bb s) :
    Calls Tryd.prog 15 #[.pointer (some ⟨pb, 0, none⟩)] w fun e w' => e = .returned (.bool (latB n sp s)) ∧ Below w.heap.size w w' := by
  obtain ⟨a, cap, L, h, _⟩ := h
  exact latched_any h
theorem pa_worn {n sp : Nat} {R : Nat → Prop} {w : World} {pb bb : Nat} {s : St} (h : PA n sp R w pb bb s) (k : Nat) (hk : k < n) :
    Calls Tryd.prog 12 #[.pointer (some ⟨pb, 0, none⟩), .int .i64 (k : Int)] w fun e w' => e = .returned (.tuple #[.int .i64 (s.wn k : Int), .nilIface]) ∧ w' = w := by
  obtain ⟨a, cap, L, h, _⟩ := h
  exact worn_some h k hk
theorem pa_worn_no {n sp : Nat} {R : Nat → Prop} {w : World} {pb bb : Nat} {s : St} (h : PA n sp R w pb bb s) (b : Int) (hb : ¬ (0 ≤ b ∧ b < n)) :
    Calls Tryd.prog 12 #[.pointer (some ⟨pb, 0, none⟩), .int .i64 b] w fun e w' => e = .returned (.tuple #[.int .i64 0, .iface 28 (.int .i64 1)]) ∧ w' = w := by
  obtain ⟨a, cap, L, h, _⟩ := h
  exact worn_none h b hb
theorem pa_count {n sp : Nat} {R : Nat → Prop} {w : World} {pb bb : Nat} {s : St} (h : PA n sp R w pb bb s) :
    Calls Tryd.prog 13 #[.pointer (some ⟨pb, 0, none⟩)] w fun e w' => e = .returned (.tuple #[.int .i64 (cnt s.st 0 n : Int), .int .i64 (cnt s.st 1 n : Int), .int .i64 (cnt s.st 2 n : Int)]) ∧ Below w.heap.size w w' := by
  obtain ⟨a, cap, L, h, _⟩ := h
  exact count_any h
/-- The blocks of R are as they were: then all below them is. -/
theorem Keep.base {R : Nat → Prop} {w w' : World} {B : Nat} (h : Keep (fun b => ¬ R b) w w') (hB : B ≤ w.heap.size) (hR : ∀ b, b < B → R b) : Below B w w' :=
  ⟨h.os, h.tape, h.output, h.size, fun k hk => h.block k (by omega) (fun e => e (hR k hk))⟩
theorem goodN_nat {n sp : Int} (h : GoodN n sp) : ∃ N S : Nat, n = N ∧ sp = S ∧ 1 ≤ N ∧ N ≤ 64 ∧ S ≤ N := by
  unfold GoodN at h
  exact ⟨n.toNat, sp.toNat, by omega, by omega, by omega, by omega, by omega⟩
/-- One call of a script. -/
structure OpD where
  kind : Int
  block : Int
/-- .. as it lies at the i-th place. -/
structure OpAt (w : World) (b off i : Nat) (o : OpD) : Prop where
  k0 : w.cell? ⟨b, off + i * 2, none⟩ = some (.int .i64 o.kind)
  k1 : w.cell? ⟨b, off + i * 2 + 1, none⟩ = some (.int .i64 o.block)
theorem OpAt.below {w w' : World} {b off i B : Nat} {o : OpD} (h : OpAt w b off i o) (hb : Below B w w') (hB : w.heap.size ≤ B) : OpAt w' b off i o := by
  have hc : ∀ q, w'.cell? ⟨b, q, none⟩ = w.cell? ⟨b, q, none⟩ := fun q => hb.cell (p := ⟨b, q, none⟩) (Nat.lt_of_lt_of_le (World.block_lt_of_cell? w ⟨b, off + i * 2, none⟩ h.k0) hB)
  exact ⟨by rw [hc]; exact h.k0, by rw [hc]; exact h.k1⟩
/-- A script of n calls. -/
def Script (w : World) (a : Option Addr) (n : Nat) : Prop := n = 0 ∨ ∃ b off, a = some ⟨b, off, none⟩ ∧ ∀ i, i < n → ∃ o, OpAt w b off i o
theorem Script.below {w w' : World} {a : Option Addr} {n B : Nat} (h : Script w a n) (hb : Below B w w') (hB : w.heap.size ≤ B) : Script w' a n := by
  rcases h with h | ⟨b, off, rfl, h⟩
  · exact Or.inl h
  · exact Or.inr ⟨b, off, rfl, fun i hi => by obtain ⟨o, ho⟩ := h i hi; exact ⟨o, ho.below hb hB⟩⟩
theorem Script.slice {w : World} {a : Option Addr} {n i : Nat} (h : Script w a n) (hi : i < n) : ∃ b off, a = some ⟨b, off, none⟩ ∧ ∃ o, OpAt w b off i o := by
  rcases h with h | ⟨b, off, e, h⟩
  · omega
  · exact ⟨b, off, e, h i hi⟩
end Go.Proofs.YtebnjoammfidnacDoor
