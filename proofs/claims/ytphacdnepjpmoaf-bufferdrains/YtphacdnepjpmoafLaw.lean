/-
  What the laws share: scripts of calls; what lies there between two calls on a buffer; an error's number.
-/
import Derived.Test.YtphacdnepjpmoafDrain
import Derived.Test.YtphacdnepjpmoafBytes
namespace Go.Proofs.Ytphacdnepjpmoaf
open Go.RowKit
set_option linter.unusedVariables false

/-- One call of a script. -/
structure OpD where
  kind : Int
  lba : Int
  a : Option Addr
  data : List Nat
  cap : Nat
/-- .. as it lies at the i-th place. -/
structure OpAt (w : World) (b off i : Nat) (o : OpD) : Prop where
  k0 : w.cell? ⟨b, off + i * 3, none⟩ = some (.int .i64 o.kind)
  k1 : w.cell? ⟨b, off + i * 3 + 1, none⟩ = some (.int .i64 o.lba)
  k2 : w.cell? ⟨b, off + i * 3 + 2, none⟩ = some (.slice o.a o.data.length o.cap)
  li : Lies w o.a o.data
  dl : o.data.length ≤ 140737488355328
  l9 : o.lba ≤ 9223372036854775807
theorem Lies.bel {w w' : World} {B : Nat} {a : Option Addr} {bs : List Nat} (h : Lies w a bs) (hb : Below B w w') (hB : w.heap.size ≤ B) : Lies w' a bs := by
  rcases h with h | ⟨b, off, rfl, h⟩
  · exact Or.inl h
  · refine Or.inr ⟨b, off, rfl, fun i hi => ?_⟩
    have hc := h i hi
    rw [hb.cell (p := ⟨b, off + i, none⟩) (Nat.lt_of_lt_of_le (World.block_lt_of_cell? w _ hc) hB)]
    exact hc
theorem OpAt.below {w w' : World} {b off i B : Nat} {o : OpD} (h : OpAt w b off i o) (hb : Below B w w') (hB : w.heap.size ≤ B) : OpAt w' b off i o := by
  have hc : ∀ q, w'.cell? ⟨b, q, none⟩ = w.cell? ⟨b, q, none⟩ := fun q => hb.cell (p := ⟨b, q, none⟩) (Nat.lt_of_lt_of_le (World.block_lt_of_cell? w ⟨b, off + i * 3, none⟩ h.k0) hB)
  exact ⟨by rw [hc]; exact h.k0, by rw [hc]; exact h.k1, by rw [hc]; exact h.k2, h.li.bel hb hB, h.dl, h.l9⟩
/-- A script of n calls. -/
def Script (w : World) (a : Option Addr) (n : Nat) : Prop := n = 0 ∨ ∃ b off, a = some ⟨b, off, none⟩ ∧ ∀ i, i < n → ∃ o, OpAt w b off i o
theorem Script.slice {w : World} {a : Option Addr} {n i : Nat} (h : Script w a n) (hi : i < n) : ∃ b off, a = some ⟨b, off, none⟩ ∧ ∃ o, OpAt w b off i o := by
  rcases h with h | ⟨b, off, e, h⟩
  · omega
  · exact ⟨b, off, e, h i hi⟩
/-- WHAT LIES THERE BETWEEN TWO CALLS ON A BUFFER. -/
structure LS (B bb mb most : Nat) (w wr : World) (L : List It) : Prop where
  bs : BS wr B bb mb most L
  bel : Below B w wr
theorem LS.below {B bb mb most : Nat} {w wr w' : World} {L : List It} (h : LS B bb mb most w wr L) (hb : Below wr.heap.size wr w') : LS B bb mb most w w' L := ⟨h.bs.below hb, h.bel.trans (hb.mono h.bs.lt)⟩
theorem LS.apart {B bb mb most : Nat} {w wr w' : World} {L L' : List It} (h : LS B bb mb most w wr L) (hb : BS w' B bb mb most L') (ha : Apart B wr w') : LS B bb mb most w w' L' := ⟨hb, h.bel.trans ha.bel⟩
theorem LS.put {B bb mb most : Nat} {w wr : World} {L : List It} (h : LS B bb mb most w wr L) (l : Int) (bs : List Nat) (a : Option Addr) (cap : Nat) (h9 : l ≤ 9223372036854775807) (hL : Lies wr a bs) (hb : bs.length ≤ 140737488355328) :
    Calls Try.prog 10 #[.pointer (some ⟨bb, 0, none⟩), .int .i64 l, .slice a bs.length cap] wr fun e w' => e = .returned (errI (putE most L l)) ∧ Hid (LS B bb mb most w w' (putL most L (It.mk l false bs))) ∧ Hid (Apart B wr w') :=
  (put_any l bs a cap h.bs h9 hL hb).mono fun e w' ⟨e1, e2, e3⟩ => ⟨e1, h.apart e2 e3, e3⟩
theorem LS.drop {B bb mb most : Nat} {w wr : World} {L : List It} (h : LS B bb mb most w wr L) (l : Int) (h9 : l ≤ 9223372036854775807) :
    Calls Try.prog 12 #[.pointer (some ⟨bb, 0, none⟩), .int .i64 l] wr fun e w' => e = .returned (errI (putE most L l)) ∧ Hid (LS B bb mb most w w' (putL most L (It.mk l true []))) ∧ Hid (Apart B wr w') :=
  (drop_any l h.bs h9).mono fun e w' ⟨e1, e2, e3⟩ => ⟨e1, h.apart e2 e3, e3⟩
theorem LS.len {B bb mb most : Nat} {w wr : World} {L : List It} (h : LS B bb mb most w wr L) : Calls Try.prog 14 #[.pointer (some ⟨bb, 0, none⟩)] wr fun e w' => e = .returned (.int .i64 (L.length : Nat)) ∧ w' = wr := blen_any h.bs
/-- The box of an operation. -/
def oObj (o : OpD) : Obj := .cells #[.int .i64 o.kind, .int .i64 o.lba, .slice o.a o.data.length o.cap] 37
end Go.Proofs.Ytphacdnepjpmoaf
