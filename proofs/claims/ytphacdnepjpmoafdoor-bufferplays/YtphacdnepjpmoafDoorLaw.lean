/-
  What the laws share: scripts of calls; what lies there between two calls on a buffer; an error's number.
-/
import Derived.Test.YtphacdnepjpmoafDoorDrain
import Derived.Test.YtphacdnepjpmoafDoorBytes
import Derived.Test.YtphacdnepjpmoafDoorTold
namespace Go.Proofs.YtphacdnepjpmoafDoor
open Go.RowKit
set_option linter.unusedVariables false

/-- One call of a script. -/
structure OpD where
  kind : Int
  lba : Int
  a : Option Addr
  data : List Nat
  cap : Nat
/-- .. as it lies at the i-th place. -/
structure OpAt (w : World) (b off i : Nat) (o : OpD) : Prop where
  k0 : w.cell? ⟨b, off + i * 3, none⟩ = some (.int .i64 o.kind)
  k1 : w.cell? ⟨b, off + i * 3 + 1, none⟩ = some (.int .i64 o.lba)
  k2 : w.cell? ⟨b, off + i * 3 + 2, none⟩ = some (.slice o.a o.data.length o.cap)
  li : Lies w o.a o.data
  dl : o.data.length ≤ 140737488355328
  l9 : o.lba ≤ 9223372036854775807
theorem Lies.bel {w w' : World} {B : Nat} {a : Option Addr} {bs : List Nat} (h : Lies w a bs) (hb : Below B w w') (hB : w.heap.size ≤ B) : Lies w' a bs := by
  rcases h with h | ⟨b, off, rfl, h⟩
  · exact Or.inl h
  · refine Or.inr ⟨b, off, rfl, fun i hi => ?_⟩
    have hc := h i hi
    rw [hb.cell (p := ⟨b, off + i, none⟩) (Nat.lt_of_lt_of_le (World.block_lt_of_cell? w _ hc) hB)]
    exact hc
theorem OpAt.below {w w' : World} {b off i B : Nat} {o : OpD} (h : OpAt w b off i o) (hb : Below B w w') (hB : w.heap.size ≤ B) : OpAt w' b off i o := by
  have hc : ∀ q, w'.cell? ⟨b, q, none⟩ = w.cell? ⟨b, q, none⟩ := fun q => hb.cell (p := ⟨b, q, none⟩) (Nat.lt_of_lt_of_le (World.block_lt_of_cell? w ⟨b, off + i * 3, none⟩ h.k0) hB)
  exact ⟨by rw [hc]; exact h.k0, by rw [hc]; exact h.k1, by rw [hc]; exact h.k2, h.li.bel hb hB, h.dl, h.l9⟩
/-- A script of n calls. -/
def Script (w : World) (a : Option Addr) (n : Nat) : Prop := n = 0 ∨ ∃ b off, a = some ⟨b, off, none⟩ ∧ ∀ i, i < n → ∃ o, OpAt w b off i o
theorem Script.slice {w : World} {a : Option Addr} {n i : Nat} (h : Script w a n) (hi : i < n) : ∃ b off, a = some ⟨b, off, none⟩ ∧ ∃ o, OpAt w b off i o := by
  rcases h with h | ⟨b, off, e, h⟩
  · omega
  · exact ⟨b, off, e, h i hi⟩
/-- WHAT LIES THERE BETWEEN TWO CALLS ON A BUFFER. -/
structure LS (B bb mb most : Nat) (w wr : World) (L : List It) : Prop where
  bs : BS wr B bb mb most L
  bel : Below B w wr
theorem LS.below {B bb mb most : Nat} {w wr w' : World} {L : List It} (h : LS B bb mb most w wr L) (hb : Below wr.heap.size wr w') : LS B bb mb most w w' L := ⟨h.bs.below hb, h.bel.trans (hb.mono h.bs.lt)⟩
theorem LS.apart {B bb mb most : Nat} {w wr w' : World} {L L' : List It} (h : LS B bb mb most w wr L) (hb : BS w' B bb mb most L') (ha : Apart B wr w') : LS B bb mb most w w' L' := ⟨hb, h.bel.trans ha.bel⟩
theorem LS.put {B bb mb most : Nat} {w wr : World} {L : List It} (h : LS B bb mb most w wr L) (l : Int) (bs : List Nat) (a : Option Addr) (cap : Nat) (h9 : l ≤ 9223372036854775807) (hL : Lies wr a bs) (hb : bs.length ≤ 140737488355328) :
    Calls Tryd.prog 17 #[.pointer (some ⟨bb, 0, none⟩), .int .i64 l, .slice a bs.length cap] wr fun e w' => e = .returned (errI (putE most L l)) ∧ Hid (LS B bb mb most w w' (putL most L (It.mk l false bs))) ∧ Hid (Apart B wr w') :=
  (put_any l bs a cap h.bs h9 hL hb).mono fun e w' ⟨e1, e2, e3⟩ => ⟨e1, h.apart e2 e3, e3⟩
theorem LS.drop {B bb mb most : Nat} {w wr : World} {L : List It} (h : LS B bb mb most w wr L) (l : Int) (h9 : l ≤ 9223372036854775807) :
    Calls Tryd.prog 15 #[.pointer (some ⟨bb, 0, none⟩), .int .i64 l] wr fun e w' => e = .returned (errI (putE most L l)) ∧ Hid (LS B bb mb most w w' (putL most L (It.mk l true []))) ∧ Hid (Apart B wr w') :=
  (drop_any l h.bs h9).mono fun e w' ⟨e1, e2, e3⟩ => ⟨e1, h.apart e2 e3, e3⟩
theorem LS.len {B bb mb most : Nat} {w wr : World} {L : List It} (h : LS B bb mb most w wr L) : Calls Tryd.prog 14 #[.pointer (some ⟨bb, 0, none⟩)] wr fun e w' => e = .returned (.int .i64 (L.length : Nat)) ∧ w' = wr := blen_any h.bs
theorem LS.get_low {B bb mb most : Nat} {w wr : World} {L : List It} (h : LS B bb mb most w wr L) (l : Int) (hl : l < 0) :
    Calls Tryd.prog 18 #[.pointer (some ⟨bb, 0, none⟩), .int .i64 l] wr fun e w' => e = .returned (.tuple #[.slice none 0 0, .bool false, .iface 33 (.int .i64 1)]) ∧ w' = wr := get_range bb l wr hl
theorem LS.get_none {B bb mb most : Nat} {w wr : World} {L : List It} (h : LS B bb mb most w wr L) (l : Int) (hl : 0 ≤ l) (h9 : l ≤ 9223372036854775807) (hf : fnd L l = none) :
    Calls Tryd.prog 18 #[.pointer (some ⟨bb, 0, none⟩), .int .i64 l] wr fun e w' => e = .returned (.tuple #[.slice none 0 0, .bool false, .iface 33 (.int .i64 4)]) ∧ w' = wr := by
  obtain ⟨N, hB, rfl⟩ := h.bs
  refine YtphacdnepjpmoafDoor.get_none hB l hl h9 ?_
  rw [← fndN_it] at hf
  cases e : fndN N l with
  | none => rfl
  | some x => rw [e] at hf; cases hf
theorem LS.get_some {B bb mb most : Nat} {w wr : World} {L : List It} (h : LS B bb mb most w wr L) (l : Int) (x : It) (hl : 0 ≤ l) (h9 : l ≤ 9223372036854775807) (hf : fnd L l = some x) :
    Calls Tryd.prog 18 #[.pointer (some ⟨bb, 0, none⟩), .int .i64 l] wr fun e w' => ∃ a c, e = .returned (.tuple #[.slice a x.data.length c, .bool x.gone, .nilIface]) ∧ Hid (OwnA w' wr.heap.size a c x.data) ∧ Hid (Below wr.heap.size wr w') := by
  refine (get_any h.bs l h9).mono ?_
  rintro e w' ⟨hb, ⟨h0, _⟩ | ⟨_, h0, _⟩ | ⟨y, a, c, _, h1, h2, h3⟩⟩
  · omega
  · rw [hf] at h0; cases h0
  · rw [hf] at h1; cases h1
    exact ⟨a, c, h2, h3, hb⟩
/-- The box of an operation. -/
def oObj (o : OpD) : Obj := .cells #[.int .i64 o.kind, .int .i64 o.lba, .slice o.a o.data.length o.cap] 45
theorem same_err (n : Nat) (w : World) (hE : EType w) : Calls Tryd.prog 11 #[errI n, .int .i64 (n : Int)] w fun ev w' => ev = .returned (.bool true) ∧ Below w.heap.size w w' := by
  by_cases h0 : n = 0
  · subst h0
    exact (error_nil 0 w).mono fun e w' ⟨h1, h2⟩ => ⟨h1, h2 ▸ Below.refl _ _⟩
  · rw [errI_ne h0]
    exact error_same n w hE
set_option maxHeartbeats 800000 in
theorem error_any (n m : Nat) (w : World) (hg : EType w) : Calls Tryd.prog 11 #[.iface 33 (.int .i64 n), .int .i64 m] w fun ev w' => ev = .returned (.bool (decide (n = m))) ∧ Below w.heap.size w w' := by
  have h := told_errno (n : Int) w hg
  have e : ((n : Int) == (m : Int)) = decide (n = m) := by
    by_cases h : n = m
    · subst h; simp
    · rw [decide_eq_false h, beq_eq_false_iff_ne]; omega
  rw [← e]
  clear e
  go_enter Tryd.func11, Tryd.ntmps11
  go_wp2_with (go_at_call 23; refine h.mono ?_; rintro _ w2 ⟨rfl, hb⟩)
  go_ret
  exact ⟨rfl, hb⟩
end Go.Proofs.YtphacdnepjpmoafDoor
