/-
  What the call of granarylaw1.both gives: the same blocks in new memory.
-/
import Derived.Test.YtgmobibogoebpagDoorBase
namespace Go.Proofs.YtgmobibogoebpagDoor
open Go.RowKit
set_option linter.unusedVariables false

theorem take_snocB {l : List Bl} {k : Nat} (h : k < l.length) : l.take (k + 1) = l.take k ++ [gB l k] := by
  unfold gB
  rw [List.take_add_one, List.getElem?_eq_getElem h]
  rfl
/-- Blocks of the call's own, while they are gathered. -/
structure CS (w wr : World) (a : Option Addr) (ca : Nat) (m : List Bl) : Prop where
  bel : Below w.heap.size w wr
  own : OwnB 39 wr w.heap.size a ca m
theorem CS.turn {w wr w' : World} {a a' : Option Addr} {ca ca' : Nat} {m m' : List Bl} (h : CS w wr a ca m) (hk : Keep (blk a) wr w') (ho : OwnB 39 w' w.heap.size a' ca' m') : CS w w' a' ca' m' :=
  ⟨h.bel.trans (hk.below h.bel.size (fun b hb => (h.own.blk hb).1)), ho⟩
theorem CS.below {w wr w' : World} {a : Option Addr} {ca : Nat} {m : List Bl} (h : CS w wr a ca m) (hb : Below wr.heap.size wr w') : CS w w' a ca m :=
  ⟨h.bel.trans (hb.mono h.bel.size), h.own.below hb⟩
theorem below_dra (w : World) (o : Obj) : Below w.heap.size w (w.alloc o).drew := (alloc_below' w o).drew
def BothPost (w w' : World) (e : Ending) (l : List Bl) : Prop := ∃ a cap, e = .returned (.slice a l.length cap) ∧ OwnB 39 w' w.heap.size a cap l ∧ Below w.heap.size w w'
set_option maxRecDepth 20000 in
set_option maxHeartbeats 4000000 in
theorem both_some (g off cap : Nat) (l : List Bl) (w : World) (h24 : l.length * 24 ≤ 140737488355328) (hat : ∀ i, i < l.length → BlAt w g off i (gB l i)) :
    Calls Tryd.prog 4 #[.slice (some ⟨g, off, none⟩) l.length cap] w fun e w' => BothPost w w' e l := by
  have HA : Hid (∀ wr, Below w.heap.size w wr → ∀ i, i < l.length → BlAt wr g off i (gB l i)) := fun wr hb i hi => (hat i hi).keep (S := fun _ => False) (Keep.of_below hb) (fun e => e)
  have HL : l.length ≤ 9000000000000000000 := by omega
  have H24 : Hid (l.length * 24 ≤ 140737488355328) := h24
  have H0 : Hid (CS w w none 0 []) := ⟨Below.refl _ _, OwnB.nil _ _ _⟩
  clear hat h24
  go_enter Tryd.func4, Tryd.ntmps4
  go_wp2
  go_loopw [3, 4] (fun s j wr => ∃ (k : Nat) (a : Option Addr) (ca : Nat) (m : List Bl), k ≤ l.length ∧ j = .int .i64 k ∧ s = .slice a m.length ca ∧ Hid (CS w wr a ca m ∧ m = l.take k)) (fun _ j _ => l.length - (intOf j).toNat)
  case atStart => exact ⟨0, none, 0, [], Nat.zero_le _, rfl, rfl, H0.out, by simp⟩
  case round =>
    obtain ⟨k, a, ca, m, hk, rfl, rfl, hR⟩ := hrel
    clear H0
    by_cases hlt : k < l.length
    · obtain ⟨c0, c1, c2⟩ := HA.out wr hR.out.1.bel k hlt
      have HCS : Hid (∀ wx, Below wr.heap.size wr wx → CS w wx a ca m) := fun wx hb => hR.out.1.below hb
      have HM : Hid (m ++ [gB l k] = l.take (k + 1)) := by rw [take_snocB hlt, ← hR.out.2]; exact rfl
      have HML : Hid ((m.length + 1) * 24 ≤ 140737488355328) := by
        have e : m.length = k := by rw [hR.out.2, List.length_take]; omega
        have := H24.out
        exact (by omega : (m.length + 1) * 24 ≤ 140737488355328)
      have k0 : (0 : Int) ≤ (k : Int) := by omega
      have k1 : (k : Int) < (l.length : Int) := by omega
      have n1 := World.new_ne wr ⟨g, off + k * 3, none⟩ c0
      clear hR
      go_wp2
      go_region_held3 (fun w' => w'.cell? ⟨g, off + k * 3, none⟩ = some (.bool (gB l k).used) ∧ w'.cell? ⟨g, off + k * 3 + 1, none⟩ = some (.int .i64 (gB l k).live) ∧ w'.cell? ⟨g, off + k * 3 + 2, none⟩ = some (.int .i64 (gB l k).wear)) (first | assumption | exact ⟨e0, e1, e2⟩ | go_keep) ((refine stepB (by rfl) (.tmp 11) (.tmp 28) (by rfl) w.heap.size ca wr.heap.size a m (gB l k) (by rfl) (by rfl) (HCS.out _ (below_dra wr _)).own (heap_alloc_new wr _) HML.out (HCS.out _ (below_dra wr _)).bel.size ?_; intro g2 ca2 w2 ho2 hk2; obtain ⟨e0, e1, e2⟩ := HA.out w2 ((HCS.out _ (below_dra wr _)).turn hk2 ho2).bel k hlt))
      go_wp2
      exact ⟨⟨k + 1, some ⟨g2, 0, none⟩, ca2, m ++ [gB l k], by omega, by go_num, by simp, (HCS.out _ (below_dra wr _)).turn hk2 ho2, HM.out⟩, by simp [intOf]; omega⟩
    · obtain rfl : k = l.length := by omega
      clear hlt
      go_wp2
      go_ret
      have e : m = l := by rw [hR.out.2, List.take_length]
      exact ⟨a, ca, by rw [e]; rfl, e ▸ hR.out.1.own, hR.out.1.bel⟩
set_option maxHeartbeats 1600000 in
theorem both_nil (a : Option Addr) (cap : Nat) (w : World) : Calls Tryd.prog 4 #[.slice a 0 cap] w fun e w' => e = .returned (.slice none 0 0) ∧ w' = w := by
  go_enter Tryd.func4, Tryd.ntmps4
  go_wp2
  go_loopw [3, 4] (fun s j wr => s = .slice none 0 0 ∧ j = .int .i64 0 ∧ wr = w) (fun _ _ _ => 0)
  case atStart => exact ⟨rfl, rfl, rfl⟩
  case round =>
    obtain ⟨rfl, rfl, rfl⟩ := hrel
    go_wp2
    go_ret
    exact ⟨rfl, rfl⟩
theorem both_none (a : Option Addr) (cap : Nat) (w : World) : Calls Tryd.prog 4 #[.slice a 0 cap] w fun e w' => BothPost w w' e [] :=
  (both_nil a cap w).mono fun e w' ⟨h1, h2⟩ => ⟨none, 0, h1, OwnB.nil _ _ _, h2 ▸ Below.refl _ _⟩
theorem both_any (a : Option Addr) (cap : Nat) (l : List Bl) (w : World) (h24 : l.length * 24 ≤ 140737488355328) (hB : BL w a l) : Calls Tryd.prog 4 #[.slice a l.length cap] w fun e w' => BothPost w w' e l := by
  rcases hB with rfl | ⟨g, off, rfl, hat⟩
  · exact both_none a cap w
  · exact both_some g off cap l w h24 hat
end Go.Proofs.YtgmobibogoebpagDoor
