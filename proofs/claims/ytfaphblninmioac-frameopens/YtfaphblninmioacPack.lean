/-
  What the call of frame.Pack gives: the page of a frame in new memory; or what is wrong.
-/
import Derived.Test.YtfaphblninmioacCopy
namespace Go.Proofs.Ytfaphblninmioac
open Go.RowKit
set_option linter.unusedVariables false

set_option maxHeartbeats 800000 in
theorem pack_size (n k l s : Int) (a : Option Addr) (m c : Nat) (w : World) (h : ¬ (24 ≤ n ∧ n ≤ 4096)) :
    Calls Try.prog 12 #[.int .i64 n, FV k l s a m c] w fun e w' => e = .returned (.tuple #[.slice none 0 0, .iface 44 (.int .i64 1)]) ∧ Below w.heap.size w w' := by
  have HB : Hid (∀ o, Below w.heap.size w (w.alloc o)) := fun o => (Below.refl _ _).alloc (Nat.le_refl _) o
  have hs := fun wx => isSize_any n wx
  rw [size_no h] at hs
  clear h
  go_enter Try.func12, Try.ntmps12
  go_wp2_with fail
  refine (hs _).mono ?_
  rintro e w1 ⟨rfl, rfl⟩
  go_wp2
  go_ret2
  exact ⟨rfl, HB.out _⟩
set_option maxHeartbeats 800000 in
theorem pack_name (n k l s : Int) (a : Option Addr) (m c : Nat) (w : World) (h : 24 ≤ n ∧ n ≤ 4096) (hn : ¬ Named k l s) :
    Calls Try.prog 12 #[.int .i64 n, FV k l s a m c] w fun e w' => e = .returned (.tuple #[.slice none 0 0, .iface 44 (.int .i64 1)]) ∧ Below w.heap.size w w' := by
  have HB : Hid (∀ o, Below w.heap.size w (w.alloc o)) := fun o => (Below.refl _ _).alloc (Nat.le_refl _) o
  have HN : Hid (∀ o w', Below (w.alloc o).heap.size (w.alloc o) w' → Below w.heap.size w w') := fun o w' h => (HB.out o).trans (h.mono (HB.out o).size)
  have hs := fun wx => isSize_any n wx
  rw [size_yes h] at hs
  have hnm := fun wx => isNamed_no k l s a m c wx hn
  clear h hn
  go_enter Try.func12, Try.ntmps12
  go_wp2_with fail
  refine (hs _).mono ?_
  rintro e w1 ⟨rfl, rfl⟩
  go_wp2_with fail
  refine (hnm _).mono ?_
  rintro e w1 ⟨rfl, hb1⟩
  have HB1 := HN.out _ _ hb1
  clear hb1
  go_wp2
  go_ret2
  exact ⟨rfl, HB1⟩
set_option maxHeartbeats 800000 in
theorem pack_full (n k l s : Int) (a : Option Addr) (m c : Nat) (w : World) (h : 24 ≤ n ∧ n ≤ 4096) (hn : Named k l s) (hm : n - 21 < (m : Int)) (hmm : m < 9223372036854775808) :
    Calls Try.prog 12 #[.int .i64 n, FV k l s a m c] w fun e w' => e = .returned (.tuple #[.slice none 0 0, .iface 44 (.int .i64 3)]) ∧ Below w.heap.size w w' := by
  have HB : Hid (∀ o, Below w.heap.size w (w.alloc o)) := fun o => (Below.refl _ _).alloc (Nat.le_refl _) o
  have HN : Hid (∀ o w', Below (w.alloc o).heap.size (w.alloc o) w' → Below w.heap.size w w') := fun o w' h => (HB.out o).trans (h.mono (HB.out o).size)
  have HC : Hid (∀ w', Below (w.alloc (.cells #[.int .i64 k, .int .i64 l, .int .i64 s, .slice a m c] 24)).heap.size (w.alloc (.cells #[.int .i64 k, .int .i64 l, .int .i64 s, .slice a m c] 24)) w' → w'.cell? ⟨w.heap.size, 3, none⟩ = some (.slice a m c)) := fun w' hb => by
    rw [hb.cell (p := ⟨w.heap.size, 3, none⟩) (by simp)]
    exact World.cell?_alloc_at _ _ _ 3 rfl
  have hs := fun wx => isSize_any n wx
  rw [size_yes h] at hs
  have hnm := fun wx => isNamed_yes k l s a m c wx hn
  clear hn
  go_enter Try.func12, Try.ntmps12
  go_wp2_with fail
  refine (hs _).mono ?_
  rintro e w1 ⟨rfl, rfl⟩
  go_wp2_with fail
  refine (hnm _).mono ?_
  rintro e w1 ⟨rfl, hb1⟩
  have HB1 := HN.out _ _ hb1
  have hc := HC.out _ hb1
  clear hb1
  go_wp2
  go_ret2
  exact ⟨rfl, HB1⟩
end Go.Proofs.Ytfaphblninmioac
