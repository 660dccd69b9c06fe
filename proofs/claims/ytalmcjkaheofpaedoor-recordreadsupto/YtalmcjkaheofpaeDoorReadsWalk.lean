/-
  What the law RecordReads gives: true, whatever the bytes.
-/
import Derived.Test.YtalmcjkaheofpaeDoorRefRead
import Derived.Test.YtalmcjkaheofpaeDoorBatches
namespace Go.Proofs.YtalmcjkaheofpaeDoor
open Go.RowKit
set_option linter.unusedVariables false

theorem fin_small {bs : List Nat} {d : List (List En)} {u : Nat} (ha : AllB bs) (h : Fin bs d u) : u ≤ bs.length ∧ 5 * d.length ≤ u ∧ ∀ i : Nat, (d[i]?.getD []).length ≤ 64 := by
  obtain ⟨h1, _, h3, _, h5⟩ := h.1.back ha
  refine ⟨h1, h5, fun i => ?_⟩
  by_cases hi : i < d.length
  · rw [getD_lt hi]; exact (h3 _ (List.getElem_mem _)).1
  · rw [List.getElem?_eq_none (by omega)]; simp
set_option maxRecDepth 20000 in
set_option maxHeartbeats 800000 in
theorem reads_any (da : Option Addr) (bs : List Nat) (cap : Nat) (w : World) (hE : ErrV w) (ha : AllB bs) (hL : Lies w da bs) (hl : bs.length ≤ 1048576) (hlc : bs.length ≤ cap) :
    Calls Tryd.prog 4 #[.slice da bs.length cap] w fun e w' => e = .returned (.bool true) ∧ Below w.heap.size w w' := by
  have H1 : Hid (Calls Tryd.prog 12 #[.slice da bs.length cap] w fun e w' => ReadPost w w' e bs) := read_any da bs cap w hL ha (by omega) hlc hE
  have H2 : Hid (∀ wz, Below w.heap.size w wz → Calls Tryd.prog 13 #[.slice da bs.length cap] wz fun e w' => ReadPost wz w' e bs) := fun wz hb => recordRead_any da bs cap wz (hL.below hb) ha hl hlc
  have HA : Hid (AllB bs) := ha
  clear hE ha hL
  go_enter Tryd.func4, Tryd.ntmps4
  go_wp2_with fail
  refine H1.out.mono ?_
  rintro e w1 ⟨d, u, a1, c1, rfl, f1, t1, b1⟩
  have hsm := fin_small HA.out f1
  have HF : Hid (Fin bs d u) := f1
  clear f1
  go_wp2_with fail
  refine (H2.out w1 b1).mono ?_
  rintro e w2 ⟨d2, u2, a2, c2, rfl, f2, t2, b2⟩
  obtain ⟨rfl, rfl⟩ := HF.out.same f2
  have bb := b1.trans (b2.mono b1.size)
  have HC : Hid (Calls Tryd.prog 14 #[.slice a1 d.length c1, .slice a2 d.length c2] w2 fun e w' => e = .returned (.bool true) ∧ Below w2.heap.size w2 w') := by
    exact batches_same a1 a2 d c1 c2 w2 (t1.below b2) t2 (by omega) (fun i => by have := hsm.2.2 i; omega)
  clear t1 t2 b1 b2 f2 hsm
  go_wp2_with fail
  refine HC.out.mono ?_
  rintro e w3 ⟨rfl, b3⟩
  have bb3 := bb.trans (b3.mono bb.size)
  go_wp2
  go_ret
  exact ⟨rfl, bb3⟩
end Go.Proofs.YtalmcjkaheofpaeDoor
