/-
  What the calls of the document's CommandFault, DoneFault, CommandOf, DoneOf give.
-/
import Derived.Test.YteklankhffebaaaDoorMathCmd
import Derived.Test.YteklankhffebaaaDoorRNumC
import Derived.Test.YteklankhffebaaaDoorAppZ
namespace Go.Proofs.YteklankhffebaaaDoor
open Go.RowKit
set_option linter.unusedVariables false

set_option maxRecDepth 20000 in
set_option maxHeartbeats 3200000 in
theorem cfault_yes (op id lba cnt fst snd : Int) (w : World) (h : (0 ≤ op ∧ op ≤ 255) ∧ (0 ≤ id ∧ id ≤ 65535) ∧ (0 ≤ lba ∧ lba ≤ 4611686018427387904) ∧ (0 ≤ cnt ∧ cnt ≤ 4294967295) ∧ (0 ≤ fst ∧ fst ≤ 4611686018427387904) ∧ (0 ≤ snd ∧ snd ≤ 4611686018427387904)) : Calls Tryd.prog 6 #[cmdV op id lba cnt fst snd] w fun e w' => e = .returned (.int .i64 0) ∧ Below w.heap.size w w' := by
  have HW : Hid (∀ o, Below w.heap.size w (w.alloc o)) := fun o => alloc_below' w o
  have g0 : ¬ (op < 0) := by have := h; omega
  have g1 : ¬ (255 < op) := by have := h; omega
  have g2 : ¬ (id < 0) := by have := h; omega
  have g3 : ¬ (65535 < id) := by have := h; omega
  have g4 : ¬ (cnt < 0) := by have := h; omega
  have g5 : ¬ (4294967295 < cnt) := by have := h; omega
  have g6 : ¬ (lba < 0) := by have := h; omega
  have g7 : ¬ (4611686018427387904 < lba) := by have := h; omega
  have g8 : ¬ (fst < 0) := by have := h; omega
  have g9 : ¬ (4611686018427387904 < fst) := by have := h; omega
  have g10 : ¬ (snd < 0) := by have := h; omega
  have g11 : ¬ (4611686018427387904 < snd) := by have := h; omega
  clear h
  go_enter Tryd.func6, Tryd.ntmps6
  go_wp2
  go_ret
  exact ⟨rfl, HW.out _⟩
set_option maxRecDepth 20000 in
set_option maxHeartbeats 3200000 in
theorem cfault_no (op id lba cnt fst snd : Int) (w : World) (h : ¬ ((0 ≤ op ∧ op ≤ 255) ∧ (0 ≤ id ∧ id ≤ 65535) ∧ (0 ≤ lba ∧ lba ≤ 4611686018427387904) ∧ (0 ≤ cnt ∧ cnt ≤ 4294967295) ∧ (0 ≤ fst ∧ fst ≤ 4611686018427387904) ∧ (0 ≤ snd ∧ snd ≤ 4611686018427387904))) : Calls Tryd.prog 6 #[cmdV op id lba cnt fst snd] w fun e w' => e = .returned (.int .i64 1) ∧ Below w.heap.size w w' := by
  have HW : Hid (∀ o, Below w.heap.size w (w.alloc o)) := fun o => alloc_below' w o
  have HN : Hid (¬ ((0 ≤ op ∧ op ≤ 255) ∧ (0 ≤ id ∧ id ≤ 65535) ∧ (0 ≤ lba ∧ lba ≤ 4611686018427387904) ∧ (0 ≤ cnt ∧ cnt ≤ 4294967295) ∧ (0 ≤ fst ∧ fst ≤ 4611686018427387904) ∧ (0 ≤ snd ∧ snd ≤ 4611686018427387904))) := h
  clear h
  by_cases g0 : op < 0
  · clear HN
    go_enter Tryd.func6, Tryd.ntmps6
    go_wp2
    go_ret
    exact ⟨rfl, HW.out _⟩
  by_cases g1 : 255 < op
  · clear HN
    go_enter Tryd.func6, Tryd.ntmps6
    go_wp2
    go_ret
    exact ⟨rfl, HW.out _⟩
  by_cases g2 : id < 0
  · clear HN
    go_enter Tryd.func6, Tryd.ntmps6
    go_wp2
    go_ret
    exact ⟨rfl, HW.out _⟩
  by_cases g3 : 65535 < id
  · clear HN
    go_enter Tryd.func6, Tryd.ntmps6
    go_wp2
    go_ret
    exact ⟨rfl, HW.out _⟩
  by_cases g4 : cnt < 0
  · clear HN
    go_enter Tryd.func6, Tryd.ntmps6
    go_wp2
    go_ret
    exact ⟨rfl, HW.out _⟩
  by_cases g5 : 4294967295 < cnt
  · clear HN
    go_enter Tryd.func6, Tryd.ntmps6
    go_wp2
    go_ret
    exact ⟨rfl, HW.out _⟩
  by_cases g6 : lba < 0
  · clear HN
    go_enter Tryd.func6, Tryd.ntmps6
    go_wp2
    go_ret
    exact ⟨rfl, HW.out _⟩
  by_cases g7 : 4611686018427387904 < lba
  · clear HN
    go_enter Tryd.func6, Tryd.ntmps6
    go_wp2
    go_ret
    exact ⟨rfl, HW.out _⟩
  by_cases g8 : fst < 0
  · clear HN
    go_enter Tryd.func6, Tryd.ntmps6
    go_wp2
    go_ret
    exact ⟨rfl, HW.out _⟩
  by_cases g9 : 4611686018427387904 < fst
  · clear HN
    go_enter Tryd.func6, Tryd.ntmps6
    go_wp2
    go_ret
    exact ⟨rfl, HW.out _⟩
  by_cases g10 : snd < 0
  · clear HN
    go_enter Tryd.func6, Tryd.ntmps6
    go_wp2
    go_ret
    exact ⟨rfl, HW.out _⟩
  by_cases g11 : 4611686018427387904 < snd
  · clear HN
    go_enter Tryd.func6, Tryd.ntmps6
    go_wp2
    go_ret
    exact ⟨rfl, HW.out _⟩
  · exact absurd (by refine ⟨?_, ?_, ?_, ?_, ?_, ?_⟩ <;> omega) HN.out
set_option maxRecDepth 20000 in
set_option maxHeartbeats 3200000 in
theorem dfault_yes (di dq dh ds : Int) (ph : Bool) (w : World) (h : (0 ≤ di ∧ di ≤ 65535) ∧ (0 ≤ dq ∧ dq ≤ 65535) ∧ (0 ≤ dh ∧ dh ≤ 65535) ∧ (0 ≤ ds ∧ ds ≤ 255)) : Calls Tryd.prog 11 #[doneV di dq dh ds ph] w fun e w' => e = .returned (.int .i64 0) ∧ Below w.heap.size w w' := by
  have HW : Hid (∀ o, Below w.heap.size w (w.alloc o)) := fun o => alloc_below' w o
  have g0 : ¬ (di < 0) := by have := h; omega
  have g1 : ¬ (65535 < di) := by have := h; omega
  have g2 : ¬ (dq < 0) := by have := h; omega
  have g3 : ¬ (65535 < dq) := by have := h; omega
  have g4 : ¬ (dh < 0) := by have := h; omega
  have g5 : ¬ (65535 < dh) := by have := h; omega
  have g6 : ¬ (ds < 0) := by have := h; omega
  have g7 : ¬ (255 < ds) := by have := h; omega
  clear h
  go_enter Tryd.func11, Tryd.ntmps11
  go_wp2
  go_ret
  exact ⟨rfl, HW.out _⟩
set_option maxRecDepth 20000 in
set_option maxHeartbeats 3200000 in
theorem dfault_no (di dq dh ds : Int) (ph : Bool) (w : World) (h : ¬ ((0 ≤ di ∧ di ≤ 65535) ∧ (0 ≤ dq ∧ dq ≤ 65535) ∧ (0 ≤ dh ∧ dh ≤ 65535) ∧ (0 ≤ ds ∧ ds ≤ 255))) : Calls Tryd.prog 11 #[doneV di dq dh ds ph] w fun e w' => e = .returned (.int .i64 1) ∧ Below w.heap.size w w' := by
  have HW : Hid (∀ o, Below w.heap.size w (w.alloc o)) := fun o => alloc_below' w o
  have HN : Hid (¬ ((0 ≤ di ∧ di ≤ 65535) ∧ (0 ≤ dq ∧ dq ≤ 65535) ∧ (0 ≤ dh ∧ dh ≤ 65535) ∧ (0 ≤ ds ∧ ds ≤ 255))) := h
  clear h
  by_cases g0 : di < 0
  · clear HN
    go_enter Tryd.func11, Tryd.ntmps11
    go_wp2
    go_ret
    exact ⟨rfl, HW.out _⟩
  by_cases g1 : 65535 < di
  · clear HN
    go_enter Tryd.func11, Tryd.ntmps11
    go_wp2
    go_ret
    exact ⟨rfl, HW.out _⟩
  by_cases g2 : dq < 0
  · clear HN
    go_enter Tryd.func11, Tryd.ntmps11
    go_wp2
    go_ret
    exact ⟨rfl, HW.out _⟩
  by_cases g3 : 65535 < dq
  · clear HN
    go_enter Tryd.func11, Tryd.ntmps11
    go_wp2
    go_ret
    exact ⟨rfl, HW.out _⟩
  by_cases g4 : dh < 0
  · clear HN
    go_enter Tryd.func11, Tryd.ntmps11
    go_wp2
    go_ret
    exact ⟨rfl, HW.out _⟩
  by_cases g5 : 65535 < dh
  · clear HN
    go_enter Tryd.func11, Tryd.ntmps11
    go_wp2
    go_ret
    exact ⟨rfl, HW.out _⟩
  by_cases g6 : ds < 0
  · clear HN
    go_enter Tryd.func11, Tryd.ntmps11
    go_wp2
    go_ret
    exact ⟨rfl, HW.out _⟩
  by_cases g7 : 255 < ds
  · clear HN
    go_enter Tryd.func11, Tryd.ntmps11
    go_wp2
    go_ret
    exact ⟨rfl, HW.out _⟩
  · exact absurd (by refine ⟨?_, ?_, ?_, ?_⟩ <;> omega) HN.out
end Go.Proofs.YteklankhffebaaaDoor
