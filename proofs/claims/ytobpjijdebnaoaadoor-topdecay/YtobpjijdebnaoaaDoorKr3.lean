/- Part of the proof. -/
import Derived.Test.YtobpjijdebnaoaaDoorKrM
import Derived.Test.YtobpjijdebnaoaaDoorKr2
import Derived.Test.YtobpjijdebnaoaaDoorKrL
namespace Go.Proofs.YtobpjijdebnaoaaDoor
open Go Go.Conc
open Go.ConcN (WgLive)
open Go.ConcR (KK wgBlock WgAt stA smA rd wr)
def lS (P : Program) (y : Lk) (t : Nat → Value) (n i : Nat) : Goroutine := nxN P true 11 (lHead P y (sL y n i t))
def spw (P : Program) (g : Goroutine) : Goroutine := match stepG P true g default with
  | .spawn g' _ _ _ => g'
  | _ => g
theorem pur_lS (y : Lk) (t : Nat → Value) (n : Nat) (h1 : 1 ≤ n) (h8 : n ≤ 8) (i : Nat) (hi : i < n) : Pur Tryd.prog true 11 (lHead Tryd.prog y (sL y n i t)) := by
  rcases (by omega : n = 1 ∨ n = 2 ∨ n = 3 ∨ n = 4 ∨ n = 5 ∨ n = 6 ∨ n = 7 ∨ n = 8) with rfl | rfl | rfl | rfl | rfl | rfl | rfl | rfl
  · obtain rfl : i = 0 := by omega
    iterate 11 (refine Pur.step (by kernel_rfl) (fun w => by kernel_rfl) ?_)
    exact Pur.nil
  · rcases (by omega : i = 0 ∨ i = 1) with rfl | rfl
    all_goals
      iterate 11 (refine Pur.step (by kernel_rfl) (fun w => by kernel_rfl) ?_)
      exact Pur.nil
  · rcases (by omega : i = 0 ∨ i = 1 ∨ i = 2) with rfl | rfl | rfl
    all_goals
      iterate 11 (refine Pur.step (by kernel_rfl) (fun w => by kernel_rfl) ?_)
      exact Pur.nil
  · rcases (by omega : i = 0 ∨ i = 1 ∨ i = 2 ∨ i = 3) with rfl | rfl | rfl | rfl
    all_goals
      iterate 11 (refine Pur.step (by kernel_rfl) (fun w => by kernel_rfl) ?_)
      exact Pur.nil
  · rcases (by omega : i = 0 ∨ i = 1 ∨ i = 2 ∨ i = 3 ∨ i = 4) with rfl | rfl | rfl | rfl | rfl
    all_goals
      iterate 11 (refine Pur.step (by kernel_rfl) (fun w => by kernel_rfl) ?_)
      exact Pur.nil
  · rcases (by omega : i = 0 ∨ i = 1 ∨ i = 2 ∨ i = 3 ∨ i = 4 ∨ i = 5) with rfl | rfl | rfl | rfl | rfl | rfl
    all_goals
      iterate 11 (refine Pur.step (by kernel_rfl) (fun w => by kernel_rfl) ?_)
      exact Pur.nil
  · rcases (by omega : i = 0 ∨ i = 1 ∨ i = 2 ∨ i = 3 ∨ i = 4 ∨ i = 5 ∨ i = 6) with rfl | rfl | rfl | rfl | rfl | rfl | rfl
    all_goals
      iterate 11 (refine Pur.step (by kernel_rfl) (fun w => by kernel_rfl) ?_)
      exact Pur.nil
  · rcases (by omega : i = 0 ∨ i = 1 ∨ i = 2 ∨ i = 3 ∨ i = 4 ∨ i = 5 ∨ i = 6 ∨ i = 7) with rfl | rfl | rfl | rfl | rfl | rfl | rfl | rfl
    all_goals
      iterate 11 (refine Pur.step (by kernel_rfl) (fun w => by kernel_rfl) ?_)
      exact Pur.nil
theorem run_lS (y : Lk) (t : Nat → Value) (n : Nat) (h1 : 1 ≤ n) (h8 : n ≤ 8) (i : Nat) (hi : i < n) : (lS Tryd.prog y t n i).status = .running := by
  rcases (by omega : n = 1 ∨ n = 2 ∨ n = 3 ∨ n = 4 ∨ n = 5 ∨ n = 6 ∨ n = 7 ∨ n = 8) with rfl | rfl | rfl | rfl | rfl | rfl | rfl | rfl
  · obtain rfl : i = 0 := by omega
    kernel_rfl
  · rcases (by omega : i = 0 ∨ i = 1) with rfl | rfl
    all_goals
      kernel_rfl
  · rcases (by omega : i = 0 ∨ i = 1 ∨ i = 2) with rfl | rfl | rfl
    all_goals
      kernel_rfl
  · rcases (by omega : i = 0 ∨ i = 1 ∨ i = 2 ∨ i = 3) with rfl | rfl | rfl | rfl
    all_goals
      kernel_rfl
  · rcases (by omega : i = 0 ∨ i = 1 ∨ i = 2 ∨ i = 3 ∨ i = 4) with rfl | rfl | rfl | rfl | rfl
    all_goals
      kernel_rfl
  · rcases (by omega : i = 0 ∨ i = 1 ∨ i = 2 ∨ i = 3 ∨ i = 4 ∨ i = 5) with rfl | rfl | rfl | rfl | rfl | rfl
    all_goals
      kernel_rfl
  · rcases (by omega : i = 0 ∨ i = 1 ∨ i = 2 ∨ i = 3 ∨ i = 4 ∨ i = 5 ∨ i = 6) with rfl | rfl | rfl | rfl | rfl | rfl | rfl
    all_goals
      kernel_rfl
  · rcases (by omega : i = 0 ∨ i = 1 ∨ i = 2 ∨ i = 3 ∨ i = 4 ∨ i = 5 ∨ i = 6 ∨ i = 7) with rfl | rfl | rfl | rfl | rfl | rfl | rfl | rfl
    all_goals
      kernel_rfl
theorem go_lS (y : Lk) (t : Nat → Value) (n : Nat) (h1 : 1 ≤ n) (h8 : n ≤ 8) (i : Nat) (hi : i < n) (w : World) : stepG Tryd.prog true (lS Tryd.prog y t n i) w = .spawn (spw Tryd.prog (lS Tryd.prog y t n i)) (kid Tryd.prog y) w #[] := by
  rcases (by omega : n = 1 ∨ n = 2 ∨ n = 3 ∨ n = 4 ∨ n = 5 ∨ n = 6 ∨ n = 7 ∨ n = 8) with rfl | rfl | rfl | rfl | rfl | rfl | rfl | rfl
  · obtain rfl : i = 0 := by omega
    kernel_rfl
  · rcases (by omega : i = 0 ∨ i = 1) with rfl | rfl
    all_goals
      kernel_rfl
  · rcases (by omega : i = 0 ∨ i = 1 ∨ i = 2) with rfl | rfl | rfl
    all_goals
      kernel_rfl
  · rcases (by omega : i = 0 ∨ i = 1 ∨ i = 2 ∨ i = 3) with rfl | rfl | rfl | rfl
    all_goals
      kernel_rfl
  · rcases (by omega : i = 0 ∨ i = 1 ∨ i = 2 ∨ i = 3 ∨ i = 4) with rfl | rfl | rfl | rfl | rfl
    all_goals
      kernel_rfl
  · rcases (by omega : i = 0 ∨ i = 1 ∨ i = 2 ∨ i = 3 ∨ i = 4 ∨ i = 5) with rfl | rfl | rfl | rfl | rfl | rfl
    all_goals
      kernel_rfl
  · rcases (by omega : i = 0 ∨ i = 1 ∨ i = 2 ∨ i = 3 ∨ i = 4 ∨ i = 5 ∨ i = 6) with rfl | rfl | rfl | rfl | rfl | rfl | rfl
    all_goals
      kernel_rfl
  · rcases (by omega : i = 0 ∨ i = 1 ∨ i = 2 ∨ i = 3 ∨ i = 4 ∨ i = 5 ∨ i = 6 ∨ i = 7) with rfl | rfl | rfl | rfl | rfl | rfl | rfl | rfl
    all_goals
      kernel_rfl
theorem pur_spw (y : Lk) (t : Nat → Value) (n : Nat) (h1 : 1 ≤ n) (h8 : n ≤ 8) (i : Nat) (hi : i < n) : Pur Tryd.prog true 7 (spw Tryd.prog (lS Tryd.prog y t n i)) := by
  rcases (by omega : n = 1 ∨ n = 2 ∨ n = 3 ∨ n = 4 ∨ n = 5 ∨ n = 6 ∨ n = 7 ∨ n = 8) with rfl | rfl | rfl | rfl | rfl | rfl | rfl | rfl
  · obtain rfl : i = 0 := by omega
    iterate 7 (refine Pur.step (by kernel_rfl) (fun w => by kernel_rfl) ?_)
    exact Pur.nil
  · rcases (by omega : i = 0 ∨ i = 1) with rfl | rfl
    all_goals
      iterate 7 (refine Pur.step (by kernel_rfl) (fun w => by kernel_rfl) ?_)
      exact Pur.nil
  · rcases (by omega : i = 0 ∨ i = 1 ∨ i = 2) with rfl | rfl | rfl
    all_goals
      iterate 7 (refine Pur.step (by kernel_rfl) (fun w => by kernel_rfl) ?_)
      exact Pur.nil
  · rcases (by omega : i = 0 ∨ i = 1 ∨ i = 2 ∨ i = 3) with rfl | rfl | rfl | rfl
    all_goals
      iterate 7 (refine Pur.step (by kernel_rfl) (fun w => by kernel_rfl) ?_)
      exact Pur.nil
  · rcases (by omega : i = 0 ∨ i = 1 ∨ i = 2 ∨ i = 3 ∨ i = 4) with rfl | rfl | rfl | rfl | rfl
    all_goals
      iterate 7 (refine Pur.step (by kernel_rfl) (fun w => by kernel_rfl) ?_)
      exact Pur.nil
  · rcases (by omega : i = 0 ∨ i = 1 ∨ i = 2 ∨ i = 3 ∨ i = 4 ∨ i = 5) with rfl | rfl | rfl | rfl | rfl | rfl
    all_goals
      iterate 7 (refine Pur.step (by kernel_rfl) (fun w => by kernel_rfl) ?_)
      exact Pur.nil
  · rcases (by omega : i = 0 ∨ i = 1 ∨ i = 2 ∨ i = 3 ∨ i = 4 ∨ i = 5 ∨ i = 6) with rfl | rfl | rfl | rfl | rfl | rfl | rfl
    all_goals
      iterate 7 (refine Pur.step (by kernel_rfl) (fun w => by kernel_rfl) ?_)
      exact Pur.nil
  · rcases (by omega : i = 0 ∨ i = 1 ∨ i = 2 ∨ i = 3 ∨ i = 4 ∨ i = 5 ∨ i = 6 ∨ i = 7) with rfl | rfl | rfl | rfl | rfl | rfl | rfl | rfl
    all_goals
      iterate 7 (refine Pur.step (by kernel_rfl) (fun w => by kernel_rfl) ?_)
      exact Pur.nil
theorem spw_head (y : Lk) (t : Nat → Value) (n : Nat) (h1 : 1 ≤ n) (h8 : n ≤ 8) (i : Nat) (hi : i < n) : nxN Tryd.prog true 7 (spw Tryd.prog (lS Tryd.prog y t n i)) = lHead Tryd.prog y (nxN Tryd.prog true 7 (spw Tryd.prog (lS Tryd.prog y t n i))).frame.tmps := by
  rcases (by omega : n = 1 ∨ n = 2 ∨ n = 3 ∨ n = 4 ∨ n = 5 ∨ n = 6 ∨ n = 7 ∨ n = 8) with rfl | rfl | rfl | rfl | rfl | rfl | rfl | rfl
  · obtain rfl : i = 0 := by omega
    kernel_rfl
  · rcases (by omega : i = 0 ∨ i = 1) with rfl | rfl
    all_goals
      kernel_rfl
  · rcases (by omega : i = 0 ∨ i = 1 ∨ i = 2) with rfl | rfl | rfl
    all_goals
      kernel_rfl
  · rcases (by omega : i = 0 ∨ i = 1 ∨ i = 2 ∨ i = 3) with rfl | rfl | rfl | rfl
    all_goals
      kernel_rfl
  · rcases (by omega : i = 0 ∨ i = 1 ∨ i = 2 ∨ i = 3 ∨ i = 4) with rfl | rfl | rfl | rfl | rfl
    all_goals
      kernel_rfl
  · rcases (by omega : i = 0 ∨ i = 1 ∨ i = 2 ∨ i = 3 ∨ i = 4 ∨ i = 5) with rfl | rfl | rfl | rfl | rfl | rfl
    all_goals
      kernel_rfl
  · rcases (by omega : i = 0 ∨ i = 1 ∨ i = 2 ∨ i = 3 ∨ i = 4 ∨ i = 5 ∨ i = 6) with rfl | rfl | rfl | rfl | rfl | rfl | rfl
    all_goals
      kernel_rfl
  · rcases (by omega : i = 0 ∨ i = 1 ∨ i = 2 ∨ i = 3 ∨ i = 4 ∨ i = 5 ∨ i = 6 ∨ i = 7) with rfl | rfl | rfl | rfl | rfl | rfl | rfl | rfl
    all_goals
      kernel_rfl
theorem spw_ok (y : Lk) (t : Nat → Value) (n : Nat) (h1 : 1 ≤ n) (h8 : n ≤ 8) (i : Nat) (hi : i < n) : SlL y n (i + 1) (nxN Tryd.prog true 7 (spw Tryd.prog (lS Tryd.prog y t n i))).frame.tmps := by
  rcases (by omega : n = 1 ∨ n = 2 ∨ n = 3 ∨ n = 4 ∨ n = 5 ∨ n = 6 ∨ n = 7 ∨ n = 8) with rfl | rfl | rfl | rfl | rfl | rfl | rfl | rfl
  · obtain rfl : i = 0 := by omega
    exact ⟨⟨by kernel_rfl, by kernel_rfl, by kernel_rfl, by kernel_rfl, by kernel_rfl, by kernel_rfl, by kernel_rfl, by kernel_rfl, by kernel_rfl⟩, by kernel_rfl, by kernel_rfl⟩
  · rcases (by omega : i = 0 ∨ i = 1) with rfl | rfl
    all_goals
      exact ⟨⟨by kernel_rfl, by kernel_rfl, by kernel_rfl, by kernel_rfl, by kernel_rfl, by kernel_rfl, by kernel_rfl, by kernel_rfl, by kernel_rfl⟩, by kernel_rfl, by kernel_rfl⟩
  · rcases (by omega : i = 0 ∨ i = 1 ∨ i = 2) with rfl | rfl | rfl
    all_goals
      exact ⟨⟨by kernel_rfl, by kernel_rfl, by kernel_rfl, by kernel_rfl, by kernel_rfl, by kernel_rfl, by kernel_rfl, by kernel_rfl, by kernel_rfl⟩, by kernel_rfl, by kernel_rfl⟩
  · rcases (by omega : i = 0 ∨ i = 1 ∨ i = 2 ∨ i = 3) with rfl | rfl | rfl | rfl
    all_goals
      exact ⟨⟨by kernel_rfl, by kernel_rfl, by kernel_rfl, by kernel_rfl, by kernel_rfl, by kernel_rfl, by kernel_rfl, by kernel_rfl, by kernel_rfl⟩, by kernel_rfl, by kernel_rfl⟩
  · rcases (by omega : i = 0 ∨ i = 1 ∨ i = 2 ∨ i = 3 ∨ i = 4) with rfl | rfl | rfl | rfl | rfl
    all_goals
      exact ⟨⟨by kernel_rfl, by kernel_rfl, by kernel_rfl, by kernel_rfl, by kernel_rfl, by kernel_rfl, by kernel_rfl, by kernel_rfl, by kernel_rfl⟩, by kernel_rfl, by kernel_rfl⟩
  · rcases (by omega : i = 0 ∨ i = 1 ∨ i = 2 ∨ i = 3 ∨ i = 4 ∨ i = 5) with rfl | rfl | rfl | rfl | rfl | rfl
    all_goals
      exact ⟨⟨by kernel_rfl, by kernel_rfl, by kernel_rfl, by kernel_rfl, by kernel_rfl, by kernel_rfl, by kernel_rfl, by kernel_rfl, by kernel_rfl⟩, by kernel_rfl, by kernel_rfl⟩
  · rcases (by omega : i = 0 ∨ i = 1 ∨ i = 2 ∨ i = 3 ∨ i = 4 ∨ i = 5 ∨ i = 6) with rfl | rfl | rfl | rfl | rfl | rfl | rfl
    all_goals
      exact ⟨⟨by kernel_rfl, by kernel_rfl, by kernel_rfl, by kernel_rfl, by kernel_rfl, by kernel_rfl, by kernel_rfl, by kernel_rfl, by kernel_rfl⟩, by kernel_rfl, by kernel_rfl⟩
  · rcases (by omega : i = 0 ∨ i = 1 ∨ i = 2 ∨ i = 3 ∨ i = 4 ∨ i = 5 ∨ i = 6 ∨ i = 7) with rfl | rfl | rfl | rfl | rfl | rfl | rfl | rfl
    all_goals
      exact ⟨⟨by kernel_rfl, by kernel_rfl, by kernel_rfl, by kernel_rfl, by kernel_rfl, by kernel_rfl, by kernel_rfl, by kernel_rfl, by kernel_rfl⟩, by kernel_rfl, by kernel_rfl⟩
/-! ### all are started -/
def lW (P : Program) (y : Lk) (t : Nat → Value) (n : Nat) : Goroutine := nxN P true 10 (lHead P y (sL y n n t))
def lC (P : Program) (y : Lk) (t : Nat → Value) (n : Nat) : Frame := (lW P y t n).callers.headD default
def lE (P : Program) (y : Lk) (t : Nat → Value) (n : Nat) : Goroutine := nxN P true 1 (G ((lC P y t n).finish (.tuple #[])) y.cs)
theorem pur_lW (y : Lk) (t : Nat → Value) (n : Nat) (h1 : 1 ≤ n) (h8 : n ≤ 8) : Pur Tryd.prog true 10 (lHead Tryd.prog y (sL y n n t)) := by
  rcases (by omega : n = 1 ∨ n = 2 ∨ n = 3 ∨ n = 4 ∨ n = 5 ∨ n = 6 ∨ n = 7 ∨ n = 8) with rfl | rfl | rfl | rfl | rfl | rfl | rfl | rfl
  all_goals
    iterate 10 (refine Pur.step (by kernel_rfl) (fun w => by kernel_rfl) ?_)
    exact Pur.nil
theorem lW_wait (y : Lk) (t : Nat → Value) (n : Nat) (h1 : 1 ≤ n) (h8 : n ≤ 8) : lW Tryd.prog y t n = wt0 Tryd.prog y.b7 (lC Tryd.prog y t n) y.cs := by
  rcases (by omega : n = 1 ∨ n = 2 ∨ n = 3 ∨ n = 4 ∨ n = 5 ∨ n = 6 ∨ n = 7 ∨ n = 8) with rfl | rfl | rfl | rfl | rfl | rfl | rfl | rfl
  all_goals kernel_rfl
theorem pur_lE (y : Lk) (t : Nat → Value) (n : Nat) (h1 : 1 ≤ n) (h8 : n ≤ 8) : Pur Tryd.prog true 1 (G ((lC Tryd.prog y t n).finish (.tuple #[])) y.cs) := by
  rcases (by omega : n = 1 ∨ n = 2 ∨ n = 3 ∨ n = 4 ∨ n = 5 ∨ n = 6 ∨ n = 7 ∨ n = 8) with rfl | rfl | rfl | rfl | rfl | rfl | rfl | rfl
  all_goals
    iterate 1 (refine Pur.step (by kernel_rfl) (fun w => by kernel_rfl) ?_)
    exact Pur.nil
theorem run_lE (y : Lk) (t : Nat → Value) (n : Nat) (h1 : 1 ≤ n) (h8 : n ≤ 8) : (lE Tryd.prog y t n).status = .running := by
  rcases (by omega : n = 1 ∨ n = 2 ∨ n = 3 ∨ n = 4 ∨ n = 5 ∨ n = 6 ∨ n = 7 ∨ n = 8) with rfl | rfl | rfl | rfl | rfl | rfl | rfl | rfl
  all_goals kernel_rfl
theorem lE_at (y : Lk) (t : Nat → Value) (n : Nat) (h1 : 1 ≤ n) (h8 : n ≤ 8) : lE Tryd.prog y t n = atC Tryd.prog 25 9 (lE Tryd.prog y t n).frame.tmps y.cs := by
  rcases (by omega : n = 1 ∨ n = 2 ∨ n = 3 ∨ n = 4 ∨ n = 5 ∨ n = 6 ∨ n = 7 ∨ n = 8) with rfl | rfl | rfl | rfl | rfl | rfl | rfl | rfl
  all_goals kernel_rfl
theorem lE_ok (y : Lk) (t : Nat → Value) (n : Nat) (h1 : 1 ≤ n) (h8 : n ≤ 8) : SlB y n (lE Tryd.prog y t n).frame.tmps := by
  rcases (by omega : n = 1 ∨ n = 2 ∨ n = 3 ∨ n = 4 ∨ n = 5 ∨ n = 6 ∨ n = 7 ∨ n = 8) with rfl | rfl | rfl | rfl | rfl | rfl | rfl | rfl
  all_goals exact ⟨by kernel_rfl, by kernel_rfl, by kernel_rfl, by kernel_rfl, by kernel_rfl, by kernel_rfl, by kernel_rfl, by kernel_rfl, by kernel_rfl⟩
end Go.Proofs.YtobpjijdebnaoaaDoor
namespace Go.Proofs.YtobpjijdebnaoaaDoor
open Go Go.Conc
open Go.ConcN (WgLive)
open Go.ConcR (KK wgBlock WgAt stA smA rd wr Payload)
/-- What look knows. -/
structure Kv (y : Lk) (w : World) : Prop where
  kw : Kw y w
  rest : w.tape = y.w0.tape ∧ w.os = y.w0.os ∧ w.output = y.w0.output
def anchW (P : Program) (y : Lk) (_ : Nat → Prop) (g : Goroutine) (w : World) : Prop :=
  (∃ (t : Nat → Value) (T : Array Value), g = wtHead P (lC P y t y.n) y.cs T ∧ T.size = 84 ∧ T[0]? = some (ptr y.b7)) ∧ Kv y w
def nextL (P : Program) (y : Lk) (_ : Nat → Prop) (g : Goroutine) (w : World) : Prop :=
  (∃ T : Array Value, g = atC P 25 9 T y.cs ∧ SlB y y.n T) ∧ Kv y w
abbrev Lk.x (P : Program) (y : Lk) : Cx := y.cx P (anchW P y) (nextL P y)
theorem dy_wp3 (Wg : Nat) (c : Frame) (cs : List Frame) (t : Nat → Value) (v : Nat) (h1 : 1 ≤ v) (h8 : v ≤ 8) : (wp3 Tryd.prog Wg c cs t v).dying = none := by
  rcases (by omega : v = 1 ∨ v = 2 ∨ v = 3 ∨ v = 4 ∨ v = 5 ∨ v = 6 ∨ v = 7 ∨ v = 8) with rfl | rfl | rfl | rfl | rfl | rfl | rfl | rfl
  all_goals kernel_rfl
section
variable {y : Lk} {O : Nat → Prop}
theorem kw_shape {w : World} (hw : Kv y w) : w.shape? y.b7 = some (88, 2) := by
  obtain ⟨st, sm, h⟩ := hw.kw.live
  have h' : w.heap[y.b7]? = some (wgBlock 88 st sm) := h
  simp [World.shape?, h', wgBlock]
theorem kx (y : Lk) (O : Nat → Prop) : Stb y.Fz (y.x Tryd.prog).Ex (Kv y) O := fun w w₁ r h => ⟨kw_stb Tryd.prog O w w₁ r h.kw, r.tape.trans h.rest.1, r.os.trans h.rest.2.1, r.output.trans h.rest.2.2⟩
theorem wy_fin (t : Nat → Value) (h1 : 1 ≤ y.n) (h8 : y.n ≤ 8) : CK Tryd.prog true false y.Fz (y.x Tryd.prog).Ex (y.x Tryd.prog).Next (Kv y) O (G ((lC Tryd.prog y t y.n).finish (.tuple #[])) y.cs) := by
  refine ck_pur (kx y O) 1 (pur_lE y t y.n h1 h8) (ck_stop (kx y O) (run_lE y t y.n h1 h8) fun w hw => ⟨⟨_, lE_at y t y.n h1 h8, lE_ok y t y.n h1 h8⟩, hw⟩)
theorem wy_conv {S : (Nat → Prop) → Goroutine → World → Prop} {g : Goroutine} {v : Value} (h : Asks Tryd.prog true g [{ sh := some (88, 2) }, { sh := some (88, 2) }] (.value v) [{ k := 2, ad := ⟨y.b7, 0, none⟩, sh := some (88, 2) }, { k := 2, ad := ⟨y.b7, 0, none⟩, sh := some (88, 2) }] #[])
    (hn : CK Tryd.prog true false y.Fz (y.x Tryd.prog).Ex S (Kv y) O (go1 Tryd.prog g (.value v))) : CK Tryd.prog true false y.Fz (y.x Tryd.prog).Ex S (Kv y) O g :=
  ck_one (kx y O) h.run (fun _ hw => h.step (show OkQ _ _ _ from ⟨kw_shape hw, kw_shape hw, rfl⟩)) hn
/-! ### nobody works any more -/
theorem wy_acq (t : Nat → Value) (u : Nat → Value) (h1 : 1 ≤ y.n) (h8 : y.n ≤ 8) (w : World) (hw : Kv y w) : (y.x Tryd.prog).AtAcq O (wz2 Tryd.prog y.b7 (lC Tryd.prog y t y.n) y.cs u) w := by
  refine ⟨_, mark_wz2 _ _ _ u w, fun w' r => ?_⟩
  refine (?_ : CK Tryd.prog true false y.Fz (y.x Tryd.prog).Ex (y.x Tryd.prog).Next (Kv y) O _) w' (kx y O w w' r hw)
  refine ck_pur (kx y O) 20 (pur_wz2 _ _ _ u) ?_
  rw [end_wz2]
  exact wy_fin t h1 h8
theorem wy_ke (t : Nat → Value) (u : Nat → Value) (h1 : 1 ≤ y.n) (h8 : y.n ≤ 8) (w : World) (hw : Kv y w) : (y.x Tryd.prog).AtKe O (wz Tryd.prog y.b7 (lC Tryd.prog y t y.n) y.cs u) w := by
  refine ⟨_, mark_wz _ _ _ u w, fun w' r => ?_⟩
  refine (?_ : CK Tryd.prog true false y.Fz (y.x Tryd.prog).Ex (y.x Tryd.prog).AtAcq (Kv y) O _) w' (kx y O w w' r hw)
  exact ck_pur (kx y O) 3 (pur_wz1 _ _ _ u) (wy_conv (ask_wz1 _ _ _ u) (ck_stop (kx y O) (run_wz2 _ _ _ u) fun w hw => wy_acq t u h1 h8 w hw))
/-! ### it waits -/
section
variable (t u : Nat → Value)
theorem wp_acq (h1 : 1 ≤ y.n) (h8 : y.n ≤ 8) {v : Nat} (v1 : 1 ≤ v) (v8 : v ≤ 8) (w : World) (hw : Kv y w) : (y.x Tryd.prog).AtAcq O (wp7 Tryd.prog y.b7 (lC Tryd.prog y t y.n) y.cs u v) w := by
  refine ⟨_, mark_wp7 _ _ _ u v v1 v8 w, fun w' r => ?_⟩
  refine (?_ : CK Tryd.prog true false y.Fz (y.x Tryd.prog).Ex (y.x Tryd.prog).Next (Kv y) O _) w' (kx y O w w' r hw)
  refine ck_pur (kx y O) 10 (pur_wp7 _ _ _ u v v1 v8) ?_
  rw [end_wp7 _ _ _ u v v1 v8]
  exact wy_fin t h1 h8
theorem wp_ke (h1 : 1 ≤ y.n) (h8 : y.n ≤ 8) {v : Nat} (v1 : 1 ≤ v) (v8 : v ≤ 8) (w : World) (hw : Kv y w) : (y.x Tryd.prog).AtKe O (wp5 Tryd.prog y.b7 (lC Tryd.prog y t y.n) y.cs u v) w := by
  refine ⟨_, mark_wp5 _ _ _ u v v1 v8 w, fun w' r => ?_⟩
  refine (?_ : CK Tryd.prog true false y.Fz (y.x Tryd.prog).Ex (y.x Tryd.prog).AtAcq (Kv y) O _) w' (kx y O w w' r hw)
  exact ck_pur (kx y O) 3 (pur_wp6 _ _ _ u v v1 v8) (wy_conv (ask_wp6 _ _ _ u v v1 v8) (ck_stop (kx y O) (run_wp7 _ _ _ u v v1 v8) fun w hw => wp_acq t u h1 h8 v1 v8 w hw))
theorem wp_w4 (h1 : 1 ≤ y.n) (h8 : y.n ≤ 8) {v : Nat} (v1 : 1 ≤ v) (v8 : v ≤ 8) (w : World) (hw : Kv y w) : (y.x Tryd.prog).AtW4 O (wp4 Tryd.prog y.b7 (lC Tryd.prog y t y.n) y.cs u v) w := by
  intro hat
  refine ⟨_, (ask_wp4 _ _ _ u v v1 v8).step (show OkQ _ _ _ from ⟨hat.cellSt, rfl⟩), fun w' r => ?_⟩
  refine (?_ : CK Tryd.prog true false y.Fz (y.x Tryd.prog).Ex (y.x Tryd.prog).AtKe (Kv y) O _) w' (kx y O w w' r hw)
  exact ck_pur (kx y O) 11 (pur_wp5 _ _ _ u v v1 v8) (ck_stop (kx y O) (run_wp5 _ _ _ u v v1 v8) fun w hw => wp_ke t u h1 h8 v1 v8 w hw)
theorem wp_w3 (h1 : 1 ≤ y.n) (h8 : y.n ≤ 8) {v : Nat} (v1 : 1 ≤ v) (v8 : v ≤ 8) (w : World) (hw : Kv y w) : (y.x Tryd.prog).AtW3 O (wp3 Tryd.prog y.b7 (lC Tryd.prog y t y.n) y.cs u v) w := by
  have hask := ask_wp3 y.b7 (lC Tryd.prog y t y.n) y.cs u v v1 v8
  refine ⟨off_wp3 _ _ _ u v v1 v8, fun ⟨st, hat⟩ => ?_, fun hat => ?_⟩
  · refine step_block ⟨hask.kind, hask.at_⟩ hask.run (dy_wp3 _ _ _ u v v1 v8) (off_wp3 _ _ _ u v v1 v8) (blk_wp3 _ _ _ u v v1 v8) (show OkQ _ _ _ from ⟨hat.cellSm, rfl⟩)
  · refine ⟨_, hask.step (show OkQ _ _ _ from ⟨hat.cellSm, by rw [show w.cell? (smA y.b7) = _ from hat.cellSm]; rfl, hat.thaw 1, rfl⟩), fun w' r => ?_⟩
    refine (?_ : CK Tryd.prog true false y.Fz (y.x Tryd.prog).Ex (y.x Tryd.prog).AtW4 (Kv y) O _) w' (kx y O w w' r hw)
    exact ck_pur (kx y O) 16 (pur_wp4 _ _ _ u v v1 v8) (ck_stop (kx y O) (ask_wp4 _ _ _ u v v1 v8).run fun w hw => wp_w4 t u h1 h8 v1 v8 w hw)
theorem wp_wr (h1 : 1 ≤ y.n) (h8 : y.n ≤ 8) {v : Nat} (v1 : 1 ≤ v) (v8 : v ≤ 8) (w : World) (hw : Kv y w) : (y.x Tryd.prog).AtWr O (wp2 Tryd.prog y.b7 (lC Tryd.prog y t y.n) y.cs u v) w := by
  refine ⟨_, mark_wp2 _ _ _ u v v1 v8 w, fun w' r => ?_⟩
  refine (?_ : CK Tryd.prog true false y.Fz (y.x Tryd.prog).Ex (y.x Tryd.prog).AtW3 (Kv y) O _) w' (kx y O w w' r hw)
  exact ck_pur (kx y O) 23 (pur_wp3 _ _ _ u v v1 v8) (ck_stop (kx y O) (run_wp3 _ _ _ u v v1 v8) fun w hw => wp_w3 t u h1 h8 v1 v8 w hw)
theorem wp_w2 (h1 : 1 ≤ y.n) (h8 : y.n ≤ 8) {v : Nat} (v1 : 1 ≤ v) (v8 : v ≤ 8) (w : World) (hw : Kv y w) : (y.x Tryd.prog).AtW2 v O (wc Tryd.prog y.b7 (lC Tryd.prog y t y.n) y.cs u v) w := by
  intro v' hv' hat
  refine ⟨fun e => ?_, fun e => ?_⟩
  · subst e
    refine ⟨_, (ask_hit _ _ _ u v' v1 v8).step (show OkQ _ _ _ from ⟨kw_shape hw, hat.thaw 0, hat.cellSt, by rw [show w.cell? (stA y.b7) = _ from hat.cellSt]; rfl, hat.thaw 0, rfl⟩), fun w' r => ?_⟩
    refine (?_ : CK Tryd.prog true false y.Fz (y.x Tryd.prog).Ex (y.x Tryd.prog).AtWr (Kv y) O _) w' (kx y O w w' r hw)
    exact ck_pur (kx y O) 19 (pur_wp1 _ _ _ u v' v1 v8) (wy_conv (ask_wp1 _ _ _ u v' v1 v8) (ck_stop (kx y O) (run_wp2 _ _ _ u v' v1 v8) fun w hw => wp_wr t u h1 h8 v1 v8 w hw))
  · have hv8 : v' ≤ 8 := Nat.le_trans hv' h8
    refine ⟨_, (ask_miss _ _ _ u v v1 v8 v' hv8 e).step (show OkQ _ _ _ from ⟨kw_shape hw, hat.thaw 0, hat.cellSt, rfl⟩), fun w' r => ?_⟩
    refine (?_ : CK Tryd.prog true false y.Fz (y.x Tryd.prog).Ex (y.x Tryd.prog).AnchW (Kv y) O _) w' (kx y O w w' r hw)
    have hm := pur_wm y.b7 (lC Tryd.prog y t y.n) y.cs u v v1 v8
    have hh := wm_head y.b7 (lC Tryd.prog y t y.n) y.cs u v v1 v8
    have hs := wm_size y.b7 (lC Tryd.prog y t y.n) y.cs u v v1 v8
    have h0 := wm_0 y.b7 (lC Tryd.prog y t y.n) y.cs u v v1 v8
    unfold wm at hm hh hs h0
    refine ck_pur (kx y O) 9 hm ?_
    refine ck_stop (kx y O) (by rw [hh]; exact run_wtHead _ _ _) fun w hw => ⟨⟨t, _, hh, hs, h0⟩, hw⟩
end
theorem wy_w1 (t u : Nat → Value) (h1 : 1 ≤ y.n) (h8 : y.n ≤ 8) (w : World) (hw : Kv y w) : (y.x Tryd.prog).AtW1 O (wh Tryd.prog y.b7 (lC Tryd.prog y t y.n) y.cs u) w := by
  intro v hv hat
  have hv8 : v ≤ 8 := Nat.le_trans hv h8
  refine ⟨_, (ask_wh _ _ _ u ((v : Int) * 4294967296)).step (show OkQ _ _ _ from ⟨hat.cellSt, rfl⟩), fun w' r => ⟨fun e => ?_, fun e => ?_⟩⟩
  · subst e
    refine (?_ : CK Tryd.prog true false y.Fz (y.x Tryd.prog).Ex (y.x Tryd.prog).AtKe (Kv y) O _) w' (kx y O w w' r hw)
    have hz := pur_wz y.b7 (lC Tryd.prog y t y.n) y.cs u
    unfold wh1 at hz
    rw [show (((0 : Nat) : Int) * 4294967296) = 0 by omega]
    refine ck_pur (kx y O) 31 hz ?_
    have hr := run_wz y.b7 (lC Tryd.prog y t y.n) y.cs u
    have hk := fun w hw => wy_ke (O := O) t u h1 h8 w hw
    unfold wz wh1 at hr hk
    exact ck_stop (kx y O) hr hk
  · refine (?_ : CK Tryd.prog true false y.Fz (y.x Tryd.prog).Ex ((y.x Tryd.prog).AtW2 v) (Kv y) O _) w' (kx y O w w' r hw)
    have v1 : 1 ≤ v := Nat.pos_of_ne_zero e
    have hz := pur_wc y.b7 (lC Tryd.prog y t y.n) y.cs u v v1 hv8
    unfold wh1 at hz
    refine ck_pur (kx y O) 48 hz ?_
    have hr := run_wc y.b7 (lC Tryd.prog y t y.n) y.cs u v v1 hv8
    have hk := fun w hw => wp_w2 (O := O) t u h1 h8 v1 hv8 w hw
    unfold wc wh1 at hr hk
    exact ck_stop (kx y O) hr hk
theorem anchW_way (h1 : 1 ≤ y.n) (h8 : y.n ≤ 8) (g : Goroutine) (w : World) (h : anchW Tryd.prog y O g w) : (y.x Tryd.prog).CoM (y.x Tryd.prog).AtW1 O g w := by
  obtain ⟨⟨t, T, hg, hT, t0⟩, hw⟩ := h
  obtain ⟨v0, u, hTe⟩ := arr84 T hT
  rw [hTe] at hg t0
  have e0 : v0 = ptr y.b7 := Option.some.inj t0
  rw [hg, e0]
  have hr := run_wh y.b7 (lC Tryd.prog y t y.n) y.cs u
  have hk := fun w hw => wy_w1 (O := O) t u h1 h8 w hw
  unfold wh at hr hk
  exact ck_pur (kx y O) 16 (pur_wh y.b7 (lC Tryd.prog y t y.n) y.cs u) (ck_stop (kx y O) hr hk) w hw
end
section
variable [Payload] {y : Lk} {O : Nat → Prop}
theorem go_end (h1 : 1 ≤ y.n) (h8 : y.n ≤ 8) (t : Nat → Value) : CK Tryd.prog true false y.Fz (y.x Tryd.prog).Ex ((y.x Tryd.prog).AtGo 0) (Kv y) O (lHead Tryd.prog y (sL y y.n y.n t)) := by
  have hw0 := lW_wait y t y.n h1 h8
  unfold lW at hw0
  refine ck_pur (kx y O) 10 (pur_lW y t y.n h1 h8) ?_
  rw [hw0]
  refine ck_pur (kx y O) 3 (pur_wt0 _ _ _) (ck_stop (kx y O) (run_wt0 _ _ _) fun w hw => ⟨_, mark_wt0 _ _ _ w, fun w' r => ?_⟩)
  refine (?_ : CK Tryd.prog true false y.Fz (y.x Tryd.prog).Ex (y.x Tryd.prog).AnchW (Kv y) O _) w' (kx y O w w' r hw)
  have hh := wt1_head y.b7 (lC Tryd.prog y t y.n) y.cs
  exact ck_pur (kx y O) 3 (pur_wt1 _ _ _) (ck_stop (kx y O) (by rw [hh]; exact run_wtHead _ _ _) fun w hw => ⟨⟨t, _, hh, wt1_size _ _ _, wt1_0 _ _ _⟩, hw⟩)
theorem go_way (ok : y.Ok Tryd.prog) (h1 : 1 ≤ y.n) (h8 : y.n ≤ 8) : ∀ (r i : Nat), i + r = y.n → ∀ T : Array Value, SlL y y.n i T → CK Tryd.prog true false y.Fz (y.x Tryd.prog).Ex ((y.x Tryd.prog).AtGo r) (Kv y) O (lHead Tryd.prog y T)
  | 0, i, hr, T, hT => by
    obtain ⟨t, e⟩ := hT.form
    have hi : i = y.n := by omega
    rw [e, hi]
    exact go_end h1 h8 t
  | r + 1, i, hr, T, hT => by
    obtain ⟨t, e⟩ := hT.form
    rw [e]
    have hi : i < y.n := by omega
    have hrun := run_lS y t y.n h1 h8 i hi
    have hgo := go_lS y t y.n h1 h8 i hi
    have hsp := pur_spw y t y.n h1 h8 i hi
    have hhd := spw_head y t y.n h1 h8 i hi
    have hok := spw_ok y t y.n h1 h8 i hi
    unfold lS at hrun hgo hsp hhd hok
    refine ck_pur (kx y O) 11 (pur_lS y t y.n h1 h8 i hi) (ck_stop (kx y O) hrun fun w hw => ⟨_, _, hgo w, fun w' rl => ?_, fun w' rl => kid_way ok w' (kx y _ w w' rl hw).kw⟩)
    refine (?_ : CK Tryd.prog true false y.Fz (y.x Tryd.prog).Ex ((y.x Tryd.prog).AtGo r) (Kv y) O _) w' (kx y O w w' rl hw)
    refine ck_pur (kx y O) 7 hsp ?_
    rw [hhd]
    exact go_way ok h1 h8 r (i + 1) (by omega) _ hok
theorem add_way (ok : y.Ok Tryd.prog) (h1 : 1 ≤ y.n) (h8 : y.n ≤ 8) (t : Nat → Value) : CK Tryd.prog true false y.Fz (y.x Tryd.prog).Ex (y.x Tryd.prog).AtAd (Kv y) O (atC Tryd.prog 25 6 (sT y y.n t) y.cs) := by
  have r1 := run_lA1 y t y.n h1 h8
  have m1 := mark_lA1 y t y.n h1 h8
  have p3 := pur_lA3 y t y.n h1 h8
  have a3 := ask_lA3 y t y.n h1 h8
  have p4 := pur_lA4 y t y.n h1 h8
  have a4 := ask_lA4 y t y.n h1 h8
  have r5 := run_lA5 y t y.n h1 h8
  have m5 := mark_lA5 y t y.n h1 h8
  have p6 := pur_lA6 y t y.n h1 h8
  have r6 := run_lA6 y t y.n h1 h8
  have m6 := mark_lA6 y t y.n h1 h8
  have p7 := pur_lA7 y t y.n h1 h8
  have h7 := lA7_head y t y.n h1 h8
  have k7 := lA7_ok y t y.n h1 h8
  refine ck_pur (kx y O) 16 (pur_lA1 y t y.n h1 h8) (ck_stop (kx y O) (by unfold lA1 at r1; exact r1) fun w hw => ⟨_, by unfold lA1 at m1; exact m1 w, fun w' rl => ?_⟩)
  refine (?_ : CK Tryd.prog true false y.Fz (y.x Tryd.prog).Ex (y.x Tryd.prog).AtAa (Kv y) O (nx Tryd.prog true (lA1 Tryd.prog y t y.n))) w' (kx y O w w' rl hw)
  refine ck_pur (kx y O) 34 p3 (ck_stop (kx y O) (by have := a3.run; unfold lA3 at this; exact this) fun w hw hat => ⟨_, by have := a3.step (w := w) (w' := w.setCell (stA y.b7) (.int .u64 ((y.n : Int) * 4294967296))) (show OkQ _ _ _ from ⟨hat.cellSt, by rw [show w.cell? (stA y.b7) = _ from hat.cellSt]; rfl, hat.thaw 0, rfl⟩); unfold lA3 at this; exact this, fun w' rl => ?_⟩)
  refine (?_ : CK Tryd.prog true false y.Fz (y.x Tryd.prog).Ex (y.x Tryd.prog).AtAs (Kv y) O (go1 Tryd.prog (lA3 Tryd.prog y t y.n) (.value (.int .u64 ((y.n : Int) * 4294967296))))) w' (kx y O w w' rl hw)
  refine ck_pur (kx y O) 52 p4 ?_
  unfold lA4 at a4
  refine wy_conv a4 ?_
  unfold lA5 lA4 at r5 m5
  refine ck_stop (kx y O) r5 fun w hw => ⟨_, m5 w, fun w' rl => ?_⟩
  refine (?_ : CK Tryd.prog true false y.Fz (y.x Tryd.prog).Ex (y.x Tryd.prog).AtAe (Kv y) O (nx Tryd.prog true (lA5 Tryd.prog y t y.n))) w' (kx y O w w' rl hw)
  unfold lA6 at r6 m6
  refine ck_pur (kx y O) 39 p6 (ck_stop (kx y O) r6 fun w hw => ⟨_, m6 w, fun w' rl => ?_⟩)
  refine (?_ : CK Tryd.prog true false y.Fz (y.x Tryd.prog).Ex ((y.x Tryd.prog).AtGo y.n) (Kv y) O (nx Tryd.prog true (lA6 Tryd.prog y t y.n))) w' (kx y O w w' rl hw)
  refine ck_pur (kx y O) 10 p7 ?_
  have := go_way (O := O) ok h1 h8 y.n 0 (by omega) _ k7
  rw [← h7] at this
  exact this
end
end Go.Proofs.YtobpjijdebnaoaaDoor
namespace Go.Proofs.YtobpjijdebnaoaaDoor
open Go Go.Conc
open Go.ConcN (WgLive sumTo)
open Go.ConcR (KK wgBlock WgAt stA smA rd wr Payload)
/-- What stands there when the workers are to be started. -/
structure Lk.Beg (y : Lk) (S : Nat → Prop) : Prop where
  wg : WgAt 88 y.b7 y.w0 0 0
  nx : y.w0.heap[y.b6]? = some (.cells #[.int .i64 0] 83)
  ch : y.w0.heap[y.bc]? = some (.chan y.len #[] false 0 0 false)
  n67 : y.b6 ≠ y.b7
  n7c : y.b7 ≠ y.bc
  n6c : y.b6 ≠ y.bc
  sh : ∀ b, S b → b < y.w0.heap.size ∧ ¬ y.Fz b ∧ b ≠ y.b6 ∧ b ≠ y.b7 ∧ b ≠ y.bc
section
variable [Payload] {y : Lk} {S : Nat → Prop} {B0 : Nat}
def sg0 : Sg := { j := 0, c := 0, ph := fun _ => 0, hd := fun _ => 0, mp := 0, vs := 0, lp := 0, bl := [] }
theorem look_mid (ok : y.Ok Tryd.prog) (bg : y.Beg S) (h1 : 1 ≤ y.n) (h8 : y.n ≤ 8) {t : Nat → Value} {gs : Array Goroutine} {d : Nat} {sl : Option (Nat × Nat)} {tr : Trace} {q : Nat → Nat} (hm : y.m0 = gs.size)
    (hB : Bx Tryd.prog S B0 (atC Tryd.prog 25 6 (sT y y.n t) y.cs) y.w0 gs tr q) (hb : B0 ≤ y.b7) :
    ∃ N gs' w' sl' t', runNT Tryd.prog N (crowd gs (y.w0.at d) sl) tr = (.next (crowd gs' w' sl'), t') ∧ (y.x Tryd.prog).Fin S gs' w' t' := by
  have hlt : 0 < gs.size := (Array.getElem?_eq_some_iff.1 hB.at0).1
  have hkw : Kv y (y.w0.at d) := ⟨⟨fun _ _ => rfl, Nat.le_refl _, 0, 0, bg.wg⟩, rfl, rfl, rfl⟩
  have F : (y.x Tryd.prog).Fit := ⟨fun e => bg.n67 e.symm, bg.n7c, bg.n6c, ok.f2, h1, by show y.n < _; omega⟩
  have hno : ∀ i, inCrowd y.m0 0 i → i = 0 := fun i h => by rcases h with h | h <;> omega
  refine scan_runs F (fun O g w h => anch_way ok g w h) (fun O g w h => anchW_way h1 h8 g w h) sl (tz := tr.size) (Sx := S) (s := sg0) (j := 0) (T := fun _ => ⟨0, false, (y.x Tryd.prog).AtAd, fun _ => False, y.w0.at d, 0, 0⟩) (q := q) ?_ ?_
  · refine ⟨by show 1 ≤ y.m0; omega, by show gs.size = y.m0 + 0; omega, fun i hi => ?_, fun i g h0 h2 hg => hB.lv.old i g h0 hg, fun i hi => hB.lv.above i (by have : y.m0 + 0 ≤ i := hi; omega), ti_begin hB.past, fun _ _ _ h => h.elim, fun _ _ h => h.elim, fun b hf => ?_, fun b hs => ?_, fun b hs => (bg.sh b hs).1, fun b h => h.imp id .inl, fun _ _ _ h => h⟩
    · obtain rfl := hno i hi
      exact ⟨_, hB.at0, .inl ⟨rfl, add_way ok h1 h8 t _ hkw, Rly.refl (fun _ h => h) _⟩, hB.past.hears⟩
    · have hf' := ok.fl b hf
      refine ⟨hf'.1, fun h => ?_, fun h => (bg.sh b h).2.1 hf⟩
      rcases h with h | h | h
      · exact hf'.2.2.1 h
      · exact hf'.2.1 h
      · exact hf'.2.2.2 h
    · rcases hs with rfl | rfl | rfl
      · exact ⟨ok.low.2.1, fun h => (bg.sh _ h).2.2.2.1 rfl⟩
      · exact ⟨ok.low.1, fun h => (bg.sh _ h).2.2.1 rfl⟩
      · exact ⟨ok.low.2.2, fun h => (bg.sh _ h).2.2.2.2 rfl⟩
  · refine ⟨rfl, fun i hi => ?_, ⟨?_, ?_, bg.nx, 0, 0, false, bg.ch⟩, fun i hi hr => ?_, hB.nor _ hb⟩
    · obtain rfl := hno i hi
      refine ⟨rfl, rfl, ⟨fun h => (by cases h), fun h => absurd rfl h.1⟩, fun h => (by cases h), fun _ => rfl⟩
    · have hl := ok.most
      have hv : (y.x Tryd.prog).v sg0 = y.n := by simp [Cx.v, sg0, cnt, sumTo, Lk.cx]
      refine ⟨Nat.zero_le _, fun _ => rfl, fun h => by simp [sg0] at h, by simp [sg0], fun i h => absurd h (Nat.not_lt_zero _), fun i h => absurd h (Nat.not_lt_zero _), fun i h => absurd h (Nat.not_lt_zero _), fun h => by simp [sg0] at h, fun h => by simp [sg0] at h, fun h => by simp [sg0] at h, ?_, ?_⟩
      · simp [sg0, hands]
      · simp [sg0, Cx.pot, Cx.mw, sumTo, Lk.cx]
        omega
    · have : (y.x Tryd.prog).stv sg0 = 0 := by simp [Cx.stv, sg0]
      rw [this]
      exact bg.wg
    · obtain rfl := hno i hi
      exact absurd rfl hr.1
end
end Go.Proofs.YtobpjijdebnaoaaDoor
