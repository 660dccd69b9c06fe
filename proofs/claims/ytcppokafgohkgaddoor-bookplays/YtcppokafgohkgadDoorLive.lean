/-
  What the call of a book's Live gives: how many places hold something.
-/
import Derived.Test.YtcppokafgohkgadDoorAsk
namespace Go.Proofs.YtcppokafgohkgadDoor
open Go.RowKit
set_option linter.unusedVariables false

/-- WHAT Live TELLS. -/
def liveF (P : Nat) (s : Bk) (x y : Int) : Nat × Nat := if x < 0 ∨ (P : Int) < y ∨ y < x then (0, 1) else (cntN (fun i => s.lb (x.toNat + i)) (y - x).toNat, 0)
theorem liveF_no {P : Nat} {s : Bk} {x y : Int} (h : x < 0 ∨ (P : Int) < y ∨ y < x) : liveF P s x y = (0, 1) := if_pos h
theorem liveF_some {P f k : Nat} {s : Bk} (h : f + k ≤ P) : liveF P s (f : Int) ((f : Int) + (k : Int)) = (cntN (fun i => s.lb (f + i)) k, 0) := by
  unfold liveF
  rw [if_neg (by omega), Int.toNat_natCast, show ((f : Int) + (k : Int) - (f : Int)).toNat = k by omega]
theorem slice_lh (g n f k : Nat) (h : f + k ≤ n) (w : World) : ∃ o, (Instr.slice 53 (.slice (some ⟨g, 0, none⟩) n n) (some (.int .i64 (f : Int))) (some (.int .i64 ((f : Int) + (k : Int)))) none).run Tryd.prog w = .ok (.slice (some ⟨g, o, none⟩) k (n - f)) w ∧ (0 < k → o = f) := by
  have hu : Tryd.prog.underlying 53 = some (.slice (Tryd.prog.elem 53)) := by kernel_rfl
  have hs : (sizeOf (Tryd.prog.elem 53)).run Tryd.prog w = .ok 1 w := by kernel_rfl
  have e := run_slice_lh w 53 (some ⟨g, 0, none⟩) n n hu .i64 .i64 (f : Int) ((f : Int) + (k : Int)) (by omega) (by omega) (by omega)
  rw [hs] at e
  have e1 : ((f : Int) + (k : Int)).toNat = f + k := by omega
  by_cases hn : n = f
  · refine ⟨0, ?_, fun h0 => by omega⟩
    rw [e]
    simp [Result.andThen, sliced, hn, e1]
  · refine ⟨f, ?_, fun _ => rfl⟩
    rw [e]
    have hadd : (⟨g, 0, none⟩ : Addr).add f = ⟨g, f, none⟩ := by unfold Addr.add; split <;> simp_all
    simp [Result.andThen, sliced, hn, e1, hadd]
set_option maxRecDepth 100000 in
set_option maxHeartbeats 2000000 in
theorem live_no {L P : Nat} {w : World} {bb ab ob : Nat} {s : Bk} (h : BO L P w bb ab ob s) (x y : Int) (hxy : x < 0 ∨ (P : Int) < y ∨ y < x) :
    Calls Tryd.prog 23 #[.pointer (some ⟨bb, 0, none⟩), .int .i64 x, .int .i64 y] w fun e w' => e = .returned (.tuple #[.int .i64 0, .iface 37 (.int .i64 1)]) ∧ w' = w := by
  have c1 := h.bw.c1
  have hp2 := h.bw.p2
  clear h
  by_cases h1 : x < 0
  · have t1 : decide (x < 0) = true := decide_eq_true h1
    clear hxy h1
    go_enter Tryd.func23, Tryd.ntmps23
    go_wp2
    go_ret2
    exact ⟨rfl, rfl⟩
  have t1 : decide (x < 0) = false := decide_eq_false h1
  by_cases h2 : (P : Int) < y
  · have t2 : decide ((P : Int) < y) = true := decide_eq_true h2
    clear hxy h1 h2
    go_enter Tryd.func23, Tryd.ntmps23
    go_wp2
    go_ret2
    exact ⟨rfl, rfl⟩
  have t2 : decide ((P : Int) < y) = false := decide_eq_false h2
  have t3 : decide (y < x) = true := decide_eq_true (by omega)
  clear hxy h1 h2
  go_enter Tryd.func23, Tryd.ntmps23
  go_wp2
  go_ret2
  exact ⟨rfl, rfl⟩
set_option maxRecDepth 100000 in
set_option maxHeartbeats 2000000 in
theorem live_yes {L P : Nat} {w : World} {bb ab ob : Nat} {s : Bk} (h : BO L P w bb ab ob s) (f k : Nat) (hk : f + k ≤ P) :
    Calls Tryd.prog 23 #[.pointer (some ⟨bb, 0, none⟩), .int .i64 (f : Int), .int .i64 ((f : Int) + (k : Int))] w fun e w' => e = .returned (.tuple #[.int .i64 (cntN (fun i => s.lb (f + i)) k : Int), .nilIface]) ∧ w' = w := by
  have c1 := h.bw.c1
  have hp2 := h.bw.p2
  obtain ⟨o, sl, ho⟩ := slice_lh ob P f k hk w
  have HR : Hid (∀ j, j < k → w.cell? ⟨ob, f + j, none⟩ = some (.int .i64 (s.lb (f + j)))) := fun j hj => h.bw.ro.cell (f + j) (by omega)
  have t1 : ¬ ((f : Int) < 0) := by omega
  have t2 : ¬ ((P : Int) < (f : Int) + (k : Int)) := by omega
  have t3 : ¬ ((f : Int) + (k : Int) < (f : Int)) := by omega
  have HO : Hid (0 < k → o = f) := ho
  clear h ho
  go_enter Tryd.func23, Tryd.ntmps23
  go_wp2
  clear sl
  go_loopw [8, 36] (fun a j wr => ∃ m : Nat, m ≤ k ∧ j = .int .i64 m ∧ a = .int .i64 (cntN (fun i => s.lb (f + i)) m : Int) ∧ wr = w) (fun _ j _ => k - (intOf j).toNat)
  case atStart => exact ⟨0, Nat.zero_le _, rfl, rfl, rfl⟩
  case round =>
    obtain ⟨m, hm, rfl, rfl, rfl⟩ := hrel
    by_cases hlt : m < k
    · obtain rfl := HO.out (by omega)
      have q := HR.out m hlt
      have hle := cntN_le (fun i => s.lb (o + i)) m
      by_cases he : s.lb (o + m) = -1
      · have HC : Hid (cntN (fun i => s.lb (o + i)) (m + 1) = cntN (fun i => s.lb (o + i)) m) := by show cntN (fun i => s.lb (o + i)) (m + 1) = _; rw [cntN, if_pos he]; rfl
        rw [he] at q
        clear he
        generalize cntN (fun i => s.lb (o + i)) m = X at *
        go_wp2
        exact ⟨⟨m + 1, by omega, by go_num, by rw [HC.out], trivial⟩, by simp [intOf]; omega⟩
      · have HC : Hid (cntN (fun i => s.lb (o + i)) (m + 1) = cntN (fun i => s.lb (o + i)) m + 1) := by show cntN (fun i => s.lb (o + i)) (m + 1) = _; rw [cntN, if_neg he]
        have t : (s.lb (o + m) != -1) = true := bne_iff_ne.2 he
        clear he
        generalize cntN (fun i => s.lb (o + i)) m = X at *
        generalize s.lb (o + m) = Y at *
        go_wp2
        exact ⟨⟨m + 1, by omega, by go_num, by rw [HC.out]; go_num, trivial⟩, by simp [intOf]; omega⟩
    · obtain rfl : m = k := by omega
      go_wp2
      go_ret2
      exact ⟨rfl, rfl⟩
theorem live_any {L P : Nat} {w : World} {bb ab ob : Nat} {s : Bk} (h : BO L P w bb ab ob s) (x y : Int) :
    Calls Tryd.prog 23 #[.pointer (some ⟨bb, 0, none⟩), .int .i64 x, .int .i64 y] w fun e w' => e = .returned (.tuple #[.int .i64 ((liveF P s x y).1 : Int), errI (liveF P s x y).2]) ∧ w' = w := by
  by_cases hxy : x < 0 ∨ (P : Int) < y ∨ y < x
  · rw [liveF_no hxy]
    exact live_no h x y hxy
  · obtain ⟨f, rfl⟩ : ∃ f : Nat, x = (f : Int) := ⟨x.toNat, by omega⟩
    obtain ⟨k, rfl⟩ : ∃ k : Nat, y = (f : Int) + (k : Int) := ⟨(y - (f : Int)).toNat, by omega⟩
    have hk : f + k ≤ P := by omega
    rw [liveF_some hk]
    exact live_yes h f k hk
end Go.Proofs.YtcppokafgohkgadDoor
