/-
  The walk of slices.Repeat at one -1: so many of them, in a new block.
-/
import Derived.Test.YtcppokafgohkgadDoorRep
namespace Go.Proofs.YtcppokafgohkgadDoor
open Go.RowKit
set_option linter.unusedVariables false

theorem rep_start {w : World} {n xb : Nat} (h1 : 1 ≤ n) (hx : w.heap[xb]? = some (.cells #[.int .i64 (-1)] 3 (0, 0))) :
    (w.alloc (.cells (rowM n 0).toArray 3)).heap[w.heap.size]? = some (.cells (rowM n 0).toArray 3 (0, 0)) ∧ Below w.heap.size w (w.alloc (.cells (rowM n 0).toArray 3)) ∧ (w.alloc (.cells (rowM n 0).toArray 3)).cell? ⟨xb, 0, none⟩ = some (.int .i64 (-1)) := by
  have hb : Below w.heap.size w (w.alloc (.cells (rowM n 0).toArray 3)) := (Below.refl _ _).alloc (Nat.le_refl _) _
  refine ⟨heap_alloc_new w _, hb, ?_⟩
  rw [hb.cell (p := ⟨xb, 0, none⟩) (heap_lt hx)]
  simp [World.cell?, hx]
/-- The first copy. -/
theorem rep_src {W : World} {xb : Nat} (h : W.cell? ⟨xb, 0, none⟩ = some (.int .i64 (-1))) : ∀ j v, (List.replicate 1 (Value.int .i64 (-1)))[j]? = some v → W.cell? ((⟨xb, 0, none⟩ : Addr).add j) = some v := by
  intro j v hj
  have h0 : j = 0 := by
    have := (List.getElem?_eq_some_iff.1 hj).1
    simpa using this
  subst h0
  simp at hj
  subst hj
  rw [add0]
  exact h
/-- The others, out of the row itself. -/
theorem rep_self {W : World} {g n m k : Nat} (h : W.heap[g]? = some (.cells (rowM n m).toArray 3 (0, 0))) (hk : k ≤ m) : ∀ j v, (List.replicate k (Value.int .i64 (-1)))[j]? = some v → W.cell? ((⟨g, 0, none⟩ : Addr).add j) = some v := by
  intro j v hj
  have h0 : j < k := by
    have := (List.getElem?_eq_some_iff.1 hj).1
    simpa using this
  have hv : v = .int .i64 (-1) := by
    simp [h0] at hj
    exact hj.symm
  subst hv
  rw [add0]
  simp only [World.cell?, h]
  simpa using rowM_at (n := n) (m := m) (j := j) (by omega)
theorem rep_one (k : Nat) : ∀ v ∈ List.replicate k (Value.int .i64 (-1)), v.oneCell' = true := by
  intro v hv
  rw [(List.mem_replicate.1 hv).2]
  rfl
/-- The first copy, as an equation. -/
theorem rep_copy {W w : World} {n xb g : Nat} (h1 : 1 ≤ n) (hg : W.heap[g]? = some (.cells (rowM n 0).toArray 3 (0, 0))) (hx : W.cell? ⟨xb, 0, none⟩ = some (.int .i64 (-1))) (hb : Below g w W) :
    ∃ W2, (Builtin.copy_ #[53, 53] 3 #[.slice (some ⟨g, 0, none⟩) n n, .slice (some ⟨xb, 0, none⟩) 1 1]).run Tryd.prog W = .ok (.int .i64 1) W2 ∧ W2.heap[g]? = some (.cells (rowM n 1).toArray 3 (0, 0)) ∧ Below g w W2 := by
  have h := run_copy_row (P := Tryd.prog) W 53 53 3 3 g 0 n n ⟨xb, 0, none⟩ 1 1 (rowM n 0).toArray 3 (List.replicate 1 (.int .i64 (-1))) Tryd.underlying53 sizeInt hg (by rw [List.length_replicate]; exact (Nat.min_eq_left h1).symm) (rep_src hx) (by simp [rowM_len]; omega) (rep_one 1)
  refine ⟨_, h, ?_, below_setRow hb (Nat.le_refl _) _⟩
  rw [setRow_heap W g _ _ 3 _ hg]
  have e := rowM_splice (n := n) (m := 0) (k := 1) (by omega)
  unfold splice at e
  rw [Nat.zero_add] at e
  rw [← e]
  simp
theorem rep_more {W w : World} {n m g : Nat} (h1 : 1 ≤ m) (h2 : m < n) (hg : W.heap[g]? = some (.cells (rowM n m).toArray 3 (0, 0))) (hb : Below g w W) :
    ∃ W2, (Builtin.copy_ #[53, 53] 3 #[.slice (some ⟨g, m, none⟩) (n - m) (n - m), .slice (some ⟨g, 0, none⟩) m n]).run Tryd.prog W = .ok (.int .i64 ((Nat.min m (n - m) : Nat) : Int)) W2 ∧ W2.heap[g]? = some (.cells (rowM n (m + Nat.min m (n - m))).toArray 3 (0, 0)) ∧ Below g w W2 := by
  obtain ⟨k, hk⟩ : ∃ k, k = Nat.min m (n - m) := ⟨_, rfl⟩
  have hk2 : k ≤ n - m := by rw [hk]; exact Nat.min_le_right _ _
  have hk3 : k ≤ m := by rw [hk]; exact Nat.min_le_left _ _
  have h := run_copy_row (P := Tryd.prog) W 53 53 3 3 g m (n - m) (n - m) ⟨g, 0, none⟩ m n (rowM n m).toArray 3 (List.replicate k (.int .i64 (-1))) Tryd.underlying53 sizeInt hg (by rw [List.length_replicate]; exact hk) (rep_self hg hk3) (by simp [rowM_len (Nat.le_of_lt h2)]; omega) (rep_one k)
  rw [List.length_replicate] at h
  rw [← hk]
  refine ⟨_, h, ?_, below_setRow hb (Nat.le_refl _) _⟩
  rw [setRow_heap W g _ _ 3 _ hg]
  have e := rowM_splice (n := n) (m := m) (k := k) (by omega)
  unfold splice at e
  rw [← e]
  simp
theorem slice_l (g n m : Nat) (h : m ≤ n) (hn : ¬ (n = m)) (w : World) : (Instr.slice 53 (.slice (some ⟨g, 0, none⟩) n n) (some (.int .i64 (m : Int))) none none).run Tryd.prog w = .ok (.slice (some ⟨g, m, none⟩) (n - m) (n - m)) w := by
  have hu : Tryd.prog.underlying 53 = some (.slice (Tryd.prog.elem 53)) := by kernel_rfl
  have hs : (sizeOf (Tryd.prog.elem 53)).run Tryd.prog w = .ok 1 w := by kernel_rfl
  rw [run_slice_l w 53 _ n n hu .i64 (m : Int) (by omega) (by omega), hs]
  simp [Result.andThen, sliced, hn, add0]
theorem slice_h (g n m : Nat) (h : m ≤ n) (w : World) : (Instr.slice 53 (.slice (some ⟨g, 0, none⟩) n n) none (some (.int .i64 (m : Int))) none).run Tryd.prog w = .ok (.slice (some ⟨g, 0, none⟩) m n) w := by
  have hu : Tryd.prog.underlying 53 = some (.slice (Tryd.prog.elem 53)) := by kernel_rfl
  have hs : (sizeOf (Tryd.prog.elem 53)).run Tryd.prog w = .ok 1 w := by kernel_rfl
  rw [run_slice_h w 53 _ n n hu .i64 (m : Int) (by omega) (by omega), hs]
  simp [Result.andThen, sliced, add0]
set_option maxRecDepth 100000 in
set_option maxHeartbeats 4000000 in
theorem repeat_any (n xb : Nat) (w : World) (h1 : 1 ≤ n) (h2 : n ≤ 4096) (hx : w.heap[xb]? = some (.cells #[.int .i64 (-1)] 3 (0, 0))) :
    Calls Tryd.prog 30 #[.slice (some ⟨xb, 0, none⟩) 1 1, .int .i64 (n : Int)] w fun e w' => e = .returned (.slice (some ⟨w.heap.size, 0, none⟩) n n) ∧ w'.heap[w.heap.size]? = some (.cells (rowM n n).toArray 3 (0, 0)) ∧ Below w.heap.size w w' := by
  have mk := fun wz => made_ints n h2 wz
  have HM : Hid (∀ wz, Calls Tryd.prog 41 #[.int .u64 1, .int .u64 (n : Int)] wz fun e w' => e = .returned (.tuple #[.int .u64 0, .int .u64 (n : Int)]) ∧ w' = wz) := fun wz => mul_one' n h2 wz
  have hw : IntKind.u64.wrap (n : Int) = (n : Int) := wrapY n h2
  have hw2 : IntKind.i64.wrap (n : Int) = (n : Int) := by rw [IntKind.wrap_i64]; omega
  have t1 : ¬ ((n : Int) < 0) := by omega
  have t2 : ¬ ((9223372036854775807 : Int) < (n : Int)) := by omega
  have HS : Hid ((w.alloc (.cells (rowM n 0).toArray 3)).heap[w.heap.size]? = some (.cells (rowM n 0).toArray 3 (0, 0)) ∧ Below w.heap.size w (w.alloc (.cells (rowM n 0).toArray 3)) ∧ (w.alloc (.cells (rowM n 0).toArray 3)).cell? ⟨xb, 0, none⟩ = some (.int .i64 (-1))) := rep_start h1 hx
  clear hx
  go_enter Tryd.func30, Tryd.ntmps30
  go_wp2_with fail
  refine (HM.out _).mono ?_
  rintro e w1 ⟨rfl, rfl⟩
  clear HM
  obtain ⟨w2, cp, hg2, hb2⟩ := rep_copy (w := w1) h1 HS.out.1 HS.out.2.2 HS.out.2.1
  have HA : Hid (w2.heap[w1.heap.size]? = some (.cells (rowM n 1).toArray 3 (0, 0)) ∧ Below w1.heap.size w1 w2) := ⟨hg2, hb2⟩
  clear hg2 hb2 HS
  go_wp2
  clear mk cp
  go_loopw [8] (fun j wr => ∃ m : Nat, 1 ≤ m ∧ m ≤ n ∧ j = .int .i64 m ∧ Hid (wr.heap[w1.heap.size]? = some (.cells (rowM n m).toArray 3 (0, 0)) ∧ Below w1.heap.size w1 wr)) (fun j _ => n - (intOf j).toNat)
  case atStart => exact ⟨1, Nat.le_refl _, h1, rfl, HA.out⟩
  case round =>
    obtain ⟨m, hm1, hm2, rfl, hR⟩ := hrel
    clear HA
    by_cases hlt : m < n
    · obtain ⟨k, hk⟩ : ∃ k, k = Nat.min m (n - m) := ⟨_, rfl⟩
      have hk1 : 1 ≤ k := by rw [hk]; exact Nat.le_min.2 ⟨hm1, by omega⟩
      have hk2 : m + k ≤ n := by have : k ≤ n - m := by rw [hk]; exact Nat.min_le_right _ _
                                 omega
      have hk3 : k ≤ m := by rw [hk]; exact Nat.min_le_left _ _
      have HK : Hid (k = Nat.min m (n - m)) := hk
      clear hk
      have HD : Hid (wr.drew.heap[w1.heap.size]? = some (.cells (rowM n m).toArray 3 (0, 0)) ∧ Below w1.heap.size w1 wr.drew) := ⟨hR.out.1, hR.out.2.drew⟩
      clear hR
      obtain ⟨W2, cp, hg2, hb2⟩ := rep_more (w := w1) (W := wr.drew) hm1 hlt HD.out.1 HD.out.2
      have cn : ¬ (n = m) := by omega
      have HW2 : Hid (W2.heap[w1.heap.size]? = some (.cells (rowM n (m + Nat.min m (n - m))).toArray 3 (0, 0)) ∧ Below w1.heap.size w1 W2) := ⟨hg2, hb2⟩
      rw [← HK.out] at cp HW2
      have sl1 := fun wz => slice_l w1.heap.size n m (by omega) cn wz
      have sl2 := fun wz => slice_h w1.heap.size n m (by omega) wz
      clear hg2 hb2 HD HK
      go_wp2
      go_region
      all_goals
        go_wp2
        exact ⟨⟨m + k, by omega, hk2, by go_num, HW2.out⟩, by simp [intOf]; omega⟩
    · obtain rfl : m = n := by omega
      go_wp2
      go_ret
      exact ⟨rfl, hR.out.1, hR.out.2⟩
end Go.Proofs.YtcppokafgohkgadDoor
