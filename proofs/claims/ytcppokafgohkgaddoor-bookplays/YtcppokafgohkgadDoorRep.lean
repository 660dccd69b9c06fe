/-
  What the call of slices.Repeat gives of one -1: so many of them, in a new block.
-/
import Derived.Test.YtcppokafgohkgadDoorBase
import Derived.Laws.CopyOwn
import Derived.Laws.Bits64b
import Derived.RegionTactic
import Derived.Deep.RegionLaw
namespace Go.Proofs.YtcppokafgohkgadDoor
open Go.RowKit
set_option linter.unusedVariables false

theorem andY (y : Nat) (hy : y ≤ 4096) : bits .and .u64 (y : Int) 4294967295 = (y : Int) := by
  have h := bits_and_u64_nat y 4294967295 (by omega) (by omega)
  have e : y &&& 4294967295 = y % 4294967296 := Nat.and_two_pow_sub_one_eq_mod y 32
  rw [e, Nat.mod_eq_of_lt (by omega)] at h
  exact h
theorem and0 : bits .and .u64 (0 : Int) 4294967295 = (0 : Int) := by kernel_rfl
theorem and1 : bits .and .u64 (1 : Int) 4294967295 = (1 : Int) := by kernel_rfl
theorem wrap0 : IntKind.u64.wrap (0 : Int) = 0 := by kernel_rfl
theorem divY (y : Nat) (hy : y ≤ 4096) : (y : Int) / 4294967296 = 0 := by omega
theorem wrapY (y : Nat) (hy : y ≤ 4096) : IntKind.u64.wrap (y : Int) = (y : Int) := by rw [IntKind.wrap_u64]; omega
set_option maxRecDepth 100000 in
set_option maxHeartbeats 1000000 in
theorem mul64_one (y : Nat) (hy : y ≤ 4096) (w : World) : Calls Tryd.prog 47 #[.int .u64 1, .int .u64 (y : Int)] w fun e w' => e = .returned (.tuple #[.int .u64 0, .int .u64 (y : Int)]) ∧ w' = w := by
  have e1 := andY y hy
  have e2 := divY y hy
  have e3 := wrapY y hy
  go_enter Tryd.func47, Tryd.ntmps47
  go_wp2
  simp only [and1, Int.one_mul, wrapY y hy, divY y hy, wrap0, and0, Int.zero_ediv, Int.add_zero]
  go_ret2
  exact ⟨rfl, rfl⟩
set_option maxRecDepth 100000 in
set_option maxHeartbeats 1000000 in
theorem mul_one' (y : Nat) (hy : y ≤ 4096) (w : World) : Calls Tryd.prog 41 #[.int .u64 1, .int .u64 (y : Int)] w fun e w' => e = .returned (.tuple #[.int .u64 0, .int .u64 (y : Int)]) ∧ w' = w := by
  have HM := mul64_one y hy w
  go_enter Tryd.func41, Tryd.ntmps41
  go_wp2_with (go_at_call 47; refine HM.mono ?_; rintro e w' ⟨rfl, rfl⟩)
  go_ret2
  exact ⟨rfl, rfl⟩
theorem infoInt : (Tryd.prog.info? 3).map (fun i => (i.zero, i.size, i.bytes)) = some (some (.int .i64 0), 1, 8) := by kernel_rfl
theorem sizeInt : (Tryd.prog.info? 3).map (·.size) = some 1 := by kernel_rfl
/-- m times -1, then noughts. -/
def rowM (n m : Nat) : List Value := List.replicate m (.int .i64 (-1)) ++ List.replicate (n - m) (.int .i64 0)
theorem rowM_len {n m : Nat} (h : m ≤ n) : (rowM n m).length = n := by simp [rowM]; omega
theorem rowM_zero (n : Nat) : rowM n 0 = List.replicate n (.int .i64 0) := by simp [rowM]
theorem rowM_full (n : Nat) : rowM n n = List.replicate n (.int .i64 (-1)) := by simp [rowM]
theorem rowM_splice {n m k : Nat} (h : m + k ≤ n) : splice (rowM n m) m (List.replicate k (.int .i64 (-1))) = rowM n (m + k) := by
  unfold splice rowM
  rw [List.take_append_of_le_length (by simp), List.take_of_length_le (by simp), List.drop_append, List.drop_of_length_le (by simp), List.nil_append]
  simp only [List.length_replicate, List.drop_replicate]
  rw [show m + k - m = k by omega, show n - m - k = n - (m + k) by omega, ← List.append_assoc, List.replicate_append_replicate]
theorem rowM_at {n m j : Nat} (h : j < m) : (rowM n m)[j]? = some (.int .i64 (-1)) := by
  unfold rowM
  rw [List.getElem?_append_left (by simpa using h)]
  simp [h]
theorem made_ints (n : Nat) (hn : n ≤ 4096) (w : World) : (Instr.makeSlice 53 (.int .i64 (n : Int)) (.int .i64 (n : Int))).run Tryd.prog w = .ok (.slice (some ⟨w.heap.size, 0, none⟩) n n) (w.alloc (.cells (rowM n 0).toArray 3)) := by
  obtain ⟨i0, hi, hz0, hz1, hz2⟩ := info_parts infoInt
  have h := run_make (P := Tryd.prog) w 53 3 i0 (.int .i64 0) Tryd.underlying53 hi hz0 .i64 .i64 n n (by omega) (by omega) (by rw [hz2]; omega) (by omega)
  rw [h]
  have e : madeCells (Value.int .i64 0).cells ((n : Int).toNat * i0.size) = (rowM n 0).toArray := by
    rw [rowM_zero]
    apply Array.toList_inj.1
    rw [hz1, Int.toNat_natCast, Nat.mul_one]
    exact toList_madeCells_one (Value.int .i64 0) n
  rw [e]
  simp
theorem add0 (b o j : Nat) : (⟨b, o, none⟩ : Addr).add j = ⟨b, o + j, none⟩ := by unfold Addr.add; split <;> simp_all
end Go.Proofs.YtcppokafgohkgadDoor
