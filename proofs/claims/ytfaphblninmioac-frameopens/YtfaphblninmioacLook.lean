/-
  What the calls of frame.isErased, frame.number, bytes.Equal and bytes.Clone give: whether all bytes are 255; the number of some bytes; whether two lists are the same; the same bytes in new memory.
-/
import Derived.Test.YtfaphblninmioacGood
import Derived.Laws.BytesArg
import Derived.Lib.Bytes
import Derived.Laws.AppendOwnNone
namespace Go.Proofs.Ytfaphblninmioac
open Go.RowKit
set_option linter.unusedVariables false

set_option maxHeartbeats 800000 in
theorem isErased_any (r : Bool) (a : Option Addr) (bs : List Nat) (cap : Nat) (w : World) (hr : r = true ↔ ErasedP bs) (hm : bs.length ≤ 9223372036854775807) (hL : Lies w a bs) :
    Calls Try.prog 16 #[.slice a bs.length cap] w fun e w' => e = .returned (.bool r) ∧ w' = w := by
  rcases hL with rfl | ⟨b, off, rfl, hc⟩
  · obtain rfl : r = false := by
      cases r
      · rfl
      · exact absurd (hr.1 rfl).1 (by simp)
    clear hr
    go_enter Try.func16, Try.ntmps16
    go_wp2
    go_loop [7] (fun i => i = .int .i64 0) (fun _ => 0)
    case atStart => rfl
    case round =>
      subst hrel
      go_wp2
      go_ret
      exact ⟨rfl, rfl⟩
  · have HR : Hid (r = true ↔ ErasedP bs) := hr
    clear hr
    go_enter Try.func16, Try.ntmps16
    go_wp2
    go_loop [7] (fun i => ∃ k : Nat, k ≤ bs.length ∧ i = .int .i64 k ∧ Hid (∀ j, j < k → bs[j]?.getD 0 = 255)) (fun i => bs.length - (intOf i).toNat)
    case atStart => exact ⟨0, by omega, rfl, fun j h => by omega⟩
    case round =>
      obtain ⟨k, hk, rfl, hall⟩ := hrel
      by_cases hlt : k < bs.length
      · have hck := hc k hlt
        by_cases h255 : bs[k]?.getD 0 = 255
        · have HN : Hid (∀ j, j < k + 1 → bs[j]?.getD 0 = 255) := fun j hj => by
            by_cases e : j = k
            · subst e; exact h255
            · exact hall.out j (by omega)
          rw [h255] at hck
          clear h255 hall hc
          go_wp2
          go_round
          case rel => exact ⟨k + 1, by omega, by go_num, HN.out⟩
          case measure => simp [intOf]; omega
        · obtain rfl : r = false := by
            cases r
            · rfl
            · exact absurd ((HR.out.1 rfl).2 k hlt) h255
          generalize bs[k]?.getD 0 = X at hck h255
          have hx : ((X : Int) != 255) = true := by simp; omega
          clear h255 hall hc
          go_wp2
          go_ret
          exact ⟨rfl, rfl⟩
      · obtain rfl : k = bs.length := by omega
        by_cases h0 : bs.length = 0
        · obtain rfl : r = false := by
            cases r
            · rfl
            · exact absurd (HR.out.1 rfl).1 (by omega)
          have H0 : Hid (decide (0 < bs.length) = false) := decide_eq_false (by omega)
          clear h0
          go_wp2
          go_ret
          refine ⟨?_, rfl⟩
          show Ending.returned (.bool (decide (0 < bs.length))) = _
          rw [H0.out]
        · obtain rfl : r = true := HR.out.2 ⟨by omega, hall.out⟩
          have H0 : Hid (decide (0 < bs.length) = true) := decide_eq_true (by omega)
          clear h0
          go_wp2
          go_ret
          refine ⟨?_, rfl⟩
          show Ending.returned (.bool (decide (0 < bs.length))) = _
          rw [H0.out]

theorem wrapEq (x : Int) : IntKind.i64.wrap x = wrap64 x := by rw [IntKind.wrap_i64]; unfold wrap64; omega
/-- A number as an int of 64 bits has it. -/
def wr (n : Nat) : Int := IntKind.i64.wrap (n : Int)
theorem wr_small {n : Nat} (h : n < 9223372036854775808) : wr n = (n : Int) := by unfold wr; rw [IntKind.wrap_i64]; omega
theorem wr_neg {n : Nat} (h : 9223372036854775808 ≤ n) (h2 : n < 18446744073709551616) : wr n < 0 := by unfold wr; rw [IntKind.wrap_i64]; omega
theorem wr_bits {n : Nat} (h : n < 18446744073709551616) : (BitVec.ofInt 64 (wr n)).toNat = n := by
  rw [BitVec.toNat_ofInt]
  unfold wr
  rw [IntKind.wrap_i64]
  omega
theorem or_wr {a b : Nat} (ha : a < 18446744073709551616) (hb : b < 18446744073709551616) : bits .or .i64 (wr a) (wr b) = wr (a ||| b) := by
  show IntKind.i64.wrap ((BitVec.ofInt 64 (wr a) ||| BitVec.ofInt 64 (wr b)).toNat : Int) = _
  rw [BitVec.toNat_or, wr_bits ha, wr_bits hb]
  rfl
theorem or_num (l : List Nat) (B : Nat) (hl : AllB l) (hB : B < 256) (hk : l.length < 8) : bits .or .i64 (wr (num l)) (IntKind.i64.wrap ((B : Int) * 2 ^ (8 * l.length))) = wr (num (l ++ [B])) := by
  have e : (B : Int) * 2 ^ (8 * l.length) = ((B * 2 ^ (8 * l.length) : Nat) : Int) := by simp
  have h1 := num_lt l hl
  have hp : 2 ^ (8 * l.length) * 256 ≤ 18446744073709551616 := by
    have : 2 ^ (8 * (l.length + 1)) ≤ 2 ^ 64 := Nat.pow_le_pow_right (by decide) (by omega)
    rw [pow8] at this
    omega
  rw [e, ← num_or l B hl]
  refine or_wr (by omega) ?_
  generalize 2 ^ (8 * l.length) = P at *
  have h3 : B * P ≤ 255 * P := Nat.mul_le_mul_right _ (by omega)
  have h4 : 0 < P := by omega
  omega
set_option maxHeartbeats 800000 in
theorem number_any (b off : Nat) (bs : List Nat) (cap : Nat) (w : World) (hn : bs.length ≤ 8) (hA : AllB bs) (hc : ∀ i, i < bs.length → w.cell? ⟨b, off + i, none⟩ = some (.int .u8 ((bs[i]?.getD 0 : Nat) : Int))) :
    Calls Try.prog 26 #[.slice (some ⟨b, off, none⟩) bs.length cap] w fun e w' => e = .returned (.int .i64 (wr (num bs))) ∧ w' = w := by
  go_enter Try.func26, Try.ntmps26
  go_wp2
  go_loop [3, 8] (fun t i => ∃ k : Nat, k ≤ bs.length ∧ i = .int .i64 k ∧ t = .int .i64 (wr (num (bs.take k)))) (fun _ i => bs.length - (intOf i).toNat)
  case atStart => exact ⟨0, by omega, rfl, rfl⟩
  case round =>
    obtain ⟨k, hk, rfl, rfl⟩ := hrel
    by_cases hlt : k < bs.length
    · have hck := hc k hlt
      have hzk := hA.at k
      have HS : Hid (bits .or .i64 (wr (num (bs.take k))) (wrap64 (((bs[k]?.getD 0 : Nat) : Int) * 2 ^ (8 * k))) = wr (num (bs.take (k + 1)))) := by
        have hl : (bs.take k).length = k := by rw [List.length_take]; omega
        have := or_num (bs.take k) (bs[k]?.getD 0) (hA.take k) hzk (by omega)
        rw [hl] at this
        rw [take_snocN bs k hlt, ← wrapEq]
        exact this
      generalize wr (num (bs.take k)) = V at HS ⊢
      generalize bs[k]?.getD 0 = B at hck hzk HS
      clear hc
      go_wp2
      go_round
      case rel => exact ⟨k + 1, by omega, by go_num, val_int HS.out⟩
      case measure => simp [intOf]; omega
    · obtain rfl : k = bs.length := by omega
      go_wp2
      go_ret
      exact ⟨rfl, rfl⟩

def numsZ (xs : List Nat) : List Int := xs.map Int.ofNat
theorem str_eq (xs ys : List Nat) (hx : AllB xs) (hy : AllB ys) : ((strOfNums (numsZ xs)).toList == (strOfNums (numsZ ys)).toList) = decide (xs = ys) := by
  by_cases h : xs = ys
  · subst h; simp
  · rw [decide_eq_false h, beq_eq_false_iff_ne]
    intro e
    apply h
    have e2 := e
    rw [Lib.strOfNums_toList, Lib.strOfNums_toList] at e2
    unfold Lib.bytesOf at e2
    have hb : ∀ l : List Nat, AllB l → ((numsZ l).map fun n => UInt8.ofNat n.toNat).map UInt8.toNat = l := fun l hl => by
      unfold numsZ
      rw [List.map_map, List.map_map]
      conv => rhs; rw [← List.map_id l]
      apply List.map_congr_left
      intro x hx
      have := hl x hx
      simp
      omega
    rw [← hb xs hx, ← hb ys hy, e2]
theorem numsZ_cell {w : World} {b off : Nat} {xs : List Nat} (hc : ∀ i, i < xs.length → w.cell? ⟨b, off + i, none⟩ = some (.int .u8 ((xs[i]?.getD 0 : Nat) : Int))) : ∀ i, i < xs.length → w.cell? ⟨b, off + i, none⟩ = some (.int .u8 ((numsZ xs).getD i 0)) := fun i hi => by
  rw [hc i hi]
  unfold numsZ
  rw [List.getD_eq_getElem?_getD, List.getElem?_map, List.getElem?_eq_getElem hi]
  rfl
set_option maxHeartbeats 800000 in
theorem equal_any (b off : Nat) (xs : List Nat) (c : Nat) (b2 off2 : Nat) (ys : List Nat) (c2 : Nat) (w : World) (hx : AllB xs) (hy : AllB ys)
    (h1 : ∀ i, i < xs.length → w.cell? ⟨b, off + i, none⟩ = some (.int .u8 ((xs[i]?.getD 0 : Nat) : Int))) (h2 : ∀ i, i < ys.length → w.cell? ⟨b2, off2 + i, none⟩ = some (.int .u8 ((ys[i]?.getD 0 : Nat) : Int))) :
    Calls Try.prog 18 #[.slice (some ⟨b, off, none⟩) xs.length c, .slice (some ⟨b2, off2, none⟩) ys.length c2] w fun e w' => e = .returned (.bool (decide (xs = ys))) ∧ w' = w := by
  have e1 := run_convert_bytes_arg (P := Try.prog) w 22 5 Try.underlying22 Try.underlying5 b off xs.length c (numsZ xs) (by simp [numsZ]) (numsZ_cell h1) 9 Try.underlying9
  have e2 := run_convert_bytes_arg (P := Try.prog) w 22 5 Try.underlying22 Try.underlying5 b2 off2 ys.length c2 (numsZ ys) (by simp [numsZ]) (numsZ_cell h2) 9 Try.underlying9
  have HE : Hid (((strOfNums (numsZ xs)).toList == (strOfNums (numsZ ys)).toList) = decide (xs = ys)) := str_eq xs ys hx hy
  clear h1 h2
  generalize strOfNums (numsZ xs) = S at e1 HE
  generalize strOfNums (numsZ ys) = T at e2 HE
  go_enter Try.func18, Try.ntmps18
  go_wp2
  go_ret
  rw [← HE.out]
  exact ⟨rfl, rfl⟩
end Go.Proofs.Ytfaphblninmioac
