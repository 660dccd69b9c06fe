/-
  What the calls of math/bits.OnesCount64, OnesCount8, code.placeSum, parity and checkOf give: the number of bits, the sum of places, the check of a word; the world is as it was.
-/
import Derived.Test.YtgflkfbddiccaaaDoorCrc
import Derived.Test.YtgflkfbddiccaaaDoorMathPop
import Derived.Lib.BitFns
namespace Go.Proofs.YtgflkfbddiccaaaDoor
open Go.RowKit

theorem popAux_eq : ∀ n x, Lib.popAux n x = pop n x
  | 0, _ => rfl
  | n + 1, x => by show x % 2 + Lib.popAux n (x / 2) = _; rw [popAux_eq n (x / 2)]; rfl
theorem onesCount_eq (x : Nat) (h : x < 256) : Lib.onesCount x = pop 8 x := (popAux_eq 64 x).trans (pop_small 8 56 x h)

set_option maxHeartbeats 400000 in
theorem ones64_core (x a1 b1 y1 a2 b2 y2 c3 y3 y4 y5 y6 r : Int) (w : World)
    (h1 : bits .and .u64 (x / 2) 6148914691236517205 = a1) (h2 : bits .and .u64 x 6148914691236517205 = b1) (h3 : IntKind.u64.wrap (a1 + b1) = y1)
    (h4 : bits .and .u64 (y1 / 4) 3689348814741910323 = a2) (h5 : bits .and .u64 y1 3689348814741910323 = b2) (h6 : IntKind.u64.wrap (a2 + b2) = y2)
    (h7 : IntKind.u64.wrap (y2 / 16 + y2) = c3) (h8 : bits .and .u64 c3 1085102592571150095 = y3)
    (h9 : IntKind.u64.wrap (y3 + y3 / 256) = y4) (h10 : IntKind.u64.wrap (y4 + y4 / 65536) = y5) (h11 : IntKind.u64.wrap (y5 + y5 / 4294967296) = y6)
    (h12 : bits .and .i64 y6 127 = r) (hb0 : 0 ≤ y6) (hb : y6 < 9223372036854775808) :
    Calls Tryd.prog 34 #[.int .u64 x] w fun e w' => e = .returned (.int .i64 r) ∧ w' = w := by
  go_enter Tryd.func34, Tryd.ntmps34
  go_wp2
  go_ret
  exact ⟨rfl, rfl⟩
theorem wrap64_nat (n : Nat) (h : n < 18446744073709551616) : IntKind.u64.wrap (n : Int) = n := by rw [IntKind.wrap_u64]; omega
theorem ones64_any (x : Nat) (w : World) (hx : x < 18446744073709551616) :
    Calls Tryd.prog 34 #[.int .u64 x] w fun e w' => e = .returned (.int .i64 (pop 64 x : Nat)) ∧ w' = w := by
  obtain ⟨y1, y2, y3, e1, e2, e3, l1, l2, l3, er⟩ := ones_road x hx
  have f : ∀ a m b : Nat, a < 18446744073709551616 → m < 18446744073709551616 → a &&& m = b → bits .and .u64 (a : Int) (m : Int) = (b : Int) := fun a m b h1 h2 h3 => by rw [u64_and_nat a m h1 h2, h3]
  refine ones64_core (x : Int) ((x / 2 &&& 6148914691236517205 : Nat) : Int) ((x &&& 6148914691236517205 : Nat) : Int) y1 ((y1 / 4 &&& 3689348814741910323 : Nat) : Int) ((y1 &&& 3689348814741910323 : Nat) : Int) y2 ((y2 / 16 + y2 : Nat) : Int) y3
    ((y3 + y3 / 256 : Nat) : Int) ((y3 + y3 / 256 + (y3 + y3 / 256) / 65536 : Nat) : Int) ((y3 + y3 / 256 + (y3 + y3 / 256) / 65536 + (y3 + y3 / 256 + (y3 + y3 / 256) / 65536) / 4294967296 : Nat) : Int) _ w
    (f (x / 2) 6148914691236517205 _ (by omega) (by decide) rfl) (f x 6148914691236517205 _ hx (by decide) rfl) ?_
    (f (y1 / 4) 3689348814741910323 _ (by omega) (by decide) rfl) (f y1 3689348814741910323 _ l1 (by decide) rfl) ?_ ?_ (f (y2 / 16 + y2) 1085102592571150095 _ (by omega) (by decide) e3) ?_ ?_ ?_ ?_ (by omega) (by omega)
  · rw [← Int.natCast_add, e1]; exact wrap64_nat y1 l1
  · rw [← Int.natCast_add, e2]; exact wrap64_nat y2 (by omega)
  · exact wrap64_nat (y2 / 16 + y2) (by omega)
  · exact wrap64_nat (y3 + y3 / 256) (by omega)
  · exact wrap64_nat (y3 + y3 / 256 + (y3 + y3 / 256) / 65536) (by omega)
  · exact wrap64_nat (y3 + y3 / 256 + (y3 + y3 / 256) / 65536 + (y3 + y3 / 256 + (y3 + y3 / 256) / 65536) / 4294967296) (by omega)
  · rw [i64_and127, ← er]; omega

theorem tab_ones (x : Nat) (hx : x < 256) (h : x < Lib.pop8tab.size) : wrap64 (Lib.pop8tab[x].toNat : Int) = (pop 8 x : Nat) := by
  have e := Lib.pop8_eq ⟨x, hx⟩
  have l := pop_le 8 x
  simp only [Lib.pop8, Int.toNat_natCast, ByteArray.getElem?_lt' _ _ h, Option.getD_some, onesCount_eq x hx] at e
  rw [e]
  unfold wrap64
  omega
set_option maxRecDepth 100000 in
set_option maxHeartbeats 400000 in
theorem ones8_any (x : Nat) (w : World) (hx : x < 256) :
    Calls Tryd.prog 31 #[.int .u8 x] w fun e w' => e = .returned (.int .i64 (pop 8 x : Nat)) ∧ w' = w := by
  go_enter Tryd.func31, Tryd.ntmps31
  go_wp2
  go_ret
  exact ⟨ret_int (tab_ones x hx _), rfl⟩

def PL : Array Value := (placesL.map fun p : Nat => Value.int .u8 (p : Int)).toArray
theorem PL_size : PL.size = 64 := by simp [PL, placesL]
theorem PL_at (k : Nat) (h : k < 64) : PL[k]? = some (.int .u8 (placeAt k : Int)) := by
  have hl : k < placesL.length := h
  simp [PL, placeAt, List.getElem?_eq_getElem hl]
theorem run_idx (k : Nat) (h : k < 64) (w : World) : (Instr.index 61 (.agg PL) (.int .i64 k)).run Tryd.prog w = .ok (.int .u8 (placeAt k : Int)) w := by
  have hn : (0 ≤ (k : Int) ∧ (k : Int) < ((64 : Nat) : Int)) := by omega
  simp [Instr.index, run_underlying Tryd.underlying61, asIntOf, hn, go_sem, PL_at k h]
  omega
theorem info61 : (Tryd.prog.info? 61).map (·.size) = some PL.size := by rw [PL_size]; kernel_rfl

theorem bit_yes (x k : Nat) (hx : x < 18446744073709551616) (h : (bits BinOp.and IntKind.u64 ((x : Int) / 2 ^ k) 1 == 1) = true) : x / 2 ^ k % 2 = 1 := by
  have e : (x : Int) / 2 ^ k = ((x / 2 ^ k : Nat) : Int) := by simp
  have hl : x / 2 ^ k ≤ x := Nat.div_le_self _ _
  have e2 : bits .and .u64 ((x / 2 ^ k : Nat) : Int) 1 = ((x / 2 ^ k % 2 : Nat) : Int) := by
    rw [← nat_mask1]; exact u64_and_nat _ 1 (by omega) (by decide)
  rw [e, e2] at h
  simp at h; omega
theorem bit_no (x k : Nat) (hx : x < 18446744073709551616) (h : (bits BinOp.and IntKind.u64 ((x : Int) / 2 ^ k) 1 == 1) = false) : ¬ x / 2 ^ k % 2 = 1 := by
  have e : (x : Int) / 2 ^ k = ((x / 2 ^ k : Nat) : Int) := by simp
  have hl : x / 2 ^ k ≤ x := Nat.div_le_self _ _
  have e2 : bits .and .u64 ((x / 2 ^ k : Nat) : Int) 1 = ((x / 2 ^ k % 2 : Nat) : Int) := by
    rw [← nat_mask1]; exact u64_and_nat _ 1 (by omega) (by decide)
  rw [e, e2] at h
  simp at h; omega

/-- The table of places is where the program lays it. -/
def Plc (w : World) : Prop := ∃ t fr, w.heap[0]? = some (.cells PL t fr)

set_option maxHeartbeats 400000 in
theorem placeSum_any (x : Nat) (w : World) (hx : x < 18446744073709551616) (hP : Plc w) :
    Calls Tryd.prog 28 #[.int .u64 x] w fun e w' => e = .returned (.int .u8 (psum x 64 : Nat)) ∧ w' = w := by
  obtain ⟨t, fr, hg⟩ := hP
  go_enter Tryd.func28, Tryd.ntmps28
  go_wp2_with (refine wpList_load_row rfl 61 _ rfl 0 rfl t _ fr _ hg Tryd.underlying61 rfl info61 ?_)
  go_loop [3, 7] (fun t i => ∃ k : Nat, k ≤ 64 ∧ i = .int .i64 k ∧ t = .int .u8 (psum x k : Nat)) (fun _ i => 64 - (intOf i).toNat)
  case atStart => exact ⟨0, by omega, rfl, rfl⟩
  case round =>
    obtain ⟨k, hk, rfl, rfl⟩ := hrel
    by_cases hlt : k < 64
    · have hi := fun w => run_idx k hlt w
      have hp := psum_lt x k
      have hq := placeAt_lt k
      go_wp2
      · go_round
        case rel =>
          refine ⟨k + 1, by omega, by go_num, val_int ?_⟩
          rw [u8_xor_nat _ _ (by omega) (by omega)]
          simp only [psum]
          rw [if_pos (bit_yes x k hx ‹_›)]
        case measure => simp [intOf]; omega
      · go_round
        case rel =>
          refine ⟨k + 1, by omega, by go_num, val_int ?_⟩
          simp only [psum]
          rw [if_neg (bit_no x k hx ‹_›)]
        case measure => simp [intOf]; omega
    · obtain rfl : k = 64 := by omega
      go_wp2
      go_ret
      exact ⟨rfl, rfl⟩

set_option maxHeartbeats 400000 in
theorem parity_any (x c : Nat) (w : World) (hx : x < 18446744073709551616) (hc : c < 256) :
    Calls Tryd.prog 29 #[.int .u64 x, .int .u8 c] w fun e w' => e = .returned (.int .i64 ((pop 64 x + pop 8 c) % 2 : Nat)) ∧ w' = w := by
  have h1 := pop_le 64 x
  have h2 := pop_le 8 c
  go_enter Tryd.func29, Tryd.ntmps29
  go_wp2_with (first | (go_at_call 34; refine (ones64_any _ _ hx).mono ?_; rintro e w' ⟨rfl, rfl⟩) | (go_at_call 31; refine (ones8_any _ _ hc).mono ?_; rintro e w' ⟨rfl, rfl⟩))
  go_ret
  exact ⟨ret_int (by omega), rfl⟩

theorem or_top (s p : Nat) (hs : s < 128) (hp : p < 2) : bits .or .u8 (s : Int) ((p : Int) * 128) = ((s + 128 * p : Nat) : Int) := by
  have e : (p : Int) * 128 = ((p * 128 : Nat) : Int) := by omega
  rw [e, u8_or_nat s (p * 128) (by omega) (by omega)]
  have := nat_join 7 (p * 128) s (by show _ % 128 = 0; omega) (by show _ < 128; omega)
  rw [Nat.or_comm, this]
  omega
set_option maxHeartbeats 400000 in
theorem checkOf_any (x : Nat) (w : World) (hx : x < 18446744073709551616) (hP : Plc w) :
    Calls Tryd.prog 22 #[.int .u64 x] w fun e w' => e = .returned (.int .u8 (chk x : Nat)) ∧ w' = w := by
  have h1 := psum_lt x 64
  rw [chk_eq]
  generalize hS : psum x 64 = S at *
  have hps := placeSum_any x w hx hP
  rw [hS] at hps
  clear hS
  have hm : (pop 64 x + pop 8 S) % 2 < 2 := by omega
  have hpar := parity_any x S w hx (by omega)
  generalize (pop 64 x + pop 8 S) % 2 = p at *
  have hor := or_top S p h1 hm
  go_enter Tryd.func22, Tryd.ntmps22
  go_wp2_with (first | (go_at_call 28; refine hps.mono ?_; rintro e w' ⟨rfl, rfl⟩) | (go_at_call 29; refine hpar.mono ?_; rintro e w' ⟨rfl, rfl⟩))
  go_ret
  exact ⟨ret_int (by omega), rfl⟩

end Go.Proofs.YtgflkfbddiccaaaDoor
