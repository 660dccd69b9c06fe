/-
  What the calls of code.addByte and code.Crc give: the plain functions crcB and crcOf; the world is as it was.
-/
import Derived.Test.YtbajdgadljdnkaeDoorBase
namespace Go.Proofs.YtbajdgadljdnkaeDoor
open Go.RowKit

theorem crc_odd (X : Nat) (hX : X < 4294967296) (h : (bits BinOp.and IntKind.u32 (X : Int) 1 == 1) = true) : bits BinOp.xor IntKind.u32 ((X : Int) / 2) 3988292384 = (crcT X : Int) := by
  have e := u32_and_nat X 1 hX (by decide)
  rw [nat_mask1] at e
  have e' : bits BinOp.and IntKind.u32 (X : Int) 1 = ((X % 2 : Nat) : Int) := e
  rw [e'] at h
  have h1 : X % 2 = 1 := by simp at h; omega
  have e2 := u32_xor_nat (X / 2) 3988292384 (by omega) (by decide)
  unfold crcT
  rw [if_pos h1]
  exact e2
theorem crc_even (X : Nat) (hX : X < 4294967296) (h : (bits BinOp.and IntKind.u32 (X : Int) 1 == 1) = false) : (X : Int) / 2 = (crcT X : Int) := by
  have e := u32_and_nat X 1 hX (by decide)
  rw [nat_mask1] at e
  have e' : bits BinOp.and IntKind.u32 (X : Int) 1 = ((X % 2 : Nat) : Int) := e
  rw [e'] at h
  have h1 : ¬ X % 2 = 1 := by simp at h; omega
  unfold crcT
  rw [if_neg h1]
  omega
set_option maxHeartbeats 400000 in
theorem addByte_any (s b : Nat) (w : World) (hs : s < 4294967296) (hb : b < 256) :
    Calls Tryd.prog 45 #[.int .u32 s, .int .u8 b] w fun e w' => e = .returned (.int .u32 (crcB s b)) ∧ w' = w := by
  go_enter Tryd.func45, Tryd.ntmps45
  go_wp2
  go_loop [0, 10] (fun t i => ∃ k : Nat, k ≤ 8 ∧ i = .int .i64 k ∧ t = .int .u32 (crcN k (s ^^^ b))) (fun _ i => 8 - (intOf i).toNat)
  case atStart => exact ⟨0, by omega, rfl, by rw [u32_xor_nat s b hs (by omega)]; rfl⟩
  case round =>
    obtain ⟨k, hk, rfl, rfl⟩ := hrel
    have hx := crcN_lt (xor32 hs (show b < 4294967296 by omega)) k
    by_cases hlt : k < 8
    · go_wp2
      · go_round
        case rel => exact ⟨k + 1, by omega, by go_num, val_int (crc_odd _ hx ‹_›)⟩
        case measure => simp [intOf]; omega
      · go_round
        case rel => exact ⟨k + 1, by omega, by go_num, val_int (crc_even _ hx ‹_›)⟩
        case measure => simp [intOf]; omega
    · obtain rfl : k = 8 := by omega
      go_wp2
      go_ret
      exact ⟨rfl, rfl⟩

set_option maxHeartbeats 400000 in
theorem crc_any (a : Option Addr) (bs : List Nat) (cap : Nat) (w : World) (hm : bs.length ≤ maxLen) (hz : AllB bs) (hc : Lies w a bs) :
    Calls Tryd.prog 32 #[.slice a bs.length cap] w fun e w' => e = .returned (.int .u32 (crcOf bs)) ∧ w' = w := by
  unfold maxLen at hm
  rcases hc with rfl | ⟨b, off, rfl, hc⟩
  · go_enter Tryd.func32, Tryd.ntmps32
    go_wp2
    go_loop [3, 8] (fun t i => i = .int .i64 0 ∧ t = .int .u32 4294967295) (fun _ _ => 0)
    case atStart => exact ⟨rfl, rfl⟩
    case round =>
      obtain ⟨rfl, rfl⟩ := hrel
      go_wp2
      go_ret
      exact ⟨ret_int (by decide +kernel), rfl⟩
  · go_enter Tryd.func32, Tryd.ntmps32
    go_wp2
    go_loop [3, 8] (fun t i => ∃ k : Nat, k ≤ bs.length ∧ i = .int .i64 k ∧ t = .int .u32 (crcL 4294967295 (bs.take k))) (fun _ i => bs.length - (intOf i).toNat)
    case atStart => exact ⟨0, by omega, rfl, rfl⟩
    case round =>
      obtain ⟨k, hk, rfl, rfl⟩ := hrel
      have hx : crcL 4294967295 (bs.take k) < 4294967296 := crcL_lt (by decide) _ (hz.take k)
      by_cases hlt : k < bs.length
      · have hck := hc k hlt
        have hzk := hz.at k
        have HS : Hid (crcL 4294967295 (bs.take (k + 1)) = crcB (crcL 4294967295 (bs.take k)) (bs[k]?.getD 0)) := by
          show _ = _
          rw [take_snocN bs k hlt, crcL_snoc]
        clear hc
        generalize bs[k]?.getD 0 = B at hck hzk HS
        go_wp2_with (go_at_call 45; refine (addByte_any _ _ _ hx hzk).mono ?_; rintro e w' ⟨rfl, rfl⟩)
        go_round
        case rel => exact ⟨k + 1, by omega, by go_num, val_int (by rw [HS.out])⟩
        case measure => simp [intOf]; omega
      · obtain rfl : k = bs.length := by omega
        go_wp2
        go_ret
        refine ⟨ret_int ?_, rfl⟩
        rw [List.take_length] at hx
        exact u32_xor_nat 4294967295 _ (by decide) hx

end Go.Proofs.YtbajdgadljdnkaeDoor
