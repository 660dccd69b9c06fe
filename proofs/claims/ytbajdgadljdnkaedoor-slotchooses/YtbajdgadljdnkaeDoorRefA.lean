/-
  What the calls of the document's answers granaryref1.Crc and lowFirst give: the same plain functions as the program's.
-/
import Derived.Test.YtbajdgadljdnkaeDoorNum
namespace Go.Proofs.YtbajdgadljdnkaeDoor
open Go.RowKit
set_option linter.unusedVariables false

theorem crcT_odd (X : Nat) (h : (((X : Int) % 2) == 1) = true) (hX : X < 4294967296) : bits BinOp.xor IntKind.u32 ((X : Int) / 2) 3988292384 = (crcT X : Int) := by
  have h1 : X % 2 = 1 := by simp at h; omega
  have e2 := u32_xor_nat (X / 2) 3988292384 (by omega) (by decide)
  unfold crcT
  rw [if_pos h1]
  exact e2
theorem crcT_even (X : Nat) (h : (((X : Int) % 2) == 1) = false) : (X : Int) / 2 = (crcT X : Int) := by
  have h1 : ¬ X % 2 = 1 := by simp at h; omega
  unfold crcT
  rw [if_neg h1]
  omega
set_option maxHeartbeats 1600000 in
theorem refCrc_any (a : Option Addr) (bs : List Nat) (cap : Nat) (w : World) (hm : bs.length ≤ 140737488355328) (hz : AllB bs) (hc : Lies w a bs) :
    Calls Tryd.prog 34 #[.slice a bs.length cap] w fun e w' => e = .returned (.int .u32 (crcOf bs)) ∧ w = w' := by
  rcases hc with rfl | ⟨b, off, rfl, hc⟩
  · go_enter Tryd.func34, Tryd.ntmps34
    go_wp2
    go_loop [3, 4] (fun t i => i = .int .i64 0 ∧ t = .int .u32 4294967295) (fun _ _ => 0)
    case atStart => exact ⟨rfl, rfl⟩
    case round =>
      obtain ⟨rfl, rfl⟩ := hrel
      go_wp2
      go_ret
      exact ⟨ret_int (by decide +kernel), rfl⟩
  · go_enter Tryd.func34, Tryd.ntmps34
    go_wp2
    go_loop [3, 4] (fun t i => ∃ k : Nat, k ≤ bs.length ∧ i = .int .i64 k ∧ t = .int .u32 (crcL 4294967295 (bs.take k) : Nat)) (fun _ i => bs.length - (intOf i).toNat)
    case atStart => exact ⟨0, by omega, rfl, rfl⟩
    case round =>
      obtain ⟨k, hk, rfl, rfl⟩ := hrel
      have hx : crcL 4294967295 (bs.take k) < 4294967296 := crcL_lt (by decide) _ (hz.take k)
      by_cases hlt : k < bs.length
      · have hck := hc k hlt
        have hzk := hz.at k
        have HS : Hid (crcL 4294967295 (bs.take (k + 1)) = crcN 8 (crcL 4294967295 (bs.take k) ^^^ bs[k]?.getD 0)) := by
          show _ = _
          rw [take_snocN bs k hlt, crcL_snoc]
          rfl
        have hx2 := u32_xor_nat _ _ hx (show bs[k]?.getD 0 < 4294967296 by omega)
        have hy := xor32 hx (show bs[k]?.getD 0 < 4294967296 by omega)
        clear hc
        generalize crcL 4294967295 (bs.take k) ^^^ bs[k]?.getD 0 = Z at HS hx2 hy
        generalize bs[k]?.getD 0 = B at hck hzk hx2
        go_wp2
        go_loop [3, 5] (fun t i => ∃ j : Nat, j ≤ 8 ∧ i = .int .i64 j ∧ t = .int .u32 (crcN j Z : Nat)) (fun _ i => 8 - (intOf i).toNat)
        case atStart => exact ⟨0, by omega, rfl, rfl⟩
        case round =>
          obtain ⟨j, hj, rfl, rfl⟩ := hrel
          have hw := crcN_lt hy j
          by_cases hj8 : j < 8
          · go_wp2
            · go_round
              case rel => exact ⟨j + 1, by omega, by go_num, val_int (crcT_odd _ ‹_› hw)⟩
              case measure => simp [intOf]; omega
            · go_round
              case rel => exact ⟨j + 1, by omega, by go_num, val_int (crcT_even _ ‹_›)⟩
              case measure => simp [intOf]; omega
          · obtain rfl : j = 8 := by omega
            go_wp2
            go_round
            case rel => exact ⟨k + 1, by omega, by go_num, val_int (by rw [HS.out])⟩
            case measure => simp [intOf]; omega
      · obtain rfl : k = bs.length := by omega
        go_wp2
        go_ret
        refine ⟨ret_int ?_, rfl⟩
        rw [List.take_length] at hx
        refine (u32_xor_nat _ 4294967295 hx (by decide)).trans ?_
        rw [Nat.xor_comm]
        rfl


set_option maxHeartbeats 800000 in
theorem lowFirst_any (x n : Nat) (w : World) (hx : x < 9223372036854775808) (hn : n ≤ 8) :
    Calls Tryd.prog 33 #[.int .i64 x, .int .i64 n] w fun e w' => OwnPost w w' e (low n x) := by
  go_enter Tryd.func33, Tryd.ntmps33
  go_wp2
  go_loopw [5, 6] (fun t j wr => ∃ (k : Nat) (a : Option Addr) (cap : Nat), k ≤ n ∧ j = .int .i64 k ∧ t = .slice a (low k x).length cap ∧ Hid (OwnA wr w.heap.size a cap (low k x) ∧ Below w.heap.size w wr)) (fun _ j _ => n - (intOf j).toNat)
  case atStart => exact ⟨0, none, 0, by omega, rfl, rfl, own_nil _ _, Below.refl _ _⟩
  case round =>
    obtain ⟨k, a, cap, hk, rfl, rfl, hr⟩ := hrel
    by_cases hlt : k < n
    · have HA : Hid (OwnA (wr.alloc (.cells #[.int .u8 ((x : Int) / 2 ^ (8 * k) % 256)] 5)) w.heap.size a cap (low k x) ∧ Lies (wr.alloc (.cells #[.int .u8 ((x : Int) / 2 ^ (8 * k) % 256)] 5)) (some ⟨wr.heap.size, 0, none⟩) [x / 2 ^ (8 * k) % 256] ∧ Below w.heap.size w (wr.alloc (.cells #[.int .u8 ((x : Int) / 2 ^ (8 * k) % 256)] 5)) ∧ (low (k + 1) x).length ≤ 1073741824) := by
        have hb : Below wr.heap.size wr (wr.alloc (.cells #[.int .u8 ((x : Int) / 2 ^ (8 * k) % 256)] 5)) := (Below.refl _ _).alloc (Nat.le_refl _) _
        refine ⟨hr.out.1.below hb, (own_new wr wr.heap.size [x / 2 ^ (8 * k) % 256] (Nat.le_refl _) (by simp) _ ?_).lies, hr.out.2.trans (hb.mono hr.out.2.size), by rw [low_len]; omega⟩
        rw [low_byte]
        rfl
      clear hr
      go_wp2_with (at_builtin; refine app_step rfl (.tmp 12) (.tmp 18) rfl w.heap.size a cap (low k x) rfl HA.out.1 (some ⟨wr.heap.size, 0, none⟩) 1 [x / 2 ^ (8 * k) % 256] rfl (fun e => by cases e) HA.out.2.1 (low (k + 1) x) (low_snoc k x) HA.out.2.2.2 HA.out.2.2.1.size ?_)
      intro a1 cap1 w2 hO2 hK2
      have HR : Hid (OwnA w2 w.heap.size a1 cap1 (low (k + 1) x) ∧ Below w.heap.size w w2) := ⟨hO2, HA.out.2.2.1.trans (hK2.below HA.out.2.2.1.size (fun b hb => (HA.out.1.ge hb).1))⟩
      clear hO2 hK2 HA
      go_wp2
      go_roundw
      case rel => exact ⟨k + 1, a1, cap1, by omega, by go_num, rfl, HR.out⟩
      case measure => simp [intOf]; omega
    · obtain rfl : k = n := by omega
      go_wp2
      go_ret
      exact ⟨a, cap, rfl, hr.out⟩
end Go.Proofs.YtbajdgadljdnkaeDoor
