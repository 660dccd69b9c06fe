/-
  What the calls of the document's answers granaryref1.Crc, place, bit, CheckOf and BytesFault give: the same plain functions as the program's; the world is as it was.
-/
import Derived.Test.YtgflkfbddiccaaaDoorRows8
namespace Go.Proofs.YtgflkfbddiccaaaDoor
open Go.RowKit
set_option linter.unusedVariables false

theorem crcT_odd (X : Nat) (h : (((X : Int) % 2) == 1) = true) (hX : X < 4294967296) : bits BinOp.xor IntKind.u32 ((X : Int) / 2) 3988292384 = (crcT X : Int) := by
  have h1 : X % 2 = 1 := by simp at h; omega
  have e2 := u32_xor_nat (X / 2) 3988292384 (by omega) (by decide)
  unfold crcT
  rw [if_pos h1]
  exact e2
theorem crcT_even (X : Nat) (h : (((X : Int) % 2) == 1) = false) : (X : Int) / 2 = (crcT X : Int) := by
  have h1 : ¬ X % 2 = 1 := by simp at h; omega
  unfold crcT
  rw [if_neg h1]
  omega
set_option maxHeartbeats 1600000 in
theorem refCrc_any (a : Option Addr) (bs : List Nat) (cap : Nat) (w : World) (hm : bs.length ≤ 140737488355328) (hz : AllB bs) (hc : Lies w a bs) :
    Calls Tryd.prog 9 #[.slice a bs.length cap] w fun e w' => e = .returned (.int .u32 (crcOf bs)) ∧ w = w' := by
  rcases hc with rfl | ⟨b, off, rfl, hc⟩
  · go_enter Tryd.func9, Tryd.ntmps9
    go_wp2
    go_loop [3, 4] (fun t i => i = .int .i64 0 ∧ t = .int .u32 4294967295) (fun _ _ => 0)
    case atStart => exact ⟨rfl, rfl⟩
    case round =>
      obtain ⟨rfl, rfl⟩ := hrel
      go_wp2
      go_ret
      exact ⟨ret_int (by decide +kernel), rfl⟩
  · go_enter Tryd.func9, Tryd.ntmps9
    go_wp2
    go_loop [3, 4] (fun t i => ∃ k : Nat, k ≤ bs.length ∧ i = .int .i64 k ∧ t = .int .u32 (crcL 4294967295 (bs.take k) : Nat)) (fun _ i => bs.length - (intOf i).toNat)
    case atStart => exact ⟨0, by omega, rfl, rfl⟩
    case round =>
      obtain ⟨k, hk, rfl, rfl⟩ := hrel
      have hx : crcL 4294967295 (bs.take k) < 4294967296 := crcL_lt (by decide) _ (hz.take k)
      by_cases hlt : k < bs.length
      · have hck := hc k hlt
        have hzk := hz.at k
        have HS : Hid (crcL 4294967295 (bs.take (k + 1)) = crcN 8 (crcL 4294967295 (bs.take k) ^^^ bs[k]?.getD 0)) := by
          show _ = _
          rw [take_snocN bs k hlt, crcL_snoc]
          rfl
        have hx2 := u32_xor_nat _ _ hx (show bs[k]?.getD 0 < 4294967296 by omega)
        have hy := xor32 hx (show bs[k]?.getD 0 < 4294967296 by omega)
        clear hc
        generalize crcL 4294967295 (bs.take k) ^^^ bs[k]?.getD 0 = Z at HS hx2 hy
        generalize bs[k]?.getD 0 = B at hck hzk hx2
        go_wp2
        go_loop [3, 5] (fun t i => ∃ j : Nat, j ≤ 8 ∧ i = .int .i64 j ∧ t = .int .u32 (crcN j Z : Nat)) (fun _ i => 8 - (intOf i).toNat)
        case atStart => exact ⟨0, by omega, rfl, rfl⟩
        case round =>
          obtain ⟨j, hj, rfl, rfl⟩ := hrel
          have hw := crcN_lt hy j
          by_cases hj8 : j < 8
          · go_wp2
            · go_round
              case rel => exact ⟨j + 1, by omega, by go_num, val_int (crcT_odd _ ‹_› hw)⟩
              case measure => simp [intOf]; omega
            · go_round
              case rel => exact ⟨j + 1, by omega, by go_num, val_int (crcT_even _ ‹_›)⟩
              case measure => simp [intOf]; omega
          · obtain rfl : j = 8 := by omega
            go_wp2
            go_round
            case rel => exact ⟨k + 1, by omega, by go_num, val_int (by rw [HS.out])⟩
            case measure => simp [intOf]; omega
      · obtain rfl : k = bs.length := by omega
        go_wp2
        go_ret
        refine ⟨ret_int ?_, rfl⟩
        rw [List.take_length] at hx
        refine (u32_xor_nat _ 4294967295 hx (by decide)).trans ?_
        rw [Nat.xor_comm]
        rfl

set_option maxHeartbeats 400000 in
theorem fault_any (a : Option Addr) (n cap : Nat) (w : World) (hm : n ≤ 140737488355328) :
    Calls Tryd.prog 10 #[.slice a n cap] w fun e w' => e = .returned (.int .i64 ((if n % 8 ≠ 0 then 2 else if 4096 < n then 3 else 0 : Nat) : Int)) ∧ w = w' := by
  by_cases h1 : n % 8 = 0
  · by_cases h2 : 4096 < n
    · go_enter Tryd.func10, Tryd.ntmps10
      go_wp2
      go_ret
      exact ⟨rfl, rfl⟩
    · go_enter Tryd.func10, Tryd.ntmps10
      go_wp2
      go_ret
      exact ⟨rfl, rfl⟩
  · go_enter Tryd.func10, Tryd.ntmps10
    go_wp2
    go_ret
    exact ⟨rfl, rfl⟩

/-- How many of the numbers from 3 on, so many, are no powers of 2. -/
def nonPow (p : Nat) : Bool := p &&& (p - 1) != 0
def np : Nat → Nat
  | 0 => 0
  | t + 1 => np t + (if nonPow (t + 3) then 1 else 0)
theorem np_table : ∀ t : Fin 69, (bits .and .i64 ((t.val : Int) + 2 + 1) ((t.val : Int) + 2) != 0) = nonPow (t.val + 3) ∧ (nonPow (t.val + 3) = true → placeAt (np t.val) = t.val + 3) := by decide +kernel
theorem np_end : np 69 = 64 := by decide +kernel
set_option maxHeartbeats 800000 in
theorem place_any (i : Nat) (w : World) (hi : i < 64) :
    Calls Tryd.prog 33 #[.int .i64 i] w fun e w' => e = .returned (.int .i64 (placeAt i : Nat)) ∧ w = w' := by
  go_enter Tryd.func33, Tryd.ntmps33
  go_wp2
  go_loop [3, 4] (fun p n => ∃ t : Nat, t ≤ 69 ∧ p = .int .i64 ((t : Int) + 2) ∧ n = .int .i64 ((np t : Int) - 1) ∧ Hid (np t ≤ i ∨ (np t = i + 1 ∧ placeAt i = t + 2))) (fun p _ => 71 - (intOf p).toNat)
  case atStart => exact ⟨0, by omega, rfl, rfl, Or.inl (by simp [np])⟩
  case round =>
    obtain ⟨t, ht, rfl, rfl, hor⟩ := hrel
    by_cases hlt : np t ≤ i
    · have ht2 : t < 69 := by
        by_cases h : t = 69
        · rw [h, np_end] at hlt; omega
        · omega
      obtain ⟨f1, f2⟩ := np_table ⟨t, ht2⟩
      simp only at f1 f2
      have HF : Hid (np (t + 1) = np t + (if nonPow (t + 3) then 1 else 0)) := rfl
      have HF2 : Hid (nonPow (t + 3) = true → placeAt (np t) = t + 3) := f2
      clear f2 hor
      generalize np t = N at hlt HF HF2
      cases hb : nonPow (t + 3)
      · rw [hb] at f1 HF HF2
        clear hb
        go_wp2
        go_round
        case rel =>
          refine ⟨t + 1, by omega, by go_num, val_int ?_, ?_⟩
          · have := HF.out; simp at this; omega
          · show _ ∨ _
            left
            have := HF.out; simp at this; omega
        case measure => simp [intOf]; omega
      · rw [hb] at f1 HF HF2
        clear hb
        go_wp2
        go_round
        case rel =>
          have e1 : np (t + 1) = N + 1 := by have := HF.out; simp at this; omega
          refine ⟨t + 1, by omega, by go_num, val_int (by omega), ?_⟩
          show _ ∨ _
          by_cases h : N = i
          · right
            have := HF2.out rfl
            rw [h] at this
            omega
          · left; omega
        case measure => simp [intOf]; omega
    · have hfin : np t = i + 1 ∧ placeAt i = t + 2 := by
        rcases hor.out with h | h
        · omega
        · exact h
      have HF : Hid (placeAt i = t + 2) := hfin.2
      have hge : i + 1 ≤ np t := by omega
      have hle : np t ≤ 100 := by omega
      clear hor hfin
      go_wp2
      go_ret
      exact ⟨ret_int (by have := HF.out; omega), rfl⟩

theorem i64_nat (a : Nat) (ha : a < 9223372036854775808) : (BitVec.ofInt 64 (a : Int)).toNat = a := by
  rw [BitVec.ofInt_natCast, BitVec.toNat_ofNat]; exact Nat.mod_eq_of_lt (by omega)
theorem i64_xor_nat (a b : Nat) (ha : a < 65536) (hb : b < 65536) : bits .xor .i64 (a : Int) (b : Int) = ((a ^^^ b : Nat) : Int) := by
  have hx : a ^^^ b < 2 ^ 16 := Nat.xor_lt_two_pow (by omega) (by omega)
  show IntKind.i64.wrap ((BitVec.ofInt 64 (a : Int) ^^^ BitVec.ofInt 64 (b : Int)).toNat : Int) = _
  rw [BitVec.toNat_xor, i64_nat a (by omega), i64_nat b (by omega), IntKind.wrap_i64]
  omega
theorem i64_and_nat (a b : Nat) (ha : a < 65536) (hb : b < 65536) : bits .and .i64 (a : Int) (b : Int) = ((a &&& b : Nat) : Int) := by
  have hx : a &&& b < 2 ^ 16 := Nat.and_lt_two_pow _ (by omega)
  show IntKind.i64.wrap ((BitVec.ofInt 64 (a : Int) &&& BitVec.ofInt 64 (b : Int)).toNat : Int) = _
  rw [BitVec.toNat_and, i64_nat a (by omega), i64_nat b (by omega), IntKind.wrap_i64]
  omega

theorem div_bit (B r : Nat) (hB : B < 256) : bits .and .i64 ((B / 2 ^ r : Nat) : Int) 1 = ((B / 2 ^ r % 2 : Nat) : Int) := by
  have hl : B / 2 ^ r ≤ B := Nat.div_le_self _ _
  rw [← nat_mask1]
  exact i64_and_nat _ 1 (by omega) (by decide)
theorem word_bit {bs : List Nat} (hz : AllB bs) (i : Nat) (hi : i < 64) : bs[i / 8]?.getD 0 / 2 ^ (i % 8) % 2 = wordN bs 0 / 2 ^ i % 2 := by
  have h := wsum_bit (f := fun k => bs[8 * 0 + k]?.getD 0) (fun k => hz.at _) i 8
  have h2 : decide (i < 8 * 8) = true := decide_eq_true (by omega)
  rw [h2, Bool.true_and] at h
  have e1 : (wsum (fun k => bs[8 * 0 + k]?.getD 0) 8).testBit i = decide (wordN bs 0 / 2 ^ i % 2 = 1) := Nat.testBit_eq_decide_div_mod_eq
  have e2 : (bs[8 * 0 + i / 8]?.getD 0).testBit (i % 8) = decide (bs[8 * 0 + i / 8]?.getD 0 / 2 ^ (i % 8) % 2 = 1) := Nat.testBit_eq_decide_div_mod_eq
  rw [e1, e2] at h
  have h3 := decide_eq_decide.1 h
  have e3 : 8 * 0 + i / 8 = i / 8 := by omega
  rw [e3] at h3
  generalize bs[i / 8]?.getD 0 / 2 ^ (i % 8) = P at h3 ⊢
  generalize wordN bs 0 / 2 ^ i = Q at h3 ⊢
  omega

theorem wrap_div (B r : Nat) (hB : B < 256) : wrap64 ((B : Int) / 2 ^ r) = ((B / 2 ^ r : Nat) : Int) := by
  have hl : B / 2 ^ r ≤ B := Nat.div_le_self _ _
  have e : (B : Int) / 2 ^ r = ((B / 2 ^ r : Nat) : Int) := by simp
  rw [e]
  generalize B / 2 ^ r = P at hl ⊢
  unfold wrap64
  omega
set_option maxHeartbeats 800000 in
theorem bit_any (b off cap i : Nat) (bs : List Nat) (w : World) (hz : AllB bs) (hl : bs.length = 8) (hi : i < 64)
    (hc : ∀ j, j < bs.length → w.cell? ⟨b, off + j, none⟩ = some (.int .u8 ((bs[j]?.getD 0 : Nat) : Int))) :
    Calls Tryd.prog 32 #[.slice (some ⟨b, off, none⟩) 8 cap, .int .i64 i] w fun e w' => e = .returned (.int .i64 (wordN bs 0 / 2 ^ i % 2 : Nat)) ∧ w = w' := by
  have hck := hc (i / 8) (by omega)
  have hzk := hz.at (i / 8)
  rw [← word_bit hz i hi]
  have hdb := div_bit (bs[i / 8]?.getD 0) (i % 8) hzk
  generalize bs[i / 8]?.getD 0 = B at hck hzk hdb
  clear hc hl
  go_enter Tryd.func32, Tryd.ntmps32
  go_wp2
  go_ret
  exact ⟨ret_int (by rw [wrap_div B (i % 8) hzk, hdb]), rfl⟩

theorem psum_succ (W k : Nat) : psum W (k + 1) = if W / 2 ^ k % 2 = 1 then psum W k ^^^ placeAt k else psum W k := rfl
theorem odd_flip (p x : Nat) (h : x % 2 = 1) : (1 : Int) - ((p % 2 : Nat) : Int) = (((p + x % 2) % 2 : Nat) : Int) := by omega
theorem s_bit_yes (s j : Nat) (hs : s < 128) (h : (bits BinOp.and IntKind.i64 ((s : Int) / 2 ^ j) 1 == 1) = true) : s / 2 ^ j % 2 = 1 := by
  have e : (s : Int) / 2 ^ j = ((s / 2 ^ j : Nat) : Int) := by simp
  rw [e, div_bit s j (by omega)] at h
  simp at h; omega
theorem s_bit_no (s j : Nat) (hs : s < 128) (h : (bits BinOp.and IntKind.i64 ((s : Int) / 2 ^ j) 1 == 1) = false) : s / 2 ^ j % 2 = 0 := by
  have e : (s : Int) / 2 ^ j = ((s / 2 ^ j : Nat) : Int) := by simp
  rw [e, div_bit s j (by omega)] at h
  simp at h; omega
theorem check_end {W S PW t : Nat} (h1 : psum W 64 = S) (h2 : pop 64 W = PW) (ht : t = 7) (hs : S < 128) : (S : Int) + 128 * (((PW + pop t S) % 2 : Nat) : Int) = ((psum W 64 + 128 * ((pop 64 W + pop 8 (psum W 64)) % 2) : Nat) : Int) := by
  rw [h1, h2, ht, show pop 8 S = pop 7 S from pop_small 7 1 S hs]
  omega
set_option maxHeartbeats 1600000 in
theorem refCheck_some (b off cap : Nat) (bs : List Nat) (w : World) (hz : AllB bs) (hl : bs.length = 8)
    (hc : ∀ j, j < bs.length → w.cell? ⟨b, off + j, none⟩ = some (.int .u8 ((bs[j]?.getD 0 : Nat) : Int))) :
    Calls Tryd.prog 27 #[.slice (some ⟨b, off, none⟩) 8 cap] w fun e w' => e = .returned (.int .i64 (chk (wordN bs 0) : Nat)) ∧ w = w' := by
  have hbit := fun i hi => bit_any b off cap i bs w hz hl hi hc
  rw [chk_eq]
  generalize wordN bs 0 = W at hbit ⊢
  have HB : Hid (∀ i : Nat, i < 64 → Calls Tryd.prog 32 #[.slice (some ⟨b, off, none⟩) 8 cap, .int .i64 i] w fun e w' => e = .returned (.int .i64 (W / 2 ^ i % 2 : Nat)) ∧ w = w') := hbit
  clear hbit hc hl hz
  go_enter Tryd.func27, Tryd.ntmps27
  go_wp2
  go_loop [3, 4, 5] (fun s o i => ∃ k : Nat, k ≤ 64 ∧ i = .int .i64 k ∧ s = .int .i64 (psum W k : Nat) ∧ o = .int .i64 (pop k W % 2 : Nat)) (fun _ _ i => 64 - (intOf i).toNat)
  case atStart => exact ⟨0, by omega, rfl, rfl, rfl⟩
  case round =>
    obtain ⟨k, hk, rfl, rfl, rfl⟩ := hrel
    have hps := psum_lt W k
    by_cases hlt : k < 64
    · have hb := HB.out k hlt
      have hpl := place_any k w hlt
      have hpa := placeAt_lt k
      have hx := i64_xor_nat (psum W k) (placeAt k) (by omega) (by omega)
      have HS : Hid (psum W (k + 1) = if W / 2 ^ k % 2 = 1 then psum W k ^^^ placeAt k else psum W k) := psum_succ W k
      have HP : Hid (pop (k + 1) W = pop k W + W / 2 ^ k % 2) := pop_snoc k W
      rcases Nat.mod_two_eq_zero_or_one (W / 2 ^ k) with h0 | h1
      · rw [h0] at hb HS HP
        rw [if_neg (by omega)] at HS
        clear h0 hx hpl
        go_wp2_with (go_at_call 32; refine hb.mono ?_; rintro e w2 ⟨rfl, rfl⟩)
        go_round
        case rel => exact ⟨k + 1, by omega, by go_num, val_int (by rw [HS.out]), val_int (by rw [HP.out]; omega)⟩
        case measure => simp [intOf]; omega
      · rw [h1] at hb HS HP
        rw [if_pos rfl] at HS
        clear h1
        generalize psum W k ^^^ placeAt k = X at hx HS
        generalize placeAt k = PA at hx hpl hpa
        go_wp2_with (first | (go_at_call 32; refine hb.mono ?_; rintro e w2 ⟨rfl, rfl⟩) | (go_at_call 33; refine hpl.mono ?_; rintro e w2 ⟨rfl, rfl⟩))
        go_round
        case rel => exact ⟨k + 1, by omega, by go_num, val_int (by rw [HS.out]), val_int (by rw [HP.out]; omega)⟩
        case measure => simp [intOf]; omega
    · have HK : Hid (k = 64) := by show _ = _; omega
      have hge : ¬ (k : Int) < 64 := by omega
      clear HB hk hlt
      generalize hS : psum W k = S at hps ⊢
      generalize hQ : pop k W = PW
      have HSS : Hid (psum W k = S ∧ pop k W = PW) := ⟨hS, hQ⟩
      clear hS hQ
      go_wp2
      go_loop [4, 8] (fun o j => ∃ t : Nat, t ≤ 7 ∧ j = .int .i64 t ∧ o = .int .i64 ((PW + pop t S) % 2 : Nat)) (fun _ j => 7 - (intOf j).toNat)
      case atStart => exact ⟨0, by omega, rfl, rfl⟩
      case round =>
        obtain ⟨t, ht, rfl, rfl⟩ := hrel
        by_cases hlt2 : t < 7
        · have HP : Hid (pop (t + 1) S = pop t S + S / 2 ^ t % 2) := pop_snoc t S
          go_wp2
          · have hyes := s_bit_yes S t hps ‹_›
            go_round
            case rel => exact ⟨t + 1, by omega, by go_num, val_int (by rw [HP.out, hyes]; omega)⟩
            case measure => simp [intOf]; omega
          · have hno := s_bit_no S t hps ‹_›
            go_round
            case rel => exact ⟨t + 1, by omega, by go_num, val_int (by rw [HP.out, hno, Nat.add_zero])⟩
            case measure => simp [intOf]; omega
        · have HT : Hid (t = 7) := by show _ = _; omega
          have hge2 : ¬ (t : Int) < 7 := by omega
          clear ht hlt2
          go_wp2
          go_ret
          refine ⟨ret_int ?_, rfl⟩
          exact check_end (by rw [← HK.out]; exact HSS.out.1) (by rw [← HK.out]; exact HSS.out.2) HT.out hps
theorem refCheck_any (a : Option Addr) (cap : Nat) (bs : List Nat) (w : World) (hz : AllB bs) (hl : bs.length = 8) (hc : Lies w a bs) :
    Calls Tryd.prog 27 #[.slice a 8 cap] w fun e w' => e = .returned (.int .i64 (chk (wordN bs 0) : Nat)) ∧ w = w' := by
  rcases hc with h | ⟨b, off, rfl, hc⟩
  · rw [h] at hl; simp at hl
  · exact refCheck_some b off cap bs w hz hl hc
end Go.Proofs.YtgflkfbddiccaaaDoor
