/-
  What the calls of the document's answers granaryref1.Crc, lowFirst and PackFault give: the same plain functions as the program's.
-/
import Derived.Test.YtdkafcgangcgbagGreatDoorQ2
namespace Go.Proofs.YtdkafcgangcgbagGreatDoorQ
open Go.Proofs.YtdkafcgangcgbagGreatDoorM
open Go.RowKit
set_option linter.unusedVariables false

theorem crcT_odd (X : Nat) (h : (((X : Int) % 2) == 1) = true) (hX : X < 4294967296) : bits BinOp.xor IntKind.u32 ((X : Int) / 2) 3988292384 = (crcT X : Int) := by
  have h1 : X % 2 = 1 := by simp at h; omega
  have e2 := u32_xor_nat (X / 2) 3988292384 (by omega) (by decide)
  unfold crcT
  rw [if_pos h1]
  exact e2
theorem crcT_even (X : Nat) (h : (((X : Int) % 2) == 1) = false) : (X : Int) / 2 = (crcT X : Int) := by
  have h1 : ¬ X % 2 = 1 := by simp at h; omega
  unfold crcT
  rw [if_neg h1]
  omega
set_option maxHeartbeats 1600000 in
theorem refCrc_any (a : Option Addr) (bs : List Nat) (cap : Nat) (w : World) (hm : bs.length ≤ 140737488355328) (hz : AllB bs) (hc : Lies w a bs) :
    Calls (Al.progOf Tryz.prog) 33 #[.slice a bs.length cap] w fun e w' => e = .returned (.int .u32 (crcOf bs)) ∧ w = w' := by
  rcases hc with rfl | ⟨b, off, rfl, hc⟩
  · go_enter Al.func33, Tryz.ntmps33
    go_wp2
    go_loop [3, 4] (fun t i => i = .int .i64 0 ∧ t = .int .u32 4294967295) (fun _ _ => 0)
    case atStart => exact ⟨rfl, rfl⟩
    case round =>
      obtain ⟨rfl, rfl⟩ := hrel
      go_wp2
      go_ret
      exact ⟨ret_int (by decide +kernel), rfl⟩
  · go_enter Al.func33, Tryz.ntmps33
    go_wp2
    go_loop [3, 4] (fun t i => ∃ k : Nat, k ≤ bs.length ∧ i = .int .i64 k ∧ t = .int .u32 (crcL 4294967295 (bs.take k) : Nat)) (fun _ i => bs.length - (intOf i).toNat)
    case atStart => exact ⟨0, by omega, rfl, rfl⟩
    case round =>
      obtain ⟨k, hk, rfl, rfl⟩ := hrel
      have hx : crcL 4294967295 (bs.take k) < 4294967296 := crcL_lt (by decide) _ (hz.take k)
      by_cases hlt : k < bs.length
      · have hck := hc k hlt
        have hzk := hz.at k
        have HS : Hid (crcL 4294967295 (bs.take (k + 1)) = crcN 8 (crcL 4294967295 (bs.take k) ^^^ bs[k]?.getD 0)) := by
          show _ = _
          rw [take_snocN bs k hlt, crcL_snoc]
          rfl
        have hx2 := u32_xor_nat _ _ hx (show bs[k]?.getD 0 < 4294967296 by omega)
        have hy := xor32 hx (show bs[k]?.getD 0 < 4294967296 by omega)
        clear hc
        generalize crcL 4294967295 (bs.take k) ^^^ bs[k]?.getD 0 = Z at HS hx2 hy
        generalize bs[k]?.getD 0 = B at hck hzk hx2
        go_wp2
        go_loop [3, 5] (fun t i => ∃ j : Nat, j ≤ 8 ∧ i = .int .i64 j ∧ t = .int .u32 (crcN j Z : Nat)) (fun _ i => 8 - (intOf i).toNat)
        case atStart => exact ⟨0, by omega, rfl, rfl⟩
        case round =>
          obtain ⟨j, hj, rfl, rfl⟩ := hrel
          have hw := crcN_lt hy j
          by_cases hj8 : j < 8
          · go_wp2
            · go_round
              case rel => exact ⟨j + 1, by omega, by go_num, val_int (crcT_odd _ ‹_› hw)⟩
              case measure => simp [intOf]; omega
            · go_round
              case rel => exact ⟨j + 1, by omega, by go_num, val_int (crcT_even _ ‹_›)⟩
              case measure => simp [intOf]; omega
          · obtain rfl : j = 8 := by omega
            go_wp2
            go_round
            case rel => exact ⟨k + 1, by omega, by go_num, val_int (by rw [HS.out])⟩
            case measure => simp [intOf]; omega
      · obtain rfl : k = bs.length := by omega
        go_wp2
        go_ret
        refine ⟨ret_int ?_, rfl⟩
        rw [List.take_length] at hx
        refine (u32_xor_nat _ 4294967295 hx (by decide)).trans ?_
        rw [Nat.xor_comm]
        rfl


/-- Bytes of the call's own come back. -/
def OwnPost (w w' : World) (e : Ending) (ys : List Nat) : Prop := ∃ a cap, e = .returned (.slice a ys.length cap) ∧ OwnA w' w.heap.size a cap ys ∧ Below w.heap.size w w'
set_option maxHeartbeats 800000 in
theorem lowFirst_any (x n : Nat) (w : World) (hx : x < 9223372036854775808) (hn : n ≤ 8) :
    Calls (Al.progOf Tryz.prog) 32 #[.int .i64 x, .int .i64 n] w fun e w' => OwnPost w w' e (low n x) := by
  go_enter Al.func32, Tryz.ntmps32
  go_wp2
  go_loopw [5, 6] (fun t j wr => ∃ (k : Nat) (a : Option Addr) (cap : Nat), k ≤ n ∧ j = .int .i64 k ∧ t = .slice a (low k x).length cap ∧ Hid (OwnA wr w.heap.size a cap (low k x) ∧ Below w.heap.size w wr)) (fun _ j _ => n - (intOf j).toNat)
  case atStart => exact ⟨0, none, 0, by omega, rfl, rfl, own_nil _ _, Below.refl _ _⟩
  case round =>
    obtain ⟨k, a, cap, hk, rfl, rfl, hr⟩ := hrel
    by_cases hlt : k < n
    · have HA : Hid (OwnA (wr.alloc (.cells #[.int .u8 ((x : Int) / 2 ^ (8 * k) % 256)] 5)) w.heap.size a cap (low k x) ∧ Lies (wr.alloc (.cells #[.int .u8 ((x : Int) / 2 ^ (8 * k) % 256)] 5)) (some ⟨wr.heap.size, 0, none⟩) [x / 2 ^ (8 * k) % 256] ∧ Below w.heap.size w (wr.alloc (.cells #[.int .u8 ((x : Int) / 2 ^ (8 * k) % 256)] 5)) ∧ (low (k + 1) x).length ≤ 1048576) := by
        have hb : Below wr.heap.size wr (wr.alloc (.cells #[.int .u8 ((x : Int) / 2 ^ (8 * k) % 256)] 5)) := (Below.refl _ _).alloc (Nat.le_refl _) _
        refine ⟨hr.out.1.below hb, (own_new wr wr.heap.size [x / 2 ^ (8 * k) % 256] (Nat.le_refl _) (by simp) _ ?_).lies, hr.out.2.trans (hb.mono hr.out.2.size), by rw [low_len]; omega⟩
        rw [low_byte]
        rfl
      clear hr
      go_wp2_with (at_builtin; refine app_step rfl (.tmp 12) (.tmp 18) rfl w.heap.size a cap (low k x) rfl HA.out.1 (some ⟨wr.heap.size, 0, none⟩) 1 [x / 2 ^ (8 * k) % 256] rfl (fun e => by cases e) HA.out.2.1 (low (k + 1) x) (low_snoc k x) HA.out.2.2.2 HA.out.2.2.1.size ?_)
      intro a1 cap1 w2 hO2 hK2
      have HR : Hid (OwnA w2 w.heap.size a1 cap1 (low (k + 1) x) ∧ Below w.heap.size w w2) := ⟨hO2, HA.out.2.2.1.trans (hK2.below HA.out.2.2.1.size (fun b hb => (HA.out.1.ge hb).1))⟩
      clear hO2 hK2 HA
      go_wp2
      go_roundw
      case rel => exact ⟨k + 1, a1, cap1, by omega, by go_num, rfl, HR.out⟩
      case measure => simp [intOf]; omega
    · obtain rfl : k = n := by omega
      go_wp2
      go_ret
      exact ⟨a, cap, rfl, hr.out⟩
set_option maxHeartbeats 1600000 in
theorem fault_range (n k l s : Int) (a : Option Addr) (m c : Nat) (w : World) (h : ¬ ((24 ≤ n ∧ n ≤ 4096) ∧ Named k l s)) :
    Calls (Al.progOf Tryz.prog) 20 #[.int .i64 n, FV k l s a m c] w fun e w' => e = .returned (.int .i64 1) ∧ Below w.heap.size w w' := by
  have HB : Hid (∀ o, Below w.heap.size w (w.alloc o)) := fun o => (Below.refl _ _).alloc (Nat.le_refl _) o
  by_cases h1 : 24 ≤ n
  case neg =>
    clear h
    go_enter Al.func20, Tryz.ntmps20
    go_wp2
    go_ret
    exact ⟨rfl, HB.out _⟩
  by_cases h2 : n ≤ 4096
  case neg =>
    clear h
    go_enter Al.func20, Tryz.ntmps20
    go_wp2
    go_ret
    exact ⟨rfl, HB.out _⟩
  by_cases h3 : 1 ≤ k
  case neg =>
    clear h
    go_enter Al.func20, Tryz.ntmps20
    go_wp2
    go_ret
    exact ⟨rfl, HB.out _⟩
  by_cases h4 : k ≤ 3
  case neg =>
    clear h
    go_enter Al.func20, Tryz.ntmps20
    go_wp2
    go_ret
    exact ⟨rfl, HB.out _⟩
  by_cases h5 : 0 ≤ l
  case neg =>
    clear h
    go_enter Al.func20, Tryz.ntmps20
    go_wp2
    go_ret
    exact ⟨rfl, HB.out _⟩
  by_cases h6 : l ≤ 4294967295
  case neg =>
    clear h
    go_enter Al.func20, Tryz.ntmps20
    go_wp2
    go_ret
    exact ⟨rfl, HB.out _⟩
  by_cases h7 : 0 ≤ s
  case neg =>
    clear h
    go_enter Al.func20, Tryz.ntmps20
    go_wp2
    go_ret
    exact ⟨rfl, HB.out _⟩
  have h8 : ¬ s ≤ 4611686018427387904 := fun h8 => h ⟨⟨h1, h2⟩, ⟨h3, h4⟩, ⟨h5, h6⟩, h7, h8⟩
  clear h
  go_enter Al.func20, Tryz.ntmps20
  go_wp2
  go_ret
  exact ⟨rfl, HB.out _⟩
set_option maxHeartbeats 800000 in
theorem fault_full (n k l s : Int) (a : Option Addr) (m c : Nat) (w : World) (h : 24 ≤ n ∧ n ≤ 4096) (hn : Named k l s) (hm : n - 21 < (m : Int)) (hmm : m < 9223372036854775808) :
    Calls (Al.progOf Tryz.prog) 20 #[.int .i64 n, FV k l s a m c] w fun e w' => e = .returned (.int .i64 3) ∧ Below w.heap.size w w' := by
  have HB : Hid (∀ o, Below w.heap.size w (w.alloc o)) := fun o => (Below.refl _ _).alloc (Nat.le_refl _) o
  obtain ⟨⟨h3, h4⟩, ⟨h5, h6⟩, h7, h8⟩ := hn
  go_enter Al.func20, Tryz.ntmps20
  go_wp2
  go_ret
  exact ⟨rfl, HB.out _⟩
set_option maxHeartbeats 800000 in
theorem fault_ok (n k l s : Int) (a : Option Addr) (m c : Nat) (w : World) (h : 24 ≤ n ∧ n ≤ 4096) (hn : Named k l s) (hm : ¬ n - 21 < (m : Int)) (hmm : m < 9223372036854775808) :
    Calls (Al.progOf Tryz.prog) 20 #[.int .i64 n, FV k l s a m c] w fun e w' => e = .returned (.int .i64 0) ∧ Below w.heap.size w w' := by
  have HB : Hid (∀ o, Below w.heap.size w (w.alloc o)) := fun o => (Below.refl _ _).alloc (Nat.le_refl _) o
  obtain ⟨⟨h3, h4⟩, ⟨h5, h6⟩, h7, h8⟩ := hn
  go_enter Al.func20, Tryz.ntmps20
  go_wp2
  go_ret
  exact ⟨rfl, HB.out _⟩
end Go.Proofs.YtdkafcgangcgbagGreatDoorQ
/-
  What the call of the document's answer granaryref1.PackOf gives: the page of a frame that may be, in memory of its own.
-/
namespace Go.Proofs.YtdkafcgangcgbagGreatDoorQ
open Go.Proofs.YtdkafcgangcgbagGreatDoorM
open Go.RowKit
set_option linter.unusedVariables false

/-- A slice's length. -/
def slen : Value → Nat
  | .slice _ n _ => n
  | _ => 0
theorem alloc_below (w : World) (o : Obj) : Below w.heap.size w (w.alloc o) := (Below.refl _ _).alloc (Nat.le_refl _) o
set_option maxRecDepth 100000 in
set_option maxHeartbeats 6400000 in
theorem packOf_any (n k l s : Nat) (a : Option Addr) (cap : Nat) (data : List Nat) (w : World) (h : FOk n k l s data.length) (hA : AllB data) (hnil : a = none → cap = 0) (hL : Lies w a data) :
    Calls (Al.progOf Tryz.prog) 21 #[.int .i64 n, FV k l s a data.length cap] w fun e w' => OwnPost w w' e (packL n k l s data) := by
  have h24 := h.n0
  have h4096 := h.n1
  have hk1 := h.k1
  have hl1 := h.l1
  have hs1 := h.s1
  have hd1 := h.d1
  have HF : Hid (AllB data ∧ (a = none → cap = 0)) := ⟨hA, hnil⟩
  have k8 : (k : Int) % 256 = (k : Int) := by omega
  obtain ⟨H1, HH1⟩ : ∃ L, Hid (L = [165, k] ++ low 4 l ∧ L.length ≤ 1048576) := ⟨_, rfl, by simp [low_len]⟩
  obtain ⟨H2, HH2⟩ : ∃ L, Hid (L = H1 ++ low 8 s ∧ L.length ≤ 1048576) := ⟨_, rfl, by rw [HH1.out.1]; simp [low_len]⟩
  obtain ⟨H3, HH3⟩ : ∃ L, Hid (L = H2 ++ low 2 data.length ∧ L.length ≤ 1048576 ∧ L = headL k l s data.length) := ⟨_, rfl, by rw [HH2.out.1, HH1.out.1]; simp [low_len], by rw [HH2.out.1, HH1.out.1]; simp [headL]⟩
  obtain ⟨R2, HR2⟩ : ∃ L, Hid (L = (data ++ List.replicate (n - 21 - data.length) 0) ++ [90] ∧ L.length ≤ 1048576 ∧ L = restL n data) := ⟨_, rfl, by simp; omega, by simp [restL]⟩
  obtain ⟨B1, HB1⟩ : ∃ L, Hid (L = H3 ++ low 4 0 ∧ L.length ≤ 1048576) := ⟨_, rfl, by rw [HH3.out.2.2, List.length_append, headL_len, low_len]; omega⟩
  obtain ⟨B2, HB2⟩ : ∃ L, Hid (L = B1 ++ R2 ∧ L.length ≤ 1048576 ∧ L = bodyL n 0 k l s data ∧ AllB L) := by
    refine ⟨_, rfl, ?_, ?_⟩
    · rw [HB1.out.1, HH3.out.2.2, HR2.out.2.2, List.length_append, List.length_append, headL_len, low_len, restL_len n data hd1]; omega
    · have e : B1 ++ R2 = bodyL n 0 k l s data := by rw [HB1.out.1, HH3.out.2.2, HR2.out.2.2]; simp [bodyL]
      rw [e]
      exact ⟨rfl, bodyL_all n 0 k l s data (by omega) HF.out.1⟩
  obtain ⟨C, HC⟩ : ∃ C, Hid (crcOf B2 = C ∧ C < 4294967296) := ⟨_, rfl, crcOf_lt HB2.out.2.2.2⟩
  obtain ⟨O1, HO1⟩ : ∃ L, Hid (L = H3 ++ low 4 C ∧ L.length ≤ 1048576) := ⟨_, rfl, by rw [HH3.out.2.2, List.length_append, headL_len, low_len]; omega⟩
  obtain ⟨O2, HO2⟩ : ∃ L, Hid (L = O1 ++ R2 ∧ L.length ≤ 1048576 ∧ L = packL n k l s data) := by
    refine ⟨_, rfl, ?_, ?_⟩
    · rw [HO1.out.1, HH3.out.2.2, HR2.out.2.2, List.length_append, List.length_append, headL_len, low_len, restL_len n data hd1]; omega
    · rw [HO1.out.1, HH3.out.2.2, HR2.out.2.2, ← HC.out.1, HB2.out.2.2.1]; simp [packL, bodyL]
  have HE : Hid (O2 = packL n k l s data) := HO2.out.2.2
  rw [← HE.out]
  have hcb : C < 4294967296 := HC.out.2
  have hlow1 := fun wx => lowFirst_any l 4 wx (by omega) (by omega)
  have hlow2 := fun wx => lowFirst_any s 8 wx (by omega) (by omega)
  have hlow3 := fun wx => lowFirst_any data.length 2 wx (by omega) (by omega)
  have hlow4 := fun wx => lowFirst_any C 4 wx (by omega) (by omega)
  have HBX : Hid (BoxAt (w.alloc (boxF k l s a data.length cap)) w.heap.size k l s a data.length cap) := box_new w k l s a data.length cap
  have HLD : Hid (Lies (w.alloc (boxF k l s a data.length cap)) a data) := hL.below (alloc_below w _)
  have HBW : Hid (Below w.heap.size w (w.alloc (boxF k l s a data.length cap))) := alloc_below w _
  have HI0 : Hid (Below (w.alloc (boxF k l s a data.length cap)).heap.size (w.alloc (boxF k l s a data.length cap)) ((w.alloc (boxF k l s a data.length cap)).alloc (.cells #[.int .u8 165, .int .u8 (k : Int)] 5)) ∧
      OwnA ((w.alloc (boxF k l s a data.length cap)).alloc (.cells #[.int .u8 165, .int .u8 (k : Int)] 5)) (w.alloc (boxF k l s a data.length cap)).heap.size (some ⟨w.heap.size + 1, 0, none⟩) 2 [165, k]) :=
    ⟨alloc_below _ _, by
      have e : w.heap.size + 1 = (w.alloc (boxF k l s a data.length cap)).heap.size := by simp
      rw [e]
      exact own_new _ _ [165, k] (Nat.le_refl _) (by simp) _ rfl⟩
  clear h hA hnil hL
  go_enter Al.func21, Tryz.ntmps21
  go_wp2_with fail
  generalize w.alloc (boxF k l s a data.length cap) = wA at HBX HLD HBW HI0 ⊢
  have HFIN : Hid (∀ wx, Below wA.heap.size wA wx → Below w.heap.size w wx) := fun wx hx => HBW.out.trans (hx.mono HBW.out.size)
  refine (hlow1 _).mono ?_
  rintro e w1 ⟨a1, c1, rfl, hO, hB⟩
  have HI1 : Hid (Below wA.heap.size wA w1 ∧ OwnA w1 wA.heap.size (some ⟨w.heap.size + 1, 0, none⟩) 2 [165, k] ∧ Lies w1 a1 (low 4 l) ∧ (a1 = none → c1 = 0)) := ⟨HI0.out.1.trans (hB.mono HI0.out.1.size), HI0.out.2.below hB, hO.lies, hO.nil0⟩
  clear hO hB HI0
  go_wp2_with (at_builtin; refine app_step rfl (.tmp 18) (.tmp 19) rfl wA.heap.size (some ⟨w.heap.size + 1, 0, none⟩) 2 [165, k] (by rfl) HI1.out.2.1 a1 c1 (low 4 l) (by rfl) HI1.out.2.2.2 HI1.out.2.2.1 H1 HH1.out.1 HH1.out.2 HI1.out.1.size ?_)
  intro a2 c2 w2 hO hK
  have HI2 : Hid (Below wA.heap.size wA w2 ∧ OwnA w2 wA.heap.size a2 c2 H1) := ⟨HI1.out.1.trans (hK.below HI1.out.1.size (fun b hb => (HI1.out.2.1.ge hb).1)), hO⟩
  clear hO hK HI1
  have qc2 := (HBX.out.below HI2.out.1).c2
  go_wp2_with fail
  clear qc2
  refine (hlow2 _).mono ?_
  rintro e w3 ⟨a3, c3, rfl, hO, hB⟩
  have HI3 : Hid (Below wA.heap.size wA w3 ∧ OwnA w3 wA.heap.size a2 c2 H1 ∧ Lies w3 a3 (low 8 s) ∧ (a3 = none → c3 = 0)) := ⟨HI2.out.1.trans (hB.mono HI2.out.1.size), HI2.out.2.below hB, hO.lies, hO.nil0⟩
  clear hO hB HI2
  go_wp2_with (at_builtin; refine app_step rfl (.tmp 24) (.tmp 25) rfl wA.heap.size a2 c2 H1 (by rfl) HI3.out.2.1 a3 c3 (low 8 s) (by rfl) HI3.out.2.2.2 HI3.out.2.2.1 H2 HH2.out.1 HH2.out.2 HI3.out.1.size ?_)
  intro a4 c4 w4 hO hK
  have HI4 : Hid (Below wA.heap.size wA w4 ∧ OwnA w4 wA.heap.size a4 c4 H2) := ⟨HI3.out.1.trans (hK.below HI3.out.1.size (fun b hb => (HI3.out.2.1.ge hb).1)), hO⟩
  clear hO hK HI3
  have qc3 := (HBX.out.below HI4.out.1).c3
  go_wp2_with fail
  clear qc3
  refine (hlow3 _).mono ?_
  rintro e w5 ⟨a5, c5, rfl, hO, hB⟩
  have HI5 : Hid (Below wA.heap.size wA w5 ∧ OwnA w5 wA.heap.size a4 c4 H2 ∧ Lies w5 a5 (low 2 data.length) ∧ (a5 = none → c5 = 0)) := ⟨HI4.out.1.trans (hB.mono HI4.out.1.size), HI4.out.2.below hB, hO.lies, hO.nil0⟩
  clear hO hB HI4
  go_wp2_with (at_builtin; refine app_step rfl (.tmp 31) (.tmp 32) rfl wA.heap.size a4 c4 H2 (by rfl) HI5.out.2.1 a5 c5 (low 2 data.length) (by rfl) HI5.out.2.2.2 HI5.out.2.2.1 H3 HH3.out.1 HH3.out.2.1 HI5.out.1.size ?_)
  intro ah ch w7 hO hK
  have HI7 : Hid (Below wA.heap.size wA w7 ∧ OwnA w7 wA.heap.size ah ch H3) := ⟨HI5.out.1.trans (hK.below HI5.out.1.size (fun b hb => (HI5.out.2.1.ge hb).1)), hO⟩
  clear hO hK HI5
  have qc3 := (HBX.out.below HI7.out.1).c3
  -- the rest: memory behind w7
  have HA8 : Hid (∀ ob : Obj, Below w7.heap.size w7 (w7.alloc ob)) := fun ob => alloc_below w7 ob
  have HD8 : Hid (∀ wx, Below w7.heap.size w7 wx → Lies wx a data) := fun wx hx => HLD.out.below (HI7.out.1.trans (hx.mono HI7.out.1.size))
  have q8 := (HBX.out.below (HI7.out.1.trans ((HA8.out (.cells #[] 5)).mono HI7.out.1.size))).c3
  clear qc3
  go_wp2_with (at_builtin; refine app_step rfl (.tmp 34) (.tmp 36) rfl w7.heap.size (some ⟨w7.heap.size, 0, none⟩) 0 [] (by rfl) (own_new w7 w7.heap.size [] (Nat.le_refl _) (by simp) _ rfl) a cap data (by rfl) HF.out.2 (HD8.out _ (HA8.out _)) data rfl (by omega) (HA8.out _).size ?_)
  intro a8 c8 w8 hO hK
  have HI8 : Hid (Below w7.heap.size w7 w8 ∧ OwnA w8 w7.heap.size a8 c8 data) := ⟨(HA8.out _).trans (hK.below (HA8.out _).size (fun b hb => by obtain ⟨x, e, rfl⟩ := hb; cases e; exact Nat.le_refl _)), hO⟩
  clear hO hK q8
  go_wp2
  go_loopw [7] (fun t wr => ∃ (ys : List Nat) (ar : Option Addr) (cr : Nat), t = .slice ar ys.length cr ∧ ys.length ≤ n - 21 ∧ Hid (ys = data ++ List.replicate (ys.length - data.length) 0 ∧ data.length ≤ ys.length ∧ Below w7.heap.size w7 wr ∧ OwnA wr w7.heap.size ar cr ys)) (fun t _ => n - slen t)
  case atStart => exact ⟨data, a8, c8, rfl, by omega, by simp, Nat.le_refl _, HI8.out.1, HI8.out.2⟩
  case round =>
  obtain ⟨ys, ar, cr, rfl, hys, hr⟩ := hrel
  clear HI8
  by_cases hlt : ys.length < n - 21
  · have hI : (ys.length : Int) < (n : Int) - 21 := by omega
    have HA : Hid (Below wr.heap.size wr (wr.alloc (.cells #[.int .u8 0] 5)) ∧ Lies (wr.alloc (.cells #[.int .u8 0] 5)) (some ⟨wr.heap.size, 0, none⟩) [0]) := ⟨alloc_below _ _, (own_new wr wr.heap.size [0] (Nat.le_refl _) (by simp) _ rfl).lies⟩
    obtain ⟨zs, HZ⟩ : ∃ zs, Hid (zs = ys ++ [0] ∧ zs.length ≤ 1048576) := ⟨_, rfl, by simp; omega⟩
    have HB9 : Hid (Below w7.heap.size w7 (wr.alloc (.cells #[.int .u8 0] 5)) ∧ OwnA (wr.alloc (.cells #[.int .u8 0] 5)) w7.heap.size ar cr ys) := ⟨hr.out.2.2.1.trans (HA.out.1.mono hr.out.2.2.1.size), hr.out.2.2.2.below HA.out.1⟩
    have HY : Hid (zs.length = ys.length + 1 ∧ zs = data ++ List.replicate (zs.length - data.length) 0 ∧ data.length ≤ zs.length) := by
      have e : zs.length = ys.length + 1 := by rw [HZ.out.1]; simp
      refine ⟨e, ?_, by have := hr.out.2.1; omega⟩
      have h1 := hr.out.1
      have h2 := hr.out.2.1
      rw [e, HZ.out.1, show ys.length + 1 - data.length = (ys.length - data.length) + 1 by omega, List.replicate_succ', ← List.append_assoc, ← h1]
    clear hr
    go_wp2_with (at_builtin; refine app_step rfl (.tmp 43) (.tmp 44) rfl w7.heap.size ar cr ys (by rfl) HB9.out.2 (some ⟨wr.heap.size, 0, none⟩) 1 [0] (by rfl) (fun e => by cases e) HA.out.2 zs HZ.out.1 HZ.out.2 HB9.out.1.size ?_)
    intro a9 c9 w9 hO hK
    have HR : Hid (zs = data ++ List.replicate (zs.length - data.length) 0 ∧ data.length ≤ zs.length ∧ Below w7.heap.size w7 w9 ∧ OwnA w9 w7.heap.size a9 c9 zs) := ⟨HY.out.2.1, HY.out.2.2, HB9.out.1.trans (hK.below HB9.out.1.size (fun b hb => (HB9.out.2.ge hb).1)), hO⟩
    have hzl : zs.length = ys.length + 1 := HY.out.1
    clear hO hK HB9 HA
    go_wp2
    go_roundw
    case rel => exact ⟨zs, a9, c9, rfl, by omega, HR.out⟩
    case measure => simp [slen]; omega
  · have hI : ¬ (ys.length : Int) < (n : Int) - 21 := by omega
    have HY : Hid (R2 = ys ++ [90] ∧ R2.length ≤ 1048576) := by
      refine ⟨?_, HR2.out.2.1⟩
      have e : ys.length = n - 21 := by omega
      have h1 := hr.out.1
      rw [HR2.out.1, h1, e]
    have HA : Hid (Below wr.heap.size wr (wr.alloc (.cells #[.int .u8 90] 5)) ∧ Lies (wr.alloc (.cells #[.int .u8 90] 5)) (some ⟨wr.heap.size, 0, none⟩) [90]) := ⟨alloc_below _ _, (own_new wr wr.heap.size [90] (Nat.le_refl _) (by simp) _ rfl).lies⟩
    have HB9 : Hid (Below w7.heap.size w7 (wr.alloc (.cells #[.int .u8 90] 5)) ∧ OwnA (wr.alloc (.cells #[.int .u8 90] 5)) w7.heap.size ar cr ys) := ⟨hr.out.2.2.1.trans (HA.out.1.mono hr.out.2.2.1.size), hr.out.2.2.2.below HA.out.1⟩
    clear hr hlt
    go_wp2_with (at_builtin; refine app_step rfl (.tmp 46) (.tmp 47) rfl w7.heap.size ar cr ys (by rfl) HB9.out.2 (some ⟨wr.heap.size, 0, none⟩) 1 [90] (by rfl) (fun e => by cases e) HA.out.2 R2 HY.out.1 HY.out.2 HB9.out.1.size ?_)
    intro aq cq wq hO hK
    -- head and rest, memory behind wq is free
    have HQ : Hid (Below w7.heap.size w7 wq ∧ OwnA wq w7.heap.size aq cq R2 ∧ OwnA wq wA.heap.size ah ch H3 ∧ (∀ b, blk ah b → b < w7.heap.size) ∧ Below wA.heap.size wA wq) := by
      have h1 : Below w7.heap.size w7 wq := HB9.out.1.trans (hK.below HB9.out.1.size (fun b hb => (HB9.out.2.ge hb).1))
      exact ⟨h1, hO, HI7.out.2.below h1, fun b hb => (HI7.out.2.ge hb).2, HI7.out.1.trans (h1.mono HI7.out.1.size)⟩
    clear hO hK HB9 HA hys hI HY
    have HAq : Hid (∀ ob : Obj, Below wq.heap.size wq (wq.alloc ob)) := fun ob => alloc_below wq ob
    go_wp2_with (at_builtin; refine app_step rfl (.tmp 49) (.tmp 50) rfl wq.heap.size (some ⟨wq.heap.size, 0, none⟩) 0 [] (by rfl) (own_new wq wq.heap.size [] (Nat.le_refl _) (by simp) _ rfl) ah ch H3 (by rfl) HQ.out.2.2.1.nil0 (HQ.out.2.2.1.lies.below (HAq.out _)) H3 rfl HH3.out.2.1 (HAq.out _).size ?_)
    intro b1 d1 x1 hO hK
    have HX1 : Hid (Below wq.heap.size wq x1 ∧ OwnA x1 wq.heap.size b1 d1 H3) := ⟨(HAq.out _).trans (hK.below (HAq.out _).size (fun b hb => by obtain ⟨x, e, rfl⟩ := hb; cases e; exact Nat.le_refl _)), hO⟩
    clear hO hK
    have HX1A : Hid (Below wq.heap.size wq (x1.alloc (.cells #[.int .u8 0, .int .u8 0, .int .u8 0, .int .u8 0] 5)) ∧ OwnA (x1.alloc (.cells #[.int .u8 0, .int .u8 0, .int .u8 0, .int .u8 0] 5)) wq.heap.size b1 d1 H3 ∧ Lies (x1.alloc (.cells #[.int .u8 0, .int .u8 0, .int .u8 0, .int .u8 0] 5)) (some ⟨x1.heap.size, 0, none⟩) (low 4 0)) :=
      ⟨HX1.out.1.trans ((alloc_below x1 _).mono HX1.out.1.size), HX1.out.2.below (alloc_below x1 _), (own_new x1 x1.heap.size (low 4 0) (Nat.le_refl _) (by decide) _ rfl).lies⟩
    go_wp2_with (at_builtin; refine app_step rfl (.tmp 52) (.tmp 53) rfl wq.heap.size b1 d1 H3 (by rfl) HX1A.out.2.1 (some ⟨x1.heap.size, 0, none⟩) 4 (low 4 0) (by rfl) (fun e => by cases e) HX1A.out.2.2 B1 HB1.out.1 HB1.out.2 HX1A.out.1.size ?_)
    intro b2 d2 x2 hO hK
    have HX2 : Hid (Below wq.heap.size wq x2 ∧ OwnA x2 wq.heap.size b2 d2 B1) := ⟨HX1A.out.1.trans (hK.below HX1A.out.1.size (fun b hb => (HX1A.out.2.1.ge hb).1)), hO⟩
    clear hO hK HX1 HX1A
    go_wp2_with (at_builtin; refine app_step rfl (.tmp 55) (.tmp 56) rfl wq.heap.size b2 d2 B1 (by rfl) HX2.out.2 aq cq R2 (by rfl) HQ.out.2.1.nil0 (HQ.out.2.1.lies.below HX2.out.1) B2 HB2.out.1 HB2.out.2.1 HX2.out.1.size ?_)
    intro b3 d3 x3 hO hK
    have HX3 : Hid (Below wq.heap.size wq x3 ∧ Lies x3 b3 B2) := ⟨HX2.out.1.trans (hK.below HX2.out.1.size (fun b hb => (HX2.out.2.ge hb).1)), hO.lies⟩
    clear hO hK HX2
    have hcrc := refCrc_any b3 B2 d3 x3 (by have := HB2.out.2.1; omega) HB2.out.2.2.2 HX3.out.2
    rw [HC.out.1] at hcrc
    go_wp2_with fail
    refine hcrc.mono ?_
    rintro e x4 ⟨rfl, rfl⟩
    clear hcrc
    go_wp2_with fail
    refine (hlow4 _).mono ?_
    rintro e x5 ⟨b5, d5, rfl, hO, hB⟩
    have HX5 : Hid (Below wq.heap.size wq x5 ∧ Lies x5 b5 (low 4 C) ∧ (b5 = none → d5 = 0)) := ⟨HX3.out.1.trans (hB.mono HX3.out.1.size), hO.lies, hO.nil0⟩
    clear hO hB HX3
    have HX6 : Hid (OwnA x5 wA.heap.size ah ch H3 ∧ OwnA x5 w7.heap.size aq cq R2 ∧ Below wA.heap.size wA x5) := ⟨HQ.out.2.2.1.below HX5.out.1, HQ.out.2.1.below HX5.out.1, HQ.out.2.2.2.2.trans (HX5.out.1.mono HQ.out.2.2.2.2.size)⟩
    go_wp2_with (at_builtin; refine app_step rfl (.tmp 63) (.tmp 64) rfl wA.heap.size ah ch H3 (by rfl) HX6.out.1 b5 d5 (low 4 C) (by rfl) HX5.out.2.2 HX5.out.2.1 O1 HO1.out.1 HO1.out.2 HX6.out.2.2.size ?_)
    intro b6 d6 x6 hO hK
    have HX7 : Hid (OwnA x6 wA.heap.size b6 d6 O1 ∧ Lies x6 aq R2 ∧ (aq = none → cq = 0) ∧ Below wA.heap.size wA x6) :=
      ⟨hO, (HX6.out.2.1.keep hK (fun b hb h2 => by have h3 := HQ.out.2.2.2.1 b h2; have h4 := (HX6.out.2.1.ge hb).1; omega)).lies, HX6.out.2.1.nil0, HX6.out.2.2.trans (hK.below HX6.out.2.2.size (fun b hb => (HX6.out.1.ge hb).1))⟩
    clear hO hK HX6 HX5 HQ
    go_wp2_with (at_builtin; refine app_step rfl (.tmp 66) (.tmp 67) rfl wA.heap.size b6 d6 O1 (by rfl) HX7.out.1 aq cq R2 (by rfl) HX7.out.2.2.1 HX7.out.2.1 O2 HO2.out.1 HO2.out.2.1 HX7.out.2.2.2.size ?_)
    intro b7 d7 x7 hO hK
    have HX8 : Hid (OwnA x7 w.heap.size b7 d7 O2 ∧ Below w.heap.size w x7) := ⟨hO.base HBW.out.size, HFIN.out _ (HX7.out.2.2.2.trans (hK.below HX7.out.2.2.2.size (fun b hb => (HX7.out.1.ge hb).1)))⟩
    clear hO hK HX7
    go_wp2
    go_ret
    exact ⟨b7, d7, rfl, HX8.out⟩
end Go.Proofs.YtdkafcgangcgbagGreatDoorQ
/-
  What the call of granaryref1.Bytes gives: whether two lists are the same.
-/
namespace Go.Proofs.YtdkafcgangcgbagGreatDoorQ
open Go.Proofs.YtdkafcgangcgbagGreatDoorM
open Go.RowKit

set_option maxHeartbeats 800000 in
theorem bytes_any (a a2 : Option Addr) (xs bs : List Nat) (cap cap2 : Nat) (w : World) (hm : xs.length ≤ 140737488355328) (hm2 : bs.length ≤ 140737488355328) (hc : Lies w a xs) (hc2 : Lies w a2 bs) :
    Calls (Al.progOf Tryz.prog) 22 #[.slice a xs.length cap, .slice a2 bs.length cap2] w fun e w' => e = .returned (.bool (decide (xs = bs))) ∧ Below w.heap.size w w' := by
  by_cases hl : xs.length = bs.length
  · have HL : Hid (xs.length = bs.length) := hl
    have ht : (((xs.length : Nat) : Int) != ((bs.length : Nat) : Int)) = false := by simp; omega
    have hle : xs.length ≤ bs.length := by omega
    by_cases h0 : xs.length = 0
    · have h1 : bs.length = 0 := by omega
      obtain rfl := List.eq_nil_of_length_eq_zero h0
      obtain rfl := List.eq_nil_of_length_eq_zero h1
      clear hl HL ht h0 h1 hle
      go_enter Al.func22, Tryz.ntmps22
      go_wp2
      go_loop [5] (fun j => j = .int .i64 0) (fun _ => 0)
      case atStart => rfl
      case round =>
        subst hrel
        go_wp2
        go_ret
        exact ⟨rfl, Below.refl _ _⟩
    · rcases hc with h | ⟨b, off, rfl, hc⟩
      · rw [h] at h0; exact absurd rfl h0
      rcases hc2 with h | ⟨b2, off2, rfl, hc2⟩
      · rw [h] at hl; exact absurd hl h0
      have hc' : ∀ wr, Below w.heap.size w wr → Lies wr (some ⟨b, off, none⟩) xs := fun wr hb => Lies.below (Or.inr ⟨b, off, rfl, hc⟩) hb
      have hc2' : ∀ wr, Below w.heap.size w wr → Lies wr (some ⟨b2, off2, none⟩) bs := fun wr hb => Lies.below (Or.inr ⟨b2, off2, rfl, hc2⟩) hb
      have HC : Hid (∀ wr, Below w.heap.size w wr → Lies wr (some ⟨b, off, none⟩) xs) := hc'
      have HC2 : Hid (∀ wr, Below w.heap.size w wr → Lies wr (some ⟨b2, off2, none⟩) bs) := hc2'
      clear hl h0 hc hc2 hc' hc2'
      go_enter Al.func22, Tryz.ntmps22
      go_wp2
      go_loopw [5] (fun j wr => ∃ k : Nat, k ≤ xs.length ∧ j = .int .i64 k ∧ Hid (∀ i, i < k → xs[i]?.getD 0 = bs[i]?.getD 0) ∧ Below w.heap.size w wr) (fun j _ => xs.length - (intOf j).toNat)
      case atStart => exact ⟨0, by omega, rfl, (fun i h => by omega), Below.refl _ _⟩
      case round =>
        obtain ⟨k, hk, rfl, hsame, hbr⟩ := hrel
        by_cases hlt : k < xs.length
        · have hlt2 : k < bs.length := by omega
          obtain hno | ⟨b3, off3, hbo, hc⟩ := HC.out wr hbr
          · rw [hno] at hlt; exact absurd hlt (Nat.not_lt_zero _)
          cases hbo
          obtain hno | ⟨b3, off3, hbo, hc2⟩ := HC2.out wr hbr
          · rw [hno] at hlt2; exact absurd hlt2 (Nat.not_lt_zero _)
          cases hbo
          have hck := hc k hlt
          have hck2 := hc2 k hlt2
          have HX : Hid (∀ X Y : Nat, xs[k]?.getD 0 = X → bs[k]?.getD 0 = Y → (X = Y → ∀ i, i < k + 1 → xs[i]?.getD 0 = bs[i]?.getD 0) ∧ (X ≠ Y → xs ≠ bs)) := by
            rintro X Y rfl rfl
            refine ⟨fun h i hi => ?_, fun h e => h (by rw [e])⟩
            by_cases h2 : i < k
            · exact hsame.out i h2
            · have : i = k := by omega
              subst this; exact h
          have HX2 : Hid (((xs[k]?.getD 0 : Nat) = (bs[k]?.getD 0) → ∀ i, i < k + 1 → xs[i]?.getD 0 = bs[i]?.getD 0) ∧ (xs[k]?.getD 0 ≠ bs[k]?.getD 0 → xs ≠ bs)) := HX.out _ _ rfl rfl
          clear HX hc hc2
          generalize xs[k]?.getD 0 = X at hck HX2
          generalize bs[k]?.getD 0 = Y at hck2 HX2
          go_wp2
          go_quiet (fail)
          go_wp2
          · have hne : (X != Y) = true := by
              have h : ((X : Int) != (Y : Int)) = true := by assumption
              simp at h ⊢; omega
            have hb2 := below_drewN hbr nq
            go_ret
            refine ⟨?_, hb2⟩
            rw [decide_eq_false (HX2.out.2 (by simpa using hne))]
            rfl
          · have heq : X = Y := by
              have h : ((X : Int) != (Y : Int)) = false := by assumption
              simp at h; omega
            have hb2 := below_drewN hbr nq
            have hall := HX2.out.1 heq
            go_roundw
            case rel => exact ⟨k + 1, by omega, by go_num, hall, hb2⟩
            case measure => simp [intOf]; omega
        · obtain rfl : k = xs.length := by omega
          go_wp2
          go_ret
          refine ⟨?_, hbr⟩
          have : xs = bs := ext_getD HL.out hsame.out
          rw [decide_eq_true this]
          rfl
  · have ht : (((xs.length : Nat) : Int) != ((bs.length : Nat) : Int)) = true := by simp; omega
    have hne : xs ≠ bs := fun e => hl (by rw [e])
    rw [decide_eq_false hne]
    clear hne hl
    go_enter Al.func22, Tryz.ntmps22
    go_wp2
    go_ret
    exact ⟨rfl, Below.refl _ _⟩

end Go.Proofs.YtdkafcgangcgbagGreatDoorQ
