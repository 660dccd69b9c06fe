/-
  The walk over granarylaw1.FrameTorn: whatever the arguments, it returns true, and nothing that was there has turned.
-/
import Derived.Test.YtfaphblninmioacTurned
namespace Go.Proofs.Ytfaphblninmioac
open Go.RowKit
set_option linter.unusedVariables false

set_option maxHeartbeats 1600000 in
theorem torn_bad (q : Nat) (n k l s : Int) (a : Option Addr) (m cap : Nat) (at' : Int) (w : World)
    (hP : ∀ wx, Calls Try.prog 12 #[.int .i64 n, FV k l s a m cap] wx fun e w' => e = .returned (.tuple #[.slice none 0 0, .iface 44 (.int .i64 (q : Int))]) ∧ Below wx.heap.size wx w') :
    Calls Try.prog 6 #[.int .i64 n, FV k l s a m cap, .int .i64 at'] w fun e w' => e = .returned (.bool true) ∧ Below w.heap.size w w' := by
  have HA : Hid (Below w.heap.size w (w.alloc (boxF k l s a m cap)) ∧ BoxAt (w.alloc (boxF k l s a m cap)) w.heap.size k l s a m cap) := ⟨alloc_below' w _, box_new w k l s a m cap⟩
  go_enter Try.func6, Try.ntmps6
  go_wp2_with fail
  refine (fact_any _).mono ?_
  rintro e w1 ⟨rfl, hb1⟩
  have H1 : Hid (Below w.heap.size w w1 ∧ BoxAt w1 w.heap.size k l s a m cap) := ⟨HA.out.1.trans (hb1.mono HA.out.1.size), HA.out.2.below hb1⟩
  have c0 := H1.out.2.c0
  have c1 := H1.out.2.c1
  have c2 := H1.out.2.c2
  have c3 := H1.out.2.c3
  clear hb1 HA
  go_wp2_with fail
  refine (hP _).mono ?_
  rintro e w2 ⟨rfl, hb2⟩
  have H2 : Hid (Below w.heap.size w w2) := H1.out.1.trans (hb2.mono H1.out.1.size)
  clear hb2 H1 hP c0 c1 c2 c3
  go_wp2
  go_ret
  exact ⟨rfl, H2.out⟩
set_option maxHeartbeats 3200000 in
theorem torn_good (n k l s : Nat) (a : Option Addr) (cap : Nat) (data : List Nat) (at' : Int) (w : World) (ha : -9223372036854775808 ≤ at' ∧ at' ≤ 9223372036854775807) (h : FOk n k l s data.length) (hA : AllB data) (hL : Lies w a data) :
    Calls Try.prog 6 #[.int .i64 n, FV k l s a data.length cap, .int .i64 at'] w fun e w' => e = .returned (.bool true) ∧ Below w.heap.size w w' := by
  have HA : Hid (Below w.heap.size w (w.alloc (boxF k l s a data.length cap)) ∧ BoxAt (w.alloc (boxF k l s a data.length cap)) w.heap.size k l s a data.length cap ∧ Lies (w.alloc (boxF k l s a data.length cap)) a data) := ⟨alloc_below' w _, box_new w k l s a data.length cap, hL.below (alloc_below' w _)⟩
  have hP := fun wx hx => pack_good n k l s a cap data wx h hA hx
  have HF : Hid (FOk n k l s data.length ∧ AllB data) := ⟨h, hA⟩
  have hn0 := h.n0
  have hn1 := h.n1
  have hd1 := h.d1
  have HPL : Hid ((packL n k l s data).length = n ∧ AllB (packL n k l s data) ∧ ValidP (packL n k l s data) ∧ (packL n k l s data)[0]?.getD 0 = 165) := ⟨packL_len n k l s data hd1, packL_all n k l s data (by have := h.k1; omega) hA, valid_pack h, pack_first n k l s data⟩
  generalize packL n k l s data = PG at *
  clear h hA hL
  go_enter Try.func6, Try.ntmps6
  go_wp2_with fail
  refine (fact_any _).mono ?_
  rintro e w1 ⟨rfl, hb1⟩
  have H1 : Hid (Below w.heap.size w w1 ∧ BoxAt w1 w.heap.size k l s a data.length cap ∧ Lies w1 a data) := ⟨HA.out.1.trans (hb1.mono HA.out.1.size), HA.out.2.1.below hb1, HA.out.2.2.below hb1⟩
  have c0 := H1.out.2.1.c0
  have c1 := H1.out.2.1.c1
  have c2 := H1.out.2.1.c2
  have c3 := H1.out.2.1.c3
  clear hb1 HA
  go_wp2_with fail
  refine (hP _ H1.out.2.2).mono ?_
  rintro e w2 ⟨g, rfl, hg, hr, hb2⟩
  have H2 : Hid (Below w.heap.size w w2 ∧ BoxAt w2 w.heap.size k l s a data.length cap ∧ Lies w2 a data ∧ Row w2 g PG) := ⟨H1.out.1.trans (hb2.mono H1.out.1.size), H1.out.2.1.below hb2, H1.out.2.2.below hb2, hr⟩
  clear hb2 hg hr H1 hP c0 c1 c2 c3
  have hne : ((n : Int) == 0) = false := beq_no (by omega)
  obtain ⟨K, HK⟩ : ∃ K, Hid (pickN at' n = K ∧ K < n) := ⟨_, rfl, pickN_lt _ _ (by omega)⟩
  have hKn : K < n := HK.out.2
  have hpk := pick_any at' n w2 (by omega) (by omega) (by omega) (by omega)
  rw [HK.out.1] at hpk
  go_wp2_with fail
  refine hpk.mono ?_
  rintro e w3 ⟨rfl, rfl⟩
  clear hpk
  obtain ⟨A1, HA1⟩ : ∃ L, Hid (L = cutL PG 0 K ∧ L.length = K ∧ L.length ≤ 1048576) := ⟨_, rfl, cutL_len (by rw [HPL.out.1]; omega), by rw [cutL_len (by rw [HPL.out.1]; omega)]; omega⟩
  have hAl : Hid (A1.length = K) := HA1.out.2.1
  have hAn : A1.length ≤ n := by rw [hAl.out]; omega
  have HL3 : Hid (Below w3.heap.size w3 (w3.alloc (.cells #[] 5)) ∧ Lies (w3.alloc (.cells #[] 5)) (some ⟨g, 0, none⟩) A1) := ⟨alloc_below' w3 _, by
    rw [HA1.out.1]
    exact (lies_part H2.out.2.2.2 K (by rw [HPL.out.1]; omega)).below (alloc_below' w3 _)⟩
  have lk0 : (0 : Int) ≤ (K : Int) := by omega
  have lk1 : (K : Int) ≤ (n : Int) := by omega
  go_wp2_with (at_builtin; refine app_step rfl (.tmp 36) (.tmp 39) rfl w3.heap.size (some ⟨w3.heap.size, 0, none⟩) 0 [] (by rfl) (own_new w3 w3.heap.size [] (Nat.le_refl _) (by simp) _ rfl) (some ⟨g, 0, none⟩) n A1 (by rw [hAl.out]; rfl) (fun e => by cases e) HL3.out.2 A1 rfl HA1.out.2.2 HL3.out.1.size ?_)
  intro b1 d1 x1 hO hK
  have HX1 : Hid (Below w3.heap.size w3 x1 ∧ OwnA x1 w3.heap.size b1 d1 A1) := ⟨HL3.out.1.trans (hK.below HL3.out.1.size (fun b hb => by obtain ⟨x, e, rfl⟩ := hb; cases e; exact Nat.le_refl _)), hO⟩
  clear hO hK HL3
  go_wp2
  go_loopw [11] (fun t wr => ∃ (ys : List Nat) (ar : Option Addr) (cr : Nat), t = .slice ar ys.length cr ∧ ys.length ≤ n ∧ Hid (ys = A1 ++ List.replicate (ys.length - A1.length) 255 ∧ A1.length ≤ ys.length ∧ Below w3.heap.size w3 wr ∧ OwnA wr w3.heap.size ar cr ys)) (fun t _ => n - slen t)
  case atStart => exact ⟨A1, b1, d1, rfl, by omega, by simp, Nat.le_refl _, HX1.out.1, HX1.out.2⟩
  case round =>
  obtain ⟨ys, ar, cr, rfl, hys, hr⟩ := hrel
  clear HX1
  by_cases hlt : ys.length < n
  · have hI : (ys.length : Int) < (n : Int) := by omega
    have HA : Hid (Below wr.heap.size wr (wr.alloc (.cells #[.int .u8 255] 5)) ∧ Lies (wr.alloc (.cells #[.int .u8 255] 5)) (some ⟨wr.heap.size, 0, none⟩) [255]) := ⟨alloc_below' _ _, (own_new wr wr.heap.size [255] (Nat.le_refl _) (by simp) _ rfl).lies⟩
    obtain ⟨zs, HZ⟩ : ∃ zs, Hid (zs = ys ++ [255] ∧ zs.length ≤ 1048576) := ⟨_, rfl, by simp; omega⟩
    have HB9 : Hid (Below w3.heap.size w3 (wr.alloc (.cells #[.int .u8 255] 5)) ∧ OwnA (wr.alloc (.cells #[.int .u8 255] 5)) w3.heap.size ar cr ys) := ⟨hr.out.2.2.1.trans (HA.out.1.mono hr.out.2.2.1.size), hr.out.2.2.2.below HA.out.1⟩
    have HY : Hid (zs.length = ys.length + 1 ∧ zs = A1 ++ List.replicate (zs.length - A1.length) 255 ∧ A1.length ≤ zs.length) := by
      have e : zs.length = ys.length + 1 := by rw [HZ.out.1]; simp
      refine ⟨e, ?_, by have := hr.out.2.1; omega⟩
      have h1 := hr.out.1
      have h2 := hr.out.2.1
      rw [e, HZ.out.1, show ys.length + 1 - A1.length = (ys.length - A1.length) + 1 by omega, List.replicate_succ', ← List.append_assoc, ← h1]
    clear hr
    go_wp2_with (at_builtin; refine app_step rfl (.tmp 46) (.tmp 47) rfl w3.heap.size ar cr ys (by rfl) HB9.out.2 (some ⟨wr.heap.size, 0, none⟩) 1 [255] (by rfl) (fun e => by cases e) HA.out.2 zs HZ.out.1 HZ.out.2 HB9.out.1.size ?_)
    intro a9 c9 w9 hO hK
    have HR : Hid (zs = A1 ++ List.replicate (zs.length - A1.length) 255 ∧ A1.length ≤ zs.length ∧ Below w3.heap.size w3 w9 ∧ OwnA w9 w3.heap.size a9 c9 zs) := ⟨HY.out.2.1, HY.out.2.2, HB9.out.1.trans (hK.below HB9.out.1.size (fun b hb => (HB9.out.2.ge hb).1)), hO⟩
    have hzl : zs.length = ys.length + 1 := HY.out.1
    clear hO hK HB9 HA
    go_wp2
    go_roundw
    case rel => exact ⟨zs, a9, c9, rfl, by omega, HR.out⟩
    case measure => simp [slen]; omega
  · have hI : ¬ (ys.length : Int) < (n : Int) := by omega
    have hye : Hid (ys.length = n) := show ys.length = n by omega
    have HT : Hid (ys = tornL PG K ∧ AllB ys) := by
      have e : ys = tornL PG K := by
        unfold tornL
        have h1 := hr.out.1
        have h2 : A1 = PG.take A1.length := by
          have h3 := HA1.out.1
          unfold cutL at h3
          rw [List.drop_zero] at h3
          rw [hAl.out]
          exact h3
        rw [hAl.out] at h2
        rw [h1, HPL.out.1, hye.out, ← h2, hAl.out]
      refine ⟨e, ?_⟩
      rw [e]
      exact AllB.app (HPL.out.2.1.take _) (fun x hx => by rw [(List.mem_replicate.1 hx).2]; decide)
    have HW : Hid (Below w.heap.size w wr ∧ Lies wr ar ys ∧ ys.length ≤ cr) := ⟨H2.out.1.trans (hr.out.2.2.1.mono H2.out.1.size), hr.out.2.2.2.lies, by
      rcases hr.out.2.2.2.parts with ⟨_, _, e⟩ | ⟨_, _, _, _, _, e, _⟩
      · rw [e]; simp
      · exact e⟩
    have HVal : Hid (K < PG.length ∧ PG[0]?.getD 0 = 165) := ⟨by rw [HPL.out.1]; exact hKn, HPL.out.2.2.2⟩
    clear hr hlt
    by_cases hk0 : K = 0
    · have hE : ErasedP ys := by
        rw [HT.out.1, hk0]
        exact torn_erased (by have := HVal.out.1; omega)
      have hop := open_erased ar ys cr wr (by omega) HW.out.2.1 hE
      have hk0' : ((K : Int) == 0) = true := beq_yes (by omega)
      clear hE hk0
      go_wp2_with fail
      refine hop.mono ?_
      rintro e w9 ⟨rfl, hb9⟩
      have H9 : Hid (∀ o, Below w.heap.size w (w9.alloc o)) := fun o => by
        have h0 := HW.out.1.trans (hb9.mono HW.out.1.size)
        exact h0.trans ((alloc_below' w9 o).mono h0.size)
      clear hb9 HW hop
      go_wp2
      go_ret
      exact ⟨rfl, H9.out _⟩
    · have hV : ¬ ValidP ys := by
        rw [HT.out.1]
        exact torn_broken HVal.out.1
      have hE : ¬ ErasedP ys := by
        rw [HT.out.1]
        exact not_erased (by rw [torn_first (by omega) HVal.out.1]; exact HVal.out.2)
      have hop := open_none ar ys cr wr HT.out.2 HW.out.2.1 HW.out.2.2 (by omega) hE hV
      have hk0' : ((K : Int) == 0) = false := beq_no (by omega)
      clear hE hV hk0
      go_wp2_with fail
      refine hop.mono ?_
      rintro e w9 ⟨rfl, hb9⟩
      have H9 : Hid (∀ o, Below w.heap.size w (w9.alloc o)) := fun o => by
        have h0 := HW.out.1.trans (hb9.mono HW.out.1.size)
        exact h0.trans ((alloc_below' w9 o).mono h0.size)
      clear hb9 HW hop
      go_wp2
      go_ret
      exact ⟨rfl, H9.out _⟩
theorem torn_any (n k l s : Int) (a : Option Addr) (cap : Nat) (data : List Nat) (at' : Int) (w : World) (hb : BytesIn w a cap data) (ha : -9223372036854775808 ≤ at' ∧ at' ≤ 9223372036854775807) :
    Calls Try.prog 6 #[.int .i64 n, FV k l s a data.length cap, .int .i64 at'] w fun e w' => e = .returned (.bool true) ∧ Below w.heap.size w w' := by
  by_cases h : OkI n k l s data.length
  · obtain ⟨N, K, L, S, rfl, rfl, rfl, rfl, hF⟩ := h.nat
    exact torn_good N K L S a cap data at' w ha hF hb.1 hb.2.1
  · obtain ⟨q, hq⟩ := pack_err n k l s a data.length cap (by have := hb.2.2.2.2; unfold maxLen at this; omega) h
    exact torn_bad q n k l s a data.length cap at' w hq
end Go.Proofs.Ytfaphblninmioac
