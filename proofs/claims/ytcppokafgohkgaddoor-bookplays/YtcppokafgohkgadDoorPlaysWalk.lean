/-
  The walk of granarylaw1.BookPlays: it returns true, and nothing that was there has turned.
-/
import Derived.Test.YtcppokafgohkgadDoorStepC
namespace Go.Proofs.YtcppokafgohkgadDoor
open Go.RowKit
set_option linter.unusedVariables false

set_option maxRecDepth 100000 in
set_option maxHeartbeats 1600000 in
theorem plays_no (n p : Int) (a2 : Option Addr) (n2 cap2 : Nat) (w : World) (hE : EType w) (h : ¬ GoodN n p) : Calls Tryd.prog 4 #[.int .i64 n, .int .i64 p, .slice a2 n2 cap2] w fun e w' => e = .returned (.bool true) ∧ Below w.heap.size w w' := by
  have HF : Hid (¬ GoodN n p) := h
  have HE : Hid (EType w) := hE
  clear h hE
  go_enter Tryd.func4, Tryd.ntmps4
  go_wp2_with fail
  refine (new_no n p _ HF.out).mono ?_
  rintro e w1 ⟨rfl, rfl⟩
  go_wp2_with fail
  refine (fault_no n p _ HF.out).mono ?_
  rintro e w2 ⟨rfl, rfl⟩
  go_wp2_with fail
  refine (error_same 1 w2 HE.out).mono ?_
  rintro e w3 ⟨rfl, hb3⟩
  go_wp2
  go_ret
  exact ⟨rfl, hb3⟩
set_option maxRecDepth 100000 in
set_option maxHeartbeats 4000000 in
theorem plays_yes (L P : Nat) (a2 : Option Addr) (n2 cap2 : Nat) (w : World) (h1 : 1 ≤ L) (h2 : L ≤ 256) (h3 : 1 ≤ P) (h4 : P ≤ 4096) (hE : EType w) (hS : Script w a2 n2) (hl2 : n2 ≤ 9223372036854775807) : Calls Tryd.prog 4 #[.int .i64 (L : Int), .int .i64 (P : Int), .slice a2 n2 cap2] w fun e w' => e = .returned (.bool true) ∧ Below w.heap.size w w' := by
  have HSC : Hid (Script w a2 n2) := hS
  have HE1 : Hid (∀ w', Below w.heap.size w w' → EType w') := fun w' hb => hE.below hb hE.pos
  clear hS hE
  go_enter Tryd.func4, Tryd.ntmps4
  go_wp2_with fail
  refine (new_yes L P _ h1 h2 h3 h4).mono ?_
  rintro e w2 ⟨bb, ab, ob, rfl, hp2, hb2, g1, g2, g3⟩
  have H2 : Hid (BS L P w.heap.size bb ab ob w w2 fresh) := ⟨hp2, hb2, ⟨g1, g2, g3⟩, hb2.size⟩
  clear hp2 hb2 g1 g2 g3
  go_wp2_with fail
  refine (fault_yes L P _ h1 h2 h3 h4).mono ?_
  rintro e w3 ⟨rfl, rfl⟩
  have HNIL : Hid (∀ wz, Calls Tryd.prog 14 #[.nilIface, .int .i64 0] wz fun ev w' => ev = .returned (.bool true) ∧ wz = w') := fun wz => error_nil 0 wz
  go_wp2_with fail
  refine (HNIL.out _).mono ?_
  rintro e w4 ⟨rfl, rfl⟩
  clear HNIL
  go_wp2_with fail
  refine (rnew_any L P _ h1 h2 h3 h4).mono ?_
  rintro e w5 ⟨rb, g, cap, rfl, hr5, hb5, r1, r2⟩
  have H5 : Hid (PS L P w.heap.size bb ab ob rb g cap w w5 fresh) := by
    have hl := H2.out.bo.bw.lt
    have hs := H2.out.sz
    exact ⟨H2.out.below hb5, hr5, by omega, by omega⟩
  clear hr5 hb5 r1 r2 H2
  go_wp2
  go_loopw [12] (fun j wq => ∃ (i : Nat) (s : Bk), i ≤ n2 ∧ j = .int .i64 i ∧ Hid (PS L P w.heap.size bb ab ob rb g cap w wq s)) (fun j _ => n2 - (intOf j).toNat)
  case atStart => exact ⟨0, fresh, Nat.zero_le _, rfl, H5.out⟩
  case round =>
    obtain ⟨i, s, hi, rfl, hR⟩ := hrel
    clear H5
    by_cases hlt2 : i < n2
    · obtain ⟨so, oo, ha2, o, hO⟩ := HSC.out.slice hlt2
      have hOr := hO.below hR.out.bs.bel (Nat.le_refl _)
      have k0 := hOr.k0
      have k1 := hOr.k1
      have k2 := hOr.k2
      clear hO hOr
      rw [ha2]
      generalize o.kind = kd at k0
      generalize o.a = x1 at k1
      generalize o.b = y1 at k2
      have HST : Hid (Calls Tryd.prog 18 #[.pointer (some ⟨bb, 0, none⟩), .pointer (some ⟨rb, 0, none⟩), .agg #[.int .i64 kd, .int .i64 x1, .int .i64 y1]] wr fun e w' => e = .returned (.bool true) ∧ ∃ s', PS L P w.heap.size bb ab ob rb g cap w w' s') := step_any hR.out HE1.out kd x1 y1
      clear hR
      go_wp2_with fail
      refine HST.out.mono ?_
      rintro e w6 ⟨rfl, s6, h6⟩
      have H6 : Hid (PS L P w.heap.size bb ab ob rb g cap w w6 s6) := h6
      clear h6 HST k0 k1 k2
      go_wp2
      exact ⟨⟨i + 1, s6, by omega, by go_num, H6.out⟩, by simp [intOf]; omega⟩
    · obtain rfl : i = n2 := by omega
      go_wp2
      go_ret
      exact ⟨rfl, hR.out.bs.bel⟩
theorem plays_any (n p : Int) (a2 : Option Addr) (n2 cap2 : Nat) (w : World) (hE : EType w) (hS : Script w a2 n2) (hl2 : n2 ≤ 9223372036854775807) : Calls Tryd.prog 4 #[.int .i64 n, .int .i64 p, .slice a2 n2 cap2] w fun e w' => e = .returned (.bool true) ∧ Below w.heap.size w w' := by
  by_cases h : GoodN n p
  · obtain ⟨L, P, rfl, rfl, h1, h2, h3, h4⟩ := goodN_nat h
    exact plays_yes L P a2 n2 cap2 w h1 h2 h3 h4 hE hS hl2
  · exact plays_no n p a2 n2 cap2 w hE h
end Go.Proofs.YtcppokafgohkgadDoor
