/-
  The walk of granarylaw1.CodeSays: it returns true, and nothing that was there has turned.
-/
import Derived.Test.YtgflkfbddiccaaaDoorRefMend
import Derived.Test.YtgflkfbddiccaaaDoorTold
namespace Go.Proofs.YtgflkfbddiccaaaDoor
open Go.RowKit
set_option linter.unusedVariables false

theorem crc_same (a : Option Addr) (bs : List Nat) (cap : Nat) (w : World) (hm : bs.length ≤ 140737488355328) (hz : AllB bs) (hc : Lies w a bs) :
    Calls Tryd.prog 8 #[.slice a bs.length cap] w fun e w' => e = .returned (.int .u32 (crcOf bs)) ∧ w = w' :=
  (crc_any a bs cap w (by unfold maxLen; omega) hz hc).mono fun e w' ⟨h1, h2⟩ => ⟨h1, h2.symm⟩
theorem bytes_like (a a2 : Option Addr) (D : List Nat) (n cap cap2 : Nat) (w : World) (hn : D.length = n) (hm : n ≤ 140737488355328) (hc : Lies w a D) (hc2 : Lies w a2 D) :
    Calls Tryd.prog 15 #[.slice a n cap, .slice a2 n cap2] w fun e w' => e = .returned (.bool true) ∧ Below w.heap.size w w' := by
  subst hn
  have h := bytes_any a a2 D D cap cap2 w hm hm hc hc2
  rw [decide_eq_true rfl] at h
  exact h
theorem refMend_any (a a2 : Option Addr) (cap cap2 m : Nat) (bs cs : List Nat) (w : World) (hz : AllB bs) (hzc : AllB cs) (hl : bs.length = 8 * m) (hlc : cs.length = m) (hm : m ≤ 512) (hcap : bs.length ≤ cap) (hc : Lies w a bs) (hcc : Lies w a2 cs) :
    Calls Tryd.prog 16 #[.slice a bs.length cap, .slice a2 cs.length cap2] w fun e w' => RefPost m w w' e (mendL bs cs m) := by
  rw [mend_ref_end bs cs m hl]
  by_cases h0 : m = 0
  · subst h0
    obtain rfl : bs = [] := List.eq_nil_of_length_eq_zero (by omega)
    obtain rfl : cs = [] := List.eq_nil_of_length_eq_zero (by omega)
    exact refMend_none a a2 cap cap2 w
  · have hc' := hc
    have hcc' := hcc
    rcases hc' with h | ⟨b, off, rfl, _⟩
    · rw [h] at hl; simp at hl; omega
    rcases hcc' with h | ⟨b2, off2, rfl, _⟩
    · rw [h] at hlc; simp at hlc; omega
    exact refMend_some b off cap b2 off2 cap2 m bs cs w hz hzc hl hlc hm hcap hc hcc

set_option maxHeartbeats 1600000 in
theorem says_bad (a a2 : Option Addr) (cap cap2 n2 : Nat) (D : List Nat) (w : World) (hD : AllB D) (hm : D.length ≤ 140737488351232) (hm2 : n2 ≤ 140737488351232) (hE : EType w) (hL : Lies w a D) (hbad : D.length % 8 ≠ 0 ∨ 4096 < D.length) :
    Calls Tryd.prog 3 #[.slice a D.length cap, .slice a2 n2 cap2] w fun e w' => e = .returned (.bool true) ∧ Below w.heap.size w w' := by
  have hf := fault_any a D.length cap w (by omega)
  have hp := protect_bad a D.length cap w (by omega) hbad
  have hmd := fun w1 => mend_size a a2 D.length cap n2 cap2 w1 (by omega) hbad
  obtain ⟨c, hc0, e1, e2⟩ : ∃ c : Nat, c ≠ 0 ∧ (if D.length % 8 ≠ 0 then 2 else if 4096 < D.length then 3 else 0) = c ∧ (if D.length % 8 ≠ 0 then 2 else 3) = c := by
    by_cases h : D.length % 8 ≠ 0
    · exact ⟨2, by omega, by rw [if_pos h], by rw [if_pos h]⟩
    · exact ⟨3, by omega, by rw [if_neg h, if_pos (by omega)], by rw [if_neg h]⟩
  rw [e1] at hf
  rw [e2] at hp hmd
  unfold errV at hp hmd
  have hcn : (((c : Nat) : Int) != 0) = true := by rw [bne_iff_ne]; omega
  clear e1 e2 hbad hc0
  go_enter Tryd.func3, Tryd.ntmps3
  go_wp2_with fail
  refine (crc_same a D cap w (by omega) hD hL).mono ?_
  rintro e w1 ⟨rfl, rfl⟩
  go_wp2_with fail
  refine (refCrc_any a D cap w (by omega) hD hL).mono ?_
  rintro e w1 ⟨rfl, rfl⟩
  go_wp2_with fail
  refine hf.mono ?_
  rintro e w1 ⟨rfl, rfl⟩
  go_wp2_with fail
  refine hp.mono ?_
  rintro e w1 ⟨rfl, hw1⟩
  obtain rfl : w = w1 := hw1.symm
  go_wp2_with fail
  refine (error_same c w hE).mono ?_
  rintro e w2 ⟨rfl, hb2⟩
  go_wp2_with fail
  refine (hmd w2).mono ?_
  rintro e w3 ⟨rfl, hw3⟩
  obtain rfl : w2 = w3 := hw3.symm
  go_wp2_with fail
  refine (error_same c w2 (hE.below hb2 hE.pos)).mono ?_
  rintro e w4 ⟨rfl, hb4⟩
  go_wp2
  go_ret
  exact ⟨rfl, hb2.trans (hb4.mono hb2.size)⟩

set_option maxHeartbeats 3200000 in
theorem says_count (a a2 : Option Addr) (cap cap2 n2 m : Nat) (D : List Nat) (w : World) (hD : AllB D) (hl : D.length = 8 * m) (hm : m ≤ 512) (hcap : D.length ≤ cap) (hm2 : n2 ≤ 140737488351232) (hP : Plc w) (hE : EType w) (hL : Lies w a D) (hn : n2 ≠ m) :
    Calls Tryd.prog 3 #[.slice a D.length cap, .slice a2 n2 cap2] w fun e w' => e = .returned (.bool true) ∧ Below w.heap.size w w' := by
  have hf := fault_any a D.length cap w (by omega)
  rw [if_neg (by omega), if_neg (by omega)] at hf
  have hp := protect_any a cap m D w hD hl hm hP hL
  have hmd := fun w1 => mend_count a a2 D.length cap n2 cap2 w1 (by omega) (by omega) (by omega)
  unfold errV at hmd
  have hnm : (((n2 : Nat) : Int) != ((D.length : Int) / 8)) = true := by rw [bne_iff_ne]; omega
  have HL : Hid (D.length = 8 * m) := hl
  have hlen : D.length ≤ 4096 := by omega
  clear hl hn
  go_enter Tryd.func3, Tryd.ntmps3
  go_wp2_with fail
  refine (crc_same a D cap w (by omega) hD hL).mono ?_
  rintro e w1 ⟨rfl, rfl⟩
  go_wp2_with fail
  refine (refCrc_any a D cap w (by omega) hD hL).mono ?_
  rintro e w1 ⟨rfl, rfl⟩
  go_wp2_with fail
  refine hf.mono ?_
  rintro e w1 ⟨rfl, rfl⟩
  go_wp2_with fail
  refine hp.mono ?_
  rintro e w1 ⟨rfl, ho1, hb1⟩
  go_wp2_with fail
  refine (error_nil 0 w1).mono ?_
  rintro e w2 ⟨rfl, rfl⟩
  go_wp2_with fail
  refine (hmd w1).mono ?_
  rintro e w3 ⟨rfl, hw3⟩
  obtain rfl : w1 = w3 := hw3.symm
  clear hmd hf hp
  go_wp2_with fail
  refine (refProtect_any a cap m D w1 hD HL.out hm hcap (hL.below hb1)).mono ?_
  rintro e w4 ⟨ao, cp, rfl, hLq, hb4⟩
  have hb04 := hb1.trans (hb4.mono hb1.size)
  have hLp := (ho1.below hb4 ho1.le.2).lies
  go_wp2_with fail
  refine (bytes_like _ _ (chks D m) m m cp w4 (chks_len D m) (by omega) hLp hLq).mono ?_
  rintro e w5 ⟨rfl, hb5⟩
  have hb05 := hb04.trans (hb5.mono hb04.size)
  clear hLp hLq ho1 hb1 hb4 hb5 hb04
  go_wp2_with fail
  refine (error_same 2 w5 (hE.below hb05 hE.pos)).mono ?_
  rintro e w6 ⟨rfl, hb6⟩
  go_wp2
  go_ret
  exact ⟨rfl, hb05.trans (hb6.mono hb05.size)⟩

set_option maxHeartbeats 3200000 in
theorem says_lost (a a2 : Option Addr) (cap cap2 m : Nat) (D K : List Nat) (w : World) (hD : AllB D) (hK : AllB K) (hl : D.length = 8 * m) (hlk : K.length = m) (hm : m ≤ 512) (hcap : D.length ≤ cap) (hP : Plc w) (hE : EType w) (hL : Lies w a D) (hLK : Lies w a2 K) (hr : mendL D K m = none) :
    Calls Tryd.prog 3 #[.slice a D.length cap, .slice a2 K.length cap2] w fun e w' => e = .returned (.bool true) ∧ Below w.heap.size w w' := by
  have hf := fault_any a D.length cap w (by omega)
  rw [if_neg (by omega), if_neg (by omega)] at hf
  have hp := protect_any a cap m D w hD hl hm hP hL
  have hnm : (((K.length : Nat) : Int) != ((D.length : Int) / 8)) = false := by rw [bne_eq_false_iff_eq]; omega
  have HL : Hid (D.length = 8 * m ∧ K.length = m) := ⟨hl, hlk⟩
  have hlen : D.length ≤ 4096 := by omega
  have hlen2 : K.length ≤ 512 := by omega
  clear hl hlk
  go_enter Tryd.func3, Tryd.ntmps3
  go_wp2_with fail
  refine (crc_same a D cap w (by omega) hD hL).mono ?_
  rintro e w1 ⟨rfl, rfl⟩
  go_wp2_with fail
  refine (refCrc_any a D cap w (by omega) hD hL).mono ?_
  rintro e w1 ⟨rfl, rfl⟩
  go_wp2_with fail
  refine hf.mono ?_
  rintro e w1 ⟨rfl, rfl⟩
  go_wp2_with fail
  refine hp.mono ?_
  rintro e w1 ⟨rfl, ho1, hb1⟩
  go_wp2_with fail
  refine (error_nil 0 w1).mono ?_
  rintro e w2 ⟨rfl, rfl⟩
  clear hf hp
  go_wp2_with fail
  have hmd := mend_any a a2 cap cap2 m D K w1 hD hK HL.out.1 HL.out.2 hm (hP.below hb1 hP.pos) (hL.below hb1) (hLK.below hb1)
  rw [hr] at hmd
  refine hmd.mono ?_
  rintro e w3 ⟨rfl, hb3⟩
  clear hmd
  have hb03 := hb1.trans (hb3.mono hb1.size)
  have ho3 := ho1.below hb3 ho1.le.2
  unfold errV
  go_wp2_with fail
  refine (refProtect_any a cap m D w3 hD HL.out.1 hm hcap (hL.below hb03)).mono ?_
  rintro e w4 ⟨ao, cp, rfl, hLq, hb4⟩
  have hb04 := hb03.trans (hb4.mono hb03.size)
  have hLp := (ho3.below hb4 ho3.le.2).lies
  go_wp2_with fail
  refine (bytes_like _ _ (chks D m) m m cp w4 (chks_len D m) (by omega) hLp hLq).mono ?_
  rintro e w5 ⟨rfl, hb5⟩
  have hb05 := hb04.trans (hb5.mono hb04.size)
  clear hLp hLq ho1 ho3 hb1 hb3 hb4 hb5 hb03 hb04
  go_wp2_with fail
  have hrf := refMend_any a a2 cap cap2 m D K w5 hD hK HL.out.1 HL.out.2 hm hcap (hL.below hb05) (hLK.below hb05)
  rw [hr] at hrf
  refine hrf.mono ?_
  rintro e w6 ⟨rfl, hb6⟩
  have hb06 := hb05.trans (hb6.mono hb05.size)
  clear hrf hb05 hb6
  go_wp2_with fail
  refine (error_same 8 w6 (hE.below hb06 hE.pos)).mono ?_
  rintro e w7 ⟨rfl, hb7⟩
  go_wp2
  go_ret
  exact ⟨rfl, hb06.trans (hb7.mono hb06.size)⟩

set_option maxHeartbeats 3200000 in
theorem says_good (a a2 : Option Addr) (cap cap2 m n : Nat) (D K o : List Nat) (w : World) (hD : AllB D) (hK : AllB K) (hl : D.length = 8 * m) (hlk : K.length = m) (hm : m ≤ 512) (hcap : D.length ≤ cap) (hP : Plc w) (hE : EType w) (hL : Lies w a D) (hLK : Lies w a2 K) (hr : mendL D K m = some (o, n)) :
    Calls Tryd.prog 3 #[.slice a D.length cap, .slice a2 K.length cap2] w fun e w' => e = .returned (.bool true) ∧ Below w.heap.size w w' := by
  have hf := fault_any a D.length cap w (by omega)
  rw [if_neg (by omega), if_neg (by omega)] at hf
  have hp := protect_any a cap m D w hD hl hm hP hL
  have hnm : (((K.length : Nat) : Int) != ((D.length : Int) / 8)) = false := by rw [bne_eq_false_iff_eq]; omega
  have HL : Hid (D.length = 8 * m ∧ K.length = m) := ⟨hl, hlk⟩
  have hlen : D.length ≤ 4096 := by omega
  have hlen2 : K.length ≤ 512 := by omega
  clear hl hlk
  go_enter Tryd.func3, Tryd.ntmps3
  go_wp2_with fail
  refine (crc_same a D cap w (by omega) hD hL).mono ?_
  rintro e w1 ⟨rfl, rfl⟩
  go_wp2_with fail
  refine (refCrc_any a D cap w (by omega) hD hL).mono ?_
  rintro e w1 ⟨rfl, rfl⟩
  go_wp2_with fail
  refine hf.mono ?_
  rintro e w1 ⟨rfl, rfl⟩
  go_wp2_with fail
  refine hp.mono ?_
  rintro e w1 ⟨rfl, ho1, hb1⟩
  go_wp2_with fail
  refine (error_nil 0 w1).mono ?_
  rintro e w2 ⟨rfl, rfl⟩
  clear hf hp
  go_wp2_with fail
  have hmd := mend_any a a2 cap cap2 m D K w1 hD hK HL.out.1 HL.out.2 hm (hP.below hb1 hP.pos) (hL.below hb1) (hLK.below hb1)
  rw [hr] at hmd
  refine hmd.mono ?_
  rintro e w3 ⟨rfl, hol, hom, hb3⟩
  clear hmd
  have hb03 := hb1.trans (hb3.mono hb1.size)
  have ho3 := ho1.below hb3 ho1.le.2
  have hLm := hom.lies
  have holn : o.length ≤ 4096 := by omega
  clear hol
  go_wp2_with fail
  refine (refProtect_any a cap m D w3 hD HL.out.1 hm hcap (hL.below hb03)).mono ?_
  rintro e w4 ⟨ao, cp, rfl, hLq, hb4⟩
  have hb04 := hb03.trans (hb4.mono hb03.size)
  have hLp := (ho3.below hb4 ho3.le.2).lies
  go_wp2_with fail
  refine (bytes_like _ _ (chks D m) m m cp w4 (chks_len D m) (by omega) hLp hLq).mono ?_
  rintro e w5 ⟨rfl, hb5⟩
  have hb05 := hb04.trans (hb5.mono hb04.size)
  have hLm5 := (hLm.below hb4).below hb5
  clear hLp hLq ho1 ho3 hom hLm hb1 hb3 hb4 hb5 hb03 hb04
  go_wp2_with fail
  have hrf := refMend_any a a2 cap cap2 m D K w5 hD hK HL.out.1 HL.out.2 hm hcap (hL.below hb05) (hLK.below hb05)
  rw [hr] at hrf
  refine hrf.mono ?_
  rintro e w6 ⟨ao6, cp6, rfl, hL6, hb6⟩
  have hb06 := hb05.trans (hb6.mono hb05.size)
  have hLm6 := hLm5.below hb6
  clear hrf hb05 hb6 hLm5
  go_wp2_with fail
  refine (bytes_like _ _ o o.length o.length cp6 w6 rfl (by omega) hLm6 hL6).mono ?_
  rintro e w7 ⟨rfl, hb7⟩
  go_wp2
  go_ret
  exact ⟨rfl, hb06.trans (hb7.mono hb06.size)⟩
theorem says_any (a a2 : Option Addr) (cap cap2 : Nat) (D K : List Nat) (w : World) (hD : AllB D) (hK : AllB K) (hm : D.length ≤ 140737488351232) (hm2 : K.length ≤ 140737488351232) (hcap : D.length ≤ cap) (hP : Plc w) (hE : EType w) (hL : Lies w a D) (hLK : Lies w a2 K) :
    Calls Tryd.prog 3 #[.slice a D.length cap, .slice a2 K.length cap2] w fun e w' => e = .returned (.bool true) ∧ Below w.heap.size w w' := by
  by_cases hbad : D.length % 8 ≠ 0 ∨ 4096 < D.length
  · exact says_bad a a2 cap cap2 K.length D w hD hm hm2 hE hL hbad
  · by_cases hn : K.length = D.length / 8
    · cases hr : mendL D K (D.length / 8) with
      | none => exact says_lost a a2 cap cap2 (D.length / 8) D K w hD hK (by omega) hn (by omega) hcap hP hE hL hLK hr
      | some p =>
        obtain ⟨o, n⟩ := p
        exact says_good a a2 cap cap2 (D.length / 8) n D K o w hD hK (by omega) hn (by omega) hcap hP hE hL hLK hr
    · exact says_count a a2 cap cap2 K.length (D.length / 8) D w hD (by omega) (by omega) hcap hm2 hP hE hL hn
end Go.Proofs.YtgflkfbddiccaaaDoor
