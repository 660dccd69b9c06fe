/-
  What the calls of a book's Drop, At, Of, Live give: what the plain functions say.
-/
import Derived.Test.YtcppokafgohkgadDoorSet
namespace Go.Proofs.YtcppokafgohkgadDoor
open Go.RowKit
set_option linter.unusedVariables false

set_option maxRecDepth 100000 in
set_option maxHeartbeats 2000000 in
theorem drop_any {L P : Nat} {w : World} {bb ab ob : Nat} {s : Bk} (h : BO L P w bb ab ob s) (x : Int) :
    Calls Tryd.prog 21 #[.pointer (some ⟨bb, 0, none⟩), .int .i64 x] w fun e w' => e = .returned (errI (dropF L s x).1) ∧ BO L P w' bb ab ob (dropF L s x).2 ∧ Keep (BT ab ob) w w' := by
  have c0 := h.bw.c0
  have hl2 := h.bw.l2
  have HA := has_any ab L x w (by omega)
  by_cases h1 : inB L x = false
  · have HF : Hid (dropF L s x = (1, s) ∧ BO L P w bb ab ob s) := ⟨if_pos h1, h⟩
    rw [h1] at HA
    have HA2 : Hid (Calls Tryd.prog 34 #[.slice (some ⟨ab, 0, none⟩) L L, .int .i64 x] w fun e w' => e = .returned (.bool false) ∧ w' = w) := HA
    clear h h1 HA
    rw [HF.out.1]
    go_enter Tryd.func21, Tryd.ntmps21
    go_wp2_with fail
    refine HA2.out.mono ?_
    rintro e w1 ⟨rfl, rfl⟩
    go_wp2
    go_ret
    exact ⟨rfl, HF.out.2, Keep.refl _ _⟩
  · have h1' : inB L x = true := by simpa using h1
    obtain ⟨l, rfl, hl⟩ := inB_nat h1'
    have HF : Hid (dropF L s (l : Int) = (0, leaveF s l)) := if_neg h1
    rw [h1'] at HA
    have HA2 : Hid (Calls Tryd.prog 34 #[.slice (some ⟨ab, 0, none⟩) L L, .int .i64 (l : Int)] w fun e w' => e = .returned (.bool true) ∧ w' = w) := HA
    have HL : Hid (Calls Tryd.prog 35 #[.pointer (some ⟨bb, 0, none⟩), .int .i64 (l : Int)] w fun e w' => e = .returned (.tuple #[]) ∧ BO L P w' bb ab ob (leaveF s l) ∧ Keep (BT ab ob) w w') := leave_any h l hl
    rw [HF.out]
    clear h h1 h1' HA HF
    go_enter Tryd.func21, Tryd.ntmps21
    go_wp2_with fail
    refine HA2.out.mono ?_
    rintro e w1 ⟨rfl, rfl⟩
    go_wp2_with fail
    refine HL.out.mono ?_
    rintro e w3 ⟨rfl, h3, hk3⟩
    have HG : Hid (BO L P w3 bb ab ob (leaveF s l) ∧ Keep (BT ab ob) w1 w3) := ⟨h3, hk3⟩
    clear h3 hk3
    go_wp2
    go_ret
    exact ⟨rfl, HG.out⟩
/-- WHAT A TABLE TELLS. -/
def tellF (n : Nat) (f : Nat → Int) (x : Int) : Int × Nat := if inB n x = false then (0, 1) else if f x.toNat = -1 then (0, 4) else (f x.toNat, 0)
theorem tellF_no {n : Nat} {f : Nat → Int} {x : Int} (h : inB n x = false) : tellF n f x = (0, 1) := if_pos h
theorem tellF_none {n k : Nat} {f : Nat → Int} (h : k < n) (hf : f k = -1) : tellF n f (k : Int) = (0, 4) := by
  unfold tellF; rw [inB_lt h, Int.toNat_natCast, if_neg (by simp), if_pos hf]
theorem tellF_some {n k : Nat} {f : Nat → Int} (h : k < n) (hf : f k ≠ -1) : tellF n f (k : Int) = (f k, 0) := by
  unfold tellF; rw [inB_lt h, Int.toNat_natCast, if_neg (by simp), if_neg hf]
set_option maxRecDepth 100000 in
set_option maxHeartbeats 2000000 in
theorem tell_any {w : World} {g n : Nat} {f : Nat → Int} (h : IR w g n f) (hn : n ≤ 4096) (x : Int) :
    Calls Tryd.prog 36 #[.slice (some ⟨g, 0, none⟩) n n, .int .i64 x] w fun e w' => e = .returned (.tuple #[.int .i64 (tellF n f x).1, errI (tellF n f x).2]) ∧ w' = w := by
  have HA := has_any g n x w hn
  by_cases h1 : inB n x = false
  · rw [tellF_no h1]
    rw [h1] at HA
    have HA2 : Hid (Calls Tryd.prog 34 #[.slice (some ⟨g, 0, none⟩) n n, .int .i64 x] w fun e w' => e = .returned (.bool false) ∧ w' = w) := HA
    clear h h1 HA
    go_enter Tryd.func36, Tryd.ntmps36
    go_wp2_with fail
    refine HA2.out.mono ?_
    rintro e w1 ⟨rfl, rfl⟩
    go_wp2
    go_ret2
    exact ⟨rfl, rfl⟩
  · have h1' : inB n x = true := by simpa using h1
    obtain ⟨k, rfl, hk⟩ := inB_nat h1'
    rw [h1'] at HA
    have HA2 : Hid (Calls Tryd.prog 34 #[.slice (some ⟨g, 0, none⟩) n n, .int .i64 (k : Int)] w fun e w' => e = .returned (.bool true) ∧ w' = w) := HA
    have q := h.cell k hk
    clear h h1 h1' HA
    by_cases h2 : f k = -1
    · rw [tellF_none hk h2]
      rw [h2] at q
      clear h2
      go_enter Tryd.func36, Tryd.ntmps36
      go_wp2_with fail
      refine HA2.out.mono ?_
      rintro e w1 ⟨rfl, rfl⟩
      go_wp2
      go_ret2
      exact ⟨rfl, rfl⟩
    · rw [tellF_some hk h2]
      have t : (f k == -1) = false := by rw [beq_eq_false_iff_ne]; exact h2
      clear h2
      generalize f k = v at *
      go_enter Tryd.func36, Tryd.ntmps36
      go_wp2_with fail
      refine HA2.out.mono ?_
      rintro e w1 ⟨rfl, rfl⟩
      go_wp2
      go_ret2
      exact ⟨rfl, rfl⟩
set_option maxRecDepth 100000 in
set_option maxHeartbeats 2000000 in
theorem at_any {L P : Nat} {w : World} {bb ab ob : Nat} {s : Bk} (h : BO L P w bb ab ob s) (x : Int) :
    Calls Tryd.prog 20 #[.pointer (some ⟨bb, 0, none⟩), .int .i64 x] w fun e w' => e = .returned (.tuple #[.int .i64 (tellF L s.pa x).1, errI (tellF L s.pa x).2]) ∧ w' = w := by
  have c0 := h.bw.c0
  have hl2 := h.bw.l2
  have HA : Hid (Calls Tryd.prog 36 #[.slice (some ⟨ab, 0, none⟩) L L, .int .i64 x] w fun e w' => e = .returned (.tuple #[.int .i64 (tellF L s.pa x).1, errI (tellF L s.pa x).2]) ∧ w' = w) := tell_any h.bw.ra (by omega) x
  clear h
  generalize tellF L s.pa x = r at *
  generalize errI r.2 = ev at *
  generalize r.1 = v at *
  go_enter Tryd.func20, Tryd.ntmps20
  go_wp2_with fail
  refine HA.out.mono ?_
  rintro e w1 ⟨rfl, rfl⟩
  go_wp2
  go_ret2
  exact ⟨rfl, rfl⟩
set_option maxRecDepth 100000 in
set_option maxHeartbeats 2000000 in
theorem of_any {L P : Nat} {w : World} {bb ab ob : Nat} {s : Bk} (h : BO L P w bb ab ob s) (x : Int) :
    Calls Tryd.prog 22 #[.pointer (some ⟨bb, 0, none⟩), .int .i64 x] w fun e w' => e = .returned (.tuple #[.int .i64 (tellF P s.lb x).1, errI (tellF P s.lb x).2]) ∧ w' = w := by
  have c1 := h.bw.c1
  have hp2 := h.bw.p2
  have HA : Hid (Calls Tryd.prog 36 #[.slice (some ⟨ob, 0, none⟩) P P, .int .i64 x] w fun e w' => e = .returned (.tuple #[.int .i64 (tellF P s.lb x).1, errI (tellF P s.lb x).2]) ∧ w' = w) := tell_any h.bw.ro hp2 x
  clear h
  generalize tellF P s.lb x = r at *
  generalize errI r.2 = ev at *
  generalize r.1 = v at *
  go_enter Tryd.func22, Tryd.ntmps22
  go_wp2_with fail
  refine HA.out.mono ?_
  rintro e w1 ⟨rfl, rfl⟩
  go_wp2
  go_ret2
  exact ⟨rfl, rfl⟩
end Go.Proofs.YtcppokafgohkgadDoor
