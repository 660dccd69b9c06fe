/-
  What the calls of a book's Set, Drop, At, Of, Live give: what the plain functions say.
-/
import Derived.Test.YtcppokafgohkgadDoorBook
import Derived.Deep.DeepCutAuto
namespace Go.Proofs.YtcppokafgohkgadDoor
open Go.RowKit
set_option linter.unusedVariables false

theorem setF_range {L P : Nat} {s : Bk} {x y : Int} (h : inB L x = false ∨ inB P y = false) : setF L P s x y = (1, s) := if_pos h
set_option maxRecDepth 100000 in
set_option maxHeartbeats 4000000 in
theorem set_any {L P : Nat} {w : World} {bb ab ob : Nat} {s : Bk} (h : BO L P w bb ab ob s) (x y : Int) :
    Calls Tryd.prog 19 #[.pointer (some ⟨bb, 0, none⟩), .int .i64 x, .int .i64 y] w fun e w' => e = .returned (errI (setF L P s x y).1) ∧ BO L P w' bb ab ob (setF L P s x y).2 ∧ Keep (BT ab ob) w w' := by
  have c0 := h.bw.c0
  have c1 := h.bw.c1
  have hl2 := h.bw.l2
  have hp2 := h.bw.p2
  have HA := has_any ab L x w (by omega)
  have HO := has_any ob P y w hp2
  by_cases h1 : inB L x = false
  · have HF : Hid (setF L P s x y = (1, s) ∧ BO L P w bb ab ob s) := ⟨setF_range (Or.inl h1), h⟩
    rw [h1] at HA
    have HA2 : Hid (Calls Tryd.prog 34 #[.slice (some ⟨ab, 0, none⟩) L L, .int .i64 x] w fun e w' => e = .returned (.bool false) ∧ w' = w) := HA
    clear h h1 HA HO
    rw [HF.out.1]
    go_enter Tryd.func19, Tryd.ntmps19
    go_wp2_with fail
    refine HA2.out.mono ?_
    rintro e w1 ⟨rfl, rfl⟩
    go_wp2
    go_ret
    exact ⟨rfl, HF.out.2, Keep.refl _ _⟩
  by_cases h2 : inB P y = false
  · have HF : Hid (setF L P s x y = (1, s) ∧ BO L P w bb ab ob s) := ⟨setF_range (Or.inr h2), h⟩
    rw [show inB L x = true by simpa using h1] at HA
    rw [h2] at HO
    have HA2 : Hid (Calls Tryd.prog 34 #[.slice (some ⟨ab, 0, none⟩) L L, .int .i64 x] w fun e w' => e = .returned (.bool true) ∧ w' = w) := HA
    have HO2 : Hid (Calls Tryd.prog 34 #[.slice (some ⟨ob, 0, none⟩) P P, .int .i64 y] w fun e w' => e = .returned (.bool false) ∧ w' = w) := HO
    clear h h1 h2 HA HO
    rw [HF.out.1]
    go_enter Tryd.func19, Tryd.ntmps19
    go_wp2_with fail
    refine HA2.out.mono ?_
    rintro e w1 ⟨rfl, rfl⟩
    go_wp2_with fail
    refine HO2.out.mono ?_
    rintro e w2 ⟨rfl, rfl⟩
    go_wp2
    go_ret
    exact ⟨rfl, HF.out.2, Keep.refl _ _⟩
  rcases setF_cases L P s x y with ⟨e, _⟩ | ⟨l, p, rfl, rfl, hl, hp, HC⟩
  · exact absurd e (by simp [h1, h2])
  rw [show inB L (l : Int) = true from inB_lt hl] at HA
  rw [show inB P (p : Int) = true from inB_lt hp] at HO
  have HA2 : Hid (Calls Tryd.prog 34 #[.slice (some ⟨ab, 0, none⟩) L L, .int .i64 (l : Int)] w fun e w' => e = .returned (.bool true) ∧ w' = w) := HA
  have HO2 : Hid (Calls Tryd.prog 34 #[.slice (some ⟨ob, 0, none⟩) P P, .int .i64 (p : Int)] w fun e w' => e = .returned (.bool true) ∧ w' = w) := HO
  have q := h.bw.ro.cell p hp
  clear HA HO h1 h2
  rcases HC with ⟨h3, h4, h5⟩ | ⟨hf, h5⟩
  · have HF : Hid (setF L P s (l : Int) (p : Int) = (10, s) ∧ BO L P w bb ab ob s) := ⟨h5, h⟩
    have t1 : (s.lb p != -1) = true := bne_iff_ne.2 h3
    have t2 : (s.lb p != (l : Int)) = true := bne_iff_ne.2 h4
    rw [HF.out.1]
    clear h h3 h4 h5
    generalize s.lb p = v at *
    go_enter Tryd.func19, Tryd.ntmps19
    go_wp2_with fail
    refine HA2.out.mono ?_
    rintro e w1 ⟨rfl, rfl⟩
    go_wp2_with fail
    refine HO2.out.mono ?_
    rintro e w2 ⟨rfl, rfl⟩
    go_wp2
    go_ret
    exact ⟨rfl, HF.out.2, Keep.refl _ _⟩
  · have HL : Hid (Calls Tryd.prog 35 #[.pointer (some ⟨bb, 0, none⟩), .int .i64 (l : Int)] w fun e w' => e = .returned (.tuple #[]) ∧ BO L P w' bb ab ob (leaveF s l) ∧ Keep (BT ab ob) w w') := leave_any h l hl
    have HF : Hid (setF L P s (l : Int) (p : Int) = (0, putF s l p) ∧ Inv L P (putF s l p)) := ⟨h5, putF_inv h.inv hl hp hf⟩
    rw [HF.out.1]
    clear h h5
    rcases hf with e | e <;> rw [e] at q <;> clear e
    all_goals
      go_enter Tryd.func19, Tryd.ntmps19
      go_wp2_with fail
      refine HA2.out.mono ?_
      rintro e w1 ⟨rfl, rfl⟩
      go_wp2_with fail
      refine HO2.out.mono ?_
      rintro e w2 ⟨rfl, rfl⟩
      clear HA2 HO2
      go_wp2_with fail
      refine HL.out.mono ?_
      rintro e w3 ⟨rfl, h3, hk3⟩
      have d0 := h3.bw.c0
      have d1 := h3.bw.c1
      have r := h3.bw.ra.cell l hl
      have f := h3.bw.ra.free l
      have HB := h3.bw.setA l (p : Int) hl
      have HG : Hid (BO L P ((w3.setCell ⟨ab, l, none⟩ (.int .i64 (p : Int))).setCell ⟨ob, p, none⟩ (.int .i64 (l : Int))) bb ab ob (putF s l p) ∧ Keep (BT ab ob) w2 ((w3.setCell ⟨ab, l, none⟩ (.int .i64 (p : Int))).setCell ⟨ob, p, none⟩ (.int .i64 (l : Int)))) :=
        ⟨⟨HB.setO p (l : Int) hp, HF.out.2⟩, (hk3.set (p := ⟨ab, l, none⟩) (Or.inl rfl) _).set (p := ⟨ob, p, none⟩) (Or.inr rfl) _⟩
      obtain ⟨W, hW⟩ : ∃ W, W = w3.setCell ⟨ab, l, none⟩ (.int .i64 (p : Int)) := ⟨_, rfl⟩
      rw [← hW] at HB HG
      have HWE : Hid (W = w3.setCell ⟨ab, l, none⟩ (.int .i64 (p : Int))) := hW
      have HC : Hid (W.cell? ⟨bb, 1, none⟩ = some (.slice (some ⟨ob, 0, none⟩) P P) ∧ W.cell? ⟨ob, p, none⟩ = some (.int .i64 ((leaveF s l).lb p)) ∧ W.frozen? ⟨ob, p, none⟩ = false) := ⟨HB.c1, HB.ro.cell p hp, HB.ro.free p⟩
      generalize (leaveF s l).lb p = v1 at *
      generalize (leaveF s l).pa l = v2 at *
      clear h3 hk3 HL HF HB hW c0 c1 q
      go_upto_region 7 with fail
      rw [← HWE.out]
      obtain ⟨g1, g2, g3⟩ := HC.out
      clear d0 d1 r f
      go_wp2
      go_ret
      exact ⟨rfl, HG.out⟩
end Go.Proofs.YtcppokafgohkgadDoor
