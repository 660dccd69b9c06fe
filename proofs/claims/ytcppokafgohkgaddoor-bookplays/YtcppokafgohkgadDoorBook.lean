/-
  What the calls of a book's has, leave, Set, Drop, tell, At, Of give.
-/
import Derived.Test.YtcppokafgohkgadDoorBase
import Derived.RegionTactic
namespace Go.Proofs.YtcppokafgohkgadDoor
open Go.RowKit
set_option linter.unusedVariables false

/-- An error of number n; none: nil. -/
def errI (n : Nat) : Value := if n = 0 then .nilIface else .iface 37 (.int .i64 (n : Int))
theorem errI0 : errI 0 = .nilIface := rfl
theorem errI_ne {n : Nat} (h : n ≠ 0) : errI n = .iface 37 (.int .i64 (n : Int)) := if_neg h
set_option maxRecDepth 100000 in
set_option maxHeartbeats 1000000 in
theorem has_any (g n : Nat) (x : Int) (w : World) (hn : n ≤ 4096) :
    Calls Tryd.prog 34 #[.slice (some ⟨g, 0, none⟩) n n, .int .i64 x] w fun e w' => e = .returned (.bool (inB n x)) ∧ w' = w := by
  by_cases h1 : 0 ≤ x
  · have HH : Hid (inB n x = decide (x < n)) := by
      show inB n x = _
      unfold inB; exact decide_eq_decide.2 ⟨fun h => h.2, fun h => ⟨h1, h⟩⟩
    rw [HH.out]
    go_enter Tryd.func34, Tryd.ntmps34
    go_wp2
    go_ret
    exact ⟨rfl, rfl⟩
  · have HH : Hid (inB n x = false) := decide_eq_false (fun h => h1 h.1)
    rw [HH.out]
    have h2 : decide (0 ≤ x) = false := decide_eq_false h1
    clear h1
    go_enter Tryd.func34, Tryd.ntmps34
    go_wp2
    go_ret
    exact ⟨rfl, rfl⟩
set_option maxRecDepth 100000 in
set_option maxHeartbeats 2000000 in
theorem leave_any {L P : Nat} {w : World} {bb ab ob : Nat} {s : Bk} (h : BO L P w bb ab ob s) (l : Nat) (hl : l < L) :
    Calls Tryd.prog 35 #[.pointer (some ⟨bb, 0, none⟩), .int .i64 (l : Int)] w fun e w' => e = .returned (.tuple #[]) ∧ BO L P w' bb ab ob (leaveF s l) ∧ Keep (BT ab ob) w w' := by
  have c0 := h.bw.c0
  have c1 := h.bw.c1
  have hl2 := h.bw.l2
  have hp2 := h.bw.p2
  have q := h.bw.ra.cell l hl
  have fa := h.bw.ra.free l
  have ha : ab < w.heap.size := h.bw.lt.2.1
  rcases h.inv.a l hl with e | ⟨p, hp, e1, e2⟩
  · have HF : Hid (BO L P (w.setCell ⟨ab, l, none⟩ (.int .i64 (-1))) bb ab ob (leaveF s l) ∧ Keep (BT ab ob) w (w.setCell ⟨ab, l, none⟩ (.int .i64 (-1)))) := by
      refine ⟨⟨?_, leave_inv h.inv hl⟩, (Keep.refl _ _).set (p := ⟨ab, l, none⟩) (Or.inl rfl) _⟩
      have := h.bw.setA l (-1) hl
      unfold leaveF
      rw [if_pos e]
      exact this
    rw [e] at q
    clear h e
    go_enter Tryd.func35, Tryd.ntmps35
    go_wp2
    go_end0
    exact ⟨rfl, HF.out⟩
  · obtain ⟨W, hW⟩ : ∃ W, W = (w.setCell ⟨ob, p, none⟩ (.int .i64 (-1))).drew := ⟨_, rfl⟩
    have HB : BW L P W bb ab ob ⟨s.pa, upd s.lb p (-1)⟩ := by rw [hW]; exact (h.bw.setO p (-1) hp).below ((Below.refl _ _).drew)
    have HK : Keep (BT ab ob) w W := by rw [hW]; exact ((Keep.refl _ _).set (p := ⟨ob, p, none⟩) (Or.inr rfl) _).drew
    have HF : Hid (BO L P (W.setCell ⟨ab, l, none⟩ (.int .i64 (-1))) bb ab ob (leaveF s l) ∧ Keep (BT ab ob) w (W.setCell ⟨ab, l, none⟩ (.int .i64 (-1)))) := by
      refine ⟨⟨?_, leave_inv h.inv hl⟩, HK.set (p := ⟨ab, l, none⟩) (Or.inl rfl) _⟩
      have := HB.setA l (-1) hl
      unfold leaveF
      rw [if_neg (by omega), e1, Int.toNat_natCast]
      exact this
    have HC : Hid (W.cell? ⟨bb, 0, none⟩ = some (.slice (some ⟨ab, 0, none⟩) L L) ∧ W.cell? ⟨ab, l, none⟩ = some (.int .i64 (p : Int)) ∧ W.frozen? ⟨ab, l, none⟩ = false) := ⟨HB.c0, by rw [← e1]; exact HB.ra.cell l hl, HB.ra.free l⟩
    have HW : Hid (W = (w.setCell ⟨ob, p, none⟩ (.int .i64 (-1))).drew) := hW
    have qo := h.bw.ro.cell p hp
    have fo := h.bw.ro.free p
    rw [e1] at q
    generalize s.lb p = lp at *
    clear h e1 e2 HB HK hW
    go_enter Tryd.func35, Tryd.ntmps35
    go_wp2
    go_region
    all_goals
      rw [← HW.out]
      obtain ⟨d0, d1, d2⟩ := HC.out
      clear c0 c1 q fa qo fo
      go_wp2
      go_end0
      exact ⟨rfl, HF.out⟩
end Go.Proofs.YtcppokafgohkgadDoor
