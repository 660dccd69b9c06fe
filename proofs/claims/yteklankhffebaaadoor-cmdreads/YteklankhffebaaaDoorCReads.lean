/-
  The walk of CmdReads.
-/
import Derived.Test.YteklankhffebaaaDoorRReadD
import Derived.Test.YteklankhffebaaaDoorInB
import Derived.Test.YteklankhffebaaaDoorTold
namespace Go.Proofs.YteklankhffebaaaDoor
open Go.RowKit
set_option linter.unusedVariables false

theorem BIn.at {w : World} {a : Option Addr} {cap : Nat} {l : List Nat} (h : BIn w a cap l) (h0 : 0 < l.length) : ∃ b o, a = some ⟨b, o, none⟩ ∧ ∀ wz, Below w.heap.size w wz → ∀ i, i < l.length → wz.cell? ⟨b, o + i, none⟩ = some (.int .u8 ((l[i]?.getD 0 : Nat) : Int)) := by
  rcases h.lies with e | ⟨b, o, e, hc⟩
  · rw [e] at h0; simp at h0
  · exact ⟨b, o, e, fun wz hz i hi => (hz.cell (p := ⟨b, o + i, none⟩) (World.block_lt_of_cell? w _ (hc i hi))).trans (hc i hi)⟩
/-- An error and its number. -/
def ErrIs (ev : Value) (n : Nat) : Prop := (ev = .nilIface ∧ n = 0) ∨ ev = .iface 31 (.int .i64 (n : Nat))
theorem error_is {ev : Value} {n : Nat} (h : ErrIs ev n) (w : World) (hE : EType w) : Calls Tryd.prog 7 #[ev, .int .i64 (n : Nat)] w fun e w' => e = .returned (.bool true) ∧ Below w.heap.size w w' := by
  rcases h with ⟨rfl, rfl⟩ | rfl
  · exact (error_nil 0 w).mono fun e w' ⟨h1, h2⟩ => ⟨h1, h2 ▸ Below.refl _ _⟩
  · exact error_same n w hE
theorem both_cmd {w : World} {a : Option Addr} {cap : Nat} {l : List Nat} (h : BIn w a cap l) : ∃ (x0 x1 x2 x3 x4 x5 : Int) (ev : Value) (n : Nat), ErrIs ev n ∧
    (∀ wz, Below w.heap.size w wz → Calls Tryd.prog 13 #[.slice a l.length cap] wz fun e w' => e = .returned (.tuple #[cmdV x0 x1 x2 x3 x4 x5, ev]) ∧ Below wz.heap.size wz w') ∧
    (∀ wz, Below w.heap.size w wz → Calls Tryd.prog 14 #[.slice a l.length cap] wz fun e w' => e = .returned (.tuple #[cmdV x0 x1 x2 x3 x4 x5, .int .i64 (n : Nat)]) ∧ Below wz.heap.size wz w') := by
  by_cases hl : l.length = 64
  · obtain ⟨b, o, rfl, hc⟩ := h.at (by omega)
    have hcap := h.cap
    rw [hl]
    by_cases hf : fitL CF l 6
    · refine ⟨((rdN CF l 0 : Nat) : Int), ((rdN CF l 1 : Nat) : Int), ((rdN CF l 2 : Nat) : Int), ((rdN CF l 3 : Nat) : Int), ((rdN CF l 4 : Nat) : Int), ((rdN CF l 5 : Nat) : Int), .nilIface, 0, .inl ⟨rfl, rfl⟩, fun wz hz => (decode_yes b o cap l wz hl h.all (by rw [hl] at hc; exact hc wz hz)).mono ?_, fun wz hz => (commandRead_yes b o cap l wz hl h.all (by omega) (by rw [hl] at hc; exact hc wz hz)).mono ?_⟩
      · rintro e w' ⟨hb, ⟨q, _⟩ | ⟨_, q, _⟩ | ⟨_, _, q⟩⟩
        · exact absurd hl q
        · exact absurd hf q
        · exact ⟨q, hb⟩
      · rintro e w' ⟨hb, ⟨q, _⟩ | ⟨_, q, _⟩ | ⟨_, _, q⟩⟩
        · exact absurd hl q
        · exact absurd hf q
        · exact ⟨q, hb⟩
    · refine ⟨0, 0, 0, 0, 0, 0, .iface 31 (.int .i64 1), 1, .inr rfl, fun wz hz => (decode_yes b o cap l wz hl h.all (by rw [hl] at hc; exact hc wz hz)).mono ?_, fun wz hz => (commandRead_yes b o cap l wz hl h.all (by omega) (by rw [hl] at hc; exact hc wz hz)).mono ?_⟩
      · rintro e w' ⟨hb, ⟨q, _⟩ | ⟨_, _, q⟩ | ⟨_, q, _⟩⟩
        · exact absurd hl q
        · exact ⟨q, hb⟩
        · exact absurd q hf
      · rintro e w' ⟨hb, ⟨q, _⟩ | ⟨_, _, q⟩ | ⟨_, q, _⟩⟩
        · exact absurd hl q
        · exact ⟨q, hb⟩
        · exact absurd q hf
  · exact ⟨0, 0, 0, 0, 0, 0, .iface 31 (.int .i64 2), 2, .inr rfl, fun wz hz => decode_no a l.length cap wz h.big hl, fun wz hz => commandRead_no a l.length cap wz h.big hl⟩
theorem both_done {w : World} {a : Option Addr} {cap : Nat} {l : List Nat} (h : BIn w a cap l) : ∃ (y0 y1 y2 y3 : Int) (ph : Bool) (ev : Value) (n : Nat), ErrIs ev n ∧
    (∀ wz, Below w.heap.size w wz → Calls Tryd.prog 15 #[.slice a l.length cap] wz fun e w' => e = .returned (.tuple #[doneV y0 y1 y2 y3 ph, ev]) ∧ Below wz.heap.size wz w') ∧
    (∀ wz, Below w.heap.size w wz → Calls Tryd.prog 16 #[.slice a l.length cap] wz fun e w' => e = .returned (.tuple #[doneV y0 y1 y2 y3 ph, .int .i64 (n : Nat)]) ∧ Below wz.heap.size wz w') := by
  by_cases hl : l.length = 16
  · obtain ⟨b, o, rfl, hc⟩ := h.at (by omega)
    rw [hl]
    refine ⟨((rdN DF l 0 : Nat) : Int), ((rdN DF l 1 : Nat) : Int), ((rdN DF l 2 : Nat) : Int), ((rdN DF l 3 : Nat) : Int), phB l, .nilIface, 0, .inl ⟨rfl, rfl⟩, fun wz hz => (decodeDone_yes b o cap l wz hl h.all (by rw [hl] at hc; exact hc wz hz)).mono ?_, fun wz hz => (doneRead_yes b o cap l wz hl h.all (by rw [hl] at hc; exact hc wz hz)).mono ?_⟩
    · rintro e w' ⟨hb, ⟨q, _⟩ | ⟨_, q⟩⟩
      · exact absurd hl q
      · exact ⟨q, hb⟩
    · rintro e w' ⟨hb, ⟨q, _⟩ | ⟨_, q⟩⟩
      · exact absurd hl q
      · exact ⟨q, hb⟩
  · exact ⟨0, 0, 0, 0, false, .iface 31 (.int .i64 2), 2, .inr rfl, fun wz hz => decodeDone_no a l.length cap wz h.big hl, fun wz hz => doneRead_no a l.length cap wz h.big hl⟩
set_option maxRecDepth 100000 in
set_option maxHeartbeats 3200000 in
theorem creads_any (a : Option Addr) (ca : Nat) (la : List Nat) (b : Option Addr) (cb : Nat) (lb : List Nat) (w : World) (hE : EType w) (hA : BIn w a ca la) (hB : BIn w b cb lb) :
    Calls Tryd.prog 4 #[.slice a la.length ca, .slice b lb.length cb] w fun e w' => e = .returned (.bool true) ∧ Below w.heap.size w w' := by
  have HET : Hid (∀ wz, Below w.heap.size w wz → EType wz) := fun wz hb => EType.below hE hb hE.pos
  obtain ⟨x0, x1, x2, x3, x4, x5, ev, n, herr, hd, hr⟩ := both_cmd hA
  obtain ⟨y0, y1, y2, y3, ph, ev2, n2, herr2, hd2, hr2⟩ := both_done hB
  have HD := hd w (Below.refl _ _)
  have HR : Hid (∀ wz, Below w.heap.size w wz → Calls Tryd.prog 14 #[.slice a la.length ca] wz fun e w' => e = .returned (.tuple #[cmdV x0 x1 x2 x3 x4 x5, .int .i64 (n : Nat)]) ∧ Below wz.heap.size wz w') := hr
  have HD2 : Hid (∀ wz, Below w.heap.size w wz → Calls Tryd.prog 15 #[.slice b lb.length cb] wz fun e w' => e = .returned (.tuple #[doneV y0 y1 y2 y3 ph, ev2]) ∧ Below wz.heap.size wz w') := hd2
  have HR2 : Hid (∀ wz, Below w.heap.size w wz → Calls Tryd.prog 16 #[.slice b lb.length cb] wz fun e w' => e = .returned (.tuple #[doneV y0 y1 y2 y3 ph, .int .i64 (n2 : Nat)]) ∧ Below wz.heap.size wz w') := hr2
  have HX : Hid (∀ wz, Below w.heap.size w wz → Calls Tryd.prog 7 #[ev, .int .i64 (n : Nat)] wz fun e w' => e = .returned (.bool true) ∧ Below wz.heap.size wz w') := fun wz hz => error_is herr wz (HET.out wz hz)
  have HX2 : Hid (∀ wz, Below w.heap.size w wz → Calls Tryd.prog 7 #[ev2, .int .i64 (n2 : Nat)] wz fun e w' => e = .returned (.bool true) ∧ Below wz.heap.size wz w') := fun wz hz => error_is herr2 wz (HET.out wz hz)
  clear hA hB hd hr hd2 hr2 herr herr2 hE HET
  go_enter Tryd.func4, Tryd.ntmps4
  go_wp2_with fail
  refine HD.mono ?_
  rintro e w1 ⟨rfl, hb1⟩
  have HS1 : Hid (Below w.heap.size w (w1.alloc (.cells #[.int .i64 x0, .int .i64 x1, .int .i64 x2, .int .i64 x3, .int .i64 x4, .int .i64 x5] 23)) ∧ Stc (w1.alloc (.cells #[.int .i64 x0, .int .i64 x1, .int .i64 x2, .int .i64 x3, .int .i64 x4, .int .i64 x5] 23)) w1.heap.size 23 [.int .i64 x0, .int .i64 x1, .int .i64 x2, .int .i64 x3, .int .i64 x4, .int .i64 x5]) := ⟨hb1.trans ((alloc_below' _ _).mono hb1.size), heap_alloc_new w1 _⟩
  have HR1 := HR.out _ HS1.out.1
  clear HD hb1 HR
  go_wp2_with fail
  refine HR1.mono ?_
  rintro e w2 ⟨rfl, hb2⟩
  have HS2 : Hid (Below w.heap.size w (w2.alloc (.cells #[.int .i64 x0, .int .i64 x1, .int .i64 x2, .int .i64 x3, .int .i64 x4, .int .i64 x5] 23)) ∧ Stc (w2.alloc (.cells #[.int .i64 x0, .int .i64 x1, .int .i64 x2, .int .i64 x3, .int .i64 x4, .int .i64 x5] 23)) w1.heap.size 23 [.int .i64 x0, .int .i64 x1, .int .i64 x2, .int .i64 x3, .int .i64 x4, .int .i64 x5] ∧ Stc (w2.alloc (.cells #[.int .i64 x0, .int .i64 x1, .int .i64 x2, .int .i64 x3, .int .i64 x4, .int .i64 x5] 23)) w2.heap.size 23 [.int .i64 x0, .int .i64 x1, .int .i64 x2, .int .i64 x3, .int .i64 x4, .int .i64 x5]) := by
    have hb := HS1.out.1.trans (hb2.mono HS1.out.1.size)
    exact ⟨hb.trans ((alloc_below' _ _).mono hb.size), (HS1.out.2.keep (Keep.of_below (S := fun _ => False) hb2) (fun e => e)).keep (Keep.of_below (S := fun _ => False) (alloc_below' _ _)) (fun e => e), heap_alloc_new w2 _⟩
  have HX1 := HX.out _ HS2.out.1
  clear HR1 hb2 HS1 HX
  go_wp2_with fail
  refine HX1.mono ?_
  rintro e w3 ⟨rfl, hb3⟩
  have HS3 : Hid (Below w.heap.size w w3 ∧ Stc w3 w1.heap.size 23 [.int .i64 x0, .int .i64 x1, .int .i64 x2, .int .i64 x3, .int .i64 x4, .int .i64 x5] ∧ Stc w3 w2.heap.size 23 [.int .i64 x0, .int .i64 x1, .int .i64 x2, .int .i64 x3, .int .i64 x4, .int .i64 x5]) :=
    ⟨HS2.out.1.trans (hb3.mono HS2.out.1.size), HS2.out.2.1.keep (Keep.of_below (S := fun _ => False) hb3) (fun e => e), HS2.out.2.2.keep (Keep.of_below (S := fun _ => False) hb3) (fun e => e)⟩
  have p0 : w3.cell? ⟨w1.heap.size, 0, none⟩ = some (.int .i64 x0) := HS3.out.2.1.cell 0
  have q0 : w3.cell? ⟨w2.heap.size, 0, none⟩ = some (.int .i64 x0) := HS3.out.2.2.cell 0
  have p1 : w3.cell? ⟨w1.heap.size, 1, none⟩ = some (.int .i64 x1) := HS3.out.2.1.cell 1
  have q1 : w3.cell? ⟨w2.heap.size, 1, none⟩ = some (.int .i64 x1) := HS3.out.2.2.cell 1
  have p2 : w3.cell? ⟨w1.heap.size, 2, none⟩ = some (.int .i64 x2) := HS3.out.2.1.cell 2
  have q2 : w3.cell? ⟨w2.heap.size, 2, none⟩ = some (.int .i64 x2) := HS3.out.2.2.cell 2
  have p3 : w3.cell? ⟨w1.heap.size, 3, none⟩ = some (.int .i64 x3) := HS3.out.2.1.cell 3
  have q3 : w3.cell? ⟨w2.heap.size, 3, none⟩ = some (.int .i64 x3) := HS3.out.2.2.cell 3
  have p4 : w3.cell? ⟨w1.heap.size, 4, none⟩ = some (.int .i64 x4) := HS3.out.2.1.cell 4
  have q4 : w3.cell? ⟨w2.heap.size, 4, none⟩ = some (.int .i64 x4) := HS3.out.2.2.cell 4
  have p5 : w3.cell? ⟨w1.heap.size, 5, none⟩ = some (.int .i64 x5) := HS3.out.2.1.cell 5
  have q5 : w3.cell? ⟨w2.heap.size, 5, none⟩ = some (.int .i64 x5) := HS3.out.2.2.cell 5
  have hge := fun x y => guard_cmd .neq x y
  have heq := neq_cmd x0 x1 x2 x3 x4 x5
  have HD3 := HD2.out w3 HS3.out.1
  clear HX1 hb3 HS2 HD2
  go_wp2_with fail
  refine HD3.mono ?_
  rintro e w4 ⟨rfl, hb4⟩
  have hbb4 := HS3.out.1.trans (hb4.mono HS3.out.1.size)
  have HS4 : Hid (Below w.heap.size w (w4.alloc (.cells #[.int .i64 y0, .int .i64 y1, .int .i64 y2, .int .i64 y3, .bool ph] 25)) ∧ Stc (w4.alloc (.cells #[.int .i64 y0, .int .i64 y1, .int .i64 y2, .int .i64 y3, .bool ph] 25)) w4.heap.size 25 [.int .i64 y0, .int .i64 y1, .int .i64 y2, .int .i64 y3, .bool ph]) := ⟨hbb4.trans ((alloc_below' _ _).mono hbb4.size), heap_alloc_new w4 _⟩
  have HR4 := HR2.out _ HS4.out.1
  clear HD3 hb4 HR2 hbb4 HS3 p0 p1 p2 p3 p4 p5 q0 q1 q2 q3 q4 q5 hge heq
  go_wp2_with fail
  refine HR4.mono ?_
  rintro e w5 ⟨rfl, hb5⟩
  have HS5 : Hid (Below w.heap.size w (w5.alloc (.cells #[.int .i64 y0, .int .i64 y1, .int .i64 y2, .int .i64 y3, .bool ph] 25)) ∧ Stc (w5.alloc (.cells #[.int .i64 y0, .int .i64 y1, .int .i64 y2, .int .i64 y3, .bool ph] 25)) w4.heap.size 25 [.int .i64 y0, .int .i64 y1, .int .i64 y2, .int .i64 y3, .bool ph] ∧ Stc (w5.alloc (.cells #[.int .i64 y0, .int .i64 y1, .int .i64 y2, .int .i64 y3, .bool ph] 25)) w5.heap.size 25 [.int .i64 y0, .int .i64 y1, .int .i64 y2, .int .i64 y3, .bool ph]) := by
    have hb := HS4.out.1.trans (hb5.mono HS4.out.1.size)
    exact ⟨hb.trans ((alloc_below' _ _).mono hb.size), (HS4.out.2.keep (Keep.of_below (S := fun _ => False) hb5) (fun e => e)).keep (Keep.of_below (S := fun _ => False) (alloc_below' _ _)) (fun e => e), heap_alloc_new w5 _⟩
  have HX5 := HX2.out _ HS5.out.1
  clear HR4 hb5 HS4 HX2
  go_wp2_with fail
  refine HX5.mono ?_
  rintro e w6 ⟨rfl, hb6⟩
  have HS6 : Hid (Below w.heap.size w w6 ∧ Stc w6 w4.heap.size 25 [.int .i64 y0, .int .i64 y1, .int .i64 y2, .int .i64 y3, .bool ph] ∧ Stc w6 w5.heap.size 25 [.int .i64 y0, .int .i64 y1, .int .i64 y2, .int .i64 y3, .bool ph]) :=
    ⟨HS5.out.1.trans (hb6.mono HS5.out.1.size), HS5.out.2.1.keep (Keep.of_below (S := fun _ => False) hb6) (fun e => e), HS5.out.2.2.keep (Keep.of_below (S := fun _ => False) hb6) (fun e => e)⟩
  have p0 : w6.cell? ⟨w4.heap.size, 0, none⟩ = some (.int .i64 y0) := HS6.out.2.1.cell 0
  have q0 : w6.cell? ⟨w5.heap.size, 0, none⟩ = some (.int .i64 y0) := HS6.out.2.2.cell 0
  have p1 : w6.cell? ⟨w4.heap.size, 1, none⟩ = some (.int .i64 y1) := HS6.out.2.1.cell 1
  have q1 : w6.cell? ⟨w5.heap.size, 1, none⟩ = some (.int .i64 y1) := HS6.out.2.2.cell 1
  have p2 : w6.cell? ⟨w4.heap.size, 2, none⟩ = some (.int .i64 y2) := HS6.out.2.1.cell 2
  have q2 : w6.cell? ⟨w5.heap.size, 2, none⟩ = some (.int .i64 y2) := HS6.out.2.2.cell 2
  have p3 : w6.cell? ⟨w4.heap.size, 3, none⟩ = some (.int .i64 y3) := HS6.out.2.1.cell 3
  have q3 : w6.cell? ⟨w5.heap.size, 3, none⟩ = some (.int .i64 y3) := HS6.out.2.2.cell 3
  have p4 : w6.cell? ⟨w4.heap.size, 4, none⟩ = some (.bool ph) := HS6.out.2.1.cell 4
  have q4 : w6.cell? ⟨w5.heap.size, 4, none⟩ = some (.bool ph) := HS6.out.2.2.cell 4
  have hge := fun x y => guard_done .eql x y
  have heq := eql_done y0 y1 y2 y3 ph
  have HB : Hid (Below w.heap.size w w6) := HS6.out.1
  clear HX5 hb6 HS5 HS6
  go_wp2
  go_ret
  exact ⟨rfl, HB.out⟩
end Go.Proofs.YteklankhffebaaaDoor
