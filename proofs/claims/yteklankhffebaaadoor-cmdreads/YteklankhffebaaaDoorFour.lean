/-
  What the calls of package cmd give: Encode, EncodeDone, Decode, DecodeDone.
-/
import Derived.Test.YteklankhffebaaaDoorReadF
namespace Go.Proofs.YteklankhffebaaaDoor
open Go.RowKit
set_option linter.unusedVariables false

theorem cv_of {w : World} {g : Nat} {t : TypeId} (v : List Int) (r : List Value) (h : Stc w g t (v.map (Value.int .i64) ++ r)) : CV w g v := fun i hi => by
  rw [h.cell i, List.getElem?_append_left (by simpa using hi), List.getElem?_map, List.getElem?_eq_getElem hi]
  unfold gV
  rw [List.getElem?_eq_getElem hi]
  rfl
theorem okCF : OkF CF 64 := ⟨by decide, by decide, fun i hi => by
  have h6 : i < 6 := hi
  have : ∀ j : Fin 6, (gF CF j.1).k ≤ 8 ∧ (gF CF j.1).a + (gF CF j.1).k ≤ 64 ∧ (gF CF j.1).m ≤ 4611686018427387904 := by decide
  exact this ⟨i, h6⟩⟩
theorem okDF : OkF DF 16 := ⟨by decide, by decide, fun i hi => by
  have h6 : i < 4 := hi
  have : ∀ j : Fin 4, (gF DF j.1).k ≤ 8 ∧ (gF DF j.1).a + (gF DF j.1).k ≤ 16 ∧ (gF DF j.1).m ≤ 4611686018427387904 := by decide
  exact this ⟨i, h6⟩⟩
/-- A command as a value. -/
abbrev cmdV (op id lba cnt fst snd : Int) : Value := .agg #[.int .i64 op, .int .i64 id, .int .i64 lba, .int .i64 cnt, .int .i64 fst, .int .i64 snd]
/-- What Encode gives. -/
def EPost (w w' : World) (e : Ending) (v : List Int) : Prop :=
  Below w.heap.size w w' ∧ ((holdL CF v 6 ∧ ∃ g, w.heap.size ≤ g ∧ e = .returned (.tuple #[.slice (some ⟨g, 0, none⟩) 64 64, .nilIface]) ∧ Row w' g (wrt CF v 64 6)) ∨ (¬ holdL CF v 6 ∧ e = .returned (.tuple #[.slice none 0 0, .iface 31 (.int .i64 1)])))
set_option maxRecDepth 20000 in
set_option maxHeartbeats 1600000 in
theorem encode_any (op id lba cnt fst snd : Int) (w : World) : Calls Tryd.prog 5 #[cmdV op id lba cnt fst snd] w fun e w' => EPost w w' e [op, id, lba, cnt, fst, snd] := by
  obtain ⟨v, Hv⟩ : ∃ v, Hid (v = [op, id, lba, cnt, fst, snd]) := ⟨_, rfl⟩
  rw [← Hv.out]
  have HC : Hid (CV (w.alloc (.cells #[.int .i64 op, .int .i64 id, .int .i64 lba, .int .i64 cnt, .int .i64 fst, .int .i64 snd] 23)) w.heap.size v) := by
    show CV _ _ _
    rw [Hv.out]
    exact cv_of (t := 23) _ [] (heap_alloc_new w _)
  have HL : Hid (v.length = 6) := by show _ = _; rw [Hv.out]; rfl
  have HB := alloc_below' w (.cells #[.int .i64 op, .int .i64 id, .int .i64 lba, .int .i64 cnt, .int .i64 fst, .int .i64 snd] 23)
  have HB : Hid (Below w.heap.size w (w.alloc (.cells #[.int .i64 op, .int .i64 id, .int .i64 lba, .int .i64 cnt, .int .i64 fst, .int .i64 snd] 23))) := HB
  have HF : Hid (Calls Tryd.prog 18 #[.pointer (some ⟨w.heap.size, 0, none⟩)] (w.alloc (.cells #[.int .i64 op, .int .i64 id, .int .i64 lba, .int .i64 cnt, .int .i64 fst, .int .i64 snd] 23)) fun e w' => ∃ g, e = .returned (.slice (some ⟨g, 0, none⟩) 6 6) ∧ Below w.heap.size w w' ∧ Calls Tryd.prog 17 #[.int .i64 64, .slice (some ⟨g, 0, none⟩) 6 6] w' fun e w2 => EPost w w2 e v) := by
    refine (cfields_any w.heap.size _).mono ?_
    rintro e w' ⟨rfl, hfl, hb⟩
    have hb0 : Below w.heap.size w w' := HB.out.trans (hb.mono HB.out.size)
    refine ⟨_, rfl, hb0, ?_⟩
    have hcv : CV w' w.heap.size v := HC.out.keep (Keep.of_below (S := fun _ => False) hb) (fun e => e)
    refine (write_any _ 0 w.heap.size 64 CF v 6 w' hfl hcv (by rw [HL.out]; exact Nat.le_refl _) (World.block_lt_of_cell? w' _ (hcv 0 (by rw [HL.out]; omega))) (hfl 0 (by decide)).lt okCF).mono ?_
    rintro e2 w2 ⟨hb2, h⟩
    refine ⟨hb0.trans (hb2.mono hb0.size), ?_⟩
    rcases h with ⟨h1, h2, h3⟩ | ⟨h1, h2⟩
    · exact .inl ⟨h1, _, hb0.size, h2, h3⟩
    · exact .inr ⟨h1, h2⟩
  clear HC HL HB
  go_enter Tryd.func5, Tryd.ntmps5
  go_wp2_with fail
  refine HF.out.mono ?_
  rintro e w1 ⟨g, rfl, hb, HW⟩
  clear HF
  go_wp2_with fail
  refine HW.mono ?_
  rintro e w2 HP
  have HE : Hid (EPost w w2 e v) := HP
  clear HW hb
  rcases HP with ⟨hb, ⟨h1, g2, hg, rfl, h3⟩ | ⟨h1, rfl⟩⟩
  · clear hb h1 hg h3
    go_wp2
    go_ret2
    exact HE.out
  · clear hb h1
    go_wp2
    go_ret2
    exact HE.out
theorem six_set {w : World} {rb : Nat} {t : TypeId} {u0 u1 u2 u3 u4 u5 : Value} (h : Stc w rb t [u0, u1, u2, u3, u4, u5]) (v0 v1 v2 v3 v4 v5 : Value) : Stc ((((((w.setCell ⟨rb, 0, none⟩ v0).setCell ⟨rb, 1, none⟩ v1).setCell ⟨rb, 2, none⟩ v2).setCell ⟨rb, 3, none⟩ v3).setCell ⟨rb, 4, none⟩ v4).setCell ⟨rb, 5, none⟩ v5) rb t [v0, v1, v2, v3, v4, v5] :=
  (((((h.set 0 v0).set 1 v1).set 2 v2).set 3 v3).set 4 v4).set 5 v5
theorem five_set {w : World} {rb : Nat} {t : TypeId} {u0 u1 u2 u3 u4 : Value} (h : Stc w rb t [u0, u1, u2, u3, u4]) (v0 v1 v2 v3 v4 : Value) : Stc (((((w.setCell ⟨rb, 0, none⟩ v0).setCell ⟨rb, 1, none⟩ v1).setCell ⟨rb, 2, none⟩ v2).setCell ⟨rb, 3, none⟩ v3).setCell ⟨rb, 4, none⟩ v4) rb t [v0, v1, v2, v3, v4] :=
  ((((h.set 0 v0).set 1 v1).set 2 v2).set 3 v3).set 4 v4
theorem below_six {B : Nat} {w0 w : World} {rb : Nat} (h : Below B w0 w) (hb : B ≤ rb) (v0 v1 v2 v3 v4 v5 : Value) : Below B w0 ((((((w.setCell ⟨rb, 0, none⟩ v0).setCell ⟨rb, 1, none⟩ v1).setCell ⟨rb, 2, none⟩ v2).setCell ⟨rb, 3, none⟩ v3).setCell ⟨rb, 4, none⟩ v4).setCell ⟨rb, 5, none⟩ v5) :=
  (((((h.setCell (p := ⟨rb, 0, none⟩) hb v0).setCell (p := ⟨rb, 1, none⟩) hb v1).setCell (p := ⟨rb, 2, none⟩) hb v2).setCell (p := ⟨rb, 3, none⟩) hb v3).setCell (p := ⟨rb, 4, none⟩) hb v4).setCell (p := ⟨rb, 5, none⟩) hb v5
theorem below_five {B : Nat} {w0 w : World} {rb : Nat} (h : Below B w0 w) (hb : B ≤ rb) (v0 v1 v2 v3 v4 : Value) : Below B w0 (((((w.setCell ⟨rb, 0, none⟩ v0).setCell ⟨rb, 1, none⟩ v1).setCell ⟨rb, 2, none⟩ v2).setCell ⟨rb, 3, none⟩ v3).setCell ⟨rb, 4, none⟩ v4) :=
  ((((h.setCell (p := ⟨rb, 0, none⟩) hb v0).setCell (p := ⟨rb, 1, none⟩) hb v1).setCell (p := ⟨rb, 2, none⟩) hb v2).setCell (p := ⟨rb, 3, none⟩) hb v3).setCell (p := ⟨rb, 4, none⟩) hb v4
/-- What Decode gives. -/
def DPost (w w' : World) (e : Ending) (l : List Nat) : Prop :=
  Below w.heap.size w w' ∧ ((l.length ≠ 64 ∧ e = .returned (.tuple #[cmdV 0 0 0 0 0 0, .iface 31 (.int .i64 2)])) ∨ (l.length = 64 ∧ ¬ fitL CF l 6 ∧ e = .returned (.tuple #[cmdV 0 0 0 0 0 0, .iface 31 (.int .i64 1)])) ∨
    (l.length = 64 ∧ fitL CF l 6 ∧ e = .returned (.tuple #[cmdV ((rdN CF l 0 : Nat) : Int) ((rdN CF l 1 : Nat) : Int) ((rdN CF l 2 : Nat) : Int) ((rdN CF l 3 : Nat) : Int) ((rdN CF l 4 : Nat) : Int) ((rdN CF l 5 : Nat) : Int), .nilIface])))
set_option maxRecDepth 20000 in
set_option maxHeartbeats 3200000 in
theorem decode_no (a : Option Addr) (L c : Nat) (w : World) (hL : L ≤ 140737488355328) (h : L ≠ 64) : Calls Tryd.prog 13 #[.slice a L c] w fun e w' => e = .returned (.tuple #[cmdV 0 0 0 0 0 0, .iface 31 (.int .i64 2)]) ∧ Below w.heap.size w w' := by
  obtain ⟨Z, HZ⟩ : ∃ Z, Hid (Z = Obj.cells #[.int .i64 0, .int .i64 0, .int .i64 0, .int .i64 0, .int .i64 0, .int .i64 0] 23) := ⟨_, rfl⟩
  have HB : Hid (Below w.heap.size w ((w.alloc Z).alloc Z)) := (alloc_below' w _).trans ((alloc_below' _ _).mono (by simp))
  have HT : Hid (Stc ((w.alloc Z).alloc Z) w.heap.size 23 [.int .i64 0, .int .i64 0, .int .i64 0, .int .i64 0, .int .i64 0, .int .i64 0]) := by
    show Stc _ _ _ _
    refine Stc.keep (S := fun _ => False) (w := w.alloc Z) ?_ (Keep.of_below (alloc_below' _ _)) (fun e => e)
    rw [HZ.out]
    exact heap_alloc_new w _
  have HF : Hid (Calls Tryd.prog 18 #[.pointer (some ⟨w.heap.size + 1, 0, none⟩)] ((w.alloc Z).alloc Z) fun e w' => ∃ g, e = .returned (.slice (some ⟨g, 0, none⟩) 6 6) ∧ Below w.heap.size w w' ∧ Stc w' w.heap.size 23 [.int .i64 0, .int .i64 0, .int .i64 0, .int .i64 0, .int .i64 0, .int .i64 0]) := by
    refine (cfields_any (w.heap.size + 1) _).mono ?_
    rintro e w' ⟨rfl, hfl, hb⟩
    exact ⟨_, rfl, HB.out.trans (hb.mono HB.out.size), HT.out.keep (Keep.of_below (S := fun _ => False) hb) (fun e => e)⟩
  rw [HZ.out] at HF
  clear HB HT
  go_enter Tryd.func13, Tryd.ntmps13
  go_wp2_with fail
  refine HF.out.mono ?_
  rintro e w1 ⟨g, rfl, hb, hs⟩
  have HR := read_no a L c 64 (.slice (some ⟨g, 0, none⟩) 6 6) w1 (by decide) hL h
  have HH : Hid (Below w.heap.size w w1 ∧ Stc w1 w.heap.size 23 [.int .i64 0, .int .i64 0, .int .i64 0, .int .i64 0, .int .i64 0, .int .i64 0]) := ⟨hb, hs⟩
  clear HF hb hs h
  go_wp2_with fail
  refine HR.mono ?_
  rintro e w2 ⟨rfl, rfl⟩
  clear HR
  have r0 : w1.cell? ⟨w.heap.size, 0, none⟩ = some (.int .i64 0) := HH.out.2.cell 0
  have r1 : w1.cell? ⟨w.heap.size, 1, none⟩ = some (.int .i64 0) := HH.out.2.cell 1
  have r2 : w1.cell? ⟨w.heap.size, 2, none⟩ = some (.int .i64 0) := HH.out.2.cell 2
  have r3 : w1.cell? ⟨w.heap.size, 3, none⟩ = some (.int .i64 0) := HH.out.2.cell 3
  have r4 : w1.cell? ⟨w.heap.size, 4, none⟩ = some (.int .i64 0) := HH.out.2.cell 4
  have r5 : w1.cell? ⟨w.heap.size, 5, none⟩ = some (.int .i64 0) := HH.out.2.cell 5
  have f0 := HH.out.2.free 0
  have f1 := HH.out.2.free 1
  have f2 := HH.out.2.free 2
  have f3 := HH.out.2.free 3
  have f4 := HH.out.2.free 4
  have f5 := HH.out.2.free 5
  go_wp2_with fail
  have hz := six_set HH.out.2 (.int .i64 0) (.int .i64 0) (.int .i64 0) (.int .i64 0) (.int .i64 0) (.int .i64 0)
  refine bodyPost_ret (v := .tuple #[cmdV 0 0 0 0 0 0, .iface 31 (.int .i64 2)]) (by simp [results, Tryd.results13, go_sem, hz.cell 0, hz.cell 1, hz.cell 2, hz.cell 3, hz.cell 4, hz.cell 5]) rfl ?_
  exact ⟨rfl, below_six HH.out.1 (Nat.le_refl _) _ _ _ _ _ _⟩
end Go.Proofs.YteklankhffebaaaDoor
