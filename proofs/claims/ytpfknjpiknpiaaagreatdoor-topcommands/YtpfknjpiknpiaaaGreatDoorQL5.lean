/- Part of the proof. -/
import Derived.Test.YtpfknjpiknpiaaaGreatDoorQL4
import Derived.Laws.StructEq
import Derived.Test.YtpfknjpiknpiaaaGreatDoorQL3
import Derived.Test.YtpfknjpiknpiaaaGreatDoorQLBuild3
import Derived.Test.YtpfknjpiknpiaaaGreatDoorQL2
namespace Go.Proofs.YtpfknjpiknpiaaaGreatDoorQL
open Go.Proofs.YtpfknjpiknpiaaaGreatDoorQ
open Go.RowKit
set_option linter.unusedVariables false
theorem cv_of {w : World} {g : Nat} {t : TypeId} (v : List Int) (r : List Value) (h : Stc w g t (v.map (Value.int .i64) ++ r)) : CV w g v := fun i hi => by
  rw [h.cell i, List.getElem?_append_left (by simpa using hi), List.getElem?_map, List.getElem?_eq_getElem hi]
  unfold gV
  rw [List.getElem?_eq_getElem hi]
  rfl
theorem okCF : OkF CF 64 := ⟨by decide, by decide, fun i hi => by
  have h6 : i < 6 := hi
  have : ∀ j : Fin 6, (gF CF j.1).k ≤ 8 ∧ (gF CF j.1).a + (gF CF j.1).k ≤ 64 ∧ (gF CF j.1).m ≤ 4611686018427387904 := by decide
  exact this ⟨i, h6⟩⟩
abbrev cmdV (op id lba cnt fst snd : Int) : Value := .agg #[.int .i64 op, .int .i64 id, .int .i64 lba, .int .i64 cnt, .int .i64 fst, .int .i64 snd]
def EPost (w w' : World) (e : Ending) (v : List Int) : Prop :=
  Below w.heap.size w w' ∧ ((holdL CF v 6 ∧ ∃ g, w.heap.size ≤ g ∧ e = .returned (.tuple #[.slice (some ⟨g, 0, none⟩) 64 64, .nilIface]) ∧ Row w' g (wrt CF v 64 6)) ∨ (¬ holdL CF v 6 ∧ e = .returned (.tuple #[.slice none 0 0, .iface 54 (.int .i64 1)])))
set_option maxRecDepth 20000 in
set_option maxHeartbeats 1600000 in
theorem encode_any (op id lba cnt fst snd : Int) (w : World) : Calls (Al.progOf Tryz.prog) 7 #[cmdV op id lba cnt fst snd] w fun e w' => EPost w w' e [op, id, lba, cnt, fst, snd] := by
  obtain ⟨v, Hv⟩ : ∃ v, Hid (v = [op, id, lba, cnt, fst, snd]) := ⟨_, rfl⟩
  rw [← Hv.out]
  have HC : Hid (CV (w.alloc (.cells #[.int .i64 op, .int .i64 id, .int .i64 lba, .int .i64 cnt, .int .i64 fst, .int .i64 snd] 24)) w.heap.size v) := by
    show CV _ _ _
    rw [Hv.out]
    exact cv_of (t := 24) _ [] (heap_alloc_new w _)
  have HL : Hid (v.length = 6) := by show _ = _; rw [Hv.out]; rfl
  have HB := alloc_below' w (.cells #[.int .i64 op, .int .i64 id, .int .i64 lba, .int .i64 cnt, .int .i64 fst, .int .i64 snd] 24)
  have HB : Hid (Below w.heap.size w (w.alloc (.cells #[.int .i64 op, .int .i64 id, .int .i64 lba, .int .i64 cnt, .int .i64 fst, .int .i64 snd] 24))) := HB
  have HF : Hid (Calls (Al.progOf Tryz.prog) 21 #[.pointer (some ⟨w.heap.size, 0, none⟩)] (w.alloc (.cells #[.int .i64 op, .int .i64 id, .int .i64 lba, .int .i64 cnt, .int .i64 fst, .int .i64 snd] 24)) fun e w' => ∃ g, e = .returned (.slice (some ⟨g, 0, none⟩) 6 6) ∧ Below w.heap.size w w' ∧ Calls (Al.progOf Tryz.prog) 20 #[.int .i64 64, .slice (some ⟨g, 0, none⟩) 6 6] w' fun e w2 => EPost w w2 e v) := by
    refine (cfields_any w.heap.size _).mono ?_
    rintro e w' ⟨rfl, hfl, hb⟩
    have hb0 : Below w.heap.size w w' := HB.out.trans (hb.mono HB.out.size)
    refine ⟨_, rfl, hb0, ?_⟩
    have hcv : CV w' w.heap.size v := HC.out.keep (Keep.of_below (S := fun _ => False) hb) (fun e => e)
    refine (write_any _ 0 w.heap.size 64 CF v 6 w' hfl hcv (by rw [HL.out]; exact Nat.le_refl _) (World.block_lt_of_cell? w' _ (hcv 0 (by rw [HL.out]; omega))) (hfl 0 (by decide)).lt okCF).mono ?_
    rintro e2 w2 ⟨hb2, h⟩
    refine ⟨hb0.trans (hb2.mono hb0.size), ?_⟩
    rcases h with ⟨h1, h2, h3⟩ | ⟨h1, h2⟩
    · exact .inl ⟨h1, _, hb0.size, h2, h3⟩
    · exact .inr ⟨h1, h2⟩
  clear HC HL HB
  go_enter Al.func7, Tryz.ntmps7
  go_wp2_with fail
  refine HF.out.mono ?_
  rintro e w1 ⟨g, rfl, hb, HW⟩
  clear HF
  go_wp2_with fail
  refine HW.mono ?_
  rintro e w2 HP
  have HE : Hid (EPost w w2 e v) := HP
  clear HW hb
  rcases HP with ⟨hb, ⟨h1, g2, hg, rfl, h3⟩ | ⟨h1, rfl⟩⟩
  · clear hb h1 hg h3
    go_wp2
    go_ret2
    exact HE.out
  · clear hb h1
    go_wp2
    go_ret2
    exact HE.out
theorem six_set {w : World} {rb : Nat} {t : TypeId} {u0 u1 u2 u3 u4 u5 : Value} (h : Stc w rb t [u0, u1, u2, u3, u4, u5]) (v0 v1 v2 v3 v4 v5 : Value) : Stc ((((((w.setCell ⟨rb, 0, none⟩ v0).setCell ⟨rb, 1, none⟩ v1).setCell ⟨rb, 2, none⟩ v2).setCell ⟨rb, 3, none⟩ v3).setCell ⟨rb, 4, none⟩ v4).setCell ⟨rb, 5, none⟩ v5) rb t [v0, v1, v2, v3, v4, v5] :=
  (((((h.set 0 v0).set 1 v1).set 2 v2).set 3 v3).set 4 v4).set 5 v5
theorem below_six {B : Nat} {w0 w : World} {rb : Nat} (h : Below B w0 w) (hb : B ≤ rb) (v0 v1 v2 v3 v4 v5 : Value) : Below B w0 ((((((w.setCell ⟨rb, 0, none⟩ v0).setCell ⟨rb, 1, none⟩ v1).setCell ⟨rb, 2, none⟩ v2).setCell ⟨rb, 3, none⟩ v3).setCell ⟨rb, 4, none⟩ v4).setCell ⟨rb, 5, none⟩ v5) :=
  (((((h.setCell (p := ⟨rb, 0, none⟩) hb v0).setCell (p := ⟨rb, 1, none⟩) hb v1).setCell (p := ⟨rb, 2, none⟩) hb v2).setCell (p := ⟨rb, 3, none⟩) hb v3).setCell (p := ⟨rb, 4, none⟩) hb v4).setCell (p := ⟨rb, 5, none⟩) hb v5
def DPost (w w' : World) (e : Ending) (l : List Nat) : Prop :=
  Below w.heap.size w w' ∧ ((l.length ≠ 64 ∧ e = .returned (.tuple #[cmdV 0 0 0 0 0 0, .iface 54 (.int .i64 2)])) ∨ (l.length = 64 ∧ ¬ fitL CF l 6 ∧ e = .returned (.tuple #[cmdV 0 0 0 0 0 0, .iface 54 (.int .i64 1)])) ∨
    (l.length = 64 ∧ fitL CF l 6 ∧ e = .returned (.tuple #[cmdV ((rdN CF l 0 : Nat) : Int) ((rdN CF l 1 : Nat) : Int) ((rdN CF l 2 : Nat) : Int) ((rdN CF l 3 : Nat) : Int) ((rdN CF l 4 : Nat) : Int) ((rdN CF l 5 : Nat) : Int), .nilIface])))
set_option maxRecDepth 20000 in
set_option maxHeartbeats 3200000 in
theorem decode_yes (b o c : Nat) (l : List Nat) (w : World) (hln : l.length = 64) (hA : AllB l) (hc : ∀ i, i < 64 → w.cell? ⟨b, o + i, none⟩ = some (.int .u8 ((l[i]?.getD 0 : Nat) : Int))) : Calls (Al.progOf Tryz.prog) 8 #[.slice (some ⟨b, o, none⟩) 64 c] w fun e w' => DPost w w' e l := by
  obtain ⟨Z, HZ⟩ : ∃ Z, Hid (Z = Obj.cells #[.int .i64 0, .int .i64 0, .int .i64 0, .int .i64 0, .int .i64 0, .int .i64 0] 24) := ⟨_, rfl⟩
  have hbl : b < w.heap.size := World.block_lt_of_cell? w _ (hc 0 (by decide))
  have HB : Hid (Below w.heap.size w ((w.alloc Z).alloc Z)) := (alloc_below' w _).trans ((alloc_below' _ _).mono (by simp))
  have HT : Hid (Stc ((w.alloc Z).alloc Z) w.heap.size 24 [.int .i64 0, .int .i64 0, .int .i64 0, .int .i64 0, .int .i64 0, .int .i64 0]) := by
    show Stc _ _ _ _
    refine Stc.keep (S := fun _ => False) (w := w.alloc Z) ?_ (Keep.of_below (alloc_below' _ _)) (fun e => e)
    rw [HZ.out]
    exact heap_alloc_new w _
  have HT2 : Hid (Stc ((w.alloc Z).alloc Z) (w.heap.size + 1) 24 [.int .i64 0, .int .i64 0, .int .i64 0, .int .i64 0, .int .i64 0, .int .i64 0]) := by
    show Stc _ _ _ _
    have := heap_alloc_new (w.alloc Z) Z
    rw [show (w.alloc Z).heap.size = w.heap.size + 1 by simp] at this
    unfold Stc
    rw [this, HZ.out]
  have HF : Hid (Calls (Al.progOf Tryz.prog) 21 #[.pointer (some ⟨w.heap.size + 1, 0, none⟩)] ((w.alloc Z).alloc Z) fun e w' => ∃ g, e = .returned (.slice (some ⟨g, 0, none⟩) 6 6) ∧ Calls (Al.progOf Tryz.prog) 22 #[.slice (some ⟨b, o, none⟩) 64 c, .int .i64 64, .slice (some ⟨g, 0, none⟩) 6 6] w' fun e w2 => Below w.heap.size w w2 ∧ Stc w2 w.heap.size 24 [.int .i64 0, .int .i64 0, .int .i64 0, .int .i64 0, .int .i64 0, .int .i64 0] ∧ ((fitL CF l 6 ∧ e = .returned .nilIface ∧ Stc w2 (w.heap.size + 1) 24 [.int .i64 ((rdN CF l 0 : Nat) : Int), .int .i64 ((rdN CF l 1 : Nat) : Int), .int .i64 ((rdN CF l 2 : Nat) : Int), .int .i64 ((rdN CF l 3 : Nat) : Int), .int .i64 ((rdN CF l 4 : Nat) : Int), .int .i64 ((rdN CF l 5 : Nat) : Int)]) ∨ (¬ fitL CF l 6 ∧ e = .returned (.iface 54 (.int .i64 1))))) := by
    refine (cfields_any (w.heap.size + 1) _).mono ?_
    rintro e w' ⟨rfl, hfl, hb⟩
    have hb0 : Below w.heap.size w w' := HB.out.trans (hb.mono HB.out.size)
    have hk0 : Keep (fun _ => False) ((w.alloc Z).alloc Z) w' := Keep.of_below hb
    refine ⟨_, rfl, ?_⟩
    refine (read_yes _ 0 (w.heap.size + 1) 64 b o CF l [.int .i64 0, .int .i64 0, .int .i64 0, .int .i64 0, .int .i64 0, .int .i64 0] 24 6 c w' hfl (HT2.out.keep hk0 (fun e => e)) (by simp) (by decide) hln hA (fun i hi => (hb0.cell (p := ⟨b, o + i, none⟩) hbl).trans (hc i hi)) (by omega) okCF).mono ?_
    rintro e2 w2 ⟨hk2, h⟩
    refine ⟨hb0.trans (hk2.below hb0.size (fun k hk => by omega)), (HT.out.keep hk0 (fun e => e)).keep hk2 (by omega), ?_⟩
    rcases h with ⟨h1, h2, h3⟩ | ⟨h1, h2⟩
    · exact .inl ⟨h1, h2, h3⟩
    · exact .inr ⟨h1, h2⟩
  rw [HZ.out] at HF
  clear HB HT HT2 hc hA hbl
  go_enter Al.func8, Tryz.ntmps8
  go_wp2_with fail
  refine HF.out.mono ?_
  rintro e w1 ⟨g, rfl, HR⟩
  clear HF
  go_wp2_with fail
  refine HR.mono ?_
  rintro e w2 ⟨hb, hs, ⟨hfit, rfl, hs2⟩ | ⟨hfit, rfl⟩⟩
  · have HH : Hid (Below w.heap.size w w2 ∧ Stc w2 w.heap.size 24 [.int .i64 0, .int .i64 0, .int .i64 0, .int .i64 0, .int .i64 0, .int .i64 0]) := ⟨hb, hs⟩
    have HP : Hid (∀ w', Below w.heap.size w w' → DPost w w' (.returned (.tuple #[cmdV ((rdN CF l 0 : Nat) : Int) ((rdN CF l 1 : Nat) : Int) ((rdN CF l 2 : Nat) : Int) ((rdN CF l 3 : Nat) : Int) ((rdN CF l 4 : Nat) : Int) ((rdN CF l 5 : Nat) : Int), .nilIface])) l) := fun w' h => ⟨h, .inr (.inr ⟨hln, hfit, rfl⟩)⟩
    have q0 : w2.cell? ⟨w.heap.size + 1, 0, none⟩ = some (.int .i64 ((rdN CF l 0 : Nat) : Int)) := hs2.cell 0
    have q1 : w2.cell? ⟨w.heap.size + 1, 1, none⟩ = some (.int .i64 ((rdN CF l 1 : Nat) : Int)) := hs2.cell 1
    have q2 : w2.cell? ⟨w.heap.size + 1, 2, none⟩ = some (.int .i64 ((rdN CF l 2 : Nat) : Int)) := hs2.cell 2
    have q3 : w2.cell? ⟨w.heap.size + 1, 3, none⟩ = some (.int .i64 ((rdN CF l 3 : Nat) : Int)) := hs2.cell 3
    have q4 : w2.cell? ⟨w.heap.size + 1, 4, none⟩ = some (.int .i64 ((rdN CF l 4 : Nat) : Int)) := hs2.cell 4
    have q5 : w2.cell? ⟨w.heap.size + 1, 5, none⟩ = some (.int .i64 ((rdN CF l 5 : Nat) : Int)) := hs2.cell 5
    have r0 : w2.cell? ⟨w.heap.size, 0, none⟩ = some (.int .i64 0) := HH.out.2.cell 0
    have r1 : w2.cell? ⟨w.heap.size, 1, none⟩ = some (.int .i64 0) := HH.out.2.cell 1
    have r2 : w2.cell? ⟨w.heap.size, 2, none⟩ = some (.int .i64 0) := HH.out.2.cell 2
    have r3 : w2.cell? ⟨w.heap.size, 3, none⟩ = some (.int .i64 0) := HH.out.2.cell 3
    have r4 : w2.cell? ⟨w.heap.size, 4, none⟩ = some (.int .i64 0) := HH.out.2.cell 4
    have r5 : w2.cell? ⟨w.heap.size, 5, none⟩ = some (.int .i64 0) := HH.out.2.cell 5
    have f0 := HH.out.2.free 0
    have f1 := HH.out.2.free 1
    have f2 := HH.out.2.free 2
    have f3 := HH.out.2.free 3
    have f4 := HH.out.2.free 4
    have f5 := HH.out.2.free 5
    obtain ⟨y0, hy0⟩ : ∃ y, Hid (rdN CF l 0 = y) := ⟨_, rfl⟩
    rw [hy0.out] at q0 HP
    obtain ⟨y1, hy1⟩ : ∃ y, Hid (rdN CF l 1 = y) := ⟨_, rfl⟩
    rw [hy1.out] at q1 HP
    obtain ⟨y2, hy2⟩ : ∃ y, Hid (rdN CF l 2 = y) := ⟨_, rfl⟩
    rw [hy2.out] at q2 HP
    obtain ⟨y3, hy3⟩ : ∃ y, Hid (rdN CF l 3 = y) := ⟨_, rfl⟩
    rw [hy3.out] at q3 HP
    obtain ⟨y4, hy4⟩ : ∃ y, Hid (rdN CF l 4 = y) := ⟨_, rfl⟩
    rw [hy4.out] at q4 HP
    obtain ⟨y5, hy5⟩ : ∃ y, Hid (rdN CF l 5 = y) := ⟨_, rfl⟩
    rw [hy5.out] at q5 HP
    clear HR hb hs hs2 hfit hln
    go_wp2_with fail
    have hz := six_set HH.out.2 (.int .i64 (y0 : Nat)) (.int .i64 (y1 : Nat)) (.int .i64 (y2 : Nat)) (.int .i64 (y3 : Nat)) (.int .i64 (y4 : Nat)) (.int .i64 (y5 : Nat))
    refine bodyPost_ret (v := .tuple #[cmdV (y0 : Nat) (y1 : Nat) (y2 : Nat) (y3 : Nat) (y4 : Nat) (y5 : Nat), .nilIface]) (by simp [results, Tryz.results8, go_sem, hz.cell 0, hz.cell 1, hz.cell 2, hz.cell 3, hz.cell 4, hz.cell 5]) rfl ?_
    exact HP.out _ (below_six HH.out.1 (Nat.le_refl _) _ _ _ _ _ _)
  · have HH : Hid (Below w.heap.size w w2 ∧ Stc w2 w.heap.size 24 [.int .i64 0, .int .i64 0, .int .i64 0, .int .i64 0, .int .i64 0, .int .i64 0]) := ⟨hb, hs⟩
    have HP : Hid (∀ w', Below w.heap.size w w' → DPost w w' (.returned (.tuple #[cmdV 0 0 0 0 0 0, .iface 54 (.int .i64 1)])) l) := fun w' h => ⟨h, .inr (.inl ⟨hln, hfit, rfl⟩)⟩
    have r0 : w2.cell? ⟨w.heap.size, 0, none⟩ = some (.int .i64 0) := HH.out.2.cell 0
    have r1 : w2.cell? ⟨w.heap.size, 1, none⟩ = some (.int .i64 0) := HH.out.2.cell 1
    have r2 : w2.cell? ⟨w.heap.size, 2, none⟩ = some (.int .i64 0) := HH.out.2.cell 2
    have r3 : w2.cell? ⟨w.heap.size, 3, none⟩ = some (.int .i64 0) := HH.out.2.cell 3
    have r4 : w2.cell? ⟨w.heap.size, 4, none⟩ = some (.int .i64 0) := HH.out.2.cell 4
    have r5 : w2.cell? ⟨w.heap.size, 5, none⟩ = some (.int .i64 0) := HH.out.2.cell 5
    have f0 := HH.out.2.free 0
    have f1 := HH.out.2.free 1
    have f2 := HH.out.2.free 2
    have f3 := HH.out.2.free 3
    have f4 := HH.out.2.free 4
    have f5 := HH.out.2.free 5
    clear HR hb hs hfit hln
    go_wp2_with fail
    have hz := six_set HH.out.2 (.int .i64 0) (.int .i64 0) (.int .i64 0) (.int .i64 0) (.int .i64 0) (.int .i64 0)
    refine bodyPost_ret (v := .tuple #[cmdV 0 0 0 0 0 0, .iface 54 (.int .i64 1)]) (by simp [results, Tryz.results8, go_sem, hz.cell 0, hz.cell 1, hz.cell 2, hz.cell 3, hz.cell 4, hz.cell 5]) rfl ?_
    exact HP.out _ (below_six HH.out.1 (Nat.le_refl _) _ _ _ _ _ _)
theorem holdB_out {x : Int} {m : Nat} (h : holdB x m = true) : 0 ≤ x ∧ x ≤ (m : Int) := of_decide_eq_true h
theorem holdC {op id lba cnt fst snd : Int} (h : holdL CF [op, id, lba, cnt, fst, snd] 6) :
    (0 ≤ op ∧ op ≤ 255) ∧ (0 ≤ id ∧ id ≤ 65535) ∧ (0 ≤ lba ∧ lba ≤ 4611686018427387904) ∧ (0 ≤ cnt ∧ cnt ≤ 4294967295) ∧ (0 ≤ fst ∧ fst ≤ 4611686018427387904) ∧ (0 ≤ snd ∧ snd ≤ 4611686018427387904) :=
  ⟨holdB_out (h 0 (by decide)), holdB_out (h 1 (by decide)), holdB_out (h 2 (by decide)), holdB_out (h 3 (by decide)), holdB_out (h 4 (by decide)), holdB_out (h 5 (by decide))⟩
theorem wrtC (op id lba cnt fst snd : Int) : wrt CF [op, id, lba, cnt, fst, snd] 64 6 = low 1 op.toNat ++ [0] ++ low 2 id.toNat ++ [0, 0, 0, 0] ++ low 8 lba.toNat ++ low 4 cnt.toNat ++ [0, 0, 0, 0] ++ low 8 fst.toNat ++ low 8 snd.toNat ++ List.replicate 24 0 := rfl
theorem backC {op id lba cnt fst snd : Int} (h : holdL CF [op, id, lba, cnt, fst, snd] 6) :
    ((rdN CF (wrt CF [op, id, lba, cnt, fst, snd] 64 6) 0 : Nat) : Int) = op ∧ ((rdN CF (wrt CF [op, id, lba, cnt, fst, snd] 64 6) 1 : Nat) : Int) = id ∧ ((rdN CF (wrt CF [op, id, lba, cnt, fst, snd] 64 6) 2 : Nat) : Int) = lba ∧ ((rdN CF (wrt CF [op, id, lba, cnt, fst, snd] 64 6) 3 : Nat) : Int) = cnt ∧ ((rdN CF (wrt CF [op, id, lba, cnt, fst, snd] 64 6) 4 : Nat) : Int) = fst ∧ ((rdN CF (wrt CF [op, id, lba, cnt, fst, snd] 64 6) 5 : Nat) : Int) = snd := by
  obtain ⟨h0, h1, h2, h3, h4, h5⟩ := holdC h
  rw [wrtC]
  refine ⟨?_, ?_, ?_, ?_, ?_, ?_⟩
  · show ((num (low 1 op.toNat) : Nat) : Int) = op
    rw [num_low 1 _ (by omega)]; omega
  · show ((num (low 2 id.toNat) : Nat) : Int) = id
    rw [num_low 2 _ (by omega)]; omega
  · show ((num (low 8 lba.toNat) : Nat) : Int) = lba
    rw [num_low 8 _ (by omega)]; omega
  · show ((num (low 4 cnt.toNat) : Nat) : Int) = cnt
    rw [num_low 4 _ (by omega)]; omega
  · show ((num (low 8 fst.toNat) : Nat) : Int) = fst
    rw [num_low 8 _ (by omega)]; omega
  · show ((num (low 8 snd.toNat) : Nat) : Int) = snd
    rw [num_low 8 _ (by omega)]; omega
theorem fitC {op id lba cnt fst snd : Int} {l : List Nat} (h : holdL CF [op, id, lba, cnt, fst, snd] 6) (hr : ∀ i, i < 6 → rdN CF l i = rdN CF (wrt CF [op, id, lba, cnt, fst, snd] 64 6) i) : fitL CF l 6 := fun j hj => by
  obtain ⟨h0, h1, h2, h3, h4, h5⟩ := holdC h
  obtain ⟨b0, b1, b2, b3, b4, b5⟩ := backC h
  rw [hr j hj]
  have : j = 0 ∨ j = 1 ∨ j = 2 ∨ j = 3 ∨ j = 4 ∨ j = 5 := by omega
  rcases this with rfl | rfl | rfl | rfl | rfl | rfl
  · show _ ≤ 255
    omega
  · show _ ≤ 65535
    omega
  · show _ ≤ 4611686018427387904
    omega
  · show _ ≤ 4294967295
    omega
  · show _ ≤ 4611686018427387904
    omega
  · show _ ≤ 4611686018427387904
    omega
theorem AllB.set {l : List Nat} (h : AllB l) (i v : Nat) (hv : v < 256) : AllB (l.set i v) := fun x hx => by
  rcases List.mem_or_eq_of_mem_set hx with h1 | rfl
  · exact h x h1
  · exact hv
theorem guard_cmd (op : BinOp) (x y : Operand) (xs ys : Array Value) (wz : World) : (eqGuard op 24 x y (.agg xs) (.agg ys)).run (Al.progOf Tryz.prog) wz = .ok () wz := run_eqGuard_agg wz op _ x y xs ys (by kernel_rfl)
theorem neq_cmd (a b c d e f : Int) (wz : World) : (binOp .neq 24 (cmdV a b c d e f) (cmdV a b c d e f)).run (Al.progOf Tryz.prog) wz = .ok (.bool false) wz := by
  have ht : (Al.progOf Tryz.prog).underlying 24 = some (.struct ((Al.progOf Tryz.prog).fieldsOf 24)) := by kernel_rfl
  have hp : (Al.progOf Tryz.prog).stoodInHeld 24 = false := by kernel_rfl
  rw [run_neq_struct, run_equalIn_struct wz 9999 24 _ _ ht hp]
  simp [Program.fieldsOf, Op.eqFields, go_sem]
end Go.Proofs.YtpfknjpiknpiaaaGreatDoorQL
namespace Go.Proofs.YtpfknjpiknpiaaaGreatDoorQL
open Go.RowKit
set_option linter.unusedVariables false
theorem walk_built {l l' : List Nat} (Q : List Nat) (o n : Nat) (second : Int) (hn : 1 ≤ n ∧ n ≤ 2048) (ho : o ≤ 60) (h4 : o % 4 = 0) (hQ : Q.length = (o + n + 63) / 64) (hp : ∀ p ∈ Q, p % 64 = 0 ∧ p + 64 ≤ l.length)
    (hs : (Q.length = 1 ∧ second = 0 ∧ l' = l) ∨ (Q.length = 2 ∧ second = ((Q[1]?.getD 0 : Nat) : Int) ∧ l' = l) ∨ (2 < Q.length ∧ ∃ A : Nat, second = (A : Int) ∧ A % 64 = 0 ∧ l' = layN l A (lstB A (Q.drop 1)) ∧ A + 8 * (lstB A (Q.drop 1)).length ≤ l.length)) (hl : l.length ≤ 16384) :
    l'.length = l.length ∧ walkF l' ((Q[0]?.getD 0 + o : Nat) : Int) second (n : Int) = (0, ⟨((Q[0]?.getD 0 + o : Nat) : Int), ((min (64 - o) n : Nat) : Int)⟩ :: segF (n - min (64 - o) n) (Q.drop 1)) := by
  have hlen : l'.length = l.length := by
    rcases hs with ⟨_, _, e⟩ | ⟨_, _, e⟩ | ⟨_, A, _, _, e, hf⟩
    · rw [e]
    · rw [e]
    · rw [e, layN_len _ _ _ hf]
  refine ⟨hlen, ?_⟩
  cases Q with
  | nil => simp at hQ; omega
  | cons p r =>
    obtain ⟨q1, q2⟩ := hp p (by simp)
    have hp' : ∀ x ∈ r, x % 64 = 0 ∧ x + 64 ≤ l'.length := fun x hx => by rw [hlen]; exact hp x (List.mem_cons_of_mem _ hx)
    simp only [List.length_cons] at hQ hs
    simp only [List.getElem?_cons_zero, Option.getD_some, List.drop_succ_cons, List.drop_zero] at *
    have hfn : firstN (p + o) n = min (64 - o) n := by unfold firstN; rw [show (p + o) % 64 = o by omega]
    have hr : restF l' second (n - min (64 - o) n) = (0, segF (n - min (64 - o) n) r) := by
      rcases hs with ⟨h1, h2, h3⟩ | ⟨h1, h2, h3⟩ | ⟨h1, A, h2, h3, h5, h6⟩
      · have e0 : n - min (64 - o) n = 0 := by omega
        have er : r = [] := List.eq_nil_of_length_eq_zero (by omega)
        rw [e0, er]
        unfold restF
        rw [if_pos rfl]
        rfl
      · have hm : min (64 - o) n = 64 - o := by omega
        rw [hm]
        cases r with
        | nil => simp at h1
        | cons q r2 =>
          obtain rfl : r2 = [] := List.eq_nil_of_length_eq_zero (by simp at h1; rw [h1]; rfl)
          obtain ⟨s1, s2⟩ := hp' q (by simp)
          simp at h2
          subst h2
          unfold restF
          rw [if_neg (by simp at hQ; omega), if_pos (by simp at hQ; omega), if_neg (Decidable.not_not.2 (by omega)), if_neg (Decidable.not_not.2 (show fits l'.length (q : Int) ((n - (64 - o) : Nat) : Int) from ⟨by omega, by omega, by simp at hQ; omega⟩))]
          simp only [segF]
          rw [Nat.min_eq_right (show n - (64 - o) ≤ 64 by simp at hQ; omega)]
      · have hm : min (64 - o) n = 64 - o := by omega
        rw [hm]
        subst h2
        unfold restF
        rw [if_neg (by omega), if_neg (by omega), if_neg (by omega), Int.toNat_natCast]
        refine goF_list l' r A (n - (64 - o)) 5000 (by omega) hp' (by omega) ?_ (by unfold mu; split <;> omega)
        rw [h5]
        refine numAt_layN _ l A h6 (fun i hi => ?_)
        have := lstB_le 16384 r A (fun x hx => by have := (hp' x hx).2; omega) i hi
        omega
    unfold walkF
    rw [if_neg (by omega), if_neg (by omega), if_neg (by omega), Int.toNat_natCast, Int.toNat_natCast, hfn, hr, if_neg (Decidable.not_not.2 (show fits l'.length ((p + o : Nat) : Int) ((min (64 - o) n : Nat) : Int) from ⟨by omega, by omega, by omega⟩))]
def Far (s t : Sg) : Prop := s.p + s.n ≤ t.p ∨ t.p + t.n ≤ s.p
structure BackF (N : Nat) (pages : List Int) (o n : Nat) (Q : List Nat) (S : List Sg) : Prop where
  pg : ∀ k : Nat, k < Q.length → gI pages k = ((Q[k]?.getD 0 : Nat) : Int)
  lp : pages.length = Q.length
  ls : S.length = Q.length
  ne : 0 < Q.length
  few : Q.length ≤ 33
  hn : 1 ≤ n ∧ n ≤ 2048
  ho : o ≤ 60
  hp : ∀ p ∈ Q, p % 64 = 0
  hb : ∀ k : Nat, Q[k]?.getD 0 ≤ 16384
  at_ : ∀ i : Nat, i < S.length → (gS S i).p = ((Q[i]?.getD 0 + (if i = 0 then o else 0) : Nat) : Int)
  cov : Cov N ((Q[0]?.getD 0 + o : Nat) : Int) (n : Int) S
  s0 : (gS S 0).n + o ≤ 64
theorem backF_of {l l' : List Nat} {pages : List Int} {offset long first second : Int} (h : BOk l pages offset long first second l') (hl : l.length ≤ 16384) :
    ∃ (Q : List Nat) (o n : Nat) (S : List Sg), offset = (o : Int) ∧ long = (n : Int) ∧ BackF l'.length pages o n Q S ∧ walkF l' first second long = (0, S) ∧ first ≤ 9223372036854775807 ∧ -9223372036854775808 ≤ first ∧ second ≤ 9223372036854775807 := by
  obtain ⟨Q, o, n, rfl, rfl, rfl, ⟨h1, h2, h3, h4⟩, h5, h6, rfl, h7⟩ := h
  obtain ⟨w1, w2⟩ := walk_built (l := l) (l' := l') Q o n second ⟨h1, h2⟩ h3 h4 h5 h6 h7 hl
  have hcov := walk_cov l' _ _ _ (show (walkF l' ((Q[0]?.getD 0 + o : Nat) : Int) second (n : Int)).1 = 0 by rw [w2])
  rw [w2] at hcov
  have hq : ∀ k : Nat, Q[k]?.getD 0 ≤ 16384 := fun k => by
    by_cases hk : k < Q.length
    · rw [List.getElem?_eq_getElem hk]
      have := (h6 _ (List.getElem_mem hk)).2
      show Q[k] ≤ _
      omega
    · rw [List.getElem?_eq_none (by omega)]; exact Nat.zero_le _
  have hs2 : second ≤ 9223372036854775807 := by
    rcases h7 with ⟨_, e, _⟩ | ⟨_, e, _⟩ | ⟨_, A, e, _, _, hf⟩
    · omega
    · have := hq 1; omega
    · omega
  refine ⟨Q, o, n, _, rfl, rfl, ⟨fun k hk => gI_map Q hk, List.length_map .., ?_, by omega, by omega, ⟨h1, h2⟩, h3, fun p hp => (h6 p hp).1, hq, fun i hi => ?_, hcov, ?_⟩, w2, by have := hq 0; omega, by have := hq 0; omega, hs2⟩
  · rw [List.length_cons, segF_len, List.length_drop]; omega
  · cases i with
    | zero => rfl
    | succ i =>
      have hi' : i < (Q.drop 1).length := by rw [List.length_cons, segF_len] at hi; omega
      show (gS (segF (n - min (64 - o) n) (Q.drop 1)) i).p = _
      rw [segF_at (Q.drop 1) _ i hi', List.getElem?_drop, if_neg (Nat.succ_ne_zero i), Nat.add_comm 1 i, Nat.add_zero]
      rfl
  · show ((min (64 - o) n : Nat) : Int) + o ≤ 64
    omega
structure IIn (w : World) (a : Option Addr) (cap : Nat) (l : List Int) : Prop where
  il : IL w a l
  cap : l.length ≤ cap
  ok : ∀ i, i < l.length → gI l i ≤ 9223372036854775807
end Go.Proofs.YtpfknjpiknpiaaaGreatDoorQL
