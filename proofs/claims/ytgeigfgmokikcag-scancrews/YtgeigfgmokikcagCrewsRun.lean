/-
  What the call of ScanCrews gives in the ghost's program: true.
-/
import Derived.Test.YtgeigfgmokikcagQ6
import Derived.Test.YtgeigfgmokikcagTw4
namespace Go.Proofs.YtgeigfgmokikcagQ
open Go.Proofs.YtgeigfgmokikcagM
open Go.RowKit
set_option linter.unusedVariables false

abbrev onePg (g : Nat) : Pg := ⟨some ⟨g, 0, none⟩, packL 24 1 3 1 [], 24⟩
theorem one_tell : stP (packL 24 1 3 1 []) = 2 ∧ kdP (packL 24 1 3 1 []) = 1 ∧ lbP (packL 24 1 3 1 []) = 3 ∧ sqP (packL 24 1 3 1 []) = 1 := ⟨by kernel_rfl, by kernel_rfl, by kernel_rfl, by kernel_rfl⟩
theorem one_new (g : Nat) : newF [onePg g] = [⟨3, 0, 1, 1⟩] := by
  obtain ⟨t0, t1, t2, t3⟩ := one_tell
  have hc : cntP [onePg g] 0 = true := by
    unfold cntP
    rw [show (gP [onePg g] 0).p = packL 24 1 3 1 [] from rfl, t0, t1]
    rfl
  have hf : flt [onePg g] 1 = [0] := by rw [flt_yes hc]; rfl
  have hd : fdP [onePg g] 0 = ⟨3, 0, 1, 1⟩ := by
    unfold fdP
    rw [show (gP [onePg g] 0).p = packL 24 1 3 1 [] from rfl, t1, t2, t3]
  unfold newF
  rw [show [onePg g].length = 1 from rfl, hf, show srt (fdP [onePg g]) [0] = [0] by unfold srt; simp, List.map_cons, List.map_nil, hd]
  rfl
theorem one_all : AllB (packL 24 1 3 1 []) := fun x hx => by
  have h : (packL 24 1 3 1 []).all (fun x => decide (x < 256)) = true := by kernel_rfl
  exact of_decide_eq_true (List.all_eq_true.1 h x hx)
theorem one_ok : FOk 24 1 3 1 ([] : List Nat).length := by
  constructor <;> decide
theorem Pgs.below {w w' : World} {pa : Option Addr} {L : List Pg} (h : Pgs w pa L) (hb : Below w.heap.size w w') : Pgs w' pa L := by
  rcases h with h | ⟨b, off, e, h⟩
  · exact .inl h
  · exact .inr ⟨b, off, e, h.below hb⟩
theorem one_pages {w1 : World} {g : Nat} (h : Row w1 g (packL 24 1 3 1 [])) : Pgs (w1.alloc (.cells #[.slice (some ⟨g, 0, none⟩) 24 24] 39)) (some ⟨w1.heap.size, 0, none⟩) [onePg g] := by
  refine .inr ⟨w1.heap.size, 0, rfl, fun i hi => ?_⟩
  obtain rfl : i = 0 := by simp at hi; omega
  have hl : (packL 24 1 3 1 []).length = 24 := by kernel_rfl
  refine ⟨?_, ⟨?_, ?_, ?_, ?_⟩⟩
  · rw [show gP [onePg g] 0 = onePg g from rfl]
    simp [hl]
  · show AllB (packL 24 1 3 1 [])
    exact one_all
  · show Lies _ (some ⟨g, 0, none⟩) (packL 24 1 3 1 [])
    exact (row_lies h).below (alloc_below' w1 _)
  · show (packL 24 1 3 1 []).length ≤ 24
    omega
  · show (packL 24 1 3 1 []).length ≤ 9223372036854775807
    omega
theorem newF_len (L : List Pg) : (newF L).length ≤ L.length := by
  unfold newF cpt
  rw [List.length_map]
  refine Nat.le_trans (kep_len _ _) ?_
  rw [List.length_map, srt_len]
  exact flt_len L L.length
/-- The states, as numbers. -/
def stL (L : List Pg) : List Nat := (List.range L.length).map fun i => stP (gP L i).p
theorem stL_len (L : List Pg) : (stL L).length = L.length := by simp [stL]
def IRow (w : World) (g : Nat) (t : List Nat) : Prop := ∀ i, i < t.length → w.cell? ⟨g, i, none⟩ = some (.int .i64 ((t[i]?.getD 0 : Nat) : Int))
theorem IRow.below {w w' : World} {g : Nat} {t : List Nat} (h : IRow w g t) (hb : Below w.heap.size w w') : IRow w' g t := fun i hi => lies_cell hb (h i hi)
theorem stL_row {w : World} {g : Nat} {cs : Array Value} {L : List Pg} (h1 : w.heap[g]? = some (.cells cs 3 (0, 0))) (h2 : ∀ i, i < L.length → cs[i]? = some (.int .i64 (stP (gP L i).p : Nat))) : IRow w g (stL L) := fun i hi => by
  rw [stL_len] at hi
  have e : (stL L)[i]?.getD 0 = stP (gP L i).p := by simp [stL, hi]
  rw [e, ← h2 i hi]
  simp [World.cell?, h1]
set_option maxRecDepth 20000 in
set_option maxHeartbeats 4000000 in
theorem crews_any (pa : Option Addr) (pc : Nat) (L : List Pg) (a b : Int) (w : World) (ha : -9223372036854775808 ≤ a ∧ a ≤ 9223372036854775807) (hb : -9223372036854775808 ≤ b ∧ b ≤ 9223372036854775807) (hl : L.length ≤ 4096) (hp : Pgs w pa L) :
    Calls (Al.progOf Try.prog) 5 #[.slice pa L.length pc, .int .i64 a, .int .i64 b] w fun e w' => e = .returned (.bool true) ∧ Below w.heap.size w w' := by
  have HP : Hid (Calls (Al.progOf Try.prog) 12 #[.int .i64 24, FV 1 3 1 none 0 0] w fun e w' => ∃ g, e = .returned (.tuple #[.slice (some ⟨g, 0, none⟩) 24 24, .nilIface]) ∧ Hid (Row w' g (packL 24 1 3 1 []) ∧ Below w.heap.size w w')) := (pack_good 24 1 3 1 none 0 [] w one_ok (fun _ h => absurd h (by simp)) (.inl rfl)).mono fun e w' ⟨g, h1, _, h3, h4⟩ => ⟨g, h1, h3, h4⟩
  have HN1 : Hid (∀ w1 g, (Row w1 g (packL 24 1 3 1 []) ∧ Below w.heap.size w w1) → Calls (Al.progOf Try.prog) 13 #[.slice (some ⟨w1.heap.size, 0, none⟩) 1 1, .int .i64 1] (w1.alloc (.cells #[.slice (some ⟨g, 0, none⟩) 24 24] 39)) fun e w' => ∃ g2 cap, e = .returned (.tuple #[.slice (some ⟨g2, 0, none⟩) 1 cap, .nilIface]) ∧ w'.cell? ⟨g2, 0, none⟩ = some (.int .i64 3) ∧ Hid (Below w.heap.size w w')) := fun w1 g ⟨h1, h2⟩ => by
    refine (newest_any (some ⟨w1.heap.size, 0, none⟩) 1 [onePg g] 1 _ (by omega) (by omega) (by show 1 ≤ 4096; omega) (one_pages h1)).mono ?_
    rintro e w' ⟨a, cap, h3, h4, h5⟩
    rw [one_new g] at h3 h4
    have hbw : Below w.heap.size w (w1.alloc (.cells #[.slice (some ⟨g, 0, none⟩) 24 24] 39)) := h2.trans ((alloc_below' w1 _).mono h2.size)
    obtain ⟨g2, off, rfl, hat⟩ := h4.at.resolve_left (by simp)
    have h6 : off = 0 := by
      rcases h4.parts with ⟨e, _⟩ | ⟨g', cur, e, _⟩
      · cases e
      · cases e; rfl
    subst h6
    exact ⟨g2, cap, h3, (hat 0 (by decide)).1, hbw.trans (h5.mono hbw.size)⟩
  have HPa : Hid (∀ W, Calls (Al.progOf Try.prog) 10 #[.int .i64 a, .int .i64 8] W fun e w' => (∃ k : Nat, k < 8 ∧ e = .returned (.int .i64 (k : Nat))) ∧ w' = W) := fun W => pick_any a 8 W (by omega) (by omega) ha
  have HPb : Hid (∀ W, Calls (Al.progOf Try.prog) 10 #[.int .i64 b, .int .i64 8] W fun e w' => (∃ k : Nat, k < 8 ∧ e = .returned (.int .i64 (k : Nat))) ∧ w' = W) := fun W => pick_any b 8 W (by omega) (by omega) hb
  have HA : Hid (∀ W (k : Nat), Below w.heap.size w W → k < 8 → Calls (Al.progOf Try.prog) 13 #[.slice pa L.length pc, .int .i64 (1 + (k : Int))] W fun e w' => ∃ x cap, e = .returned (.tuple #[.slice x (newF L).length cap, .nilIface]) ∧ Hid (FRow w' x (newF L) ∧ Below w.heap.size w w' ∧ Below W.heap.size W w')) := fun W k h1 h2 => (newest_any pa pc L _ W (by omega) (by omega) hl (hp.below h1)).mono fun e w' ⟨x, cap, g1, g2, g3⟩ => ⟨x, cap, g1, g2.at, h1.trans (g3.mono h1.size), g3⟩
  have HS : Hid (∀ W (k : Nat), Below w.heap.size w W → k < 8 → Calls (Al.progOf Try.prog) 15 #[.slice pa L.length pc, .int .i64 (1 + (k : Int))] W fun e w' => ∃ g, e = .returned (.tuple #[.slice (some ⟨g, 0, none⟩) L.length L.length, .nilIface]) ∧ Hid (IRow w' g (stL L) ∧ Below w.heap.size w w' ∧ Below W.heap.size W w')) := fun W k h1 h2 => (states_any pa pc L _ W (by omega) (by omega) hl (hp.below h1)).mono fun e w' ⟨g, cs, g1, g2, _, g3, g4⟩ => ⟨g, g1, stL_row g2 g3, h1.trans (g4.mono h1.size), g4⟩
  have HF : Hid (∀ W x y cx cy, FRow W x (newF L) → FRow W y (newF L) → Calls (Al.progOf Try.prog) 14 #[.slice x (newF L).length cx, .slice y (newF L).length cy] W fun e w' => e = .returned (.bool true) ∧ Hid (Below W.heap.size W w')) := fun W x y cx cy h1 h2 => founds_same (Nat.le_trans (newF_len L) hl) h1 h2
  have HI : Hid (∀ W g1 g2, IRow W g1 (stL L) → IRow W g2 (stL L) → Calls (Al.progOf Try.prog) 16 #[.slice (some ⟨g1, 0, none⟩) L.length L.length, .slice (some ⟨g2, 0, none⟩) L.length L.length] W fun e w' => e = .returned (.bool true) ∧ Hid (Below W.heap.size W w')) := fun W g1 g2 h1 h2 => by
    have := ints_some g1 g2 L.length L.length (stL L) W (by rw [stL_len]; exact hl) h1 h2
    rw [stL_len] at this
    exact this
  clear ha hb hp
  go_enter Al.func5, Try.ntmps5
  go_wp2_with (first | (go_at_call 12; refine HP.out.mono ?_; rintro e w1 ⟨g, rfl, h1⟩) | (go_at_call 13; refine (HN1.out _ _ h1.out).mono ?_; rintro e w2 ⟨g2, cap, rfl, hc, h2⟩))
  refine (HPa.out _).mono ?_
  rintro e _ ⟨⟨ka, hka, rfl⟩, rfl⟩
  clear HP HN1 h1 HPa
  go_wp2_with fail
  refine (HPb.out _).mono ?_
  rintro e _ ⟨⟨kb, hkb, rfl⟩, rfl⟩
  clear HPb
  go_wp2_with fail
  refine (HA.out _ ka h2.out hka).mono ?_
  rintro e w3 ⟨x, cx, rfl, h3⟩
  clear hc h2
  go_wp2_with fail
  refine (HA.out _ kb h3.out.2.1 hkb).mono ?_
  rintro e w4 ⟨y, cy, rfl, h4⟩
  have H4 : Hid (FRow w4 x (newF L) ∧ FRow w4 y (newF L) ∧ Below w.heap.size w w4) := ⟨h3.out.1.below h4.out.2.2, h4.out.1, h4.out.2.1⟩
  clear h3 h4 HA
  go_wp2_with fail
  refine (HF.out _ x y cx cy H4.out.1 H4.out.2.1).mono ?_
  rintro e w5 ⟨rfl, h5⟩
  have H5 : Hid (Below w.heap.size w w5) := H4.out.2.2.trans (h5.out.mono H4.out.2.2.size)
  clear H4 h5 HF
  go_wp2_with fail
  refine (HS.out _ ka H5.out hka).mono ?_
  rintro e w6 ⟨g3, rfl, h6⟩
  clear H5
  go_wp2_with fail
  refine (HS.out _ kb h6.out.2.1 hkb).mono ?_
  rintro e w7 ⟨g4, rfl, h7⟩
  have H7 : Hid (IRow w7 g3 (stL L) ∧ IRow w7 g4 (stL L) ∧ Below w.heap.size w w7) := ⟨h6.out.1.below h7.out.2.2, h7.out.1, h7.out.2.1⟩
  clear h6 h7 HS
  go_wp2_with fail
  refine (HI.out _ g3 g4 H7.out.1 H7.out.2.1).mono ?_
  rintro e w8 ⟨rfl, h8⟩
  have H8 : Hid (Below w.heap.size w w8) := H7.out.2.2.trans (h8.out.mono H7.out.2.2.size)
  clear H7 h8 HI
  go_wp2
  go_ret
  exact ⟨rfl, H8.out⟩
set_option maxRecDepth 20000 in
set_option maxHeartbeats 4000000 in
theorem crews_big (pa : Option Addr) (pc l : Nat) (a b : Int) (w : World) (ha : -9223372036854775808 ≤ a ∧ a ≤ 9223372036854775807) (hb : -9223372036854775808 ≤ b ∧ b ≤ 9223372036854775807) (hl : 4096 < l) :
    Calls (Al.progOf Try.prog) 5 #[.slice pa l pc, .int .i64 a, .int .i64 b] w fun e w' => e = .returned (.bool true) ∧ Below w.heap.size w w' := by
  have HP : Hid (Calls (Al.progOf Try.prog) 12 #[.int .i64 24, FV 1 3 1 none 0 0] w fun e w' => ∃ g, e = .returned (.tuple #[.slice (some ⟨g, 0, none⟩) 24 24, .nilIface]) ∧ Hid (Row w' g (packL 24 1 3 1 []) ∧ Below w.heap.size w w')) := (pack_good 24 1 3 1 none 0 [] w one_ok (fun _ h => absurd h (by simp)) (.inl rfl)).mono fun e w' ⟨g, h1, _, h3, h4⟩ => ⟨g, h1, h3, h4⟩
  have HN1 : Hid (∀ w1 g, (Row w1 g (packL 24 1 3 1 []) ∧ Below w.heap.size w w1) → Calls (Al.progOf Try.prog) 13 #[.slice (some ⟨w1.heap.size, 0, none⟩) 1 1, .int .i64 1] (w1.alloc (.cells #[.slice (some ⟨g, 0, none⟩) 24 24] 39)) fun e w' => ∃ g2 cap, e = .returned (.tuple #[.slice (some ⟨g2, 0, none⟩) 1 cap, .nilIface]) ∧ w'.cell? ⟨g2, 0, none⟩ = some (.int .i64 3) ∧ Hid (Below w.heap.size w w')) := fun w1 g ⟨h1, h2⟩ => by
    refine (newest_any (some ⟨w1.heap.size, 0, none⟩) 1 [onePg g] 1 _ (by omega) (by omega) (by show 1 ≤ 4096; omega) (one_pages h1)).mono ?_
    rintro e w' ⟨a, cap, h3, h4, h5⟩
    rw [one_new g] at h3 h4
    have hbw : Below w.heap.size w (w1.alloc (.cells #[.slice (some ⟨g, 0, none⟩) 24 24] 39)) := h2.trans ((alloc_below' w1 _).mono h2.size)
    obtain ⟨g2, off, rfl, hat⟩ := h4.at.resolve_left (by simp)
    have h6 : off = 0 := by
      rcases h4.parts with ⟨e, _⟩ | ⟨g', cur, e, _⟩
      · cases e
      · cases e; rfl
    subst h6
    exact ⟨g2, cap, h3, (hat 0 (by decide)).1, hbw.trans (h5.mono hbw.size)⟩
  have HPa : Hid (∀ W, Calls (Al.progOf Try.prog) 10 #[.int .i64 a, .int .i64 8] W fun e w' => (∃ k : Nat, k < 8 ∧ e = .returned (.int .i64 (k : Nat))) ∧ w' = W) := fun W => pick_any a 8 W (by omega) (by omega) ha
  have HPb : Hid (∀ W, Calls (Al.progOf Try.prog) 10 #[.int .i64 b, .int .i64 8] W fun e w' => (∃ k : Nat, k < 8 ∧ e = .returned (.int .i64 (k : Nat))) ∧ w' = W) := fun W => pick_any b 8 W (by omega) (by omega) hb
  have HA : Hid (∀ W (k : Nat), k < 8 → Calls (Al.progOf Try.prog) 13 #[.slice pa l pc, .int .i64 (1 + (k : Int))] W fun e w' => e = .returned (.tuple #[.slice none 0 0, .iface 56 (.int .i64 3)]) ∧ w' = W) := fun W k h => newest_bad pa l pc _ 3 W (lookq_full pa l pc _ W (by omega) (by omega) (by omega))
  have HF : Hid (∀ W, Calls (Al.progOf Try.prog) 14 #[.slice none 0 0, .slice none 0 0] W fun e w' => e = .returned (.bool true) ∧ w' = W) := fun W => founds_none none none 0 0 W
  have hl2 : (4096 : Int) < (l : Int) := by omega
  clear ha hb
  go_enter Al.func5, Try.ntmps5
  go_wp2_with (first | (go_at_call 12; refine HP.out.mono ?_; rintro e w1 ⟨g, rfl, h1⟩) | (go_at_call 13; refine (HN1.out _ _ h1.out).mono ?_; rintro e w2 ⟨g2, cap, rfl, hc, h2⟩))
  refine (HPa.out _).mono ?_
  rintro e _ ⟨⟨ka, hka, rfl⟩, rfl⟩
  clear HP HN1 h1 HPa
  go_wp2_with fail
  refine (HPb.out _).mono ?_
  rintro e _ ⟨⟨kb, hkb, rfl⟩, rfl⟩
  clear HPb
  go_wp2_with fail
  refine (HA.out _ ka hka).mono ?_
  rintro e _ ⟨rfl, rfl⟩
  clear hc
  go_wp2_with fail
  refine (HA.out _ kb hkb).mono ?_
  rintro e _ ⟨rfl, rfl⟩
  clear HA
  go_wp2_with fail
  refine (HF.out _).mono ?_
  rintro e _ ⟨rfl, rfl⟩
  clear HF
  go_wp2
  go_ret
  exact ⟨rfl, h2.out⟩
end Go.Proofs.YtgeigfgmokikcagQ
/-
  ScanCrews on every schedule: true.
-/
namespace Go.Proofs.Ytgeigfgmokikcag
open Go Go.Conc Go.RowKit

theorem crews_calls (pa : Option Addr) (len cap : Nat) (a b : Int) (w : World) (ha : -9223372036854775808 ≤ a ∧ a ≤ 9223372036854775807) (hb : -9223372036854775808 ≤ b ∧ b ≤ 9223372036854775807) (hM : Met w pa len) (t : Nat → Question → Nat) (d : Nat) :
    Calls (YtgeigfgmokikcagQ.Al.progOf Try.prog) 5 #[.slice pa len cap, .int .i64 a, .int .i64 b] (wOn w t d) (fun e _ => ∃ v, e = .returned v ∧ v = .bool true) := by
  by_cases hl : len ≤ 4096
  · obtain ⟨L, hLl, hL⟩ := hM.list
    subst hLl
    exact (YtgeigfgmokikcagQ.crews_any pa cap L a b (wOn w t d) ha hb hl (pgs_on hL t d)).mono fun e w' h => ⟨_, h.1, rfl⟩
  · exact (YtgeigfgmokikcagQ.crews_big pa cap len a b (wOn w t d) ha hb (by omega)).mono fun e w' h => ⟨_, h.1, rfl⟩

theorem crews_run {W : World} {pa : Option Addr} {len cap : Nat} {A : Nat → Option Addr} {l c : Nat → Nat} {a b : Int} (hs : W.ShapedOpen Try.prog) (hle : len ≤ cap) (hP : PsIn W pa cap A l c) (ha : -9223372036854775808 ≤ a ∧ a ≤ 9223372036854775807) (hb : -9223372036854775808 ≤ b ∧ b ≤ 9223372036854775807) :
    ∃ N last o w' t', runNT Try.prog (N + 1) (solo (G (Frame.enter Try.prog 5 #[.slice pa len cap, .int .i64 a, .int .i64 b] .normal) []) W) #[] = (.ended o w', t') ∧ runN Try.prog N (solo (G (Frame.enter Try.prog 5 #[.slice pa len cap, .int .i64 a, .int .i64 b] .normal) []) W) = .next last ∧ step Try.prog last = .ended o w' ∧
      Go.Conc.Good Try.prog (fun v w' => v = .bool true ∧ Below W.heap.size W w') last o w' t' := by
  obtain ⟨C, hC⟩ : ∃ C, C = pgsCp W (W.heap.size + 0) pa cap A l c := ⟨_, rfl⟩
  have hPl : PlA C (pgsCp W (W.heap.size + 0) pa cap A l c) 0 := fun k _ => by rw [hC, Nat.zero_add]
  obtain ⟨hg, hG⟩ := shaped_low hs
  obtain ⟨fns, hfns⟩ : ∃ fns, fns = scanFx Try.prog.funcs (ghLo W C) (ghPt W C) (ghPl W C) := ⟨_, rfl⟩
  have hlo : fns.lo = ghLo W C := by rw [hfns]; rfl
  have hpt : fns.pt = ghPt W C := by rw [hfns]; rfl
  have hwr : WR (YtgeigfgmokikcagQ.Al.progOf Try.prog) fns (ghE W C) (ghZ W C) (ghW W C) W := gh_wr W C hlo hpt hg fun k d hd => cps_ok hlo hPl hP hG (by rw [← hC]; exact List.mem_of_getElem? hd)
  have hargs : AllR fns (ghE W C) #[.slice (gpa (W.heap.size + 0) pa cap) len cap, .int .i64 a, .int .i64 b] #[.slice pa len cap, .int .i64 a, .int .i64 b] := by
    refine ⟨rfl, fun i h _ => ?_⟩
    simp only [List.size_toArray, List.length_cons, List.length_nil] at h
    match i, h with
    | 0, _ => exact vr_pages hlo hPl hP hle
    | 1, _ => exact vr_scalar rfl
    | 2, _ => exact vr_scalar rfl
  have hgs : ∀ g, fns.gl g = true → ghE W C g g ∧ fns.pt g = true := fun g hg => by rw [hfns] at hg; cases hg
  have hM := met_pages (len := len) hPl hP hle
  have hst0 := start_own hargs hgs hwr
  subst hfns
  obtain ⟨N, last, o, w', t', r1, r2, r3, r4⟩ := ghost_run (P := (YtgeigfgmokikcagQ.Al.progOf Try.prog)) (fns0 := (scanFx Try.prog.funcs (ghLo W C) (ghPt W C) (ghPl W C)).own (YtgeigfgmokikcagQ.Al.progOf Try.prog)) (Q := fun v _ => v = .bool true) (f := 5) (r := 6) (scan_zeros _ _ _ _) (scan_zeros' _ _ _) gdepth (scan_prog _ _ _) (scan_own _ _ _) (scan_jc _ _ _ _) (by kernel_rfl) YtgeigfgmokikcagQ.Al.func5 Try.results5 (by kernel_rfl) rfl rfl rfl hargs hwr hgs hst0 (fun t d => crews_calls _ _ _ a b _ ha hb hM t d)
  refine ⟨N, last, o, w', t', r1, r2, r3, r4.mono fun v h => ⟨?_, below_of ⟨h.2.1, fun b hb => h.2.2.1 b hb fun a x => ghE_z W C x, h.2.2.2⟩⟩⟩
  obtain ⟨E1, v0, gh1, rfl, hv, _⟩ := h.1
  exact vr_bool.1 hv
end Go.Proofs.Ytgeigfgmokikcag
