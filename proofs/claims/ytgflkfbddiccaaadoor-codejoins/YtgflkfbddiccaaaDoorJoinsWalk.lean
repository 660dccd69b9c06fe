/-
  The walk of granarylaw1.CodeJoins: it returns true, and nothing that was there has turned.
-/
import Derived.Test.YtgflkfbddiccaaaDoorMathJoin
namespace Go.Proofs.YtgflkfbddiccaaaDoor
open Go.RowKit

theorem news_lies {W : World} {b off : Nat} {X : List Nat} (h : Lies W (some ⟨b, off, none⟩) X) : ∀ j u, (X.map bv)[j]? = some u → W.cell? ((⟨b, off, none⟩ : Addr).add j) = some u := by
  rcases h with rfl | ⟨b', off', hbo, hc⟩
  · intro j u hj; simp at hj
  · cases hbo; exact news_of hc
theorem pair_form {w : World} {base n : Nat} {v : Value} {X Y Z : List Nat} (h : w.ownsRow base 5 1 v n (X.map bv ++ Y.map bv)) (hv : ¬ v = .slice none 0 0) (hz : Z = X ++ Y) : ∃ g cap, v = .slice (some ⟨g, 0, none⟩) Z.length cap ∧ Owns w base g cap Z := by
  rw [← List.map_append, ← hz] at h
  exact owns_form h hv
theorem below_pair {W w1 w2 : World} {g n c : Nat} (hb : Below W.heap.size W w1) (hg : W.heap.size ≤ g) (h : w1.grownBy w2 (Value.slice (some ⟨g, 0, none⟩) n c).ownBlock) : Below W.heap.size W w2 :=
  hb.grown h hb.size (fun k e => by cases e; exact hg)
theorem protect_lies (a : Option Addr) (cap m : Nat) (bs cs : List Nat) (w : World) (hz : AllB bs) (hl : bs.length = 8 * m) (hm : m ≤ 512) (hP : Plc w) (hc : Lies w a bs) (hcs : chks bs m = cs) :
    Calls Tryd.prog 11 #[.slice a bs.length cap] w fun e w' => e = .returned (.tuple #[.slice (some ⟨w.heap.size, 0, none⟩) cs.length cs.length, .nilIface]) ∧ Lies w' (some ⟨w.heap.size, 0, none⟩) cs ∧ Below w.heap.size w w' := by
  have h := protect_any a cap m bs w hz hl hm hP hc
  have e : m = cs.length := by rw [← hcs, chks_len]
  rw [hcs] at h
  rw [e] at h
  exact h.mono fun e w' ⟨h1, h2, h3⟩ => ⟨h1, h2.lies, h3⟩
theorem turned_lies (a : Option Addr) (cap : Nat) (D cs : List Nat) (g2 cap2 m : Nat) (at' : Int) (w : World) (hD : AllB D) (hl : D.length = 8 * m) (h0 : 0 < m) (hm : m ≤ 512)
    (ha : -9223372036854775808 ≤ at' ∧ at' < 9223372036854775808) (hc : Lies w a D) (hcs : chks D m = cs) (ho : Lies w (some ⟨g2, 0, none⟩) cs) :
    Calls Tryd.prog 18 #[.slice a D.length cap, .slice (some ⟨g2, 0, none⟩) cs.length cap2, .int .i64 at'] w fun e w' => ∃ xs ys g3 c3 g4 c4, Near D m 1 xs ys ∧ e = .returned (.tuple #[.slice (some ⟨g3, 0, none⟩) xs.length c3, .slice (some ⟨g4, 0, none⟩) ys.length c4]) ∧
      Lies w' (some ⟨g3, 0, none⟩) xs ∧ Lies w' (some ⟨g4, 0, none⟩) ys ∧ Below w.heap.size w w' := by
  have hcl := chks_len D m
  subst hcs
  rcases hc with h | ⟨b, off, rfl, hc⟩
  · rw [h] at hl; simp at hl; omega
  have hL : Lies w (some ⟨b, off, none⟩) D := Or.inr ⟨b, off, rfl, hc⟩
  have hlt := pickN_lt at' (8 * (D.length + (chks D m).length)) (by omega)
  by_cases hk : pickN at' (8 * (D.length + (chks D m).length)) < 8 * D.length
  · have := turned_data b off cap D g2 0 (chks D m) cap2 _ at' w (by omega) (by omega) hD (by omega) (by omega) ha.1 ha.2 hL ho rfl hk
    refine this.mono fun e w' ⟨g3, c3, g4, c4, h1, h2, h3, h4⟩ => ⟨_, _, g3, c3, g4, c4, ?_, h1, h2.lies, h3.lies, h4⟩
    exact near_data D m _ _ hD hl (by rw [hcl] at hk; rw [hcl]; omega) (by omega)
  · have := turned_check b off cap D g2 0 (chks D m) cap2 _ at' w (by omega) (by omega) (chks_all D m) (by omega) (by omega) ha.1 ha.2 hL ho rfl (by omega)
    refine this.mono fun e w' ⟨g3, c3, g4, c4, h1, h2, h3, h4⟩ => ⟨_, _, g3, c3, g4, c4, ?_, h1, h2.lies, h3.lies, h4⟩
    exact near_check D m _ _ hD hl (by rw [hcl] at hlt hk ⊢; omega) (by omega)
theorem near_len {D xs ys : List Nat} {m n : Nat} (h : Near D m n xs ys) : xs.length = 8 * m ∧ ys.length = m := ⟨h.2.2.1, h.2.2.2.1⟩

set_option maxHeartbeats 4000000 in
theorem joins_good (b1 o1 cap1 m1 : Nat) (D1 : List Nat) (b2 o2 cap2 m2 : Nat) (D2 : List Nat) (i' k' : Int) (w : World) (hD1 : AllB D1) (hD2 : AllB D2) (hl1 : D1.length = 8 * m1) (hl2 : D2.length = 8 * m2) (h01 : 0 < m1) (h02 : 0 < m2) (hm : m1 + m2 ≤ 512)
    (hi' : -9223372036854775808 ≤ i' ∧ i' < 9223372036854775808) (hk' : -9223372036854775808 ≤ k' ∧ k' < 9223372036854775808) (hP0 : Plc w) (hL1 : Lies w (some ⟨b1, o1, none⟩) D1) (hL2 : Lies w (some ⟨b2, o2, none⟩) D2) :
    Calls Tryd.prog 7 #[.slice (some ⟨b1, o1, none⟩) D1.length cap1, .slice (some ⟨b2, o2, none⟩) D2.length cap2, .int .i64 i', .int .i64 k'] w fun e w' => e = .returned (.bool true) ∧ Below w.heap.size w w' := by
  obtain ⟨i0, HI⟩ : ∃ i0, Hid (Tryd.prog.info? 5 = some i0 ∧ i0.zero = some (.int .u8 0) ∧ i0.size = 1 ∧ i0.bytes = 1) := info_parts info5
  have HL : Hid (D1.length = 8 * m1 ∧ D2.length = 8 * m2) := ⟨hl1, hl2⟩
  have HA : Hid ((-9223372036854775808 ≤ i' ∧ i' < 9223372036854775808) ∧ (-9223372036854775808 ≤ k' ∧ k' < 9223372036854775808)) := ⟨hi', hk'⟩
  obtain ⟨C1, HC1⟩ : ∃ C, Hid (chks D1 m1 = C) := ⟨_, rfl⟩
  obtain ⟨C2, HC2⟩ : ∃ C, Hid (chks D2 m2 = C) := ⟨_, rfl⟩
  obtain ⟨DD, HD⟩ : ∃ C, Hid (C = D1 ++ D2) := ⟨_, rfl⟩
  have hDD : AllB DD := by rw [HD.out]; exact hD1.append hD2
  have HDL : Hid (DD.length = 8 * (m1 + m2)) := by show _ = _; rw [HD.out, List.length_append]; omega
  obtain ⟨CC, HCC⟩ : ∃ C, Hid (chks DD (m1 + m2) = C) := ⟨_, rfl⟩
  have HCJ : Hid (CC = C1 ++ C2) := by show _ = _; rw [← HCC.out, ← HC1.out, ← HC2.out, HD.out, chks_join D1 D2 m1 m2 hl1]
  have hp1 : (((D1.length : Nat) : Int) == 0) = false := by rw [beq_eq_false_iff_ne]; omega
  have hp2 : (((D2.length : Nat) : Int) == 0) = false := by rw [beq_eq_false_iff_ne]; omega
  have hsum : ¬ (4096 : Int) < (D1.length : Int) + (D2.length : Int) := by omega
  have hn1 : D1.length ≤ 4096 := by omega
  have hn2 : D2.length ≤ 4096 := by omega
  have hn3 : DD.length ≤ 4096 := by have := HDL.out; omega
  have hn4 : C1.length ≤ 512 := by rw [← HC1.out, chks_len]; omega
  have hn5 : C2.length ≤ 512 := by rw [← HC2.out, chks_len]; omega
  have hn6 : CC.length ≤ 512 := by rw [← HCC.out, chks_len]; omega
  have hb0 : Below w.heap.size w w := Below.refl _ _
  clear hl1 hl2 hi' hk'
  go_enter Tryd.func7, Tryd.ntmps7
  go_wp2_with fail
  have hcall := fact_any w hP0
  refine hcall.mono ?_
  rintro e w1 ⟨rfl, hbn⟩
  clear hcall
  replace hL1 := hL1.below hbn
  replace hL2 := hL2.below hbn
  have hP1 := hP0.below hbn hP0.pos
  have hb1 := hb0.trans (hbn.mono hb0.size)
  clear hP0 hb0 hbn
  go_wp2_with fail
  have hcall := protect_lies (some ⟨b1, o1, none⟩) cap1 m1 D1 C1 w1 hD1 HL.out.1 (by omega) hP1 hL1 HC1.out
  refine hcall.mono ?_
  rintro e w2 ⟨rfl, hLp, hbn⟩
  clear hcall
  replace hL1 := hL1.below hbn
  replace hL2 := hL2.below hbn
  have hP2 := hP1.below hbn hP1.pos
  have hb2 := hb1.trans (hbn.mono hb1.size)
  clear hP1 hb1 hbn
  go_wp2_with fail
  have hcall := protect_lies (some ⟨b2, o2, none⟩) cap2 m2 D2 C2 w2 hD2 HL.out.2 (by omega) hP2 hL2 HC2.out
  refine hcall.mono ?_
  rintro e w3 ⟨rfl, hLq, hbn⟩
  clear hcall
  replace hL1 := hL1.below hbn
  replace hL2 := hL2.below hbn
  replace hLp := hLp.below hbn
  have hP3 := hP2.below hbn hP2.pos
  have hb3 := hb2.trans (hbn.mono hb2.size)
  clear hP2 hb2 hbn
  go_wp2_with fail
  have hcall := turned_lies (some ⟨b1, o1, none⟩) cap1 D1 C1 w1.heap.size C1.length m1 i' w3 hD1 HL.out.1 h01 (by omega) HA.out.1 hL1 HC1.out hLp
  refine hcall.mono ?_
  rintro e w4 ⟨xs, us, g3, c3, g4, c4, hN1, rfl, hLx, hLu, hbn⟩
  clear hcall
  replace hL1 := hL1.below hbn
  replace hL2 := hL2.below hbn
  replace hLp := hLp.below hbn
  replace hLq := hLq.below hbn
  have hP4 := hP3.below hbn hP3.pos
  have hb4 := hb3.trans (hbn.mono hb3.size)
  clear hP3 hb3 hbn
  have HN1 : Hid (xs.length = 8 * m1 ∧ us.length = m1) := near_len hN1
  have hx1 : xs.length ≤ 4096 := by have := HN1.out; omega
  have hx2 : us.length ≤ 512 := by have := HN1.out; omega
  go_wp2_with fail
  have hcall := turned_lies (some ⟨b2, o2, none⟩) cap2 D2 C2 w2.heap.size C2.length m2 k' w4 hD2 HL.out.2 h02 (by omega) HA.out.2 hL2 HC2.out hLq
  refine hcall.mono ?_
  rintro e w5 ⟨ys, vs, g5, c5, g6, c6, hN2, rfl, hLy, hLv, hbn⟩
  clear hcall
  replace hL1 := hL1.below hbn
  replace hL2 := hL2.below hbn
  replace hLp := hLp.below hbn
  replace hLq := hLq.below hbn
  replace hLx := hLx.below hbn
  replace hLu := hLu.below hbn
  have hP5 := hP4.below hbn hP4.pos
  have hb5 := hb4.trans (hbn.mono hb4.size)
  clear hP4 hb4 hbn
  have HN2 : Hid (ys.length = 8 * m2 ∧ vs.length = m2) := near_len hN2
  have hx3 : ys.length ≤ 4096 := by have := HN2.out; omega
  have hx4 : vs.length ≤ 512 := by have := HN2.out; omega
  have hNN := near_join HL.out.1 hN1 hN2
  obtain ⟨zs, HZ⟩ : ∃ C, Hid (C = xs ++ ys) := ⟨_, rfl⟩
  obtain ⟨ts, HT⟩ : ∃ C, Hid (C = us ++ vs) := ⟨_, rfl⟩
  rw [← HZ.out, ← HT.out, ← HD.out] at hNN
  clear hN1 hN2
  have hnx := news_lies (lies_alloc hLx (.cells #[] 5))
  go_wp2_with (at_builtin; refine wpList_append_own _ rfl (.tmp 77) (.tmp 78) 22 rfl w5.heap.size 5 i0 (.int .u8 0) 1 1 Tryd.underlying22 HI.out.1 HI.out.2.1 HI.out.2.2.1 HI.out.2.2.2 rfl (by decide) _ 0 [] rfl (owns_empty _ _ (Nat.le_refl _)) ⟨g3, 0, none⟩ xs.length c3 (xs.map bv) rfl ?e1a hnx (one_bv xs) ?e1b ?e1c ?e1d ?_)
  case e1a => simp
  case e1b => unfold maxLen; omega
  case e1c => omega
  case e1d => simp
  intro v1 wx hown1 hgrow1 hv1
  obtain ⟨gx, cx, hve, hO⟩ := owns_form hown1 hv1
  have hbx := below_copy rfl hgrow1
  have hgx := hO.le
  rw [hve]
  clear hown1 hgrow1 hv1 hve hnx v1
  have hny := news_lies (hLy.below hbx)
  go_wp2_with (at_builtin; refine wpList_append_own _ rfl (.tmp 79) (.tmp 80) 22 rfl w5.heap.size 5 i0 (.int .u8 0) 1 1 Tryd.underlying22 HI.out.1 HI.out.2.1 HI.out.2.2.1 HI.out.2.2.2 rfl (by decide) _ xs.length (xs.map bv) rfl hO ⟨g5, 0, none⟩ ys.length c5 (ys.map bv) rfl ?f1a hny (one_bv ys) ?f1b ?f1c ?f1d ?_)
  case f1a => simp
  case f1b => unfold maxLen; omega
  case f1c => omega
  case f1d => exact hbx.size
  intro v2 w6 hown2 hgrow2 hv2
  have hv2' : ¬ v2 = .slice none 0 0 := by first | exact hv2 | (intro h; have := hv2.1 h; simp at this)
  obtain ⟨g7, cg7, hve, hO2⟩ := pair_form hown2 hv2' HZ.out
  have hby := below_pair hbx hgx.1 hgrow2
  rw [hve]
  have hLz := hO2.lies
  clear hown2 hgrow2 hv2 hv2' hve hny v2 hO hO2 hbx hgx
  replace hL1 := hL1.below hby
  replace hL2 := hL2.below hby
  replace hLp := hLp.below hby
  replace hLq := hLq.below hby
  replace hLx := hLx.below hby
  replace hLu := hLu.below hby
  replace hLy := hLy.below hby
  replace hLv := hLv.below hby
  have hP6 := hP5.below hby hP5.pos
  have hb6 := hb5.trans (hby.mono hb5.size)
  clear hP5 hb5 hby
  have hnx := news_lies (lies_alloc hLu (.cells #[] 5))
  go_wp2_with (at_builtin; refine wpList_append_own _ rfl (.tmp 82) (.tmp 83) 22 rfl w6.heap.size 5 i0 (.int .u8 0) 1 1 Tryd.underlying22 HI.out.1 HI.out.2.1 HI.out.2.2.1 HI.out.2.2.2 rfl (by decide) _ 0 [] rfl (owns_empty _ _ (Nat.le_refl _)) ⟨g4, 0, none⟩ us.length c4 (us.map bv) rfl ?e2a hnx (one_bv us) ?e2b ?e2c ?e2d ?_)
  case e2a => simp
  case e2b => unfold maxLen; omega
  case e2c => omega
  case e2d => simp
  intro v1 wx hown1 hgrow1 hv1
  obtain ⟨gx, cx, hve, hO⟩ := owns_form hown1 hv1
  have hbx := below_copy rfl hgrow1
  have hgx := hO.le
  rw [hve]
  clear hown1 hgrow1 hv1 hve hnx v1
  have hny := news_lies (hLv.below hbx)
  go_wp2_with (at_builtin; refine wpList_append_own _ rfl (.tmp 84) (.tmp 85) 22 rfl w6.heap.size 5 i0 (.int .u8 0) 1 1 Tryd.underlying22 HI.out.1 HI.out.2.1 HI.out.2.2.1 HI.out.2.2.2 rfl (by decide) _ us.length (us.map bv) rfl hO ⟨g6, 0, none⟩ vs.length c6 (vs.map bv) rfl ?f2a hny (one_bv vs) ?f2b ?f2c ?f2d ?_)
  case f2a => simp
  case f2b => unfold maxLen; omega
  case f2c => omega
  case f2d => exact hbx.size
  intro v2 w7 hown2 hgrow2 hv2
  have hv2' : ¬ v2 = .slice none 0 0 := by first | exact hv2 | (intro h; have := hv2.1 h; simp at this)
  obtain ⟨g8, cg8, hve, hO2⟩ := pair_form hown2 hv2' HT.out
  have hby := below_pair hbx hgx.1 hgrow2
  rw [hve]
  have hLt := hO2.lies
  clear hown2 hgrow2 hv2 hv2' hve hny v2 hO hO2 hbx hgx
  replace hL1 := hL1.below hby
  replace hL2 := hL2.below hby
  replace hLp := hLp.below hby
  replace hLq := hLq.below hby
  replace hLx := hLx.below hby
  replace hLu := hLu.below hby
  replace hLy := hLy.below hby
  replace hLv := hLv.below hby
  replace hLz := hLz.below hby
  have hP7 := hP6.below hby hP6.pos
  have hb7 := hb6.trans (hby.mono hb6.size)
  clear hP6 hb6 hby
  go_wp2_with fail
  have hcall := mend_near (some ⟨g7, 0, none⟩) (some ⟨g8, 0, none⟩) cg7 cg8 (m1 + m2) 2 DD zs ts w7 hDD HDL.out hm hP7 hNN hLz hLt
  refine hcall.mono ?_
  rintro e w8 ⟨rfl, hLm, hbn⟩
  clear hcall
  replace hL1 := hL1.below hbn
  replace hL2 := hL2.below hbn
  replace hLp := hLp.below hbn
  replace hLq := hLq.below hbn
  replace hLx := hLx.below hbn
  replace hLu := hLu.below hbn
  replace hLy := hLy.below hbn
  replace hLv := hLv.below hbn
  replace hLz := hLz.below hbn
  replace hLt := hLt.below hbn
  have hP8 := hP7.below hbn hP7.pos
  have hb8 := hb7.trans (hbn.mono hb7.size)
  clear hP7 hb7 hbn
  have hnx := news_lies (lies_alloc hL1 (.cells #[] 5))
  go_wp2_with (at_builtin; refine wpList_append_own _ rfl (.tmp 94) (.tmp 95) 22 rfl w8.heap.size 5 i0 (.int .u8 0) 1 1 Tryd.underlying22 HI.out.1 HI.out.2.1 HI.out.2.2.1 HI.out.2.2.2 rfl (by decide) _ 0 [] rfl (owns_empty _ _ (Nat.le_refl _)) ⟨b1, o1, none⟩ D1.length cap1 (D1.map bv) rfl ?e3a hnx (one_bv D1) ?e3b ?e3c ?e3d ?_)
  case e3a => simp
  case e3b => unfold maxLen; omega
  case e3c => omega
  case e3d => simp
  intro v1 wx hown1 hgrow1 hv1
  obtain ⟨gx, cx, hve, hO⟩ := owns_form hown1 hv1
  have hbx := below_copy rfl hgrow1
  have hgx := hO.le
  rw [hve]
  clear hown1 hgrow1 hv1 hve hnx v1
  have hny := news_lies (hL2.below hbx)
  go_wp2_with (at_builtin; refine wpList_append_own _ rfl (.tmp 96) (.tmp 97) 22 rfl w8.heap.size 5 i0 (.int .u8 0) 1 1 Tryd.underlying22 HI.out.1 HI.out.2.1 HI.out.2.2.1 HI.out.2.2.2 rfl (by decide) _ D1.length (D1.map bv) rfl hO ⟨b2, o2, none⟩ D2.length cap2 (D2.map bv) rfl ?f3a hny (one_bv D2) ?f3b ?f3c ?f3d ?_)
  case f3a => simp
  case f3b => unfold maxLen; omega
  case f3c => omega
  case f3d => exact hbx.size
  intro v2 w9 hown2 hgrow2 hv2
  have hv2' : ¬ v2 = .slice none 0 0 := by first | exact hv2 | (intro h; have := hv2.1 h; simp at this)
  obtain ⟨g9, cg9, hve, hO2⟩ := pair_form hown2 hv2' HD.out
  have hby := below_pair hbx hgx.1 hgrow2
  rw [hve]
  have hLd := hO2.lies
  clear hown2 hgrow2 hv2 hv2' hve hny v2 hO hO2 hbx hgx
  replace hL1 := hL1.below hby
  replace hL2 := hL2.below hby
  replace hLp := hLp.below hby
  replace hLq := hLq.below hby
  replace hLx := hLx.below hby
  replace hLu := hLu.below hby
  replace hLy := hLy.below hby
  replace hLv := hLv.below hby
  replace hLz := hLz.below hby
  replace hLt := hLt.below hby
  replace hLm := hLm.below hby
  have hP9 := hP8.below hby hP8.pos
  have hb9 := hb8.trans (hby.mono hb8.size)
  clear hP8 hb8 hby
  go_wp2_with fail
  have hcall := bytes_same (some ⟨w7.heap.size, 0, none⟩) (some ⟨g9, 0, none⟩) DD DD.length cg9 w9 (by omega) hLm hLd
  refine hcall.mono ?_
  rintro e w10 ⟨rfl, hbn⟩
  clear hcall
  replace hL1 := hL1.below hbn
  replace hL2 := hL2.below hbn
  replace hLp := hLp.below hbn
  replace hLq := hLq.below hbn
  replace hLx := hLx.below hbn
  replace hLu := hLu.below hbn
  replace hLy := hLy.below hbn
  replace hLv := hLv.below hbn
  replace hLz := hLz.below hbn
  replace hLt := hLt.below hbn
  replace hLm := hLm.below hbn
  replace hLd := hLd.below hbn
  have hP10 := hP9.below hbn hP9.pos
  have hb10 := hb9.trans (hbn.mono hb9.size)
  clear hP9 hb9 hbn
  go_wp2_with fail
  have hcall := protect_lies (some ⟨g9, 0, none⟩) cg9 (m1 + m2) DD CC w10 hDD HDL.out hm hP10 hLd HCC.out
  refine hcall.mono ?_
  rintro e w11 ⟨rfl, hLc, hbn⟩
  clear hcall
  replace hL1 := hL1.below hbn
  replace hL2 := hL2.below hbn
  replace hLp := hLp.below hbn
  replace hLq := hLq.below hbn
  replace hLx := hLx.below hbn
  replace hLu := hLu.below hbn
  replace hLy := hLy.below hbn
  replace hLv := hLv.below hbn
  replace hLz := hLz.below hbn
  replace hLt := hLt.below hbn
  replace hLm := hLm.below hbn
  replace hLd := hLd.below hbn
  have hP11 := hP10.below hbn hP10.pos
  have hb11 := hb10.trans (hbn.mono hb10.size)
  clear hP10 hb10 hbn
  have hnx := news_lies (lies_alloc hLp (.cells #[] 5))
  go_wp2_with (at_builtin; refine wpList_append_own _ rfl (.tmp 117) (.tmp 118) 22 rfl w11.heap.size 5 i0 (.int .u8 0) 1 1 Tryd.underlying22 HI.out.1 HI.out.2.1 HI.out.2.2.1 HI.out.2.2.2 rfl (by decide) _ 0 [] rfl (owns_empty _ _ (Nat.le_refl _)) ⟨w1.heap.size, 0, none⟩ C1.length C1.length (C1.map bv) rfl ?e4a hnx (one_bv C1) ?e4b ?e4c ?e4d ?_)
  case e4a => simp
  case e4b => unfold maxLen; omega
  case e4c => omega
  case e4d => simp
  intro v1 wx hown1 hgrow1 hv1
  obtain ⟨gx, cx, hve, hO⟩ := owns_form hown1 hv1
  have hbx := below_copy rfl hgrow1
  have hgx := hO.le
  rw [hve]
  clear hown1 hgrow1 hv1 hve hnx v1
  have hny := news_lies (hLq.below hbx)
  go_wp2_with (at_builtin; refine wpList_append_own _ rfl (.tmp 119) (.tmp 120) 22 rfl w11.heap.size 5 i0 (.int .u8 0) 1 1 Tryd.underlying22 HI.out.1 HI.out.2.1 HI.out.2.2.1 HI.out.2.2.2 rfl (by decide) _ C1.length (C1.map bv) rfl hO ⟨w2.heap.size, 0, none⟩ C2.length C2.length (C2.map bv) rfl ?f4a hny (one_bv C2) ?f4b ?f4c ?f4d ?_)
  case f4a => simp
  case f4b => unfold maxLen; omega
  case f4c => omega
  case f4d => exact hbx.size
  intro v2 w12 hown2 hgrow2 hv2
  have hv2' : ¬ v2 = .slice none 0 0 := by first | exact hv2 | (intro h; have := hv2.1 h; simp at this)
  obtain ⟨g10, cg10, hve, hO2⟩ := pair_form hown2 hv2' HCJ.out
  have hby := below_pair hbx hgx.1 hgrow2
  rw [hve]
  have hLe := hO2.lies
  clear hown2 hgrow2 hv2 hv2' hve hny v2 hO hO2 hbx hgx
  replace hL1 := hL1.below hby
  replace hL2 := hL2.below hby
  replace hLp := hLp.below hby
  replace hLq := hLq.below hby
  replace hLx := hLx.below hby
  replace hLu := hLu.below hby
  replace hLy := hLy.below hby
  replace hLv := hLv.below hby
  replace hLz := hLz.below hby
  replace hLt := hLt.below hby
  replace hLm := hLm.below hby
  replace hLd := hLd.below hby
  replace hLc := hLc.below hby
  have hP12 := hP11.below hby hP11.pos
  have hb12 := hb11.trans (hby.mono hb11.size)
  clear hP11 hb11 hby
  go_wp2_with fail
  have hcall := bytes_same (some ⟨w10.heap.size, 0, none⟩) (some ⟨g10, 0, none⟩) CC CC.length cg10 w12 (by omega) hLc hLe
  refine hcall.mono ?_
  rintro e w13 ⟨rfl, hbn⟩
  clear hcall
  replace hL1 := hL1.below hbn
  replace hL2 := hL2.below hbn
  replace hLp := hLp.below hbn
  replace hLq := hLq.below hbn
  replace hLx := hLx.below hbn
  replace hLu := hLu.below hbn
  replace hLy := hLy.below hbn
  replace hLv := hLv.below hbn
  replace hLz := hLz.below hbn
  replace hLt := hLt.below hbn
  replace hLm := hLm.below hbn
  replace hLd := hLd.below hbn
  replace hLc := hLc.below hbn
  replace hLe := hLe.below hbn
  have hP13 := hP12.below hbn hP12.pos
  have hb13 := hb12.trans (hbn.mono hb12.size)
  clear hP12 hb12 hbn
  go_wp2
  go_ret
  exact ⟨rfl, hb13⟩

/-- WHATEVER THE BYTES: what Protect gives, as far as the walks ahead of the test want it. -/
theorem protect_some (a : Option Addr) (cap : Nat) (bs : List Nat) (w : World) (hz : AllB bs) (hm : bs.length ≤ 140737488351232) (hP : Plc w) (hc : Lies w a bs) :
    Calls Tryd.prog 11 #[.slice a bs.length cap] w fun e w' => ∃ a' n' c' er, e = .returned (.tuple #[.slice a' n' c', er]) ∧ Below w.heap.size w w' ∧ ((bs.length % 8 ≠ 0 ∨ 4096 < bs.length) → ∃ c : Nat, er = .iface 25 (.int .i64 c)) ∧ (¬ (bs.length % 8 ≠ 0 ∨ 4096 < bs.length) → er = .nilIface) := by
  by_cases hbad : bs.length % 8 ≠ 0 ∨ 4096 < bs.length
  · exact (protect_bad a bs.length cap w (by omega) hbad).mono fun e w' ⟨h1, h2⟩ => ⟨_, _, _, _, h1, by rw [h2]; exact Below.refl _ _, fun _ => ⟨_, rfl⟩, fun h => absurd hbad h⟩
  · exact (protect_any a cap (bs.length / 8) bs w hz (by omega) (by omega) hP hc).mono fun e w' ⟨h1, _, h3⟩ => ⟨_, _, _, _, h1, h3, fun h => absurd h hbad, fun _ => rfl⟩

set_option maxHeartbeats 1600000 in
theorem joins_idle (a1 a2 : Option Addr) (cap1 cap2 : Nat) (D1 D2 : List Nat) (i' k' : Int) (w : World) (hD1 : AllB D1) (hD2 : AllB D2) (hm1 : D1.length ≤ 140737488351232) (hm2 : D2.length ≤ 140737488351232) (hP0 : Plc w) (hL1 : Lies w a1 D1) (hL2 : Lies w a2 D2)
    (hidle : (D1.length % 8 ≠ 0 ∨ 4096 < D1.length) ∨ (D2.length % 8 ≠ 0 ∨ 4096 < D2.length) ∨ 4096 < D1.length + D2.length ∨ D1.length = 0 ∨ D2.length = 0) :
    Calls Tryd.prog 7 #[.slice a1 D1.length cap1, .slice a2 D2.length cap2, .int .i64 i', .int .i64 k'] w fun e w' => e = .returned (.bool true) ∧ Below w.heap.size w w' := by
  have HI : Hid ((D1.length % 8 ≠ 0 ∨ 4096 < D1.length) ∨ (D2.length % 8 ≠ 0 ∨ 4096 < D2.length) ∨ 4096 < D1.length + D2.length ∨ D1.length = 0 ∨ D2.length = 0) := hidle
  clear hidle
  go_enter Tryd.func7, Tryd.ntmps7
  go_wp2_with fail
  refine (fact_any w hP0).mono ?_
  rintro e w1 ⟨rfl, hb1⟩
  go_wp2_with fail
  refine (protect_some a1 cap1 D1 w1 hD1 hm1 (hP0.below hb1 hP0.pos) (hL1.below hb1)).mono ?_
  rintro e w2 ⟨x1, x2, x3, x4, rfl, hb2, hbad1, hgood1⟩
  have hb02 := hb1.trans (hb2.mono hb1.size)
  have HB1 : Hid (((D1.length % 8 ≠ 0 ∨ 4096 < D1.length) → ∃ c : Nat, x4 = .iface 25 (.int .i64 c)) ∧ (¬ (D1.length % 8 ≠ 0 ∨ 4096 < D1.length) → x4 = .nilIface)) := ⟨hbad1, hgood1⟩
  clear hbad1 hgood1
  go_wp2_with fail
  refine (protect_some a2 cap2 D2 w2 hD2 hm2 (hP0.below hb02 hP0.pos) (hL2.below hb02)).mono ?_
  rintro e w3 ⟨y1, y2, y3, y4, rfl, hb3, hbad2, hgood2⟩
  have hb03 := hb02.trans (hb3.mono hb02.size)
  have HB2 : Hid (((D2.length % 8 ≠ 0 ∨ 4096 < D2.length) → ∃ c : Nat, y4 = .iface 25 (.int .i64 c)) ∧ (¬ (D2.length % 8 ≠ 0 ∨ 4096 < D2.length) → y4 = .nilIface)) := ⟨hbad2, hgood2⟩
  clear hbad2 hgood2 hb1 hb2 hb3 hb02
  by_cases h1 : D1.length % 8 ≠ 0 ∨ 4096 < D1.length
  · obtain ⟨c, hc⟩ := HB1.out.1 h1
    rw [hc]
    clear h1
    go_wp2
    go_ret
    exact ⟨rfl, hb03⟩
  · rw [HB1.out.2 h1]
    by_cases h2 : D2.length % 8 ≠ 0 ∨ 4096 < D2.length
    · obtain ⟨c, hc⟩ := HB2.out.1 h2
      rw [hc]
      clear h1 h2
      go_wp2
      go_ret
      exact ⟨rfl, hb03⟩
    · rw [HB2.out.2 h2]
      by_cases h3 : 4096 < D1.length + D2.length
      · clear h1 h2
        go_wp2
        go_ret
        exact ⟨rfl, hb03⟩
      · by_cases h4 : D1.length = 0
        · have h4' : (((D1.length : Nat) : Int) == 0) = true := by rw [beq_iff_eq]; omega
          clear h1 h2 h4
          go_wp2
          go_ret
          exact ⟨rfl, hb03⟩
        · have h5 : D2.length = 0 := by have := HI.out; omega
          have h4' : (((D1.length : Nat) : Int) == 0) = false := by rw [beq_eq_false_iff_ne]; omega
          have h5' : (((D2.length : Nat) : Int) == 0) = true := by rw [beq_iff_eq]; omega
          clear h1 h2 h4 h5
          go_wp2
          go_ret
          exact ⟨rfl, hb03⟩
theorem joins_any (a1 a2 : Option Addr) (cap1 cap2 : Nat) (D1 D2 : List Nat) (i' k' : Int) (w : World) (hD1 : AllB D1) (hD2 : AllB D2) (hm1 : D1.length ≤ 140737488351232) (hm2 : D2.length ≤ 140737488351232)
    (hi' : -9223372036854775808 ≤ i' ∧ i' < 9223372036854775808) (hk' : -9223372036854775808 ≤ k' ∧ k' < 9223372036854775808) (hP0 : Plc w) (hL1 : Lies w a1 D1) (hL2 : Lies w a2 D2) :
    Calls Tryd.prog 7 #[.slice a1 D1.length cap1, .slice a2 D2.length cap2, .int .i64 i', .int .i64 k'] w fun e w' => e = .returned (.bool true) ∧ Below w.heap.size w w' := by
  by_cases h : (D1.length % 8 ≠ 0 ∨ 4096 < D1.length) ∨ (D2.length % 8 ≠ 0 ∨ 4096 < D2.length) ∨ 4096 < D1.length + D2.length ∨ D1.length = 0 ∨ D2.length = 0
  · exact joins_idle a1 a2 cap1 cap2 D1 D2 i' k' w hD1 hD2 hm1 hm2 hP0 hL1 hL2 h
  · rcases hL1 with h1 | ⟨b1, o1, rfl, hc1⟩
    · exact absurd (by simp [h1]) h
    rcases hL2 with h2 | ⟨b2, o2, rfl, hc2⟩
    · exact absurd (by simp [h2]) h
    exact joins_good b1 o1 cap1 (D1.length / 8) D1 b2 o2 cap2 (D2.length / 8) D2 i' k' w hD1 hD2 (by omega) (by omega) (by omega) (by omega) (by omega) hi' hk' hP0 (Or.inr ⟨b1, o1, rfl, hc1⟩) (Or.inr ⟨b2, o2, rfl, hc2⟩)
end Go.Proofs.YtgflkfbddiccaaaDoor
