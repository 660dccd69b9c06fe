/-
  What Post, Tick and Mask of package bell give.
-/
import Derived.Test.YtdhidiemchnleaaDoorBell
namespace Go.Proofs.YtdhidiemchnleaaDoor
open Go.RowKit
set_option linter.unusedVariables false

theorem BE.set3 {w : World} {bb L D : Nat} {s : Sb} (h : BE w bb L D s) (x : Nat) : BE (w.setCell ⟨bb, 3, none⟩ (.int .i64 (x : Nat))) bb L D ⟨s.m, x, s.t, s.r⟩ := Stc.set h 3 _
theorem BE.set4 {w : World} {bb L D : Nat} {s : Sb} (h : BE w bb L D s) (x : Nat) : BE (w.setCell ⟨bb, 4, none⟩ (.int .i64 (x : Nat))) bb L D ⟨s.m, s.w, x, s.r⟩ := Stc.set h 4 _
theorem BE.set5 {w : World} {bb L D : Nat} {s : Sb} (h : BE w bb L D s) (x : Nat) : BE (w.setCell ⟨bb, 5, none⟩ (.int .i64 (x : Nat))) bb L D ⟨s.m, s.w, s.t, x⟩ := Stc.set h 5 _
theorem BE.set2 {w : World} {bb L D : Nat} {s : Sb} (h : BE w bb L D s) (x : Bool) : BE (w.setCell ⟨bb, 2, none⟩ (.bool x)) bb L D ⟨x, s.w, s.t, s.r⟩ := Stc.set h 2 _
set_option maxHeartbeats 800000 in
theorem post1_any {w : World} {bb q L D : Nat} {s : Sb} (h : BE w bb L D s) (hq : w.cell? ⟨q, 0, none⟩ = some (.pointer (some ⟨bb, 0, none⟩))) (hs : s.w < 9223372036854775807) :
    Calls Tryd.prog 13 #[.pointer (some ⟨q, 0, none⟩)] w fun e w' => e = .returned (.tuple #[]) ∧ BE w' bb L D ⟨s.m, s.w + 1, s.t, s.r⟩ ∧ Keep (fun b => b = bb) w w' := by
  have c3 : w.cell? ⟨bb, 3, none⟩ = some (.int .i64 (s.w : Nat)) := h.cell 3
  have f3 := Stc.free h 3
  have HF : Hid (∀ v : Int, v = ((s.w + 1 : Nat) : Int) → BE (w.setCell ⟨bb, 3, none⟩ (.int .i64 v)) bb L D ⟨s.m, s.w + 1, s.t, s.r⟩ ∧ Keep (fun b => b = bb) w (w.setCell ⟨bb, 3, none⟩ (.int .i64 v))) := fun v e => by subst e; exact ⟨h.set3 _, (Keep.refl (fun b => b = bb) w).set1 3 _⟩
  clear h
  generalize s.w = x at *
  go_enter Tryd.func13, Tryd.ntmps13
  go_wp2
  go_end0
  exact ⟨rfl, HF.out _ (by omega)⟩
set_option maxHeartbeats 800000 in
theorem tick1_any {w : World} {bb q L D : Nat} {s : Sb} (h : BE w bb L D s) (hq : w.cell? ⟨q, 0, none⟩ = some (.pointer (some ⟨bb, 0, none⟩))) (hs : s.t < 9223372036854775807) :
    Calls Tryd.prog 14 #[.pointer (some ⟨q, 0, none⟩)] w fun e w' => e = .returned (.tuple #[]) ∧ BE w' bb L D (tickedF s) ∧ Keep (fun b => b = bb) w w' := by
  have c3 : w.cell? ⟨bb, 3, none⟩ = some (.int .i64 (s.w : Nat)) := h.cell 3
  have c4 : w.cell? ⟨bb, 4, none⟩ = some (.int .i64 (s.t : Nat)) := h.cell 4
  have f4 := Stc.free h 4
  unfold tickedF
  by_cases h0 : s.w = 0
  · rw [if_pos h0]
    have HF : Hid (BE w bb L D s ∧ Keep (fun b => b = bb) w w) := ⟨h, Keep.refl _ _⟩
    rw [h0] at c3
    clear h h0
    go_enter Tryd.func14, Tryd.ntmps14
    go_wp2
    go_end0
    exact ⟨rfl, HF.out⟩
  · rw [if_neg h0]
    have HF : Hid (∀ v : Int, v = ((s.t + 1 : Nat) : Int) → BE (w.setCell ⟨bb, 4, none⟩ (.int .i64 v)) bb L D ⟨s.m, s.w, s.t + 1, s.r⟩ ∧ Keep (fun b => b = bb) w (w.setCell ⟨bb, 4, none⟩ (.int .i64 v))) := fun v e => by subst e; exact ⟨h.set4 _, (Keep.refl (fun b => b = bb) w).set1 4 _⟩
    clear h
    have h1 : 0 < (s.w : Int) := by omega
    generalize s.t = x at *
    generalize s.w = y at *
    clear h0
    go_enter Tryd.func14, Tryd.ntmps14
    go_wp2
    go_end0
    exact ⟨rfl, HF.out _ (by omega)⟩
set_option maxHeartbeats 800000 in
theorem mask1_any {w : World} {bb q p L D : Nat} {s : Sb} (b : Bool) (h : BE w bb L D s) (hq : w.cell? ⟨q, 0, none⟩ = some (.pointer (some ⟨bb, 0, none⟩))) (hp : w.cell? ⟨p, 0, none⟩ = some (.bool b)) :
    Calls Tryd.prog 15 #[.pointer (some ⟨p, 0, none⟩), .pointer (some ⟨q, 0, none⟩)] w fun e w' => e = .returned (.tuple #[]) ∧ BE w' bb L D ⟨b, s.w, s.t, s.r⟩ ∧ Keep (fun b => b = bb) w w' := by
  have f2 := Stc.free h 2
  have HF : Hid (BE (w.setCell ⟨bb, 2, none⟩ (.bool b)) bb L D ⟨b, s.w, s.t, s.r⟩ ∧ Keep (fun b => b = bb) w (w.setCell ⟨bb, 2, none⟩ (.bool b))) := ⟨h.set2 _, (Keep.refl (fun b => b = bb) w).set1 2 _⟩
  have c2 : ∃ v, w.cell? ⟨bb, 2, none⟩ = some v := ⟨_, h.cell 2⟩
  obtain ⟨v, c2⟩ := c2
  clear h
  go_enter Tryd.func15, Tryd.ntmps15
  go_wp2
  go_end0
  exact ⟨rfl, HF.out⟩
set_option maxHeartbeats 1600000 in
theorem rb_post {w : World} {bb q L D : Nat} {s s1 : Sb} (HC : Calls Tryd.prog 13 #[.pointer (some ⟨q, 0, none⟩)] w fun e w' => e = .returned (.tuple #[]) ∧ BE w' bb L D s1 ∧ Keep (fun b => b = bb) w w') (hs : s1.r < 9223372036854775807) :
    Calls Tryd.prog 12 #[.pointer (some ⟨bb, 0, none⟩), .func (.func 13) #[] #[.pointer (some ⟨q, 0, none⟩)]] w fun e w' => e = .returned (.tuple #[]) ∧ BE w' bb L D (rungF L D s1) ∧ Keep (fun b => b = bb) w w' := by
  obtain ⟨m1, n1, t1, r1⟩ := s1
  simp only at hs
  unfold rungF
  cases hd : dueF L D ⟨m1, n1, t1, r1⟩ with
  | false =>
    rw [if_neg (by decide)]
    go_enter Tryd.func12, Tryd.ntmps12
    go_wp2_with fail
    refine HC.mono ?_
    rintro e w1 ⟨rfl, hb, hk⟩
    have HD := due_any hb
    rw [hd] at HD
    have HB : Hid (BE w1 bb L D ⟨m1, n1, t1, r1⟩ ∧ Keep (fun b => b = bb) w w1) := ⟨hb, hk⟩
    clear hb hk HC
    clear hd
    go_wp2_with fail
    refine HD.mono ?_
    rintro e w2 ⟨rfl, hb2⟩
    have H2 : Hid (BE w2 bb L D ⟨m1, n1, t1, r1⟩ ∧ Keep (fun b => b = bb) w w2) := ⟨HB.out.1.below hb2, HB.out.2.trans (Keep.of_below hb2)⟩
    clear HB hb2 HD
    go_wp2
    go_end0
    exact ⟨rfl, H2.out⟩
  | true =>
    rw [if_pos rfl]
    go_enter Tryd.func12, Tryd.ntmps12
    go_wp2_with fail
    refine HC.mono ?_
    rintro e w1 ⟨rfl, hb, hk⟩
    have HD := due_any hb
    rw [hd] at HD
    have HB : Hid (BE w1 bb L D ⟨m1, n1, t1, r1⟩ ∧ Keep (fun b => b = bb) w w1) := ⟨hb, hk⟩
    clear hb hk HC
    clear hd
    go_wp2_with fail
    refine HD.mono ?_
    rintro e w2 ⟨rfl, hb2⟩
    have H2 : Hid (BE w2 bb L D ⟨m1, n1, t1, r1⟩ ∧ Keep (fun b => b = bb) w w2) := ⟨HB.out.1.below hb2, HB.out.2.trans (Keep.of_below hb2)⟩
    clear HB hb2 HD
    have c3 : w2.cell? ⟨bb, 3, none⟩ = some (.int .i64 (n1 : Nat)) := H2.out.1.cell 3
    have c4 : w2.cell? ⟨bb, 4, none⟩ = some (.int .i64 (t1 : Nat)) := H2.out.1.cell 4
    have c5 : w2.cell? ⟨bb, 5, none⟩ = some (.int .i64 (r1 : Nat)) := H2.out.1.cell 5
    have f3 := Stc.free H2.out.1 3
    have f4 := Stc.free H2.out.1 4
    have f5 := Stc.free H2.out.1 5
    have HF : Hid (∀ v : Int, v = ((r1 + 1 : Nat) : Int) → BE (((w2.setCell ⟨bb, 5, none⟩ (.int .i64 v)).setCell ⟨bb, 3, none⟩ (.int .i64 0)).setCell ⟨bb, 4, none⟩ (.int .i64 0)) bb L D ⟨m1, 0, 0, r1 + 1⟩ ∧ Keep (fun b => b = bb) w (((w2.setCell ⟨bb, 5, none⟩ (.int .i64 v)).setCell ⟨bb, 3, none⟩ (.int .i64 0)).setCell ⟨bb, 4, none⟩ (.int .i64 0))) := fun v e => by
      subst e
      exact ⟨(((H2.out.1.set5 _).set3 0).set4 0), ((H2.out.2.set1 5 _).set1 3 _).set1 4 _⟩
    clear H2
    go_wp2
    go_end0
    refine ⟨rfl, HF.out _ ?_⟩
    omega
set_option maxHeartbeats 1600000 in
theorem rb_tick {w : World} {bb q L D : Nat} {s s1 : Sb} (HC : Calls Tryd.prog 14 #[.pointer (some ⟨q, 0, none⟩)] w fun e w' => e = .returned (.tuple #[]) ∧ BE w' bb L D s1 ∧ Keep (fun b => b = bb) w w') (hs : s1.r < 9223372036854775807) :
    Calls Tryd.prog 12 #[.pointer (some ⟨bb, 0, none⟩), .func (.func 14) #[] #[.pointer (some ⟨q, 0, none⟩)]] w fun e w' => e = .returned (.tuple #[]) ∧ BE w' bb L D (rungF L D s1) ∧ Keep (fun b => b = bb) w w' := by
  obtain ⟨m1, n1, t1, r1⟩ := s1
  simp only at hs
  unfold rungF
  cases hd : dueF L D ⟨m1, n1, t1, r1⟩ with
  | false =>
    rw [if_neg (by decide)]
    go_enter Tryd.func12, Tryd.ntmps12
    go_wp2_with fail
    refine HC.mono ?_
    rintro e w1 ⟨rfl, hb, hk⟩
    have HD := due_any hb
    rw [hd] at HD
    have HB : Hid (BE w1 bb L D ⟨m1, n1, t1, r1⟩ ∧ Keep (fun b => b = bb) w w1) := ⟨hb, hk⟩
    clear hb hk HC
    clear hd
    go_wp2_with fail
    refine HD.mono ?_
    rintro e w2 ⟨rfl, hb2⟩
    have H2 : Hid (BE w2 bb L D ⟨m1, n1, t1, r1⟩ ∧ Keep (fun b => b = bb) w w2) := ⟨HB.out.1.below hb2, HB.out.2.trans (Keep.of_below hb2)⟩
    clear HB hb2 HD
    go_wp2
    go_end0
    exact ⟨rfl, H2.out⟩
  | true =>
    rw [if_pos rfl]
    go_enter Tryd.func12, Tryd.ntmps12
    go_wp2_with fail
    refine HC.mono ?_
    rintro e w1 ⟨rfl, hb, hk⟩
    have HD := due_any hb
    rw [hd] at HD
    have HB : Hid (BE w1 bb L D ⟨m1, n1, t1, r1⟩ ∧ Keep (fun b => b = bb) w w1) := ⟨hb, hk⟩
    clear hb hk HC
    clear hd
    go_wp2_with fail
    refine HD.mono ?_
    rintro e w2 ⟨rfl, hb2⟩
    have H2 : Hid (BE w2 bb L D ⟨m1, n1, t1, r1⟩ ∧ Keep (fun b => b = bb) w w2) := ⟨HB.out.1.below hb2, HB.out.2.trans (Keep.of_below hb2)⟩
    clear HB hb2 HD
    have c3 : w2.cell? ⟨bb, 3, none⟩ = some (.int .i64 (n1 : Nat)) := H2.out.1.cell 3
    have c4 : w2.cell? ⟨bb, 4, none⟩ = some (.int .i64 (t1 : Nat)) := H2.out.1.cell 4
    have c5 : w2.cell? ⟨bb, 5, none⟩ = some (.int .i64 (r1 : Nat)) := H2.out.1.cell 5
    have f3 := Stc.free H2.out.1 3
    have f4 := Stc.free H2.out.1 4
    have f5 := Stc.free H2.out.1 5
    have HF : Hid (∀ v : Int, v = ((r1 + 1 : Nat) : Int) → BE (((w2.setCell ⟨bb, 5, none⟩ (.int .i64 v)).setCell ⟨bb, 3, none⟩ (.int .i64 0)).setCell ⟨bb, 4, none⟩ (.int .i64 0)) bb L D ⟨m1, 0, 0, r1 + 1⟩ ∧ Keep (fun b => b = bb) w (((w2.setCell ⟨bb, 5, none⟩ (.int .i64 v)).setCell ⟨bb, 3, none⟩ (.int .i64 0)).setCell ⟨bb, 4, none⟩ (.int .i64 0))) := fun v e => by
      subst e
      exact ⟨(((H2.out.1.set5 _).set3 0).set4 0), ((H2.out.2.set1 5 _).set1 3 _).set1 4 _⟩
    clear H2
    go_wp2
    go_end0
    refine ⟨rfl, HF.out _ ?_⟩
    omega
set_option maxHeartbeats 1600000 in
theorem rb_mask {w : World} {bb q p L D : Nat} {s s1 : Sb} (HC : Calls Tryd.prog 15 #[.pointer (some ⟨p, 0, none⟩), .pointer (some ⟨q, 0, none⟩)] w fun e w' => e = .returned (.tuple #[]) ∧ BE w' bb L D s1 ∧ Keep (fun b => b = bb) w w') (hs : s1.r < 9223372036854775807) :
    Calls Tryd.prog 12 #[.pointer (some ⟨bb, 0, none⟩), .func (.func 15) #[] #[.pointer (some ⟨p, 0, none⟩), .pointer (some ⟨q, 0, none⟩)]] w fun e w' => e = .returned (.tuple #[]) ∧ BE w' bb L D (rungF L D s1) ∧ Keep (fun b => b = bb) w w' := by
  obtain ⟨m1, n1, t1, r1⟩ := s1
  simp only at hs
  unfold rungF
  cases hd : dueF L D ⟨m1, n1, t1, r1⟩ with
  | false =>
    rw [if_neg (by decide)]
    go_enter Tryd.func12, Tryd.ntmps12
    go_wp2_with fail
    refine HC.mono ?_
    rintro e w1 ⟨rfl, hb, hk⟩
    have HD := due_any hb
    rw [hd] at HD
    have HB : Hid (BE w1 bb L D ⟨m1, n1, t1, r1⟩ ∧ Keep (fun b => b = bb) w w1) := ⟨hb, hk⟩
    clear hb hk HC
    clear hd
    go_wp2_with fail
    refine HD.mono ?_
    rintro e w2 ⟨rfl, hb2⟩
    have H2 : Hid (BE w2 bb L D ⟨m1, n1, t1, r1⟩ ∧ Keep (fun b => b = bb) w w2) := ⟨HB.out.1.below hb2, HB.out.2.trans (Keep.of_below hb2)⟩
    clear HB hb2 HD
    go_wp2
    go_end0
    exact ⟨rfl, H2.out⟩
  | true =>
    rw [if_pos rfl]
    go_enter Tryd.func12, Tryd.ntmps12
    go_wp2_with fail
    refine HC.mono ?_
    rintro e w1 ⟨rfl, hb, hk⟩
    have HD := due_any hb
    rw [hd] at HD
    have HB : Hid (BE w1 bb L D ⟨m1, n1, t1, r1⟩ ∧ Keep (fun b => b = bb) w w1) := ⟨hb, hk⟩
    clear hb hk HC
    clear hd
    go_wp2_with fail
    refine HD.mono ?_
    rintro e w2 ⟨rfl, hb2⟩
    have H2 : Hid (BE w2 bb L D ⟨m1, n1, t1, r1⟩ ∧ Keep (fun b => b = bb) w w2) := ⟨HB.out.1.below hb2, HB.out.2.trans (Keep.of_below hb2)⟩
    clear HB hb2 HD
    have c3 : w2.cell? ⟨bb, 3, none⟩ = some (.int .i64 (n1 : Nat)) := H2.out.1.cell 3
    have c4 : w2.cell? ⟨bb, 4, none⟩ = some (.int .i64 (t1 : Nat)) := H2.out.1.cell 4
    have c5 : w2.cell? ⟨bb, 5, none⟩ = some (.int .i64 (r1 : Nat)) := H2.out.1.cell 5
    have f3 := Stc.free H2.out.1 3
    have f4 := Stc.free H2.out.1 4
    have f5 := Stc.free H2.out.1 5
    have HF : Hid (∀ v : Int, v = ((r1 + 1 : Nat) : Int) → BE (((w2.setCell ⟨bb, 5, none⟩ (.int .i64 v)).setCell ⟨bb, 3, none⟩ (.int .i64 0)).setCell ⟨bb, 4, none⟩ (.int .i64 0)) bb L D ⟨m1, 0, 0, r1 + 1⟩ ∧ Keep (fun b => b = bb) w (((w2.setCell ⟨bb, 5, none⟩ (.int .i64 v)).setCell ⟨bb, 3, none⟩ (.int .i64 0)).setCell ⟨bb, 4, none⟩ (.int .i64 0))) := fun v e => by
      subst e
      exact ⟨(((H2.out.1.set5 _).set3 0).set4 0), ((H2.out.2.set1 5 _).set1 3 _).set1 4 _⟩
    clear H2
    go_wp2
    go_end0
    refine ⟨rfl, HF.out _ ?_⟩
    omega
set_option maxHeartbeats 800000 in
theorem post_any {w : World} {bb L D : Nat} {s : Sb} (h : BE w bb L D s) (hs : s.w < 9223372036854775807) (hr : s.r < 9223372036854775807) :
    Calls Tryd.prog 6 #[.pointer (some ⟨bb, 0, none⟩)] w fun e w' => e = .returned (.tuple #[]) ∧ BE w' bb L D (postF L D s) ∧ Keep (fun b => b = bb) w w' := by
  have hlt := heap_lt h
  have HC : Hid (Calls Tryd.prog 12 #[.pointer (some ⟨bb, 0, none⟩), .func (.func 13) #[] #[.pointer (some ⟨w.heap.size, 0, none⟩)]] (w.alloc (.cells #[.pointer (some ⟨bb, 0, none⟩)] 23)) fun e w' => e = .returned (.tuple #[]) ∧ BE w' bb L D (postF L D s) ∧ Keep (fun b => b = bb) (w.alloc (.cells #[.pointer (some ⟨bb, 0, none⟩)] 23)) w') :=
    rb_post (s := s) (post1_any (h.below (alloc_below' w _)) (by simp) hs) hr
  have HK : Hid (Keep (fun b => b = bb) w (w.alloc (.cells #[.pointer (some ⟨bb, 0, none⟩)] 23))) := (Keep.refl (fun b => b = bb) w).alloc _
  clear h hlt
  go_enter Tryd.func6, Tryd.ntmps6
  go_wp2_with fail
  refine HC.out.mono ?_
  rintro e w1 ⟨rfl, hb, hk⟩
  have HF : Hid (BE w1 bb L D (postF L D s) ∧ Keep (fun b => b = bb) w w1) := ⟨hb, HK.out.trans hk⟩
  clear hb hk HC HK
  go_wp2
  go_end0
  exact ⟨rfl, HF.out⟩
set_option maxHeartbeats 800000 in
theorem tick_any {w : World} {bb L D : Nat} {s : Sb} (h : BE w bb L D s) (hs : s.t < 9223372036854775807) (hr : s.r < 9223372036854775807) :
    Calls Tryd.prog 7 #[.pointer (some ⟨bb, 0, none⟩)] w fun e w' => e = .returned (.tuple #[]) ∧ BE w' bb L D (tickF L D s) ∧ Keep (fun b => b = bb) w w' := by
  have hlt := heap_lt h
  have HC : Hid (Calls Tryd.prog 12 #[.pointer (some ⟨bb, 0, none⟩), .func (.func 14) #[] #[.pointer (some ⟨w.heap.size, 0, none⟩)]] (w.alloc (.cells #[.pointer (some ⟨bb, 0, none⟩)] 23)) fun e w' => e = .returned (.tuple #[]) ∧ BE w' bb L D (tickF L D s) ∧ Keep (fun b => b = bb) (w.alloc (.cells #[.pointer (some ⟨bb, 0, none⟩)] 23)) w') :=
    rb_tick (s := s) (tick1_any (h.below (alloc_below' w _)) (by simp) hs) (by unfold tickedF; split <;> exact hr)
  have HK : Hid (Keep (fun b => b = bb) w (w.alloc (.cells #[.pointer (some ⟨bb, 0, none⟩)] 23))) := (Keep.refl (fun b => b = bb) w).alloc _
  clear h hlt
  go_enter Tryd.func7, Tryd.ntmps7
  go_wp2_with fail
  refine HC.out.mono ?_
  rintro e w1 ⟨rfl, hb, hk⟩
  have HF : Hid (BE w1 bb L D (tickF L D s) ∧ Keep (fun b => b = bb) w w1) := ⟨hb, HK.out.trans hk⟩
  clear hb hk HC HK
  go_wp2
  go_end0
  exact ⟨rfl, HF.out⟩
set_option maxHeartbeats 800000 in
theorem mask_any {w : World} {bb L D : Nat} {s : Sb} (b : Bool) (h : BE w bb L D s) (hr : s.r < 9223372036854775807) :
    Calls Tryd.prog 8 #[.pointer (some ⟨bb, 0, none⟩), .bool b] w fun e w' => e = .returned (.tuple #[]) ∧ BE w' bb L D (maskF L D s b) ∧ Keep (fun b => b = bb) w w' := by
  have hlt := heap_lt h
  have HC : Hid (Calls Tryd.prog 12 #[.pointer (some ⟨bb, 0, none⟩), .func (.func 15) #[] #[.pointer (some ⟨w.heap.size + 1, 0, none⟩), .pointer (some ⟨w.heap.size, 0, none⟩)]] ((w.alloc (.cells #[.pointer (some ⟨bb, 0, none⟩)] 23)).alloc (.cells #[.bool b] 4)) fun e w' => e = .returned (.tuple #[]) ∧ BE w' bb L D (maskF L D s b) ∧ Keep (fun b => b = bb) ((w.alloc (.cells #[.pointer (some ⟨bb, 0, none⟩)] 23)).alloc (.cells #[.bool b] 4)) w') :=
    rb_mask (s := s) (mask1_any b ((h.below (alloc_below' w _)).below (alloc_below' _ _)) (by simp) (by simp)) hr
  have HK : Hid (Keep (fun b => b = bb) w ((w.alloc (.cells #[.pointer (some ⟨bb, 0, none⟩)] 23)).alloc (.cells #[.bool b] 4))) := ((Keep.refl (fun b => b = bb) w).alloc _).alloc _
  clear h hlt
  go_enter Tryd.func8, Tryd.ntmps8
  go_wp2_with fail
  refine HC.out.mono ?_
  rintro e w1 ⟨rfl, hb, hk⟩
  have HF : Hid (BE w1 bb L D (maskF L D s b) ∧ Keep (fun b => b = bb) w w1) := ⟨hb, HK.out.trans hk⟩
  clear hb hk HC HK
  go_wp2
  go_end0
  exact ⟨rfl, HF.out⟩
end Go.Proofs.YtdhidiemchnleaaDoor
