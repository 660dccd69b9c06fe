/-
  OrderFinds: the first order of any calls.
-/
import Derived.Test.YtohngekkbgklfaaDoorFindOf
import Derived.Test.YtohngekkbgklfaaDoorTold
import Derived.Test.YtohngekkbgklfaaDoorOpenO
namespace Go.Proofs.YtohngekkbgklfaaDoor
open Go.RowKit
set_option linter.unusedVariables false

theorem stage {w w1 w2 : World} (h : Below w.heap.size w w1) (h2 : Below w1.heap.size w1 w2) : Below w.heap.size w w2 := h.trans (h2.mono h.size)
/-- What the fault's calls and Find give, one behind the other. -/
structure FW (a : Option Addr) (n cap : Nat) (l : List Cl) (w : World) : Prop where
  e : EType w
  len : l.length = n
  c : CL w a l
  v : ∀ i, i < n → (gC l i).v ≤ 9223372036854775807
theorem FW.below {a : Option Addr} {n cap : Nat} {l : List Cl} {w w' : World} (h : FW a n cap l w) (hb : Below w.heap.size w w') : FW a n cap l w' := ⟨h.e.below hb h.e.pos, h.len, h.c.below hb, h.v⟩
theorem FW.fault {a : Option Addr} {n cap : Nat} {l : List Cl} {w : World} (h : FW a n cap l w) (x : Nat) (hx : faultF l = x) : Calls Tryd.prog 5 #[.slice a n cap] w fun e w' => e = .returned (.int .i64 (x : Nat)) ∧ Hid (FW a n cap l w' ∧ Below w.heap.size w w') :=
  (rfault_any a n cap l w h.len h.c).mono fun e w' ⟨h1, h2⟩ => ⟨by rw [← hx]; exact h1, h.below h2, h2⟩
theorem FW.check {a : Option Addr} {n cap : Nat} {l : List Cl} {w : World} (h : FW a n cap l w) (x : Nat) (hx : faultF l = x) : Calls Tryd.prog 6 #[.slice a n cap] w fun e w' => e = .returned (errI x) ∧ Hid (FW a n cap l w' ∧ Below w.heap.size w w') :=
  (check_any a n cap l w h.len h.c).mono fun e w' ⟨h1, h2⟩ => ⟨by rw [← hx]; exact h1, h.below h2, h2⟩
theorem FW.err {a : Option Addr} {n cap : Nat} {l : List Cl} {w : World} (h : FW a n cap l w) (x : Nat) (hx : ¬ x = 0) (hf : findL l = (x, [])) : Calls Tryd.prog 7 #[.slice a n cap] w fun e w' => e = .returned (.tuple #[.slice none 0 0, .iface 23 (.int .i64 (x : Nat))]) ∧ Hid (FW a n cap l w' ∧ Below w.heap.size w w') :=
  (find_any a n cap l w h.len h.c h.v).mono fun e w' hp => by
    obtain ⟨h1, h2⟩ := hp.err hx hf
    exact ⟨h1, h.below h2, h2⟩
theorem FW.ok {a : Option Addr} {n cap : Nat} {l : List Cl} {w : World} (h : FW a n cap l w) (r : List Nat) (hr : r.length = n) (hf : findL l = (0, r)) : Calls Tryd.prog 7 #[.slice a n cap] w fun e w' => ∃ oa oc, e = .returned (.tuple #[.slice oa n oc, .nilIface]) ∧ Hid (FW a n cap l w' ∧ IL w' oa (orJ r) ∧ Below w.heap.size w w') :=
  (find_any a n cap l w h.len h.c h.v).mono fun e w' hp => by
    obtain ⟨oa, oc, h1, h2, h3⟩ := hp.ok hf
    exact ⟨oa, oc, by rw [hr] at h1; exact h1, h.below h3, h2.il, h3⟩
theorem FW.same {a : Option Addr} {n cap : Nat} {l : List Cl} {w : World} (h : FW a n cap l w) (x : Nat) : Calls Tryd.prog 8 #[.iface 23 (.int .i64 (x : Nat)), .int .i64 (x : Nat)] w fun e w' => e = .returned (.bool true) ∧ Hid (FW a n cap l w' ∧ Below w.heap.size w w') :=
  (error_same x w h.e).mono fun e w' ⟨h1, h2⟩ => ⟨h1, h.below h2, h2⟩
theorem FW.nil {a : Option Addr} {n cap : Nat} {l : List Cl} {w : World} (h : FW a n cap l w) : Calls Tryd.prog 8 #[.nilIface, .int .i64 0] w fun e w' => e = .returned (.bool true) ∧ Hid (FW a n cap l w' ∧ Below w.heap.size w w') :=
  (error_nil 0 w).mono fun e w' ⟨h1, h2⟩ => ⟨h1, h2 ▸ h, h2 ▸ Below.refl _ _⟩
set_option maxRecDepth 20000 in
set_option maxHeartbeats 6400000 in
theorem finds_a (a : Option Addr) (n cap : Nat) (l : List Cl) (w : World) (hW : FW a n cap l w) (x : Nat) (hx : ¬ x = 0) (hf : faultF l = x) :
    Calls Tryd.prog 3 #[.slice a n cap] w fun e w' => e = .returned (.bool true) ∧ Below w.heap.size w w' := by
  have hfl : findL l = (x, []) := by unfold findL; rw [if_neg (by omega), hf]
  have HX : Hid (faultF l = x ∧ findL l = (x, []) ∧ ¬ x = 0) := ⟨hf, hfl, hx⟩
  have HW : Hid (FW a n cap l w) := hW
  have hxe : ((x : Int) != 0) = true := bne_iff_ne.2 (by omega)
  clear hfl hx hf hW
  go_enter Tryd.func3, Tryd.ntmps3
  have C1 := HW.out.fault x HX.out.1
  go_wp2_with fail
  refine C1.mono ?_
  rintro e w1 ⟨rfl, H1⟩
  clear C1
  have C2 := H1.out.1.check x HX.out.1
  rw [errI_ne HX.out.2.2] at C2
  go_wp2_with fail
  refine C2.mono ?_
  rintro e w2 ⟨rfl, H2⟩
  clear C2
  have C3 := H2.out.1.err x HX.out.2.2 HX.out.2.1
  go_wp2_with fail
  refine C3.mono ?_
  rintro e w3 ⟨rfl, H3⟩
  clear C3
  have C4 := H3.out.1.same x
  go_wp2_with fail
  refine C4.mono ?_
  rintro e w4 ⟨rfl, H4⟩
  clear C4
  have C5 := H4.out.1.same x
  go_wp2_with fail
  refine C5.mono ?_
  rintro e w5 ⟨rfl, H5⟩
  clear C5
  have HB : Hid (Below w.heap.size w w5) := stage (stage (stage (stage H1.out.2 H2.out.2) H3.out.2) H4.out.2) H5.out.2
  go_wp2
  go_ret
  exact ⟨rfl, HB.out⟩
set_option maxRecDepth 20000 in
set_option maxHeartbeats 6400000 in
theorem finds_b (a : Option Addr) (n cap : Nat) (l : List Cl) (w : World) (hW : FW a n cap l w) (hf : faultF l = 0) (h7 : 7 < n) (hn : findL l = (4, [])) :
    Calls Tryd.prog 3 #[.slice a n cap] w fun e w' => e = .returned (.bool true) ∧ Below w.heap.size w w' := by
  have HX : Hid (faultF l = 0) := hf
  have HW : Hid (FW a n cap l w) := hW
  have HFL : Hid (findL l = (4, [])) := hn
  clear hf hW hn
  go_enter Tryd.func3, Tryd.ntmps3
  have C1 := HW.out.fault 0 HX.out
  go_wp2_with fail
  refine C1.mono ?_
  rintro e w1 ⟨rfl, H1⟩
  clear C1
  have C2 := H1.out.1.check 0 HX.out
  rw [errI_zero] at C2
  go_wp2_with fail
  refine C2.mono ?_
  rintro e w2 ⟨rfl, H2⟩
  clear C2
  have C3 := H2.out.1.err 4 (by omega) HFL.out
  go_wp2_with fail
  refine C3.mono ?_
  rintro e w3 ⟨rfl, H3⟩
  clear C3
  have C4 := H3.out.1.nil
  go_wp2_with fail
  refine C4.mono ?_
  rintro e w4 ⟨rfl, H4⟩
  clear C4
  have HB : Hid (Below w.heap.size w w4) := stage (stage (stage H1.out.2 H2.out.2) H3.out.2) H4.out.2
  go_wp2
  go_ret
  exact ⟨rfl, HB.out⟩
set_option maxRecDepth 20000 in
set_option maxHeartbeats 6400000 in
theorem finds_c (a : Option Addr) (n cap : Nat) (l : List Cl) (w : World) (hW : FW a n cap l w) (hf : faultF l = 0) (h7 : 7 < n) (h10 : n ≤ 10) (r : List Nat) (hr : findL l = (0, r)) (hrl : r.length = n) (hrt : Rt l r) (hrx : ∀ x ∈ r, x < n) :
    Calls Tryd.prog 3 #[.slice a n cap] w fun e w' => e = .returned (.bool true) ∧ Below w.heap.size w w' := by
  have HX : Hid (faultF l = 0) := hf
  have HW : Hid (FW a n cap l w) := hW
  have HFL : Hid (findL l = (0, r)) := hr
  have HRL : Hid (r.length = n) := hrl
  have HRT : Hid (Rt l r ∧ ∀ x ∈ r, x < n) := ⟨hrt, hrx⟩
  clear hf hW hr hrl hrt hrx
  go_enter Tryd.func3, Tryd.ntmps3
  have C1 := HW.out.fault 0 HX.out
  go_wp2_with fail
  refine C1.mono ?_
  rintro e w1 ⟨rfl, H1⟩
  clear C1
  have C2 := H1.out.1.check 0 HX.out
  rw [errI_zero] at C2
  go_wp2_with fail
  refine C2.mono ?_
  rintro e w2 ⟨rfl, H2⟩
  clear C2
  have C3 := H2.out.1.ok r HRL.out HFL.out
  go_wp2_with fail
  refine C3.mono ?_
  rintro e w3 ⟨oa, oc, rfl, H3⟩
  clear C3
  have C4 := H3.out.1.nil
  go_wp2_with fail
  refine C4.mono ?_
  rintro e w4 ⟨rfl, H4⟩
  clear C4
  have HB : Hid (Below w.heap.size w w4) := stage (stage (stage H1.out.2 H2.out.2) H3.out.2.2) H4.out.2
  have C5 : Hid (Calls Tryd.prog 9 #[.slice a n cap, .slice oa n oc] w4 fun e w' => e = .returned (.bool true) ∧ Below w.heap.size w w') := by
    refine (right_any a n cap oa n oc l r w4 H4.out.1.len HRL.out (by omega) (by omega) H4.out.1.c (H3.out.2.1.below H4.out.2) HRT.out.2).mono ?_
    rintro e w' ⟨b, rfl, hb, hb2⟩
    rw [hb.2 HRT.out.1]
    exact ⟨rfl, stage HB.out hb2⟩
  go_wp2_with fail
  refine C5.out.mono ?_
  rintro e w5 ⟨rfl, hb5⟩
  clear C5
  go_wp2
  go_ret
  exact ⟨rfl, hb5⟩
set_option maxRecDepth 20000 in
set_option maxHeartbeats 6400000 in
theorem finds_d (a : Option Addr) (n cap : Nat) (l : List Cl) (w : World) (hW : FW a n cap l w) (hf : faultF l = 0) (h7 : n ≤ 7) (hn : findL l = (4, [])) (hd : dfs n (stR2 l) n [] = none) :
    Calls Tryd.prog 3 #[.slice a n cap] w fun e w' => e = .returned (.bool true) ∧ Below w.heap.size w w' := by
  have HX : Hid (faultF l = 0) := hf
  have HW : Hid (FW a n cap l w) := hW
  have HFL : Hid (findL l = (4, [])) := hn
  have HD : Hid (dfs n (stR2 l) n [] = none) := hd
  clear hf hW hn hd
  go_enter Tryd.func3, Tryd.ntmps3
  have C1 := HW.out.fault 0 HX.out
  go_wp2_with fail
  refine C1.mono ?_
  rintro e w1 ⟨rfl, H1⟩
  clear C1
  have C2 := H1.out.1.check 0 HX.out
  rw [errI_zero] at C2
  go_wp2_with fail
  refine C2.mono ?_
  rintro e w2 ⟨rfl, H2⟩
  clear C2
  have C3 := H2.out.1.err 4 (by omega) HFL.out
  go_wp2_with fail
  refine C3.mono ?_
  rintro e w3 ⟨rfl, H3⟩
  clear C3
  have C4 := H3.out.1.nil
  go_wp2_with fail
  refine C4.mono ?_
  rintro e w4 ⟨rfl, H4⟩
  clear C4
  have C5 : Hid (Calls Tryd.prog 10 #[.slice a n cap, .slice none 0 0] w4 (FoPost l n n [] w4)) := fo_any l n (by omega) n a cap none 0 0 [] w4 H4.out.1.c H4.out.1.len (Or.inl rfl) rfl (fun _ => rfl) (by omega) (Rt.nil l) (by simp)
  go_wp2_with fail
  refine C5.out.mono ?_
  rintro e w5 ⟨hb5, hp⟩
  have H5 : Hid (Below w4.heap.size w4 w5) := hb5
  rcases hp with ⟨r, ra, rc, hd, _⟩ | ⟨_, rfl⟩
  · exact absurd (HD.out.symm.trans hd) (by simp)
  · clear C5 hb5
    have C6 := (H4.out.1.below H5.out).same 4
    go_wp2_with fail
    refine C6.mono ?_
    rintro e w6 ⟨rfl, H6⟩
    clear C6
    have HB : Hid (Below w.heap.size w w6) := stage (stage (stage (stage (stage H1.out.2 H2.out.2) H3.out.2) H4.out.2) H5.out) H6.out.2
    go_wp2
    go_ret
    exact ⟨rfl, HB.out⟩
set_option maxRecDepth 20000 in
set_option maxHeartbeats 6400000 in
theorem finds_e (a : Option Addr) (n cap : Nat) (l : List Cl) (w : World) (hW : FW a n cap l w) (hf : faultF l = 0) (h7 : n ≤ 7) (r : List Nat) (hr : findL l = (0, r)) (hrl : r.length = n) (hd : dfs n (stR2 l) n [] = some r) :
    Calls Tryd.prog 3 #[.slice a n cap] w fun e w' => e = .returned (.bool true) ∧ Below w.heap.size w w' := by
  have HX : Hid (faultF l = 0) := hf
  have HW : Hid (FW a n cap l w) := hW
  have HFL : Hid (findL l = (0, r)) := hr
  have HRL : Hid (r.length = n) := hrl
  have HD : Hid (dfs n (stR2 l) n [] = some r) := hd
  clear hf hW hr hrl hd
  go_enter Tryd.func3, Tryd.ntmps3
  have C1 := HW.out.fault 0 HX.out
  go_wp2_with fail
  refine C1.mono ?_
  rintro e w1 ⟨rfl, H1⟩
  clear C1
  have C2 := H1.out.1.check 0 HX.out
  rw [errI_zero] at C2
  go_wp2_with fail
  refine C2.mono ?_
  rintro e w2 ⟨rfl, H2⟩
  clear C2
  have C3 := H2.out.1.ok r HRL.out HFL.out
  go_wp2_with fail
  refine C3.mono ?_
  rintro e w3 ⟨oa, oc, rfl, H3⟩
  clear C3
  have C4 := H3.out.1.nil
  go_wp2_with fail
  refine C4.mono ?_
  rintro e w4 ⟨rfl, H4⟩
  clear C4
  have C5 : Hid (Calls Tryd.prog 10 #[.slice a n cap, .slice none 0 0] w4 (FoPost l n n [] w4)) := fo_any l n (by omega) n a cap none 0 0 [] w4 H4.out.1.c H4.out.1.len (Or.inl rfl) rfl (fun _ => rfl) (by omega) (Rt.nil l) (by simp)
  go_wp2_with fail
  refine C5.out.mono ?_
  rintro e w5 ⟨hb5, hp⟩
  have H5 : Hid (Below w4.heap.size w4 w5) := hb5
  rcases hp with ⟨r', ra, rc, hd, hrl', rfl, hir⟩ | ⟨hd, _⟩
  · have e : r' = r := Option.some.inj (hd.symm.trans HD.out)
    subst e
    have C6 : Hid (Calls Tryd.prog 11 #[.slice oa n oc, .slice ra n rc] w5 fun e w' => e = .returned (.bool true) ∧ Below w.heap.size w w') := by
      have hb := stage (stage (stage (stage H1.out.2 H2.out.2) H3.out.2.2) H4.out.2) H5.out
      exact (ints_same oa ra n oc rc (orJ r') w5 (by rw [show (orJ r').length = r'.length by simp [orJ]]; exact hrl') (by omega) ((H3.out.2.1.below H4.out.2).below H5.out) hir).mono fun e w' ⟨h1, h2⟩ => ⟨h1, stage hb h2⟩
    clear C5 hb5 hd hrl' hir
    go_wp2_with fail
    refine C6.out.mono ?_
    rintro e w6 ⟨rfl, hb6⟩
    clear C6
    go_wp2
    go_ret
    exact ⟨rfl, hb6⟩
  · exact absurd (HD.out.symm.trans hd) (by simp)
theorem finds_any (a : Option Addr) (n cap : Nat) (l : List Cl) (w : World) (hE : EType w) (hl : l.length = n) (hn : n ≤ 4611686018427387904) (hnil : a = none → cap = 0) (hC : CL w a l) (hg : ∀ i, i < l.length → InB (gC l i)) :
    Calls Tryd.prog 3 #[.slice a n cap] w fun e w' => e = .returned (.bool true) ∧ Below w.heap.size w w' := by
  have hW : FW a n cap l w := ⟨hE, hl, hC, fun i hi => (hg i (by omega)).2.2.2.2⟩
  by_cases hf : faultF l = 0
  · have h10 := (faultF_zero hf).1
    have hfl : findL l = match srch l l.length st0 with | none => (4, []) | some r => (0, r) := by unfold findL; rw [if_pos hf]; rfl
    have hsr := srch_ref hf
    rw [hl] at hsr
    cases hs : srch l l.length st0 with
    | none =>
      rw [hs] at hfl
      rw [hl] at hs
      rw [hs] at hsr
      by_cases h7 : 7 < n
      · exact finds_b a n cap l w hW hf h7 hfl
      · exact finds_d a n cap l w hW hf (by omega) hfl hsr.symm
    | some r =>
      obtain ⟨hrt, hrl, hrx⟩ := srch_right hf hs
      rw [hs] at hfl
      rw [hl] at hs hrl
      rw [hs] at hsr
      by_cases h7 : 7 < n
      · exact finds_c a n cap l w hW hf h7 (by omega) r hfl hrl hrt (fun x hx => by have := hrx x hx; omega)
      · exact finds_e a n cap l w hW hf (by omega) r hfl hrl hsr.symm
  · exact finds_a a n cap l w hW (faultF l) hf rfl
end Go.Proofs.YtohngekkbgklfaaDoor
