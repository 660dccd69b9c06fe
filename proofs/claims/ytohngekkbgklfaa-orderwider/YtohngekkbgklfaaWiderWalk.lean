/-
  OrderWider: calls that begin earlier and end later still have an order, if they had one.
-/
import Derived.Test.YtohngekkbgklfaaLaw
import Derived.Test.YtohngekkbgklfaaRight
import Derived.Test.YtohngekkbgklfaaMathWider
import Derived.Test.YtohngekkbgklfaaSetC
import Derived.Test.YtohngekkbgklfaaOpenO
namespace Go.Proofs.Ytohngekkbgklfaa
open Go.RowKit
set_option linter.unusedVariables false

/-- WHAT LIES THERE in the loop. -/
structure WS (w wr : World) (am : Option Addr) (cap : Nat) (l m : List Cl) (n i : Nat) : Prop where
  own : OwnC wr w.heap.size am cap m
  bel : Below w.heap.size w wr
  len : m.length = n
  done : ∀ j, j < i → Wd (gC l j) (gC m j)
  rest : ∀ j, i ≤ j → gC m j = gC l j
theorem WS.below {w wr w' : World} {am : Option Addr} {cap : Nat} {l m : List Cl} {n i : Nat} (h : WS w wr am cap l m n i) (hb : Below wr.heap.size wr w') : WS w w' am cap l m n i :=
  ⟨h.own.below hb, h.bel.trans (hb.mono h.bel.size), h.len, h.done, h.rest⟩
/-- .. once a call begins earlier. -/
structure WH (w wr : World) (am : Option Addr) (cap : Nat) (l m : List Cl) (n i : Nat) (f : Int) : Prop where
  own : OwnC wr w.heap.size am cap m
  bel : Below w.heap.size w wr
  len : m.length = n
  done : ∀ j, j < i → Wd (gC l j) (gC m j)
  now : gC m i = setF (gC l i) f
  f0 : 0 ≤ f ∧ f ≤ (gC l i).f
  rest : ∀ j, i < j → gC m j = gC l j
theorem gC_set {l : List Cl} {i j : Nat} {c : Cl} (h : i < l.length) : gC (l.set i c) j = if j = i then c else gC l j := by
  unfold gC
  by_cases e : j = i
  · subst e; simp [h]
  · rw [if_neg e, List.getElem?_set_ne (fun q => e q.symm)]
theorem WS.same {w wr : World} {am : Option Addr} {cap : Nat} {l m : List Cl} {n i : Nat} (h : WS w wr am cap l m n i) (hf : 0 ≤ (gC l i).f) : WH w wr am cap l m n i (gC l i).f :=
  ⟨h.own, h.bel, h.len, h.done, by rw [h.rest i (Nat.le_refl _)]; rfl, ⟨hf, Int.le_refl _⟩, fun j hj => h.rest j (by omega)⟩
theorem WS.early {w wr : World} {g cap : Nat} {l m : List Cl} {n i : Nat} (h : WS w wr (some ⟨g, 0, none⟩) cap l m n i) (hi : i < n) (f : Int) (hf : 0 ≤ f ∧ f ≤ (gC l i).f) : ∀ w', Below (wr.setCell ⟨g, i * 5, none⟩ (.int .i64 f)).heap.size (wr.setCell ⟨g, i * 5, none⟩ (.int .i64 f)) w' → ∃ m1, WH w w' (some ⟨g, 0, none⟩) cap l m1 n i f := fun w' hb => by
  have hg : w.heap.size ≤ g := (h.own.blk ⟨_, rfl, rfl⟩).1
  have hl := h.len
  have ho := h.own.setCell (i * 5) (.int .i64 f) (l' := m.set i (setF (gC m i) f)) (by simp) (by rw [hl]; omega) (cells_setF m i f (by omega))
  have hbw : Below w.heap.size w (wr.setCell ⟨g, i * 5, none⟩ (.int .i64 f)) := h.bel.setCell hg _
  refine ⟨m.set i (setF (gC m i) f), ho.below hb, hbw.trans (hb.mono hbw.size), by simp [hl], fun j hj => ?_, ?_, hf, fun j hj => ?_⟩
  · rw [gC_set (by omega), if_neg (by omega)]
    exact h.done j hj
  · rw [gC_set (by omega), if_pos rfl, h.rest i (Nat.le_refl _)]
  · rw [gC_set (by omega), if_neg (by omega)]
    exact h.rest j (by omega)
theorem WH.same {w wr : World} {am : Option Addr} {cap : Nat} {l m : List Cl} {n i : Nat} {f : Int} (h : WH w wr am cap l m n i f) (ht : (gC l i).t ≤ 9223372036854775807) : WS w wr am cap l m n (i + 1) := by
  refine ⟨h.own, h.bel, h.len, fun j hj => ?_, fun j hj => h.rest j (by omega)⟩
  by_cases e : j = i
  · subst e
    rw [h.now]
    exact ⟨h.f0.1, h.f0.2, Int.le_refl _, ht, rfl, rfl, rfl⟩
  · exact h.done j (by omega)
theorem WH.late {w wr : World} {g cap : Nat} {l m : List Cl} {n i : Nat} {f : Int} (h : WH w wr (some ⟨g, 0, none⟩) cap l m n i f) (hi : i < n) (x : Int) (hx : (gC l i).t ≤ x ∧ x ≤ 9223372036854775807) : ∀ w', Below (wr.setCell ⟨g, i * 5 + 1, none⟩ (.int .i64 x)).heap.size (wr.setCell ⟨g, i * 5 + 1, none⟩ (.int .i64 x)) w' → ∃ m1, WS w w' (some ⟨g, 0, none⟩) cap l m1 n (i + 1) := fun w' hb => by
  have hg : w.heap.size ≤ g := (h.own.blk ⟨_, rfl, rfl⟩).1
  have hl := h.len
  have ho := h.own.setCell (i * 5 + 1) (.int .i64 x) (l' := m.set i (setT (gC m i) x)) (by simp) (by rw [hl]; omega) (cells_setT m i x (by omega))
  have hbw : Below w.heap.size w (wr.setCell ⟨g, i * 5 + 1, none⟩ (.int .i64 x)) := h.bel.setCell hg _
  refine ⟨m.set i (setT (gC m i) x), ho.below hb, hbw.trans (hb.mono hbw.size), by simp [hl], fun j hj => ?_, fun j hj => ?_⟩
  · rw [gC_set (by omega)]
    by_cases e : j = i
    · rw [if_pos e, h.now, e]
      exact ⟨h.f0.1, h.f0.2, hx.1, hx.2, rfl, rfl, rfl⟩
    · rw [if_neg e]
      exact h.done j (by omega)
  · rw [gC_set (by omega), if_neg (by omega)]
    exact h.rest j (by omega)
theorem pick_at (c : Int) (n : Nat) (h2 : n < 9223372036854775807) (hc : -9223372036854775808 ≤ c ∧ c ≤ 9223372036854775807) : ∃ p : Nat, p < n + 1 ∧ ∀ w, Calls Try.prog 6 #[.int .i64 c, .int .i64 ((n : Int) + 1)] w fun e w' => e = .returned (.int .i64 (p : Nat)) ∧ w = w' :=
  ⟨pkN c (n + 1), pkN_lt _ (by omega), fun w => by
    have := pick_is c (n + 1) w (by omega) (by omega) hc
    rw [show (((n + 1 : Nat) : Int)) = (n : Int) + 1 by omega] at this
    exact this⟩
set_option maxRecDepth 40000 in
set_option maxHeartbeats 6400000 in
theorem wider_any (a0 : Option Addr) (n0 cap0 : Nat) (a1 : Option Addr) (n1 cap1 : Nat) (a2 : Option Addr) (n2 cap2 : Nat) (l : List Cl) (e1 e2 : List Int) (w : World) (hl : l.length = n0) (hl1 : e1.length = n1) (hl2 : e2.length = n2)
    (h0 : n0 ≤ 4611686018427387904) (h1 : n1 ≤ 4611686018427387904) (h2 : n2 ≤ 4611686018427387904) (hnil : a0 = none → cap0 = 0) (hC : CL w a0 l) (hg : ∀ i, i < l.length → InB (gC l i)) (hI1 : IL w a1 e1) (hI2 : IL w a2 e2)
    (hb1 : ∀ j, -9223372036854775808 ≤ gI e1 j ∧ gI e1 j ≤ 9223372036854775807) (hb2 : ∀ j, -9223372036854775808 ≤ gI e2 j ∧ gI e2 j ≤ 9223372036854775807) :
    Calls Try.prog 4 #[.slice a0 n0 cap0, .slice a1 n1 cap1, .slice a2 n2 cap2] w fun e w' => e = .returned (.bool true) ∧ Below w.heap.size w w' := by
  have HF : Hid (Calls Try.prog 5 #[.slice a0 n0 cap0] w (FindPost l w)) := find_any a0 n0 cap0 l w hl hC (fun i hi => (hg i (by omega)).2.2.2.2)
  have HH : Hid (l.length = n0 ∧ e1.length = n1 ∧ e2.length = n2 ∧ (a0 = none → cap0 = 0) ∧ CL w a0 l ∧ (∀ i, i < l.length → InB (gC l i)) ∧ IL w a1 e1 ∧ IL w a2 e2) := ⟨hl, hl1, hl2, hnil, hC, hg, hI1, hI2⟩
  have HB1 : Hid ((∀ j, -9223372036854775808 ≤ gI e1 j ∧ gI e1 j ≤ 9223372036854775807) ∧ ∀ j, -9223372036854775808 ≤ gI e2 j ∧ gI e2 j ≤ 9223372036854775807) := ⟨hb1, hb2⟩
  clear hl hl1 hl2 hnil hC hg hI1 hI2 hb1 hb2
  go_enter Try.func4, Try.ntmps4
  go_wp2_with fail
  refine HF.out.mono ?_
  intro e w1 hp
  rcases hp with ⟨⟨x, hx, _, rfl⟩, hb⟩ | ⟨⟨r, oa, oc, hfl, hf0, hs, rfl, ho⟩, hb⟩
  · rw [errI_ne hx]
    clear HF
    go_wp2
    go_ret
    exact ⟨rfl, hb⟩
  · obtain ⟨hRt, hRl, hRx⟩ := srch_right hf0 hs
    have HR1 : Hid (faultF l = 0 ∧ srch l l.length st0 = some r ∧ Rt l r ∧ Below w.heap.size w w1) := ⟨hf0, hs, hRt, hb⟩
    have hrn : r.length = n0 := by rw [hRl, HH.out.1]
    have HRR : Hid (Calls Try.prog 7 #[.slice a0 n0 cap0, .slice oa n0 oc] w1 fun e w' => e = .returned (.bool true) ∧ Below w.heap.size w w') := by
      refine (right_any a0 n0 cap0 oa n0 oc l r w1 HH.out.1 hrn h0 h0 (HH.out.2.2.2.2.1.below hb) ho.il (fun x hx => by have := hRx x hx; have := HH.out.1; omega)).mono ?_
      rintro e w' ⟨b, rfl, hbb, hb2⟩
      rw [hbb.2 hRt]
      exact ⟨rfl, hb.trans (hb2.mono hb.size)⟩
    have h10 : n0 ≤ 10 := by rw [← HH.out.1]; exact (faultF_zero hf0).1
    rw [hrn]
    clear HF hfl hf0 hs ho hRt hRl hRx hb hrn
    go_wp2_with fail
    refine HRR.out.mono ?_
    rintro e w2 ⟨rfl, hb2⟩
    have HB2 : Hid (Below w.heap.size w w2) := hb2
    clear HRR hb2
    have HO0 : Hid (OwnC (w2.alloc (.cells #[] 29)) w.heap.size (some ⟨w2.heap.size, 0, none⟩) 0 []) := OwnC.new w2 w.heap.size HB2.out.size [] (by simp) #[] rfl
    have HC0 : Hid (CL (w2.alloc (.cells #[] 29)) a0 l) := (HH.out.2.2.2.2.1.below HB2.out).below (alloc_below' w2 _)
    have HS0 : Hid (w.heap.size ≤ (w2.alloc (.cells #[] 29)).heap.size) := Nat.le_trans HB2.out.size (alloc_below' w2 _).size
    go_wp2_with (at_builtin; refine app_stepCq rfl (.tmp 32) (.tmp 33) (by rfl) w.heap.size (some ⟨w2.heap.size, 0, none⟩) 0 0 [] rfl (by rfl) HO0.out a0 n0 cap0 l HH.out.1 (by rfl) HH.out.2.2.2.1 HC0.out n0 HH.out.1 (by omega) HS0.out ?_; intro am capm w3 hom hkm; have HW0 : Hid (WS w w3 am capm l l n0 0) := ⟨hom, (HB2.out.trans ((alloc_below' w2 _).mono HB2.out.size)).trans (hkm.below HS0.out (fun b e => by obtain ⟨x, e, rfl⟩ := e; cases e; exact HB2.out.size)), HH.out.1, fun j hj => by omega, fun j _ => rfl⟩; clear hom hkm)
    clear HO0 HC0 HS0 HB2
    go_loopw [11] (fun j wr => ∃ (i : Nat) (m : List Cl), i ≤ n0 ∧ j = .int .i64 i ∧ Hid (WS w wr am capm l m n0 i)) (fun j _ => n0 - (intOf j).toNat)
    case atStart => exact ⟨0, l, Nat.zero_le _, rfl, HW0.out⟩
    case round =>
      obtain ⟨i, m, hi, rfl, hR⟩ := hrel
      clear HW0
      by_cases hlt : i < n0
      · obtain ⟨g, rfl⟩ : ∃ g, am = some ⟨g, 0, none⟩ := hR.out.own.some_of (by rw [hR.out.len]; omega)
        obtain ⟨b1, b2, _, b4, b5⟩ := badC_zero ((faultF_zero HR1.out.1).2 i (by rw [HH.out.1]; exact hlt))
        have hin := HH.out.2.2.2.2.2.1 i (by rw [HH.out.1]; exact hlt)
        have htm : (gC l i).t ≤ 9223372036854775807 := hin.2.1.2
        obtain ⟨fn, hfn⟩ := Int.eq_ofNat_of_zero_le b1
        obtain ⟨wo, rfl⟩ : ∃ wo, wo = wr := ⟨_, rfl⟩
        have HT : Hid ((gC l i).t ≤ 9223372036854775807 ∧ (fn : Int) < (gC l i).t ∧ (gC l i).f = fn) := ⟨htm, by omega, hfn⟩
        have hfb : fn < 9223372036854775807 := by omega
        go_upto_if 44 with fail
        go_cut [] (fun wx => ∃ m1 f, Hid (WH w wx (some ⟨g, 0, none⟩) capm l m1 n0 i f))
        case first =>
          by_cases hi1 : i < n1
          · have hat := hR.out.own.at (i := i) (by rw [hR.out.len]; exact hlt)
            rw [hR.out.rest i (Nat.le_refl _)] at hat
            have c0 : wo.cell? ⟨g, i * 5, none⟩ = some (.int .i64 (fn : Int)) := by have := hat.f; rw [hfn] at this; simpa using this
            have q0 := hR.out.own.free (i * 5)
            have hI := HH.out.2.2.2.2.2.2.1.below hR.out.bel
            obtain ⟨g1, o1, rfl, hI'⟩ := hI.some_of (i := i) (by rw [HH.out.2.1]; exact hi1)
            have c1 := hI' i (by rw [HH.out.2.1]; exact hi1)
            obtain ⟨pk, hpk, hPK⟩ := pick_at (gI e1 i) fn hfb (HB1.out.1 i)
            have HPK : Hid (∀ w, Calls Try.prog 6 #[.int .i64 (gI e1 i), .int .i64 ((fn : Int) + 1)] w fun e w' => e = .returned (.int .i64 (pk : Nat)) ∧ w = w') := hPK
            have HG : Hid (∀ w', Below (wo.setCell ⟨g, i * 5, none⟩ (.int .i64 ((fn : Int) - (pk : Int)))).heap.size (wo.setCell ⟨g, i * 5, none⟩ (.int .i64 ((fn : Int) - (pk : Int)))) w' → ∃ m1, WH w w' (some ⟨g, 0, none⟩) capm l m1 n0 i ((fn : Int) - (pk : Int))) := hR.out.early hlt _ ⟨by omega, by omega⟩
            have hw1 : IntKind.i64.wrap ((fn : Int) + 1) = (fn : Int) + 1 := wrap_ok (by omega) (by omega)
            have hw2 : IntKind.i64.wrap ((fn : Int) - (pk : Int)) = (fn : Int) - (pk : Int) := wrap_ok (by omega) (by omega)
            clear hPK hI hI' hat hR b1 b2 b4 b5 hin htm hfn
            go_wp2_with fail
            go_region_law (first | (refine step_call (by rfl) 6 Try.f6 Try.func6 (by kernel_rfl) (by kernel_rfl) #[.tmp 55, .tmp 61] _ (by rfl) _ (by first | (simp [Act.eval]; done) | simp [Act.eval, Act.put]) _ _ (HPK.out _) ?_; rintro w' rfl))
            all_goals (have HG2 := HG.out _ ((Below.refl _ _).drew); clear HG; go_wp2_with fail; go_meet; obtain ⟨m1, h⟩ := HG2; exact ⟨m1, _, h⟩)
          · have HG : Hid (∃ m1 f, Hid (WH w wo (some ⟨g, 0, none⟩) capm l m1 n0 i f)) := ⟨m, _, hR.out.same b1⟩
            clear hR
            go_wp2_with fail
            go_meet
            exact HG.out
        case rest =>
        obtain ⟨m1, f, hR2⟩ := hcut
        have hat := hR2.out.own.at (i := i) (by rw [hR2.out.len]; exact hlt)
        rw [hR2.out.now] at hat
        obtain ⟨t, ht⟩ : ∃ t, (gC l i).t = t := ⟨_, rfl⟩
        have c1 : wc.cell? ⟨g, i * 5 + 1, none⟩ = some (.int .i64 t) := by have := hat.t; rw [← ht]; simpa [setF] using this
        have q1 := hR2.out.own.free (i * 5 + 1)
        have htb : 0 ≤ t ∧ t ≤ 9223372036854775807 := by have := HT.out; omega
        have HWS : Hid (WS w wc (some ⟨g, 0, none⟩) capm l m1 n0 (i + 1)) := hR2.out.same HT.out.1
        have HLT : Hid (∀ x, t ≤ x ∧ x ≤ 9223372036854775807 → ∀ w', Below (wc.setCell ⟨g, i * 5 + 1, none⟩ (.int .i64 x)).heap.size (wc.setCell ⟨g, i * 5 + 1, none⟩ (.int .i64 x)) w' → ∃ m1, WS w w' (some ⟨g, 0, none⟩) capm l m1 n0 (i + 1)) := fun x hx => hR2.out.late hlt x (by rw [ht]; exact hx)
        have HBL : Hid (Below w.heap.size w wc) := hR2.out.bel
        clear hR hR2 hat ht HT b1 b2 b4 b5 hin htm hfn hfb
        by_cases hi2 : i < n2
        · by_cases htt : t < 1000000
          · have hI := HH.out.2.2.2.2.2.2.2.below HBL.out
            obtain ⟨g2, o2, rfl, hI'⟩ := hI.some_of (i := i) (by rw [HH.out.2.2.1]; exact hi2)
            have c2 := hI' i (by rw [HH.out.2.2.1]; exact hi2)
            have HPK : Hid (∀ w, Calls Try.prog 6 #[.int .i64 (gI e2 i), .int .i64 100] w fun e w' => e = .returned (.int .i64 (pkN (gI e2 i) 100 : Nat)) ∧ w = w') := fun w => pick_is (gI e2 i) 100 w (by omega) (by omega) (HB1.out.2 i)
            have hpl := pkN_lt (gI e2 i) (n := 100) (by omega)
            generalize pkN (gI e2 i) 100 = pk at *
            have hw2 : IntKind.i64.wrap (t + (pk : Int)) = t + (pk : Int) := wrap_ok (by omega) (by omega)
            have HG := HLT.out (t + (pk : Int)) (by omega) _ ((Below.refl _ _).drew)
            have HG2 : Hid (∃ m1, WS w (wc.setCell ⟨g, i * 5 + 1, none⟩ (.int .i64 (t + (pk : Int)))).drew (some ⟨g, 0, none⟩) capm l m1 n0 (i + 1)) := HG
            clear HG hI hI' HLT HWS
            go_wp2_with fail
            go_region_law (first | (refine step_call (by rfl) 6 Try.f6 Try.func6 (by kernel_rfl) (by kernel_rfl) #[.tmp 88, .const (.int .i64 100)] _ (by rfl) _ (by first | (simp [Act.eval]; done) | simp [Act.eval, Act.put]) _ _ (HPK.out _) ?_; rintro w' rfl))
            all_goals (clear HPK; go_wp2)
            all_goals (obtain ⟨m2, h⟩ := HG2.out; exact ⟨⟨i + 1, m2, by omega, by go_num, h⟩, by simp [intOf]; omega⟩)
          · clear HLT
            go_wp2
            exact ⟨⟨i + 1, m1, by omega, by go_num, HWS.out⟩, by simp [intOf]; omega⟩
        · clear HLT
          go_wp2
          exact ⟨⟨i + 1, m1, by omega, by go_num, HWS.out⟩, by simp [intOf]; omega⟩
      · obtain rfl : i = n0 := by omega
        have hln := HH.out.1
        have hmn := hR.out.len
        obtain ⟨hfm, r2, hr2⟩ := wider_has (l := l) (m := m) (by omega) (fun j hj => hR.out.done j (by omega)) HR1.out.1 HR1.out.2.1
        obtain ⟨hRt, hRl, hRx⟩ := srch_right hfm hr2
        have hfl : findL m = (0, r2) := by
          unfold findL
          rw [if_pos hfm, hr2]
        have hrl : r2.length = i := by omega
        have HCM : Hid (CL wr am m ∧ Below w.heap.size w wr) := ⟨hR.out.own.cl, hR.out.bel⟩
        have HF2 : Hid (Calls Try.prog 5 #[.slice am i capm] wr fun e w' => ∃ oa oc, e = .returned (.tuple #[.slice oa i oc, .nilIface]) ∧ Hid (IL w' oa (orI r2) ∧ CL w' am m ∧ Below w.heap.size w w')) :=
          (find_any am i capm m wr hmn hR.out.own.cl (fun j hj => by
            rw [(hR.out.done j hj).v]
            exact (HH.out.2.2.2.2.2.1 j (by omega)).2.2.2.2)).mono fun e w' h => by
              obtain ⟨oa, oc, h1, h2, h3⟩ := h.ok hfl
              exact ⟨oa, oc, by rw [hrl] at h1; exact h1, h2.il, HCM.out.1.below h3, HCM.out.2.trans (h3.mono HCM.out.2.size)⟩
        have HRR : Hid (∀ oa oc w', IL w' oa (orI r2) → CL w' am m → Below w.heap.size w w' → Calls Try.prog 7 #[.slice am i capm, .slice oa i oc] w' fun e w' => e = .returned (.bool true) ∧ Below w.heap.size w w') := fun oa oc w' h1 h2 h3 => by
          refine (right_any am i capm oa i oc m r2 w' hmn hrl h0 h0 h2 h1 (fun x hx => by have := hRx x hx; omega)).mono ?_
          rintro e w'' ⟨b, rfl, hbb, hb2⟩
          rw [hbb.2 hRt]
          exact ⟨rfl, h3.trans (hb2.mono h3.size)⟩
        clear hlt hR hln hmn hfm hr2 hRt hRl hRx hfl hrl
        go_wp2_with fail
        refine HF2.out.mono ?_
        rintro e w5 ⟨oa2, oc2, rfl, H5⟩
        have HR5 : Hid (Calls Try.prog 7 #[.slice am i capm, .slice oa2 i oc2] w5 fun e w' => e = .returned (.bool true) ∧ Below w.heap.size w w') := HRR.out oa2 oc2 w5 H5.out.1 H5.out.2.1 H5.out.2.2
        clear HRR HF2 H5
        go_wp2_with fail
        refine HR5.out.mono ?_
        rintro e w6 ⟨rfl, hb6⟩
        clear HR5
        go_wp2
        go_ret
        exact ⟨rfl, hb6⟩
end Go.Proofs.Ytohngekkbgklfaa
