/-
  OrderSerial: what was done one behind the other has an order.
-/
import Derived.Test.YtohngekkbgklfaaLaw
import Derived.Test.YtohngekkbgklfaaRight
import Derived.Test.YtohngekkbgklfaaMathSerial
import Derived.Test.YtohngekkbgklfaaSetC
import Derived.Test.YtohngekkbgklfaaOpenO
namespace Go.Proofs.Ytohngekkbgklfaa
open Go.RowKit
set_option linter.unusedVariables false

/-- WHAT LIES THERE while a call is made: the row of calls, and the call's own block. -/
structure SC (w wx : World) (cb : Nat) (am : Option Addr) (capm : Nat) (m : List Cl) (c : Cl) : Prop where
  own : OwnC wx w.heap.size am capm m
  bel : Below w.heap.size w wx
  st : Stc wx cb 29 (clV c)
  lo : w.heap.size ≤ cb
  ap : ∀ b, blk am b → b < cb
theorem SC.below {w wx w' : World} {cb : Nat} {am : Option Addr} {capm : Nat} {m : List Cl} {c : Cl} (h : SC w wx cb am capm m c) (hb : Below wx.heap.size wx w') : SC w w' cb am capm m c :=
  ⟨h.own.below hb, h.bel.trans (hb.mono h.bel.size), h.st.below hb, h.lo, h.ap⟩
theorem SC.set {w wx : World} {cb : Nat} {am : Option Addr} {capm : Nat} {m : List Cl} {c : Cl} (h : SC w wx cb am capm m c) (j : Nat) (u : Value) (c' : Cl) (he : (clV c).set j u = clV c') : SC w (wx.setCell ⟨cb, j, none⟩ u) cb am capm m c' := by
  have kS : Keep (fun b => b = cb) wx (wx.setCell ⟨cb, j, none⟩ u) := Keep.set1 (Keep.refl _ _) j u
  refine ⟨h.own.keep kS (fun b hb e => by have := h.ap b hb; omega), h.bel.setCell (by show w.heap.size ≤ cb; exact h.lo) u, ?_, h.lo, h.ap⟩
  rw [← he]
  exact h.st.set j u
theorem SC.new {w wr : World} {am : Option Addr} {capm : Nat} {m : List Cl} (ho : OwnC wr w.heap.size am capm m) (hb : Below w.heap.size w wr) (c : Cl) : SC w (wr.alloc (.cells #[.int .i64 c.f, .int .i64 c.t, .bool c.w, .int .i64 c.b, .int .i64 c.v] 29)) wr.heap.size am capm m c :=
  ⟨ho.below (alloc_below' wr _), hb.trans ((alloc_below' wr _).mono hb.size), stc_new wr _ _ _ rfl, hb.size, fun b hb => (ho.blk hb).2⟩
theorem pick_ok (c : Int) (n : Nat) (h1 : 1 ≤ n) (h2 : n ≤ 1000) (hc : -9223372036854775808 ≤ c ∧ c ≤ 9223372036854775807) : ∃ p : Nat, p < n ∧ ∀ w, Calls Try.prog 6 #[.int .i64 c, .int .i64 (n : Nat)] w fun e w' => e = .returned (.int .i64 (p : Nat)) ∧ w = w' :=
  ⟨pkN c n, pkN_lt _ h1, fun w => pick_is c n w h1 (by omega) hc⟩
def dropC (a : Option Addr) (cap l : Nat) : Option Addr := if cap = l then a else a.map (·.add (l * 5))
theorem sliceC_to (a : Option Addr) (n cap k : Nat) (h : k ≤ cap) (w : World) : (Instr.slice 22 (.slice a n cap) none (some (.int .i64 (k : Int))) none).run Try.prog w = .ok (.slice a k cap) w := by
  have hu : Try.prog.underlying 22 = some (.slice (Try.prog.elem 22)) := by kernel_rfl
  have hs : (sizeOf (Try.prog.elem 22)).run Try.prog w = .ok 5 w := by kernel_rfl
  rw [run_slice_h w 22 a n cap hu .i64 (k : Int) (by omega) (by omega), hs]
  cases a with
  | none => simp [Result.andThen, sliced]
  | some x => simp [Result.andThen, sliced, Addr.add]
theorem sliceC_from (a : Option Addr) (n cap k : Nat) (h : k ≤ n) (hc : n ≤ cap) (w : World) : (Instr.slice 22 (.slice a n cap) (some (.int .i64 (k : Int))) none none).run Try.prog w = .ok (.slice (dropC a cap k) (n - k) (cap - k)) w := by
  have hu : Try.prog.underlying 22 = some (.slice (Try.prog.elem 22)) := by kernel_rfl
  have hs : (sizeOf (Try.prog.elem 22)).run Try.prog w = .ok 5 w := by kernel_rfl
  rw [run_slice_l w 22 a n cap hu .i64 (k : Int) (by omega) (by omega), hs]
  simp [Result.andThen, sliced, dropC]
theorem CL.take {w : World} {a : Option Addr} {l : List Cl} (h : CL w a l) (k : Nat) : CL w a (l.take k) := by
  rcases h with h | ⟨g, off, rfl, h⟩
  · exact Or.inl (by rw [h, List.take_nil])
  · refine Or.inr ⟨g, off, rfl, fun i hi => ?_⟩
    rw [List.length_take] at hi
    rw [gC_take (by omega)]
    exact h i (by omega)
theorem CL.drop {w : World} {a : Option Addr} {l : List Cl} {cap : Nat} (h : CL w a l) (k : Nat) (hc : l.length ≤ cap) : CL w (dropC a cap k) (l.drop k) := by
  by_cases hk : k < l.length
  · rcases h with h | ⟨g, off, rfl, h⟩
    · rw [h] at hk; simp at hk
    · refine Or.inr ⟨g, off + k * 5, ?_, fun i hi => ?_⟩
      · unfold dropC
        rw [if_neg (by omega)]
        simp [Go.WideShapes.add_plain]
      · rw [List.length_drop] at hi
        rw [gC_drop]
        have e : off + (k + i) * 5 = off + k * 5 + i * 5 := by omega
        obtain ⟨q0, q1, q2, q3, q4⟩ := h (k + i) (by omega)
        rw [e] at q0 q1 q2 q3 q4
        exact ⟨q0, q1, q2, q3, q4⟩
  · exact Or.inl (List.drop_eq_nil_of_le (by omega))
theorem OwnC.cap {w : World} {base cap : Nat} {a : Option Addr} {l : List Cl} (h : OwnC w base a cap l) : l.length ≤ cap := by
  rcases h.parts with ⟨_, _, e⟩ | ⟨g, cur, _, _, _, h3, _⟩
  · rw [e]; simp
  · exact h3
theorem OwnC.at2 {w : World} {base cap : Nat} {g : Nat} {l : List Cl} (h : OwnC w base (some ⟨g, 0, none⟩) cap l) {i : Nat} (hi : i < l.length) : w.cell? ⟨g, i * 5 + 2, none⟩ = some (.bool (gC l i).w) ∧ w.cell? ⟨g, i * 5 + 3, none⟩ = some (.int .i64 (gC l i).b) ∧ w.cell? ⟨g, i * 5 + 4, none⟩ = some (.int .i64 (gC l i).v) := by
  have := h.at hi
  exact ⟨by simpa using this.k, by simpa using this.b, by simpa using this.v⟩
set_option maxRecDepth 40000 in
set_option maxHeartbeats 6400000 in
theorem serial_any (a0 : Option Addr) (n0 cap0 : Nat) (a1 : Option Addr) (n1 cap1 : Nat) (a2 : Option Addr) (n2 cap2 : Nat) (l : List Cl) (e1 e2 : List Int) (w : World) (hl : l.length = n0) (hl1 : e1.length = n1) (hl2 : e2.length = n2)
    (h0 : n0 ≤ 4611686018427387904) (h1 : n1 ≤ 4611686018427387904) (h2 : n2 ≤ 4611686018427387904) (hC : CL w a0 l) (hg : ∀ i, i < l.length → InB (gC l i)) (hI1 : IL w a1 e1) (hI2 : IL w a2 e2)
    (hb1 : ∀ j, -9223372036854775808 ≤ gI e1 j ∧ gI e1 j ≤ 9223372036854775807) (hb2 : ∀ j, -9223372036854775808 ≤ gI e2 j ∧ gI e2 j ≤ 9223372036854775807) :
    Calls Try.prog 3 #[.slice a0 n0 cap0, .slice a1 n1 cap1, .slice a2 n2 cap2] w fun e w' => e = .returned (.bool true) ∧ Below w.heap.size w w' := by
  have HF : Hid (Calls Try.prog 5 #[.slice (some ⟨w.heap.size, 0, none⟩) 2 2] (w.alloc (.cells #[.int .i64 1, .int .i64 2, .bool true, .int .i64 0, .int .i64 7, .int .i64 1, .int .i64 2, .bool false, .int .i64 0, .int .i64 7] 29)) fun e w' => ∃ g off oc, e = .returned (.tuple #[.slice (some ⟨g, off, none⟩) 2 oc, .nilIface]) ∧ w'.cell? ⟨g, off, none⟩ = some (.int .i64 0) ∧ Hid (Below w.heap.size w w')) := by
    have hb := alloc_below' w (.cells #[.int .i64 1, .int .i64 2, .bool true, .int .i64 0, .int .i64 7, .int .i64 1, .int .i64 2, .bool false, .int .i64 0, .int .i64 7] 29)
    refine (find_any (some ⟨w.heap.size, 0, none⟩) 2 2 [⟨1, 2, true, 0, 7⟩, ⟨1, 2, false, 0, 7⟩] _ rfl (cl_two w _ _ _ rfl) (fun i hi => by
      have : i = 0 ∨ i = 1 := by omega
      rcases this with rfl | rfl <;> simp [gC])).mono fun e w' h => ?_
    obtain ⟨oa, oc, h1, h2, h3⟩ := h.ok fact_find
    obtain ⟨g, off, rfl, hc⟩ := h2.il.some_of (i := 0) (by simp [orI])
    exact ⟨g, off, oc, h1, hc 0 (by simp [orI]), hb.trans (h3.mono hb.size)⟩
  have HH : Hid (l.length = n0 ∧ e1.length = n1 ∧ e2.length = n2 ∧ CL w a0 l ∧ (∀ i, i < l.length → InB (gC l i)) ∧ IL w a1 e1 ∧ IL w a2 e2) := ⟨hl, hl1, hl2, hC, hg, hI1, hI2⟩
  have HB1 : Hid ((∀ j, -9223372036854775808 ≤ gI e1 j ∧ gI e1 j ≤ 9223372036854775807) ∧ ∀ j, -9223372036854775808 ≤ gI e2 j ∧ gI e2 j ≤ 9223372036854775807) := ⟨hb1, hb2⟩
  clear hl hl1 hl2 hC hg hI1 hI2 hb1 hb2
  go_enter Try.func3, Try.ntmps3
  go_wp2_with fail
  refine HF.out.mono ?_
  rintro e w1 ⟨gf, of, ocf, rfl, cf, HB0⟩
  clear HF
  by_cases h10 : 10 < n0
  · go_wp2
    go_ret
    exact ⟨rfl, HB0.out⟩
  · have hd10 : decide (10 < (n0 : Int)) = false := decide_eq_false (by omega)
    go_wp2
    clear cf
    go_loopw [9, 10] (fun s j wr => ∃ (i : Nat) (m : List Cl) (am : Option Addr) (capm : Nat), i ≤ n0 ∧ j = .int .i64 i ∧ s = .slice am i capm ∧ Hid (OwnC wr w.heap.size am capm m ∧ Below w.heap.size w wr ∧ m.length = i ∧ Ser m)) (fun _ j _ => n0 - (intOf j).toNat)
    case atStart => exact ⟨0, [], none, 0, Nat.zero_le _, rfl, rfl, OwnC.nil _ _, HB0.out, rfl, Ser.nil⟩
    case round =>
      obtain ⟨i, m, am, capm, hi, rfl, rfl, hR⟩ := hrel
      clear HB0
      by_cases hlt : i < n0
      · obtain ⟨wo, rfl⟩ : ∃ wo, wo = wr := ⟨_, rfl⟩
        have hcl := HH.out.2.2.2.1.below hR.out.2.1
        obtain ⟨g, off, rfl, hat⟩ := hcl.some_of (i := i) (by rw [HH.out.1]; exact hlt)
        obtain ⟨c0, c1, c2, c3, c4⟩ := hat i (by rw [HH.out.1]; exact hlt)
        have hin := HH.out.2.2.2.2.1 i (by rw [HH.out.1]; exact hlt)
        obtain ⟨B, hB, P1⟩ := pick_ok (gC l i).b 3 (by omega) (by omega) hin.2.2.1
        obtain ⟨V0, hV0, P2⟩ := pick_ok (gC l i).v 4 (by omega) (by omega) hin.2.2.2
        have HP1 : Hid (∀ w, Calls Try.prog 6 #[.int .i64 (gC l i).b, .int .i64 3] w fun e w' => e = .returned (.int .i64 (B : Nat)) ∧ w = w') := P1
        have HP2 : Hid (∀ w, Calls Try.prog 6 #[.int .i64 (gC l i).v, .int .i64 4] w fun e w' => e = .returned (.int .i64 (V0 : Nat)) ∧ w = w') := P2
        have HS0 : Hid (SC w (wo.alloc (.cells #[.int .i64 (gC l i).f, .int .i64 (gC l i).t, .bool (gC l i).w, .int .i64 (gC l i).b, .int .i64 (gC l i).v] 29)) wo.heap.size am capm m (gC l i)) := SC.new hR.out.1 hR.out.2.1 (gC l i)
        have HM : Hid (m.length = i ∧ Ser m) := hR.out.2.2
        have HO : Hid (OwnC wo w.heap.size am capm m) := hR.out.1
        have HBE : Hid (Below w.heap.size w wo) := hR.out.2.1
        clear P1 P2 hcl hat hin hR
        generalize (gC l i) = c at *
        obtain ⟨f, t, wb, b, v⟩ := c
        simp only at c0 c1 c2 c3 c4
        go_wp2_with fail
        refine (HP1.out _).mono ?_
        rintro e w2 ⟨rfl, rfl⟩
        go_wp2_with fail
        refine (HP2.out _).mono ?_
        rintro e w2 ⟨rfl, rfl⟩
        have HSC : Hid (SC w (wo.alloc (.cells #[.int .i64 f, .int .i64 t, .bool wb, .int .i64 (B : Nat), .int .i64 (V0 : Nat)] 29)) wo.heap.size am capm m ⟨f, t, wb, B, V0⟩) := SC.new HO.out HBE.out ⟨f, t, wb, B, V0⟩
        clear HP1 HP2 HS0 c0 c1 c2 c3 c4
        go_upto_if 62 with fail
        generalize (wo.alloc (.cells #[.int .i64 f, .int .i64 t, .bool wb, .int .i64 (B : Nat), .int .i64 (V0 : Nat)] 29)) = wA at HSC ⊢
        go_cut [] (fun wx => ∃ V : Int, Hid (SC w wx wo.heap.size am capm m ⟨f, t, wb, B, V⟩ ∧ 0 ≤ V ∧ V ≤ 9223372036854775807 ∧ (wb = false → lstW m (B : Nat) (List.range i) = V)))
        case first =>
          cases wb with
          | true =>
            have HG : Hid (SC w wA wo.heap.size am capm m ⟨f, t, true, B, V0⟩ ∧ 0 ≤ (V0 : Int) ∧ (V0 : Int) ≤ 9223372036854775807 ∧ (true = false → lstW m (B : Nat) (List.range i) = (V0 : Int))) := ⟨HSC.out, by omega, by omega, fun e => by cases e⟩
            clear HSC HO HM
            go_wp2_with fail
            go_meet
            exact ⟨V0, HG.out⟩
          | false =>
            have HS2 : Hid (SC w (wA.setCell ⟨wo.heap.size, 4, none⟩ (.int .i64 0)) wo.heap.size am capm m ⟨f, t, false, B, 0⟩) := HSC.out.set 4 _ ⟨f, t, false, B, 0⟩ rfl
            have z4 : wA.cell? ⟨wo.heap.size, 4, none⟩ = some (.int .i64 (V0 : Nat)) := HSC.out.st.cell 4
            have q4 := HSC.out.st.free 4
            clear HSC HO
            go_wp2
            clear z4 q4
            go_loopw [12] (fun j wr => ∃ (k : Nat) (V : Int), k ≤ i ∧ j = .int .i64 k ∧ Hid (SC w wr wo.heap.size am capm m ⟨f, t, false, B, V⟩ ∧ 0 ≤ V ∧ V ≤ 9223372036854775807 ∧ lstW m (B : Nat) (List.range k) = V)) (fun j _ => i - (intOf j).toNat)
            case atStart => exact ⟨0, 0, Nat.zero_le _, rfl, HS2.out, by omega, by omega, rfl⟩
            case round =>
              obtain ⟨k, V, hk, rfl, hR⟩ := hrel
              clear HS2
              by_cases hlk : k < i
              · obtain ⟨gm, rfl⟩ : ∃ gm, am = some ⟨gm, 0, none⟩ := hR.out.1.own.some_of (by rw [HM.out.1]; omega)
                obtain ⟨d2, d3, d4⟩ := hR.out.1.own.at2 (i := k) (by rw [HM.out.1]; exact hlk)
                have db : wr.cell? ⟨wo.heap.size, 3, none⟩ = some (.int .i64 (B : Nat)) := hR.out.1.st.cell 3
                have dv : wr.cell? ⟨wo.heap.size, 4, none⟩ = some (.int .i64 V) := hR.out.1.st.cell 4
                have qv := hR.out.1.st.free 4
                have hvm := (HM.out.2 k (by rw [HM.out.1]; exact hlk))
                have HVB : Hid (0 ≤ (gC m k).v ∧ (gC m k).v ≤ 9223372036854775807) := ⟨hvm.v, hvm.vm⟩
                have HSS : Hid (lstW m (B : Nat) (List.range (k + 1)) = if (gC m k).w = true ∧ (gC m k).b = (B : Nat) then (gC m k).v else V) := by
                  show lstW m (B : Nat) (List.range (k + 1)) = _
                  rw [List.range_succ, lstW_snoc, hR.out.2.2.2]
                have HD : Hid (∀ q, SC w (wr.drewN q) wo.heap.size (some ⟨gm, 0, none⟩) capm m ⟨f, t, false, B, V⟩) := fun q => hR.out.1.below (below_drewN (Below.refl _ _) q)
                have HVV : Hid (0 ≤ V ∧ V ≤ 9223372036854775807) := ⟨hR.out.2.1, hR.out.2.2.1⟩
                clear hR hvm
                generalize (gC m k).w = wy at *
                generalize (gC m k).b = bi at *
                generalize (gC m k).v = vy at *
                cases wy with
                | false =>
                  have HT : Hid (lstW m (B : Nat) (List.range (k + 1)) = V) := by rw [HSS.out]; rfl
                  clear HSS
                  go_wp2
                  go_quiet (fail)
                  go_wp2
                  exact ⟨⟨k + 1, V, by omega, by go_num, HD.out _, HVV.out.1, HVV.out.2, HT.out⟩, by simp [intOf]; omega⟩
                | true =>
                  by_cases hbb : bi = (B : Nat)
                  · have HT : Hid (lstW m (B : Nat) (List.range (k + 1)) = vy) := by rw [HSS.out, if_pos ⟨rfl, hbb⟩]; rfl
                    have hbq : (bi == (B : Int)) = true := by simp [hbb]
                    have HD2 : Hid (∀ q, SC w ((wr.drewN q).setCell ⟨wo.heap.size, 4, none⟩ (.int .i64 vy)) wo.heap.size (some ⟨gm, 0, none⟩) capm m ⟨f, t, false, B, vy⟩) := fun q => (HD.out q).set 4 _ ⟨f, t, false, B, vy⟩ rfl
                    clear HSS hbb HD
                    go_wp2
                    go_quiet (fail)
                    go_wp2
                    exact ⟨⟨k + 1, vy, by omega, by go_num, HD2.out _, HVB.out.1, HVB.out.2, HT.out⟩, by simp [intOf]; omega⟩
                  · have HT : Hid (lstW m (B : Nat) (List.range (k + 1)) = V) := by rw [HSS.out, if_neg (fun h => hbb h.2)]; rfl
                    have hbq : (bi == (B : Int)) = false := by simp [hbb]
                    clear HSS hbb
                    go_wp2
                    go_quiet (fail)
                    go_wp2
                    exact ⟨⟨k + 1, V, by omega, by go_num, HD.out _, HVV.out.1, HVV.out.2, HT.out⟩, by simp [intOf]; omega⟩
              · obtain rfl : i = k := by omega
                have HG : Hid (SC w wr wo.heap.size am capm m ⟨f, t, false, B, V⟩ ∧ 0 ≤ V ∧ V ≤ 9223372036854775807 ∧ (false = false → lstW m (B : Nat) (List.range i) = V)) := ⟨hR.out.1, hR.out.2.1, hR.out.2.2.1, fun _ => hR.out.2.2.2⟩
                clear hlk hR
                go_wp2_with fail
                go_meet
                exact ⟨V, HG.out⟩
        case rest =>
        obtain ⟨V, hV⟩ := hcut
        have HV : Hid (0 ≤ V ∧ V ≤ 9223372036854775807 ∧ (wb = false → lstW m (B : Nat) (List.range i) = V)) := hV.out.2
        have y0 : wc.cell? ⟨wo.heap.size, 0, none⟩ = some (.int .i64 f) := hV.out.1.st.cell 0
        have y1 : wc.cell? ⟨wo.heap.size, 1, none⟩ = some (.int .i64 t) := hV.out.1.st.cell 1
        have p0 := hV.out.1.st.free 0
        have p1 := hV.out.1.st.free 1
        have HS3 : Hid (SC w ((wc.setCell ⟨wo.heap.size, 0, none⟩ (.int .i64 (100 + 10 * (i : Int)))).setCell ⟨wo.heap.size, 1, none⟩ (.int .i64 (109 + 10 * (i : Int)))) wo.heap.size am capm m ⟨100 + 10 * (i : Int), 109 + 10 * (i : Int), wb, B, V⟩) := (hV.out.1.set 0 _ ⟨100 + 10 * (i : Int), t, wb, B, V⟩ rfl).set 1 _ ⟨100 + 10 * (i : Int), 109 + 10 * (i : Int), wb, B, V⟩ rfl
        clear hV HSC HO
        go_upto_if 101 with fail
        clear y0 y1 p0 p1
        generalize ((wc.setCell ⟨wo.heap.size, 0, none⟩ (.int .i64 (100 + 10 * (i : Int)))).setCell ⟨wo.heap.size, 1, none⟩ (.int .i64 (109 + 10 * (i : Int)))) = wB at HS3 ⊢
        go_cut [] (fun wx => ∃ F : Int, Hid (SC w wx wo.heap.size am capm m ⟨F, 109 + 10 * (i : Int), wb, B, V⟩ ∧ 0 ≤ F ∧ F ≤ 100 + 10 * (i : Int)))
        case first =>
          by_cases hi1 : i < n1
          · have hI := HH.out.2.2.2.2.2.1.below HS3.out.bel
            obtain ⟨g1, o1, rfl, hI'⟩ := hI.some_of (i := i) (by rw [HH.out.2.1]; exact hi1)
            have x1 := hI' i (by rw [HH.out.2.1]; exact hi1)
            obtain ⟨pk, hpk, hPK⟩ := pick_ok (gI e1 i) 100 (by omega) (by omega) (HB1.out.1 i)
            have HPK : Hid (∀ w, Calls Try.prog 6 #[.int .i64 (gI e1 i), .int .i64 100] w fun e w' => e = .returned (.int .i64 (pk : Nat)) ∧ w = w') := hPK
            obtain ⟨F0, hF0⟩ : ∃ F0 : Int, F0 = 100 + 10 * (i : Int) := ⟨_, rfl⟩
            have hFb : 100 ≤ F0 ∧ F0 ≤ 200 := by omega
            have y0 : wB.cell? ⟨wo.heap.size, 0, none⟩ = some (.int .i64 F0) := by rw [hF0]; exact HS3.out.st.cell 0
            have p0 := HS3.out.st.free 0
            have hw2 : IntKind.i64.wrap (F0 - (pk : Int)) = F0 - (pk : Int) := wrap_ok (by omega) (by omega)
            have HG : Hid (∃ F : Int, Hid (SC w (wB.setCell ⟨wo.heap.size, 0, none⟩ (.int .i64 (F0 - (pk : Int)))).drew wo.heap.size am capm m ⟨F, 109 + 10 * (i : Int), wb, B, V⟩ ∧ 0 ≤ F ∧ F ≤ 100 + 10 * (i : Int))) :=
              ⟨F0 - (pk : Int), (HS3.out.set 0 _ ⟨F0 - (pk : Int), 109 + 10 * (i : Int), wb, B, V⟩ rfl).below ((Below.refl _ _).drew), by omega, by omega⟩
            clear hPK hI hI' HS3 hF0
            go_wp2_with fail
            go_region_law (first | (refine step_call (by rfl) 6 Try.f6 Try.func6 (by kernel_rfl) (by kernel_rfl) #[.tmp 107, .const (.int .i64 100)] _ (by rfl) _ (by first | (simp [Act.eval]; done) | simp [Act.eval, Act.put]) _ _ (HPK.out _) ?_; rintro w' rfl))
            all_goals (clear HPK; go_wp2_with fail; go_meet; exact HG.out)
          · have HG : Hid (∃ F : Int, Hid (SC w wB wo.heap.size am capm m ⟨F, 109 + 10 * (i : Int), wb, B, V⟩ ∧ 0 ≤ F ∧ F ≤ 100 + 10 * (i : Int))) := ⟨_, HS3.out, by omega, by omega⟩
            clear HS3
            go_wp2_with fail
            go_meet
            exact HG.out
        case rest =>
        obtain ⟨F, hF⟩ := hcut
        have HS4 : Hid (SC w wc wo.heap.size am capm m ⟨F, 109 + 10 * (i : Int), wb, B, V⟩ ∧ 0 ≤ F ∧ F ≤ 100 + 10 * (i : Int)) := hF
        clear hF HS3
        go_upto_if 114 with fail
        obtain ⟨wD, rfl⟩ : ∃ wD, wD = wc := ⟨_, rfl⟩
        go_cut [] (fun wx => ∃ T : Int, Hid (SC w wx wo.heap.size am capm m ⟨F, T, wb, B, V⟩ ∧ 109 + 10 * (i : Int) ≤ T ∧ T ≤ 208 + 10 * (i : Int)))
        case first =>
          by_cases hi2 : i < n2
          · have hI := HH.out.2.2.2.2.2.2.below HS4.out.1.bel
            obtain ⟨g2, o2, rfl, hI'⟩ := hI.some_of (i := i) (by rw [HH.out.2.2.1]; exact hi2)
            have x1 := hI' i (by rw [HH.out.2.2.1]; exact hi2)
            obtain ⟨pk, hpk, hPK⟩ := pick_ok (gI e2 i) 100 (by omega) (by omega) (HB1.out.2 i)
            have HPK : Hid (∀ w, Calls Try.prog 6 #[.int .i64 (gI e2 i), .int .i64 100] w fun e w' => e = .returned (.int .i64 (pk : Nat)) ∧ w = w') := hPK
            obtain ⟨T0, hT0⟩ : ∃ T0 : Int, T0 = 109 + 10 * (i : Int) := ⟨_, rfl⟩
            have hFb : 100 ≤ T0 ∧ T0 ≤ 300 := by omega
            have y0 : wD.cell? ⟨wo.heap.size, 1, none⟩ = some (.int .i64 T0) := by rw [hT0]; exact HS4.out.1.st.cell 1
            have p0 := HS4.out.1.st.free 1
            have hw2 : IntKind.i64.wrap (T0 + (pk : Int)) = T0 + (pk : Int) := wrap_ok (by omega) (by omega)
            have HG : Hid (∃ T : Int, Hid (SC w (wD.setCell ⟨wo.heap.size, 1, none⟩ (.int .i64 (T0 + (pk : Int)))).drew wo.heap.size am capm m ⟨F, T, wb, B, V⟩ ∧ 109 + 10 * (i : Int) ≤ T ∧ T ≤ 208 + 10 * (i : Int))) :=
              ⟨T0 + (pk : Int), (HS4.out.1.set 1 _ ⟨F, T0 + (pk : Int), wb, B, V⟩ rfl).below ((Below.refl _ _).drew), by omega, by omega⟩
            clear hPK hI hI' HS4 hT0
            go_wp2_with fail
            go_region_law (first | (refine step_call (by rfl) 6 Try.f6 Try.func6 (by kernel_rfl) (by kernel_rfl) #[.tmp 120, .const (.int .i64 100)] _ (by rfl) _ (by first | (simp [Act.eval]; done) | simp [Act.eval, Act.put]) _ _ (HPK.out _) ?_; rintro w' rfl))
            all_goals (clear HPK; go_wp2_with fail; go_meet; exact HG.out)
          · have HG : Hid (∃ T : Int, Hid (SC w wD wo.heap.size am capm m ⟨F, T, wb, B, V⟩ ∧ 109 + 10 * (i : Int) ≤ T ∧ T ≤ 208 + 10 * (i : Int))) := ⟨_, HS4.out.1, by omega, by omega⟩
            clear HS4
            go_wp2_with fail
            go_meet
            exact HG.out
        case rest =>
        obtain ⟨T, hT⟩ := hcut
        have HR5 : Hid (Ser (m ++ [⟨F, T, wb, B, V⟩])) := by
          obtain ⟨hml, hs⟩ := HM.out
          subst hml
          exact hs.snoc HS4.out.2.1 HS4.out.2.2 hT.out.2.1 (by show 0 ≤ (B : Int); omega) HV.out.1 HV.out.2.1 HV.out.2.2
        obtain ⟨wE, rfl⟩ : ∃ wE, wE = wc := ⟨_, rfl⟩
        have HS5 : Hid (SC w wE wo.heap.size am capm m ⟨F, T, wb, B, V⟩) := hT.out.1
        have y0 : wE.cell? ⟨wo.heap.size, 0, none⟩ = some (.int .i64 F) := hT.out.1.st.cell 0
        have y1 : wE.cell? ⟨wo.heap.size, 1, none⟩ = some (.int .i64 T) := hT.out.1.st.cell 1
        have y2 : wE.cell? ⟨wo.heap.size, 2, none⟩ = some (.bool wb) := hT.out.1.st.cell 2
        have y3 : wE.cell? ⟨wo.heap.size, 3, none⟩ = some (.int .i64 (B : Nat)) := hT.out.1.st.cell 3
        have y4 : wE.cell? ⟨wo.heap.size, 4, none⟩ = some (.int .i64 V) := hT.out.1.st.cell 4
        have HOo : Hid (OwnC (wE.alloc (.cells #[.int .i64 F, .int .i64 T, .bool wb, .int .i64 (B : Nat), .int .i64 V] 29)) w.heap.size am capm m) := hT.out.1.own.below (alloc_below' wE _)
        have HSo : Hid (w.heap.size ≤ (wE.alloc (.cells #[.int .i64 F, .int .i64 T, .bool wb, .int .i64 (B : Nat), .int .i64 V] 29)).heap.size) := Nat.le_trans hT.out.1.bel.size (alloc_below' wE _).size
        clear hT HS4 HV
        have HNX : Hid (∀ a9 cap9 w9, OwnC w9 w.heap.size a9 cap9 (m ++ [(⟨F, T, wb, B, V⟩ : Cl)]) → Keep (blk am) (wE.alloc (.cells #[.int .i64 F, .int .i64 T, .bool wb, .int .i64 (B : Nat), .int .i64 V] 29)) w9 → (OwnC w9 w.heap.size a9 cap9 (m ++ [(⟨F, T, wb, B, V⟩ : Cl)]) ∧ Below w.heap.size w w9 ∧ (m ++ [(⟨F, T, wb, B, V⟩ : Cl)]).length = i + 1 ∧ Ser (m ++ [(⟨F, T, wb, B, V⟩ : Cl)]))) :=
          fun a9 cap9 w9 ho9 hk9 => ⟨ho9, (HS5.out.bel.trans ((alloc_below' wE _).mono HS5.out.bel.size)).trans (hk9.below HSo.out (fun b e => (HS5.out.own.blk e).1)), by simp [HM.out.1], HR5.out⟩
        have HL1 : Hid ((m ++ [(⟨F, T, wb, B, V⟩ : Cl)]).length = i + 1) := by
          show (m ++ [(⟨F, T, wb, B, V⟩ : Cl)]).length = i + 1
          simp [HM.out.1]
        go_wp2_with (at_builtin; refine app_stepCq rfl (.tmp 124) (.tmp 126) (by rfl) w.heap.size am capm i m HM.out.1 (by rfl) HOo.out (some ⟨wE.heap.size, 0, none⟩) 1 1 [(⟨F, T, wb, B, V⟩ : Cl)] rfl (by rfl) (fun e => by cases e) (cl_one wE _) (i + 1) HL1.out (by omega) HSo.out ?_; intro a9 cap9 w9 ho9 hk9; have H9 := HNX.out a9 cap9 w9 ho9 hk9; clear ho9 hk9)
        exact ⟨⟨i + 1, _, a9, cap9, by omega, by go_num, rfl, H9⟩, by simp [intOf]; omega⟩
      · obtain rfl : i = n0 := by omega
        obtain ⟨wo, rfl⟩ : ∃ wo, wo = wr := ⟨_, rfl⟩
        clear hlt
        have h10' : i ≤ 10 := by omega
        obtain ⟨r, hr1, hr2, hr3, hr4⟩ := hR.out.2.2.2.has (by rw [hR.out.2.2.1]; omega)
        have hmn := hR.out.2.2.1
        have hrl : r.length = i := by rw [hr3, hmn]
        have HM : Hid (m.length = i ∧ Ser m ∧ OwnC wo w.heap.size am capm m ∧ Below w.heap.size w wo) := ⟨hmn, hR.out.2.2.2, hR.out.1, hR.out.2.1⟩
        have HFF : Hid (Calls Try.prog 5 #[.slice am i capm] wo fun e w' => ∃ oa oc, e = .returned (.tuple #[.slice oa i oc, .nilIface]) ∧ Hid (IL w' oa (orI r) ∧ OwnC w' w.heap.size am capm m ∧ Below w.heap.size w w')) :=
          (find_any am i capm m wo hmn hR.out.1.cl (fun k hk => (hR.out.2.2.2 k (by rw [hmn]; exact hk)).vm)).mono fun e w' h => by
            obtain ⟨oa, oc, h1, h2, h3⟩ := h.ok hr1
            exact ⟨oa, oc, by rw [hrl] at h1; exact h1, h2.il, hR.out.1.below h3, hR.out.2.1.trans (h3.mono hR.out.2.1.size)⟩
        have HRR : Hid (∀ oa oc w', IL w' oa (orI r) → OwnC w' w.heap.size am capm m → Below w.heap.size w w' → Calls Try.prog 7 #[.slice am i capm, .slice oa i oc] w' fun e w'' => e = .returned (.bool true) ∧ Hid (OwnC w'' w.heap.size am capm m ∧ Below w.heap.size w w'')) := fun oa oc w' q1 q2 q3 => by
          refine (right_any am i capm oa i oc m r w' hmn hrl h0 h0 q2.cl q1 (fun x hx => by have := hr4 x hx; omega)).mono ?_
          rintro e w'' ⟨b, rfl, hbb, hb2⟩
          rw [hbb.2 hr2]
          exact ⟨rfl, q2.below hb2, q3.trans (hb2.mono q3.size)⟩
        clear hR hr1 hr2 hr3 hr4 hmn hrl
        go_wp2_with fail
        refine HFF.out.mono ?_
        rintro e w5 ⟨oa2, oc2, rfl, H5⟩
        have HR5 : Hid (Calls Try.prog 7 #[.slice am i capm, .slice oa2 i oc2] w5 fun e w'' => e = .returned (.bool true) ∧ Hid (OwnC w'' w.heap.size am capm m ∧ Below w.heap.size w w'')) := HRR.out oa2 oc2 w5 H5.out.1 H5.out.2.1 H5.out.2.2
        clear HRR HFF H5
        go_wp2_with fail
        refine HR5.out.mono ?_
        rintro e w6 ⟨rfl, H6⟩
        clear HR5
        go_wp2
        go_loopw [15] (fun j wr => ∃ (q : Nat), q ≤ i ∧ j = .int .i64 q ∧ Hid (OwnC wr w.heap.size am capm m ∧ Below w.heap.size w wr)) (fun j _ => i - (intOf j).toNat)
        case atStart => exact ⟨0, Nat.zero_le _, rfl, H6.out⟩
        case round =>
          obtain ⟨q, hq, rfl, hR⟩ := hrel
          clear H6
          by_cases hlt : q < i
          · obtain ⟨wq, rfl⟩ : ∃ wq, wq = wr := ⟨_, rfl⟩
            obtain ⟨gm, rfl⟩ : ∃ gm, am = some ⟨gm, 0, none⟩ := hR.out.1.some_of (by rw [HM.out.1]; omega)
            obtain ⟨d2, _, _⟩ := hR.out.1.at2 (i := q) (by rw [HM.out.1]; exact hlt)
            obtain ⟨wy, HWY⟩ : ∃ wy, Hid (wy = (gC m q).w) := ⟨_, rfl⟩
            rw [← HWY.out] at d2
            cases wy with
            | true =>
              go_wp2
              exact ⟨⟨q + 1, by omega, by go_num, hR.out⟩, by simp [intOf]; omega⟩
            | false =>
              have hcap : i ≤ capm := by have := hR.out.1.cap; rw [HM.out.1] at this; exact this
              obtain ⟨r2, hr2⟩ := Ser.rest HM.out.2.1 (by rw [HM.out.1]; omega) (q := q) (by rw [HM.out.1]; exact hlt) HWY.out.symm
              have hsl1 := fun wz => sliceC_to (some ⟨gm, 0, none⟩) i capm q (by omega) wz
              have hsl2 := fun wz => sliceC_from (some ⟨gm, 0, none⟩) i capm (q + 1) (by omega) hcap wz
              rw [Int.natCast_add] at hsl2
              have HL2 : Hid ((m.take q).length = q ∧ (m.drop (q + 1)).length = i - (q + 1) ∧ (m.take q ++ m.drop (q + 1)).length = i - 1) := by
                have := HM.out.1
                refine ⟨?_, ?_, ?_⟩
                · rw [List.length_take]; omega
                · rw [List.length_drop]; omega
                · rw [List.length_append, List.length_take, List.length_drop]; omega
              have HN2 : Hid (dropC (some ⟨gm, 0, none⟩) capm (q + 1) = none → capm - (q + 1) = 0) := fun e => by unfold dropC at e; split at e <;> simp at e
              have HO0 : Hid (OwnC (wq.alloc (.cells #[] 29)) w.heap.size (some ⟨wq.heap.size, 0, none⟩) 0 []) := OwnC.new wq w.heap.size hR.out.2.size [] (by simp) #[] rfl
              have HC1 : Hid (CL (wq.alloc (.cells #[] 29)) (some ⟨gm, 0, none⟩) (m.take q)) := (hR.out.1.cl.take q).below (alloc_below' wq _)
              have HC2 : Hid (∀ w7, Below wq.heap.size wq w7 → CL w7 (dropC (some ⟨gm, 0, none⟩) capm (q + 1)) (m.drop (q + 1))) := fun w7 hb => (hR.out.1.cl.drop (q + 1) hR.out.1.cap).below hb
              have HS0 : Hid (w.heap.size ≤ (wq.alloc (.cells #[] 29)).heap.size) := Nat.le_trans hR.out.2.size (alloc_below' wq _).size
              have HN7 : Hid (∀ a7 cap7 w7, OwnC w7 w.heap.size a7 cap7 (m.take q) → Keep (blk (some ⟨wq.heap.size, 0, none⟩)) (wq.alloc (.cells #[] 29)) w7 → OwnC w7 w.heap.size a7 cap7 (m.take q) ∧ Below wq.heap.size wq w7 ∧ Below w.heap.size w w7) := fun a7 cap7 w7 ho hk => by
                have hb : Below wq.heap.size wq w7 := (alloc_below' wq _).trans (hk.below (alloc_below' wq _).size (fun b e => by obtain ⟨x, e, rfl⟩ := e; cases e; exact Nat.le_refl _))
                exact ⟨ho, hb, hR.out.2.trans (hb.mono hR.out.2.size)⟩
              have HF3 : Hid (∀ a8 cap8 w8, OwnC w8 w.heap.size a8 cap8 (m.take q ++ m.drop (q + 1)) → Below w.heap.size w w8 → Calls Try.prog 5 #[.slice a8 (i - 1) cap8] w8 fun e w' => ∃ oa oc, e = .returned (.tuple #[.slice oa r2.length oc, .nilIface]) ∧ Below w.heap.size w w') := fun a8 cap8 w8 ho hb =>
                (find_any a8 (i - 1) cap8 _ w8 HL2.out.2.2 ho.cl (fun k hk => by
                  rw [gC_rest (by rw [HM.out.1]; exact hlt)]
                  exact (HM.out.2.1 _ (by rw [HM.out.1]; split <;> omega)).vm)).mono fun e w' h => by
                  obtain ⟨oa, oc, h1, h2, h3⟩ := h.ok hr2
                  exact ⟨oa, oc, h1, hb.trans (h3.mono hb.size)⟩
              clear hR hr2
              go_upto_region 38 with (at_builtin; refine app_stepCq rfl (.tmp 159) (.tmp 162) (by rfl) w.heap.size (some ⟨wq.heap.size, 0, none⟩) 0 0 [] rfl (by rfl) HO0.out (some ⟨gm, 0, none⟩) q capm (m.take q) HL2.out.1 (by rfl) (fun e => by cases e) HC1.out q HL2.out.1 (by omega) HS0.out ?_; intro a7 cap7 w7 ho7 hk7; have H7 := HN7.out a7 cap7 w7 ho7 hk7; clear ho7 hk7)
              have HC7 : Hid (CL w7 (dropC (some ⟨gm, 0, none⟩) capm (q + 1)) (m.drop (q + 1))) := HC2.out w7 H7.2.1
              have H7O : Hid (OwnC w7 w.heap.size a7 cap7 (m.take q) ∧ Below w.heap.size w w7) := ⟨H7.1, H7.2.2⟩
              clear H7 HN7 HO0 HC1 HC2 HS0 hsl1 d2
              go_upto_region 39 with (at_builtin; refine app_stepCq rfl (.tmp 164) (.tmp 168) (by rfl) w.heap.size a7 cap7 q (m.take q) HL2.out.1 (by rfl) H7O.out.1 (dropC (some ⟨gm, 0, none⟩) capm (q + 1)) (i - (q + 1)) (capm - (q + 1)) (m.drop (q + 1)) HL2.out.2.1 (by simp [Act.eval, dropC, Go.WideShapes.add_plain]) HN2.out HC7.out (i - 1) HL2.out.2.2 (by omega) H7O.out.2.size ?_; intro a8 cap8 w8 ho8 hk8; have H8 : Hid (OwnC w8 w.heap.size a8 cap8 (m.take q ++ m.drop (q + 1)) ∧ Below w.heap.size w w8) := ⟨ho8, H7O.out.2.trans (hk8.below H7O.out.2.size (fun b e => (H7O.out.1.blk e).1))⟩; clear ho8 hk8)
              have HF8 : Hid (Calls Try.prog 5 #[.slice a8 (i - 1) cap8] w8 fun e w' => ∃ oa oc, e = .returned (.tuple #[.slice oa r2.length oc, .nilIface]) ∧ Below w.heap.size w w') := HF3.out a8 cap8 w8 H8.out.1 H8.out.2
              clear HF3 H8 H7O HC7 hsl2
              go_wp2_with fail
              all_goals
                refine HF8.out.mono ?_
                rintro e w9 ⟨oa9, oc9, rfl, hb9⟩
                clear HF8
                go_wp2
                go_ret
                exact ⟨rfl, hb9⟩
          · obtain rfl : q = i := by omega
            clear hlt
            go_wp2
            go_ret
            exact ⟨rfl, hR.out.2⟩
end Go.Proofs.Ytohngekkbgklfaa
