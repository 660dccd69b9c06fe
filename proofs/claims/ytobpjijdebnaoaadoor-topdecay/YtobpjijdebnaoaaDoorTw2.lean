/- Part of the proof. -/
import Derived.Test.YtobpjijdebnaoaaDoorTw1
import Derived.Test.YtobpjijdebnaoaaDoorQFacts
import Derived.Test.YtobpjijdebnaoaaDoorQ3
import Derived.Test.YtobpjijdebnaoaaDoorF3
namespace Go.Proofs.YtobpjijdebnaoaaDoor
open Go Go.Conc
open Go.Proofs.YtobpjijdebnaoaaDoorQ (Al.lookB)
/-- A page as it lies there. -/
structure MetP (w : World) (ha : Option Addr) (hl hc : Nat) : Prop where
  cap : hl ≤ hc
  most : (hl : Int) ≤ 9223372036854775807
  byte : ∀ j, j < hl → ∃ bd z, ha = some bd ∧ w.cell? (bd.add j) = some (.int .u8 z) ∧ 0 ≤ z ∧ z ≤ 255
/-- Pages as they lie there. -/
def Met (w : World) (pa : Option Addr) (l : Nat) : Prop := ∀ i, i < l → ∃ ad ha hl hc, pa = some ad ∧ w.cell? (ad.add i) = some (.slice ha hl hc) ∧ MetP w ha hl hc
section
variable {Fin : Goroutine → World → Prop} {b : Frame} {cs : List Frame} {fns : Fx} {Z : Nat → Prop} {E : Nat → Nat → Prop} {gh re : World}
/-- The slots, and how many. -/
structure Sl (a : Act) (pv nv : Value) : Prop where
  size : a.tmps.size = 48
  s0 : a.eval (.tmp 0) = pv
  s1 : a.eval (.tmp 1) = nv
theorem u_pages : (YtobpjijdebnaoaaDoorQ.Al.progOf Tryd.prog).underlying 42 = some (.slice 22) := by kernel_rfl
theorem u_page : (YtobpjijdebnaoaaDoorQ.Al.progOf Tryd.prog).underlying 22 = some (.slice 5) := by kernel_rfl
theorem sz_page (w : World) : (Go.sizeOf 22).run (YtobpjijdebnaoaaDoorQ.Al.progOf Tryd.prog) w = .ok 1 w := by kernel_rfl
theorem sz_u8 (w : World) : (Go.sizeOf 5).run (YtobpjijdebnaoaaDoorQ.Al.progOf Tryd.prog) w = .ok 1 w := by kernel_rfl
theorem ag_page (w : World) : (isAgg 22).run (YtobpjijdebnaoaaDoorQ.Al.progOf Tryd.prog) w = .ok false w := by kernel_rfl
theorem ag_u8 (w : World) : (isAgg 5).run (YtobpjijdebnaoaaDoorQ.Al.progOf Tryd.prog) w = .ok false w := by kernel_rfl
abbrev lookIn : Code := match Al.lookB with
  | .seq _ (.seq _ (.seq _ (.seq _ (.seq _ (.seq (.block _ (.loop (.seq _ (.seq _ (.seq (.block _ (.seq _ (.seq _ (.seq _ (.seq _ (.block _ (.loop x))))))) _))))) _))))) => x
  | x => x
abbrev lookOut : Code := match Al.lookB with
  | .seq _ (.seq _ (.seq _ (.seq _ (.seq _ (.seq (.block _ (.loop x)) _))))) => x
  | x => x
abbrev lookRest : Code := match Al.lookB with
  | .seq _ (.seq _ (.seq _ (.seq _ (.seq _ (.seq _ x))))) => x
  | x => x
/-- The bytes of one page, from j on. -/
theorem in_met {ha : Option Addr} {ha' : Option Addr} {hl hc i l : Nat} {k : List Item} {pv nv : Value} (hw : WR (YtobpjijdebnaoaaDoorQ.Al.progOf Tryd.prog) fns E Z gh re) (hOS : hl = 0 ∨ OS fns E ha ha') (hn : ha = none → hl = 0) (hm : (hl : Int) ≤ 9223372036854775807) : ∀ (r j : Nat), j + r = hl → ∀ (a : Act), Sl a pv nv → a.eval (.tmp 8) = .int .i64 (l : Int) → a.eval (.tmp 11) = .int .i64 (i : Int) → a.eval (.tmp 14) = .slice ha hl hc → a.eval (.tmp 16) = .int .i64 (hl : Int) → a.eval (.tmp 17) = .int .i64 (j : Int) →
    RT (YtobpjijdebnaoaaDoorQ.Al.progOf Tryd.prog) Fin b cs a (.code lookIn :: .inLoop lookIn :: .inBlock 2 :: k) gh →
    (∀ j', j ≤ j' → j' < hl → ∃ bd z, ha = some bd ∧ gh.cell? (bd.add j') = some (.int .u8 z) ∧ 0 ≤ z ∧ z ≤ 255) ∧ ∃ a', Sl a' pv nv ∧ a'.eval (.tmp 8) = .int .i64 (l : Int) ∧ a'.eval (.tmp 11) = .int .i64 (i : Int) ∧ RT (YtobpjijdebnaoaaDoorQ.Al.progOf Tryd.prog) Fin b cs a' k gh
  | 0, j, e, a, hs, h8, h11, h14, h16, h17, h => by
    obtain rfl : j = hl := by omega
    refine ⟨fun j' h1 h2 => by omega, ?_⟩
    obtain ⟨n, hn1, h1⟩ := h.seq.region.lss (d := 18) rfl h16
    rw [h17] at hn1
    obtain rfl : (j : Int) = n := by injection hn1
    have hd : decide ((j : Int) < (j : Int)) = false := by simp
    rw [hd] at h1
    have sz := hs.size
    have h2 := h1.over.seq.cond (t := false) (eval_same 18 _ (by omega))
    have h3 := h2.exit (k' := k) rfl
    exact ⟨_, ⟨by rw [put_size]; exact sz, by rw [eval_other _ (by decide)]; exact hs.s0, by rw [eval_other _ (by decide)]; exact hs.s1⟩, by rw [eval_other _ (by decide)]; exact h8, by rw [eval_other _ (by decide)]; exact h11, h3⟩
  | r + 1, j, e, a, hs, h8, h11, h14, h16, h17, h => by
    have sz := hs.size
    obtain ⟨n, hn1, h1⟩ := h.seq.region.lss (d := 18) rfl h16
    rw [h17] at hn1
    obtain rfl : (j : Int) = n := by injection hn1
    have hd : decide ((j : Int) < (hl : Int)) = true := by simp; omega
    rw [hd] at h1
    have h2 := h1.over.seq.cond (t := true) (eval_same 18 _ (by omega))
    have h3 := h2.skip.seq.block.seq.region
    obtain ⟨ad, rfl⟩ : ∃ ad, ha = some ad := by
      cases ha with
      | none => have := hn rfl; omega
      | some ad => exact ⟨ad, rfl⟩
    obtain ⟨ad', rfl, hAS⟩ := os_some.1 (hOS.resolve_left (by omega))
    have h4 := h3.idx (d := 19) (n := j) u_page sz_u8 rfl (by rw [eval_other _ (by decide)]; exact h14) (by rw [eval_other _ (by decide)]; exact h17) (by omega)
    obtain ⟨v, hv, h5⟩ := h4.load (d := 20) ag_u8 hw (hAS.add j) rfl (eval_same 19 _ (by rw [put_size]; omega))
    obtain ⟨z, hz, h6⟩ := h5.gtr (d := 44) (ik := .u8) (m := 255) rfl rfl
    rw [eval_same 20 _ (by rw [put_size, put_size]; omega)] at hz
    subst hz
    obtain ⟨z', hz, h7⟩ := h6.lss (d := 45) (ik := .u8) (m := 0) rfl rfl
    rw [eval_other _ (by decide), eval_same 20 _ (by rw [put_size, put_size]; omega)] at hz
    obtain rfl : z = z' := by injection hz
    have h8' := h7.over.seq
    have ev44 : ∀ v v', ((((((a.put (some 18) (.bool true)).put (some 19) v).put (some 20) (.int .u8 z)).put (some 44) (.bool (decide (z > 255)))).put (some 45) v')).eval (.tmp 44) = .bool (decide (z > 255)) := fun v v' => by
      rw [eval_other _ (by decide), eval_same 44 _ (by simp only [put_size]; omega)]
    have h9 := h8'.cond (ev44 _ _)
    have c1 : decide (z > 255) = false := by
      by_cases hc1 : z > 255
      · rw [decide_eq_true hc1] at h9
        exact (h9.stuck (ik := .u8) (n := z) (by simp only [eval_other _ (show (20 : Nat) ≠ 45 by decide), eval_other _ (show (20 : Nat) ≠ 44 by decide)]; exact eval_same 20 _ (by simp only [put_size]; omega))).elim
      · simpa using hc1
    rw [c1] at h9
    have h10 := h9.skip.cond (eval_same 45 _ (by simp only [put_size]; omega))
    have c2 : decide (z < 0) = false := by
      by_cases hc2 : z < 0
      · rw [decide_eq_true hc2] at h10
        exact (h10.stuck (ik := .u8) (n := z) (by simp only [eval_other _ (show (20 : Nat) ≠ 45 by decide), eval_other _ (show (20 : Nat) ≠ 44 by decide)]; exact eval_same 20 _ (by simp only [put_size]; omega))).elim
      · simpa using hc2
    rw [c2] at h10
    have hz0 : 0 ≤ z ∧ z ≤ 255 := by
      have a1 := of_decide_eq_false c1
      have a2 := of_decide_eq_false c2
      omega
    have h11' := h10.skip.inBlock.region
    have q17 : ∀ v1 v2 v3 v4 v5, ((((((a.put (some 18) v1).put (some 19) v2).put (some 20) v3).put (some 44) v4).put (some 45) v5)).eval (.tmp 17) = .int .i64 (j : Int) := fun v1 v2 v3 v4 v5 => by simp only [eval_other _ (show (17 : Nat) ≠ 45 by decide), eval_other _ (show (17 : Nat) ≠ 44 by decide), eval_other _ (show (17 : Nat) ≠ 20 by decide), eval_other _ (show (17 : Nat) ≠ 19 by decide), eval_other _ (show (17 : Nat) ≠ 18 by decide)]; exact h17
    have h12 := h11'.add (d := 46) (m := 1) rfl (q17 _ _ _ _ _) rfl
    have hwrap : IntKind.i64.wrap ((j : Int) + 1) = ((j + 1 : Nat) : Int) := by rw [IntKind.wrap_i64]; omega
    rw [hwrap] at h12
    have h13 := (h12.move (d := 17) rfl).over.inLoop
    rw [eval_same 46 _ (by simp only [put_size]; omega)] at h13
    have pass : ∀ {x : Nat} {v1 v2 v3 v4 v5 v6 v7 : Value}, x ≠ 17 → x ≠ 46 → x ≠ 45 → x ≠ 44 → x ≠ 20 → x ≠ 19 → x ≠ 18 → ((((((((a.put (some 18) v1).put (some 19) v2).put (some 20) v3).put (some 44) v4).put (some 45) v5).put (some 46) v6).put (some 17) v7)).eval (.tmp x) = a.eval (.tmp x) := fun n1 n2 n3 n4 n5 n6 n7 => by
      rw [eval_other _ n1, eval_other _ n2, eval_other _ n3, eval_other _ n4, eval_other _ n5, eval_other _ n6, eval_other _ n7]
    obtain ⟨k1, k2⟩ := in_met hw (.inr (os_some.2 ⟨ad', rfl, hAS⟩)) hn hm r (j + 1) (by omega) _ ⟨by simp only [put_size]; exact sz, (pass (by decide) (by decide) (by decide) (by decide) (by decide) (by decide) (by decide)).trans hs.s0, (pass (by decide) (by decide) (by decide) (by decide) (by decide) (by decide) (by decide)).trans hs.s1⟩
      ((pass (by decide) (by decide) (by decide) (by decide) (by decide) (by decide) (by decide)).trans h8) ((pass (by decide) (by decide) (by decide) (by decide) (by decide) (by decide) (by decide)).trans h11) ((pass (by decide) (by decide) (by decide) (by decide) (by decide) (by decide) (by decide)).trans h14) ((pass (by decide) (by decide) (by decide) (by decide) (by decide) (by decide) (by decide)).trans h16) (eval_same 17 _ (by simp only [put_size]; omega)) h13
    refine ⟨fun j' g1 g2 => ?_, k2⟩
    by_cases hj : j' = j
    · subst hj
      exact ⟨ad, z, rfl, hv, hz0⟩
    · exact k1 j' (by omega) g2
end
section
variable {Fin : Goroutine → World → Prop} {b : Frame} {cs : List Frame} {fns : Fx} {Z : Nat → Prop} {E : Nat → Nat → Prop} {gh re : World}
theorem out_met {pa pa' : Option Addr} {l c : Nat} {k : List Item} {nv : Value} (hw : WR (YtobpjijdebnaoaaDoorQ.Al.progOf Tryd.prog) fns E Z gh re) (hOS : l = 0 ∨ OS fns E pa pa') (hn : pa = none → l = 0) (hm : l ≤ 4096) : ∀ (r i : Nat), i + r = l → ∀ (a : Act), Sl a (.slice pa l c) nv → a.eval (.tmp 8) = .int .i64 (l : Int) → a.eval (.tmp 11) = .int .i64 (i : Int) →
    RT (YtobpjijdebnaoaaDoorQ.Al.progOf Tryd.prog) Fin b cs a (.code lookOut :: .inLoop lookOut :: .inBlock 0 :: k) gh →
    ∀ i', i ≤ i' → i' < l → ∃ ad ha hl hc, pa = some ad ∧ gh.cell? (ad.add i') = some (.slice ha hl hc) ∧ MetP gh ha hl hc
  | 0, i, e, a, hs, h8, h11, h => fun i' h1 h2 => by omega
  | r + 1, i, e, a, hs, h8, h11, h => by
    have sz := hs.size
    obtain ⟨n, hn1, h1⟩ := h.seq.region.lss (d := 12) rfl h8
    rw [h11] at hn1
    obtain rfl : (i : Int) = n := by injection hn1
    have hd : decide ((i : Int) < (l : Int)) = true := by simp; omega
    rw [hd] at h1
    have h2 := h1.over.seq.cond (t := true) (eval_same 12 _ (by omega))
    have h3 := h2.skip.seq.block.seq.region
    obtain ⟨ad, rfl⟩ : ∃ ad, pa = some ad := by
      cases pa with
      | none => have := hn rfl; omega
      | some ad => exact ⟨ad, rfl⟩
    obtain ⟨ad', rfl, hAS⟩ := os_some.1 (hOS.resolve_left (by omega))
    have h4 := h3.idx (d := 13) (n := i) u_pages sz_page rfl (by rw [eval_other _ (by decide)]; exact hs.s0) (by rw [eval_other _ (by decide)]; exact h11) (by omega)
    obtain ⟨v, hv, h5⟩ := h4.load (d := 14) ag_page hw (hAS.add i) rfl (eval_same 13 _ (by rw [put_size]; omega))
    obtain ⟨ha, hl, hc, hve, h6⟩ := h5.len (d := 16) u_page rfl
    rw [eval_same 14 _ (by simp only [put_size]; omega)] at hve
    subst hve
    obtain ⟨v', _, hvr⟩ := hw.cell (hAS.add i) hv
    obtain ⟨ha', rfl, hOS2⟩ := vr_slice.1 hvr
    have h7 := h6.eqnil (d := 15) (pa := ha) (l := hl) (c := hc) u_page rfl (by rw [eval_other _ (by decide)]; exact eval_same 14 _ (by simp only [put_size]; omega))
    obtain ⟨n1, e1, h8'⟩ := h7.gtr (d := 21) (ik := .i64) (m := 0) rfl rfl
    rw [eval_other _ (by decide), eval_same 16 _ (by simp only [put_size]; omega)] at e1
    obtain rfl : (hl : Int) = n1 := by injection e1
    have h9 := h8'.cap (d := 22) (pa := ha) (l := hl) (c := hc) u_page rfl (by rw [eval_other _ (by decide), eval_other _ (by decide), eval_other _ (by decide)]; exact eval_same 14 _ (by simp only [put_size]; omega))
    obtain ⟨n2, e2, h10⟩ := h9.gtr (d := 23) (ik := .i64) (m := (hc : Int)) rfl (eval_same 22 _ (by simp only [put_size]; omega))
    rw [eval_other _ (by decide), eval_other _ (by decide), eval_other _ (by decide), eval_same 16 _ (by simp only [put_size]; omega)] at e2
    obtain rfl : (hl : Int) = n2 := by injection e2
    obtain ⟨n3, e3, h11'⟩ := h10.gtr (d := 24) (ik := .i64) (m := 9223372036854775807) rfl rfl
    rw [eval_other _ (by decide), eval_other _ (by decide), eval_other _ (by decide), eval_other _ (by decide), eval_same 16 _ (by simp only [put_size]; omega)] at e3
    obtain rfl : (hl : Int) = n3 := by injection e3
    have h12 := (h11'.move (d := 17) rfl).over.seq
    have q16 : ∀ {v12 v13 v14 v15 v21 v22 v23 v24 v17 : Value}, (((((((((((a.put (some 12) v12).put (some 13) v13).put (some 14) v14).put (some 16) (.int .i64 (hl : Int))).put (some 15) v15).put (some 21) v21).put (some 22) v22).put (some 23) v23).put (some 24) v24).put (some 17) v17)).eval (.tmp 16) = .int .i64 (hl : Int) := fun {v12 v13 v14 v15 v21 v22 v23 v24 v17} => by
      rw [eval_other _ (by decide), eval_other _ (by decide), eval_other _ (by decide), eval_other _ (by decide), eval_other _ (by decide), eval_other _ (by decide)]
      exact eval_same 16 _ (by simp only [put_size]; omega)
    -- nil with bytes
    obtain ⟨hnil0, h15⟩ := h12.guard2 (t := ha.isNone) (s := decide ((hl : Int) > 0)) (by
      rw [eval_other _ (by decide), eval_other _ (by decide), eval_other _ (by decide), eval_other _ (by decide), eval_other _ (by decide)]
      exact eval_same 15 _ (by simp only [put_size]; omega)) (by
      rw [eval_other _ (by decide), eval_other _ (by decide), eval_other _ (by decide), eval_other _ (by decide)]
      exact eval_same 21 _ (by simp only [put_size]; omega)) q16
    have hnil : ha = none → hl = 0 := fun e => by
      have := of_decide_eq_false (hnil0 (by rw [e]; rfl))
      omega
    obtain ⟨hcap0, h16⟩ := h15.seq.guard1 (t := decide ((hl : Int) > (hc : Int))) (by
      rw [eval_other _ (by decide), eval_other _ (by decide)]
      exact eval_same 23 _ (by simp only [put_size]; omega)) q16
    have hcap := of_decide_eq_false hcap0
    obtain ⟨hmost0, h17⟩ := h16.seq.guard1 (t := decide ((hl : Int) > 9223372036854775807)) (by
      rw [eval_other _ (by decide)]
      exact eval_same 24 _ (by simp only [put_size]; omega)) q16
    have hmost := of_decide_eq_false hmost0
    have h18 := h17.block.loop
    have pass : ∀ {x : Nat} {v12 v13 v14 v16 v15 v21 v22 v23 v24 v17 : Value}, x ≠ 17 → x ≠ 24 → x ≠ 23 → x ≠ 22 → x ≠ 21 → x ≠ 15 → x ≠ 16 → x ≠ 14 → x ≠ 13 → x ≠ 12 → (((((((((((a.put (some 12) v12).put (some 13) v13).put (some 14) v14).put (some 16) v16).put (some 15) v15).put (some 21) v21).put (some 22) v22).put (some 23) v23).put (some 24) v24).put (some 17) v17)).eval (.tmp x) = a.eval (.tmp x) := fun n1 n2 n3 n4 n5 n6 n7 n8 n9 n10 => by
      rw [eval_other _ n1, eval_other _ n2, eval_other _ n3, eval_other _ n4, eval_other _ n5, eval_other _ n6, eval_other _ n7, eval_other _ n8, eval_other _ n9, eval_other _ n10]
    obtain ⟨k1, a', hs', g8, g11, h19⟩ := in_met (l := l) (i := i) hw (hOS2.elim .inr fun x => .inl x.1) hnil (by omega) hl 0 (by omega) _ ⟨by simp only [put_size]; exact sz, (pass (by decide) (by decide) (by decide) (by decide) (by decide) (by decide) (by decide) (by decide) (by decide) (by decide)).trans hs.s0, (pass (by decide) (by decide) (by decide) (by decide) (by decide) (by decide) (by decide) (by decide) (by decide) (by decide)).trans hs.s1⟩
      ((pass (by decide) (by decide) (by decide) (by decide) (by decide) (by decide) (by decide) (by decide) (by decide) (by decide)).trans h8) ((pass (by decide) (by decide) (by decide) (by decide) (by decide) (by decide) (by decide) (by decide) (by decide) (by decide)).trans h11)
      (by
        rw [eval_other _ (show (14 : Nat) ≠ 17 by decide), eval_other _ (show (14 : Nat) ≠ 24 by decide), eval_other _ (show (14 : Nat) ≠ 23 by decide), eval_other _ (show (14 : Nat) ≠ 22 by decide), eval_other _ (show (14 : Nat) ≠ 21 by decide), eval_other _ (show (14 : Nat) ≠ 15 by decide), eval_other _ (show (14 : Nat) ≠ 16 by decide), eval_same 14 _ (by simp only [put_size]; omega)]) q16 (eval_same 17 _ (by simp only [put_size]; omega)) h18
    have h20 := h19.inBlock.region
    have h21 := h20.add (d := 47) (m := 1) rfl g11 rfl
    have hwrap : IntKind.i64.wrap ((i : Int) + 1) = ((i + 1 : Nat) : Int) := by rw [IntKind.wrap_i64]; omega
    rw [hwrap] at h21
    have h22 := (h21.move (d := 11) rfl).over.inLoop
    have sz' := hs'.size
    rw [eval_same 47 _ (by omega)] at h22
    have ih := out_met (nv := nv) (c := c) hw (.inr (os_some.2 ⟨ad', rfl, hAS⟩)) hn hm r (i + 1) (by omega) _ ⟨by simp only [put_size]; exact sz', by rw [eval_other _ (by decide), eval_other _ (by decide)]; exact hs'.s0, by rw [eval_other _ (by decide), eval_other _ (by decide)]; exact hs'.s1⟩ (by rw [eval_other _ (by decide), eval_other _ (by decide)]; exact g8) (eval_same 11 _ (by rw [put_size]; omega)) h22
    intro i' g1 g2
    by_cases hi : i' = i
    · subst hi
      exact ⟨ad, ha, hl, hc, rfl, hv, ⟨by omega, by omega, fun j hj => k1 j (by omega) hj⟩⟩
    · exact ih i' (by omega) g2
/-- What the ghost has met. -/
theorem look_met {pv pv' nv : Value} {a : Act} {k : List Item} (hw : WR (YtobpjijdebnaoaaDoorQ.Al.progOf Tryd.prog) fns E Z gh re) (hv : VR fns E pv pv') (hs : Sl a pv nv) (h : RT (YtobpjijdebnaoaaDoorQ.Al.progOf Tryd.prog) Fin b cs a (.code Al.lookB :: k) gh) :
    ∃ n pa l c, nv = .int .i64 n ∧ pv = .slice pa l c ∧ ((n < 1 ∨ n > 8) ∨ (¬ n < 1 ∧ ¬ n > 8 ∧ (4096 < l ∨ (l ≤ 4096 ∧ Met gh pa l)))) := by
  have sz := hs.size
  have h1 := (h.seq.region.assign (d := 2) rfl).assign (d := 3) rfl
  obtain ⟨pa, l, c, hp, h1'⟩ := h1.len (d := 8) u_pages rfl
  rw [eval_other _ (by decide), eval_other _ (by decide), hs.s0] at hp
  obtain ⟨n, hn, h2⟩ := h1'.over.seq.seq.region.lss (d := 4) (ik := .i64) (m := 1) rfl rfl
  rw [eval_other _ (by decide), eval_other _ (by decide), eval_other _ (by decide), hs.s1] at hn
  refine ⟨n, pa, l, c, hn, hp, ?_⟩
  by_cases hlo : n < 1
  · exact .inl (.inl hlo)
  rw [decide_eq_false hlo] at h2
  have h3 := (h2.over.cond (t := false) (eval_same 4 _ (by simp only [put_size]; omega))).skip.seq.seq.region
  obtain ⟨n', hn', h4⟩ := h3.gtr (d := 5) (ik := .i64) (m := 8) rfl rfl
  rw [eval_other _ (by decide), eval_other _ (by decide), eval_other _ (by decide), eval_other _ (by decide), hs.s1, hn] at hn'
  obtain rfl : n = n' := by injection hn'
  by_cases hhi : n > 8
  · exact .inl (.inr hhi)
  refine .inr ⟨hlo, hhi, ?_⟩
  rw [decide_eq_false hhi] at h4
  have h5 := (h4.over.cond (t := false) (eval_same 5 _ (by simp only [put_size]; omega))).skip.seq.seq.region
  obtain ⟨m, hm, h7⟩ := h5.gtr (d := 9) (ik := .i64) (m := 4096) rfl rfl
  rw [eval_other _ (by decide), eval_other _ (by decide), eval_same 8 _ (by simp only [put_size]; omega)] at hm
  obtain rfl : (l : Int) = m := by injection hm
  by_cases hbig : (l : Int) > 4096
  · exact .inl (by omega)
  rw [decide_eq_false hbig] at h7
  refine .inr ⟨by omega, ?_⟩
  have h8 := (h7.over.cond (t := false) (eval_same 9 _ (by simp only [put_size]; omega))).skip.seq.seq.region
  have h9 := h8.eqnil (d := 7) (pa := pa) (l := l) (c := c) u_pages rfl (by rw [eval_other _ (by decide), eval_other _ (by decide), eval_other _ (by decide), eval_other _ (by decide), eval_other _ (by decide), eval_other _ (by decide), hs.s0, hp])
  obtain ⟨m, hm, h10⟩ := h9.gtr (d := 10) (ik := .i64) (m := 0) rfl rfl
  rw [eval_other _ (by decide), eval_other _ (by decide), eval_other _ (by decide), eval_other _ (by decide), eval_same 8 _ (by simp only [put_size]; omega)] at hm
  obtain rfl : (l : Int) = m := by injection hm
  have h11 := (h10.move (d := 11) rfl).over
  have q8 : ∀ {v2 v3 v4 v5 v9 v7 v10 v11 : Value}, (((((((((a.put (some 2) v2).put (some 3) v3).put (some 8) (.int .i64 (l : Int))).put (some 4) v4).put (some 5) v5).put (some 9) v9).put (some 7) v7).put (some 10) v10).put (some 11) v11).eval (.tmp 8) = .int .i64 (l : Int) := fun {v2 v3 v4 v5 v9 v7 v10 v11} => by
    rw [eval_other _ (by decide), eval_other _ (by decide), eval_other _ (by decide), eval_other _ (by decide), eval_other _ (by decide), eval_other _ (by decide)]
    exact eval_same 8 _ (by simp only [put_size]; omega)
  obtain ⟨hnil0, h13⟩ := h11.guard2 (t := pa.isNone) (s := decide ((l : Int) > 0)) (by
    rw [eval_other _ (by decide), eval_other _ (by decide)]
    exact eval_same 7 _ (by simp only [put_size]; omega)) (by
    rw [eval_other _ (by decide)]
    exact eval_same 10 _ (by simp only [put_size]; omega)) q8
  have hnil : pa = none → l = 0 := fun e => by
    have := of_decide_eq_false (hnil0 (by rw [e]; rfl))
    omega
  have h14 := h13.seq.block.loop
  rw [hp] at hv
  obtain ⟨pa', _, hOS⟩ := vr_slice.1 hv
  have pass : ∀ {x : Nat} {v2 v3 v8 v4 v5 v9 v7 v10 v11 : Value}, x ≠ 11 → x ≠ 10 → x ≠ 7 → x ≠ 9 → x ≠ 5 → x ≠ 4 → x ≠ 8 → x ≠ 3 → x ≠ 2 → (((((((((a.put (some 2) v2).put (some 3) v3).put (some 8) v8).put (some 4) v4).put (some 5) v5).put (some 9) v9).put (some 7) v7).put (some 10) v10).put (some 11) v11).eval (.tmp x) = a.eval (.tmp x) := fun n1 n2 n3 n4 n5 n6 n7 n8 n9 => by
    rw [eval_other _ n1, eval_other _ n2, eval_other _ n3, eval_other _ n4, eval_other _ n5, eval_other _ n6, eval_other _ n7, eval_other _ n8, eval_other _ n9]
  have := out_met (nv := nv) (c := c) hw (hOS.elim .inr fun x => .inl x.1) hnil (by omega) l 0 (by omega) _ ⟨by simp only [put_size]; exact sz, ((pass (by decide) (by decide) (by decide) (by decide) (by decide) (by decide) (by decide) (by decide) (by decide)).trans hs.s0).trans hp, (pass (by decide) (by decide) (by decide) (by decide) (by decide) (by decide) (by decide) (by decide) (by decide)).trans hs.s1⟩ q8 (eval_same 11 _ (by simp only [put_size]; omega)) h14
  exact fun i hi => this i (by omega) hi
end
end Go.Proofs.YtobpjijdebnaoaaDoor
namespace Go.Proofs.YtobpjijdebnaoaaDoor
open Go Go.Conc
open Go.Proofs.YtobpjijdebnaoaaDoorM
/-- The ghost's program alone. -/
def Fx.own (fns : Fx) (P : Program) : Fx := { fns with rf := P.funcs, jf := fun _ => false }
section
variable {P : Program} {fns : Fx} {Z : Nat → Prop} {E : Nat → Nat → Prop}
theorem VR.ownN : ∀ (n : Nat) (v v' : Value), SizeOf.sizeOf v < n → VR fns E v v' → VR (fns.own P) E v v' := by
  intro n
  induction n with
  | zero => intro v v' h; omega
  | succ n ih =>
    intro v v' hn hv
    have arr : ∀ (x x' : Array Value), (∀ i (h : i < x.size), SizeOf.sizeOf x[i] < n) → (x.size = x'.size ∧ ∀ i (h : i < x.size) (h' : i < x'.size), VR fns E x[i] x'[i]) → (x.size = x'.size ∧ ∀ i (h : i < x.size) (h' : i < x'.size), VR (fns.own P) E x[i] x'[i]) := fun x x' hs h => ⟨h.1, fun i a b => ih _ _ (hs i a) (h.2 i a b)⟩
    cases v with
    | pointer a => obtain ⟨b, rfl, h⟩ := vr_pointer.1 hv; exact vr_pointer.2 ⟨b, rfl, by cases a <;> cases b <;> exact h⟩
    | slice a l c => obtain ⟨b, rfl, h⟩ := vr_slice.1 hv; exact vr_slice.2 ⟨b, rfl, h.imp (fun h => by cases a <;> cases b <;> exact h) id⟩
    | map r => exact vr_map.2 (vr_map.1 hv)
    | chan r => exact vr_chan.2 (vr_chan.1 hv)
    | func f x y =>
      obtain ⟨x', y', rfl, h2, h3, h4⟩ := vr_func.1 hv
      refine vr_func.2 ⟨_, _, rfl, ?_, arr _ _ (fun i h => by have := Array.sizeOf_getElem x i h; simp at hn; omega) h3, arr _ _ (fun i h => by have := Array.sizeOf_getElem y i h; simp at hn; omega) h4⟩
      cases f with
      | func f =>
        simp only [plainFn, Bool.and_eq_true] at h2
        show (fns.ok f && !false) = true
        rw [h2.1]
        rfl
      | _ => cases h2
    | iface t u => obtain ⟨u', rfl, h⟩ := vr_iface.1 hv; exact vr_iface.2 ⟨_, rfl, ih _ _ (by simp at hn; omega) h⟩
    | agg x => obtain ⟨x', rfl, h⟩ := vr_agg.1 hv; exact vr_agg.2 ⟨_, rfl, arr _ _ (fun i h => by have := Array.sizeOf_getElem x i h; simp at hn; omega) h⟩
    | tuple x => obtain ⟨x', rfl, h⟩ := vr_tuple.1 hv; exact vr_tuple.2 ⟨_, rfl, arr _ _ (fun i h => by have := Array.sizeOf_getElem x i h; simp at hn; omega) h⟩
    | float => exact (vr_float hv).elim
    | complex => exact (vr_complex hv).elim
    | _ => rw [VR] at hv ⊢; exact hv
theorem VR.own {v v' : Value} (h : VR fns E v v') : VR (fns.own P) E v v' := VR.ownN (SizeOf.sizeOf v + 1) v v' (by omega) h
theorem AllR.own {x x' : Array Value} (h : AllR fns E x x') : AllR (fns.own P) E x x' := ⟨h.1, fun i a b => (h.2 i a b).own⟩
theorem WR.own {gh re : World} (h : WR P fns E Z gh re) : WR P (fns.own P) E Z gh re := by
  refine ⟨h.zlow, h.lonz, h.gbig, h.rbig, h.glob, h.inj, fun a b x => ?_⟩
  rcases h.cells a b x with ⟨c, c', el, fr, fr', k1, k2, k3, k4⟩ | h
  · exact .inl ⟨c, c', el, fr, fr', k1, k2, ⟨k3.le, k3.eq, fun i g g' l => (k3.at_ i g g' l).own⟩, k4⟩
  · exact .inr h
/-- Both worlds have grown; what E knows stands. -/
theorem WR.ext {gh re gh' re' : World} (h : WR P fns E Z gh re) (h1 : ∀ a b, E a b → gh'.heap[a]? = gh.heap[a]?) (h2 : ∀ a b, E a b → re'.heap[b]? = re.heap[b]?) (h3 : gh.heap.size ≤ gh'.heap.size) (h4 : re.heap.size ≤ re'.heap.size) : WR P fns E Z gh' re' :=
  ⟨fun a x => Nat.lt_of_lt_of_le (h.zlow a x) h3, h.lonz, Nat.lt_of_lt_of_le h.gbig h3, Nat.lt_of_lt_of_le h.rbig h4, h.glob, h.inj, fun a b x => by rw [h1 a b x, h2 a b x]; exact h.cells a b x⟩
/-- And a row of numbers more. -/
theorem WR.row {gh re : World} {A B : Nat} {c : Array Value} {el : TypeId} (h : WR P fns E Z gh re) (nZ : ¬ Z A) (hA : gh.heap[A]? = some (.cells c el (0, 0))) (hB : re.heap[B]? = some (.cells c el (0, 0))) (nA : ∀ a b, E a b → a ≠ A) (nB : ∀ a b, E a b → b ≠ B) (gA : P.globals.size < A) (gB : P.globals.size < B) (hc : c.all scalar = true) : WR P fns (fun a b => E a b ∨ (a = A ∧ b = B)) Z gh re := by
  refine ⟨h.zlow, h.lonz, h.gbig, h.rbig, fun a b x => ?_, fun a b a' b' x y => ?_, fun a b x => ?_⟩
  · rcases x with x | ⟨rfl, rfl⟩
    · exact h.glob a b x
    · intro z; omega
  · rcases x with x | ⟨rfl, rfl⟩ <;> rcases y with y | ⟨rfl, rfl⟩
    · exact h.inj a b a' b' x y
    · exact ⟨fun e => (nA a b x e).elim, fun e => (nB a b x e).elim⟩
    · exact ⟨fun e => (nA a' b' y e.symm).elim, fun e => (nB a' b' y e.symm).elim⟩
    · exact ⟨fun _ => rfl, fun _ _ => rfl⟩
  · rcases x with x | ⟨rfl, rfl⟩
    · rcases h.cells a b x with ⟨c, c', el, fr, fr', k1, k2, k3, k4⟩ | ⟨x, x', l, k1, k2, k3⟩
      · exact .inl ⟨c, c', el, fr, fr', k1, k2, k3.up fun _ _ z => .inl z, k4⟩
      · exact .inr ⟨x, x', l, k1, k2, k3.up fun _ _ z => .inl z⟩
    · exact .inl ⟨c, c, el, (0, 0), (0, 0), hA, hB, CR.of (allR_scalar hc), fun _ => rfl, fun z => (nZ z).elim⟩
end
/-! ### pages out of what was met -/
theorem cell_spot {w : World} {ad : Addr} {v : Value} (h : w.cell? ad = some v) : ad.spot = none := by
  unfold World.cell? at h
  split at h
  · split at h
    · cases h
    · rename_i hs
      cases hp : ad.spot with
      | none => rfl
      | some s => rw [hp] at hs; simp at hs
  · cases h
theorem add_none {ad : Addr} (h : ad.spot = none) (n : Nat) : ad.add n = ⟨ad.block, ad.off + n, none⟩ := by
  unfold Addr.add
  split
  · rename_i e; subst e; cases ad; simp only at h; subst h; rfl
  · rfl
theorem MetP.list {w : World} {ha : Option Addr} {hl hc : Nat} (h : MetP w ha hl hc) : ∃ p : List Nat, p.length = hl ∧ AllB p ∧ YtobpjijdebnaoaaDoorQ.Lies w ha p := by
  have hx : ∀ j : Nat, ∃ z : Nat, j < hl → z < 256 ∧ ∃ bd, ha = some bd ∧ w.cell? (bd.add j) = some (.int .u8 (z : Int)) := fun j => by
    by_cases hj : j < hl
    · obtain ⟨bd, z, e, hz, h0, h1⟩ := h.byte j hj
      refine ⟨z.toNat, fun _ => ⟨by omega, bd, e, ?_⟩⟩
      rw [hz]
      congr 2
      omega
    · exact ⟨0, fun x => absurd x hj⟩
  obtain ⟨f, hf⟩ := Classical.axiomOfChoice hx
  have hget : ∀ j, j < hl → ((List.range hl).map f)[j]?.getD 0 = f j := fun j hj => by simp [hj]
  refine ⟨(List.range hl).map f, by simp, fun x hx => ?_, ?_⟩
  · obtain ⟨j, hj, rfl⟩ := List.mem_map.1 hx
    exact (hf j (List.mem_range.1 hj)).1
  · by_cases h0 : hl = 0
    · exact .inl (by rw [h0]; rfl)
    · obtain ⟨_, bd, e, hc0⟩ := hf 0 (by omega)
      have hsp : bd.spot = none := cell_spot (by simpa [Addr.add] using hc0)
      refine .inr ⟨bd.block, bd.off, by rw [e]; cases bd; simp only at hsp; subst hsp; rfl, fun i hi => ?_⟩
      have hi' : i < hl := by simpa using hi
      obtain ⟨_, bd', e', hci⟩ := hf i hi'
      rw [e] at e'
      obtain rfl := Option.some.inj e'
      rw [hget i hi', ← hci, add_none hsp]
theorem Met.list {w : World} {pa : Option Addr} {l : Nat} (h : Met w pa l) : ∃ L : List YtobpjijdebnaoaaDoorQ.Pg, L.length = l ∧ YtobpjijdebnaoaaDoorQ.Pgs w pa L := by
  have hx : ∀ i : Nat, ∃ g : YtobpjijdebnaoaaDoorQ.Pg, i < l → ∃ ad, pa = some ad ∧ w.cell? (ad.add i) = some (.slice g.a g.p.length g.c) ∧ YtobpjijdebnaoaaDoorQ.PgAt w g := fun i => by
    by_cases hi : i < l
    · obtain ⟨ad, ha, hl, hc, e, hcell, hm⟩ := h i hi
      obtain ⟨p, hp, hall, hlies⟩ := hm.list
      refine ⟨⟨ha, p, hc⟩, fun _ => ⟨ad, e, by rw [hcell, hp], ⟨hall, hlies, by show p.length ≤ hc; rw [hp]; exact hm.cap, by have := hm.most; show p.length ≤ _; omega⟩⟩⟩
    · exact ⟨⟨none, [], 0⟩, fun x => absurd x hi⟩
  obtain ⟨f, hf⟩ := Classical.axiomOfChoice hx
  have hg : ∀ i, i < l → YtobpjijdebnaoaaDoorQ.gP ((List.range l).map f) i = f i := fun i hi => by simp [YtobpjijdebnaoaaDoorQ.gP, hi]
  refine ⟨(List.range l).map f, by simp, ?_⟩
  by_cases h0 : l = 0
  · exact .inl (by rw [h0]; rfl)
  · obtain ⟨ad, e, hc0, _⟩ := hf 0 (by omega)
    have hsp : ad.spot = none := cell_spot (by simpa [Addr.add] using hc0)
    refine .inr ⟨ad.block, ad.off, by rw [e]; cases ad; simp only at hsp; subst hsp; rfl, fun i hi => ?_⟩
    have hi' : i < l := by simpa using hi
    obtain ⟨ad', e', hci, hat⟩ := hf i hi'
    rw [e] at e'
    obtain rfl := Option.some.inj e'
    rw [hg i hi']
    refine ⟨?_, hat⟩
    rw [← hci, add_none hsp]
end Go.Proofs.YtobpjijdebnaoaaDoor
