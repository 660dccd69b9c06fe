/-
  The walk of granarylaw3.RingPosts: it returns true, and nothing that was there has turned.
-/
import Derived.Test.YtnfjfffchhiooaaDoorPost2
import Derived.Test.YtnfjfffchhiooaaDoorScript
import Derived.Test.YtnfjfffchhiooaaDoorTold
import Derived.Test.YtnfjfffchhiooaaDoorQuo
namespace Go.Proofs.YtnfjfffchhiooaaDoor
open Go.RowKit
set_option linter.unusedVariables false

/-- WHAT LIES THERE BETWEEN TWO CALLS: a post of the call's own. -/
structure PS (w wr : World) (T : TypeId) (n pb sb h q : Nat) : Prop where
  pv : PV wr T n pb sb h q
  bel : Below w.heap.size w wr
  ge : w.heap.size ≤ pb
theorem PS.below {w wr w' : World} {T : TypeId} {n pb sb h q : Nat} (r : PS w wr T n pb sb h q) (hb : Below wr.heap.size wr w') : PS w w' T n pb sb h q :=
  ⟨r.pv.below hb, r.bel.trans (hb.mono r.bel.size), r.ge⟩
theorem PS.step {w wr w' : World} {T : TypeId} {n pb sb h q h' q' : Nat} (r : PS w wr T n pb sb h q) (hp : PV w' T n pb sb h' q') (hk : Keep (fun b => b = pb) wr w') : PS w w' T n pb sb h' q' :=
  ⟨hp, r.bel.trans (hk.below r.bel.size (fun b e => by have := r.ge; omega)), r.ge⟩
set_option maxRecDepth 100000 in
set_option maxHeartbeats 1600000 in
theorem posts_no (n : Int) (a2 : Option Addr) (n2 cap2 : Nat) (w : World) (h : ¬ GoodP n) (hE : EType w) : Calls Tryd.prog 4 #[.int .i64 n, .slice a2 n2 cap2] w fun e w' => e = .returned (.bool true) ∧ Below w.heap.size w w' := by
  have HF := post_no n w h
  have HE : Hid (∀ w', Below w.heap.size w w' → EType w') := fun w' hb => hE.below hb hE.pos
  unfold GoodP at h
  have ht : (n < 2) ∨ (¬ n < 2 ∧ 16 < n) := by omega
  clear hE h
  rcases ht with h1 | ⟨h1, h2⟩
  · have t1 : decide (n < 2) = true := decide_eq_true h1
    clear h1
    go_enter Tryd.func4, Tryd.ntmps4
    go_wp2_with fail
    refine HF.mono ?_
    rintro e w1 ⟨rfl, hb⟩
    have HB := error_same 1 w1 (HE.out _ hb)
    have HBe : Hid (Below w.heap.size w w1) := hb
    clear hb HF
    go_wp2_with fail
    refine HB.mono ?_
    rintro e w2 ⟨rfl, hb2⟩
    have H2 : Hid (Below w.heap.size w w2) := HBe.out.trans (hb2.mono HBe.out.size)
    clear hb2 HB
    go_wp2
    go_ret
    exact ⟨rfl, H2.out⟩
  · have t1 : decide (n < 2) = false := decide_eq_false h1
    have t2 : decide (16 < n) = true := decide_eq_true h2
    clear h1 h2
    go_enter Tryd.func4, Tryd.ntmps4
    go_wp2_with fail
    refine HF.mono ?_
    rintro e w1 ⟨rfl, hb⟩
    have HB := error_same 1 w1 (HE.out _ hb)
    have HBe : Hid (Below w.heap.size w w1) := hb
    clear hb HF
    go_wp2_with fail
    refine HB.mono ?_
    rintro e w2 ⟨rfl, hb2⟩
    have H2 : Hid (Below w.heap.size w w2) := HBe.out.trans (hb2.mono HBe.out.size)
    clear hb2 HB
    go_wp2
    go_ret
    exact ⟨rfl, H2.out⟩
set_option maxRecDepth 100000 in
set_option maxHeartbeats 8000000 in
theorem posts_yes (n : Nat) (a2 : Option Addr) (n2 cap2 : Nat) (w : World) (h1 : 2 ≤ n) (h2 : n ≤ 16) (hE : EType w) (hS : Script w a2 n2) (hl2 : n2 ≤ 9223372036854775807) : Calls Tryd.prog 4 #[.int .i64 (n : Nat), .slice a2 n2 cap2] w fun e w' => e = .returned (.bool true) ∧ Below w.heap.size w w' := by
  have HSC : Hid (Script w a2 n2) := hS
  have HE : Hid (∀ w', Below w.heap.size w w' → EType w') := fun w' hb => hE.below hb hE.pos
  have hn0 : ¬ ((n : Int) = 0) := by omega
  clear hS hE
  go_enter Tryd.func4, Tryd.ntmps4
  go_wp2_with fail
  refine (post_yes n _ h1 h2).mono ?_
  rintro e w2 ⟨pb, sb, rfl, hp2, hb2, g1⟩
  have H0 : Hid (PS w w2 72 n pb sb 0 0) := ⟨hp2, hb2, g1⟩
  clear hp2 hb2 g1
  go_wp2
  go_loopw [7, 8, 9] (fun vh vq vi wq => ∃ (h q i : Nat), i ≤ n2 ∧ q ≤ i ∧ vh = .int .i64 h ∧ vq = .int .i64 q ∧ vi = .int .i64 i ∧ Hid (PS w wq 72 n pb sb h q)) (fun _ _ j _ => n2 - (intOf j).toNat)
  case atStart => exact ⟨0, 0, 0, Nat.zero_le _, Nat.le_refl _, rfl, rfl, rfl, H0.out⟩
  case round =>
    obtain ⟨h, q, i, hi, hqi, rfl, rfl, rfl, hR⟩ := hrel
    clear H0
    by_cases hlt : i < n2
    · obtain ⟨so, oo, ha2, o, hO⟩ := HSC.out.slice hlt
      have hOr := hO.below hR.out.bel (Nat.le_refl _)
      have k0 := hOr.k0
      have k1 := hOr.k1
      clear hO hOr
      subst ha2
      generalize o.kind = x0 at k0
      generalize o.n = x1 at k1
      clear o
      obtain ⟨W1, HX⟩ : ∃ W1, Hid (W1 = wr.alloc (.cells #[.int .i64 x0, .int .i64 x1] 42)) := ⟨_, rfl⟩
      have H1 : Hid (PS w W1 72 n pb sb h q) := by rw [HX.out]; exact hR.out.below (alloc_below' _ _)
      have HO : Hid (Stc W1 wr.heap.size 42 [.int .i64 x0, .int .i64 x1]) := by rw [HX.out]; exact stc_new _ _ _ _ rfl
      have HLo : Hid (wr.heap.size < W1.heap.size ∧ ¬ wr.heap.size = pb) := ⟨heap_lt HO.out, fun e => by have := heap_lt hR.out.pv.st; omega⟩
      by_cases hk : x0 = 1
      · subst hk
        by_cases hf : (q + 1) % n = h
        · have HC := put_full H1.out.pv hf
          obtain ⟨e1, e2⟩ := nx_facts n q
          rw [hf] at e1 e2
          rw [HX.out] at HC
          clear hR HLo HO hf
          go_wp2_with fail
          refine HC.mono ?_
          rintro e w3 ⟨rfl, hb3⟩
          have H3 : Hid (PS w w3 72 n pb sb h q) := by
            have h1 := H1.out
            rw [HX.out] at h1
            exact h1.below hb3
          have HB := error_same 3 w3 (HE.out _ H3.out.bel)
          clear hb3 HC H1 HX
          go_wp2_with fail
          refine HB.mono ?_
          rintro e w4 ⟨rfl, hb4⟩
          have H4 : Hid (PS w w4 72 n pb sb h q) := H3.out.below hb4
          clear hb4 HB H3
          go_wp2
          exact ⟨⟨h, q, i + 1, by omega, by omega, rfl, rfl, by go_num, H4.out⟩, by simp [intOf]; omega⟩
        · have HC := put_room H1.out.pv hf
          obtain ⟨e1, e2⟩ := nx_facts n q
          obtain ⟨z, HZ⟩ : ∃ z : Nat, Hid ((q + 1) % n = z) := ⟨_, rfl⟩
          rw [HZ.out] at e1 e2
          have e3 : ((z : Int) == (h : Int)) = false := by
            have h3 := HZ.out
            simp
            omega
          obtain ⟨t, d, m, HT, ht, e4, e5, e6, e7, e12, e13, e8, e9, HM⟩ := ph_facts n q h1 (by omega)
          rw [HT] at HC
          rw [HX.out] at HC
          clear hR HO HLo hf HT HZ
          generalize phs n q = f at *
          by_cases hm0 : m = 0
          · subst hm0
            obtain rfl : f = true := by simpa using HM
            clear HM
            go_wp2_with fail
            refine HC.mono ?_
            rintro e w3 ⟨rfl, hp3, hk3⟩
            have H3 : Hid (PS w w3 72 n pb sb h (q + 1)) := by
              have h1 := H1.out
              rw [HX.out] at h1
              exact h1.step hp3 hk3
            clear hp3 hk3 HC H1 HX
            go_wp2
            exact ⟨⟨h, q + 1, i + 1, by omega, by omega, rfl, by go_num, by go_num, H3.out⟩, by simp [intOf]; omega⟩
          · have t1 : ((m : Int) == 0) = false := by simp; omega
            obtain rfl : f = false := by simpa [hm0] using HM
            have t2 : ¬ ((m : Int) = 0) := by omega
            clear HM hm0
            go_wp2_with fail
            refine HC.mono ?_
            rintro e w3 ⟨rfl, hp3, hk3⟩
            have H3 : Hid (PS w w3 72 n pb sb h (q + 1)) := by
              have h1 := H1.out
              rw [HX.out] at h1
              exact h1.step hp3 hk3
            clear hp3 hk3 HC H1 HX
            go_wp2
            exact ⟨⟨h, q + 1, i + 1, by omega, by omega, rfl, by go_num, by go_num, H3.out⟩, by simp [intOf]; omega⟩
      · have hd : (x0 == 1) = false := by simp [hk]
        have hd' : decide (x0 = 1) = false := decide_eq_false hk
        by_cases hx : 0 ≤ x1 ∧ x1 < (n : Int)
        · obtain ⟨y, rfl⟩ := Int.eq_ofNat_of_zero_le hx.1
          have hy : y < n := by omega
          have HC := free_yes H1.out.pv y hy
          have t1 : decide ((y : Int) < 0) = false := decide_eq_false (by omega)
          have t2 : decide ((n : Int) ≤ (y : Int)) = false := decide_eq_false (by omega)
          rw [HX.out] at HC
          have HOx := HO.out
          rw [HX.out] at HOx
          have HLx := HLo.out
          have Hnp : Hid (¬ wr.heap.size = pb) := HLx.2
          clear HO HLo HLx hd' hk
          go_wp2_with fail
          refine HC.mono ?_
          rintro e w3 ⟨rfl, hp3, hk3⟩
          have H3 : Hid (PS w w3 72 n pb sb y q) := by
            have h1 := H1.out
            rw [HX.out] at h1
            exact h1.step hp3 hk3
          have HO3 : Stc w3 wr.heap.size 42 [.int .i64 x0, .int .i64 (y : Nat)] := HOx.keep hk3 Hnp.out
          have c1 : w3.cell? ⟨wr.heap.size, 1, none⟩ = some (.int .i64 (y : Nat)) := HO3.cell 1
          clear hp3 hk3 HC H1 HX HOx HO3 hx
          go_wp2
          exact ⟨⟨y, q, i + 1, by omega, by omega, rfl, rfl, by go_num, H3.out⟩, by simp [intOf]; omega⟩
        · have HC := free_no H1.out.pv x1 hx
          rw [HX.out] at HC
          have HOx := HO.out
          rw [HX.out] at HOx
          have c1 : (wr.alloc (.cells #[.int .i64 x0, .int .i64 x1] 42)).cell? ⟨wr.heap.size, 1, none⟩ = some (.int .i64 x1) := HOx.cell 1
          have HB : Hid (Calls Tryd.prog 8 #[.iface 29 (.int .i64 1), .int .i64 1] (wr.alloc (.cells #[.int .i64 x0, .int .i64 x1] 42)) fun ev w' => ev = .returned (.bool true) ∧ Hid (PS w w' 72 n pb sb h q)) := by
            have h1 := H1.out
            rw [HX.out] at h1
            exact (error_same 1 _ (HE.out _ h1.bel)).mono fun e w' ⟨he, hb⟩ => ⟨he, h1.below hb⟩
          have hx2 : x1 < 0 ∨ (¬ x1 < 0 ∧ (n : Int) ≤ x1) := by omega
          clear HO HLo HX H1 hR hx hd' hk HOx
          rcases hx2 with hx2 | ⟨hx2, hx3⟩
          · have t1 : decide (x1 < 0) = true := decide_eq_true hx2
            clear hx2
            go_wp2_with fail
            refine HC.mono ?_
            rintro e w3 ⟨rfl, rfl⟩
            clear HC
            go_wp2_with fail
            refine HB.out.mono ?_
            rintro e w4 ⟨rfl, H4⟩
            clear HB
            go_wp2
            exact ⟨⟨h, q, i + 1, by omega, by omega, rfl, rfl, by go_num, H4.out⟩, by simp [intOf]; omega⟩
          · have t1 : decide (x1 < 0) = false := decide_eq_false hx2
            have t2 : decide ((n : Int) ≤ x1) = true := decide_eq_true hx3
            clear hx2 hx3
            go_wp2_with fail
            refine HC.mono ?_
            rintro e w3 ⟨rfl, rfl⟩
            clear HC
            go_wp2_with fail
            refine HB.out.mono ?_
            rintro e w4 ⟨rfl, H4⟩
            clear HB
            go_wp2
            exact ⟨⟨h, q, i + 1, by omega, by omega, rfl, rfl, by go_num, H4.out⟩, by simp [intOf]; omega⟩
    · obtain rfl : i = n2 := by omega
      clear HSC
      go_wp2
      go_ret
      exact ⟨rfl, hR.out.bel⟩
theorem posts_any (n : Int) (a2 : Option Addr) (n2 cap2 : Nat) (w : World) (hE : EType w) (hS : Script w a2 n2) (hl2 : n2 ≤ 9223372036854775807) : Calls Tryd.prog 4 #[.int .i64 n, .slice a2 n2 cap2] w fun e w' => e = .returned (.bool true) ∧ Below w.heap.size w w' := by
  by_cases h : GoodP n
  · obtain ⟨N, rfl, h1, h2⟩ := h.nat
    exact posts_yes N a2 n2 cap2 w h1 h2 hE hS hl2
  · exact posts_no n a2 n2 cap2 w h hE
end Go.Proofs.YtnfjfffchhiooaaDoor
