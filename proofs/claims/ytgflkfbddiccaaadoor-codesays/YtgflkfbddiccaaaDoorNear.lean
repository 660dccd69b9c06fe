/-
  What is near right bytes and checks: one bit of them turned, found by the check of its word; and that the call of granarylaw1.turned gives such.
-/
import Derived.Test.YtgflkfbddiccaaaDoorFact
namespace Go.Proofs.YtgflkfbddiccaaaDoor
open Go.RowKit

/-- Each word of xs is mended by its check in ys to that of D; so many are turned. -/
def Near (D : List Nat) (m n : Nat) (xs ys : List Nat) : Prop :=
  AllB xs ∧ AllB ys ∧ xs.length = 8 * m ∧ ys.length = m ∧ ∃ f : Nat → Nat, sumTo f m = n ∧ ∀ k, k < m → mendD (wordN xs k) (chk (wordN xs k) ^^^ ys[k]?.getD 0) = some (wordN D k, f k)
theorem Near.mend {D xs ys : List Nat} {m n : Nat} (h : Near D m n xs ys) (hD : AllB D) (hl : D.length = 8 * m) : mendL xs ys m = some (D, n) := by
  obtain ⟨_, _, h1, _, f, h2, h3⟩ := h
  rw [mendL_right xs ys D m f hD hl h1 h3, h2]
theorem near_data (D : List Nat) (m j b : Nat) (hD : AllB D) (hl : D.length = 8 * m) (hj : j < D.length) (hb : b < 8) : Near D m 1 (turnB D j b) (chks D m) := by
  refine ⟨turnB_all hD j b hb, chks_all D m, by rw [turnB_len, hl], chks_len D m, fun k => if k = j / 8 then 1 else 0, by rw [sumTo_one, if_pos (by omega)], ?_⟩
  intro k hk
  show _ = some (wordN D k, if k = j / 8 then 1 else 0)
  rw [chks_at _ _ _ hk]
  by_cases h : k = j / 8
  · subst h
    rw [if_pos rfl, wordN_turn hD j b hj hb]
    exact mendD_word _ _ (by omega)
  · rw [if_neg h, wordN_other j b k hj h, Nat.xor_self]; rfl
theorem near_check (D : List Nat) (m j b : Nat) (hD : AllB D) (hl : D.length = 8 * m) (hj : j < m) (hb : b < 8) : Near D m 1 D (turnB (chks D m) j b) := by
  refine ⟨hD, turnB_all (chks_all D m) j b hb, hl, by rw [turnB_len, chks_len], fun k => if k = j then 1 else 0, by rw [sumTo_one, if_pos hj], ?_⟩
  intro k hk
  show _ = some (wordN D k, if k = j then 1 else 0)
  rw [turnB_at _ _ _ _ (by rw [chks_len]; exact hj)]
  by_cases h : k = j
  · subst h
    rw [if_pos rfl, if_pos rfl, chks_at _ _ _ hk]
    exact mendD_check _ _ hb
  · rw [if_neg h, if_neg h, chks_at _ _ _ hk, Nat.xor_self]; rfl
theorem near_right (D : List Nat) (m : Nat) (hD : AllB D) (hl : D.length = 8 * m) : Near D m 0 D (chks D m) :=
  ⟨hD, chks_all D m, hl, chks_len D m, fun _ => 0, sumTo_zero m, fun k hk => by rw [chks_at _ _ _ hk, Nat.xor_self]; rfl⟩

/-- WHAT turned GIVES OF RIGHT BYTES AND THEIR CHECKS. -/
theorem turned_near (a : Option Addr) (cap : Nat) (D : List Nat) (g2 cap2 m base : Nat) (at' : Int) (w : World) (hD : AllB D) (hl : D.length = 8 * m) (h0 : 0 < m) (hm : m ≤ 512)
    (ha0 : -9223372036854775808 ≤ at') (ha1 : at' < 9223372036854775808) (hc : Lies w a D) (ho : Owns w base g2 cap2 (chks D m)) :
    Calls Tryd.prog 18 #[.slice a D.length cap, .slice (some ⟨g2, 0, none⟩) m cap2, .int .i64 at'] w fun e w' => ∃ xs ys, Near D m 1 xs ys ∧ TurnPost w w' e xs ys := by
  have hcl := chks_len D m
  rcases hc with h | ⟨b, off, rfl, hc⟩
  · rw [h] at hl; simp at hl; omega
  have hL : Lies w (some ⟨b, off, none⟩) D := Or.inr ⟨b, off, rfl, hc⟩
  have hlt := pickN_lt at' (8 * (D.length + (chks D m).length)) (by omega)
  by_cases hk : pickN at' (8 * (D.length + (chks D m).length)) < 8 * D.length
  · have := turned_data b off cap D g2 0 (chks D m) cap2 _ at' w (by omega) (by omega) hD (by omega) (by omega) ha0 ha1 hL ho.lies rfl hk
    rw [hcl] at this
    refine this.mono fun e w' h => ⟨_, _, ?_, h⟩
    exact near_data D m _ _ hD hl (by rw [hcl] at hk; omega) (by omega)
  · have := turned_check b off cap D g2 0 (chks D m) cap2 _ at' w (by omega) (by omega) (chks_all D m) (by omega) (by omega) ha0 ha1 hL ho.lies rfl (by omega)
    rw [hcl] at this
    refine this.mono fun e w' h => ⟨_, _, ?_, h⟩
    exact near_check D m _ _ hD hl (by rw [hcl] at hlt hk; omega) (by omega)

/-- WHAT Mend GIVES OF WHAT IS NEAR. -/
theorem mend_near (a a2 : Option Addr) (cap cap2 m n : Nat) (D xs ys : List Nat) (w : World) (hD : AllB D) (hl : D.length = 8 * m) (hm : m ≤ 512) (hP : Plc w) (hn : Near D m n xs ys)
    (hc : Lies w a xs) (hcc : Lies w a2 ys) :
    Calls Tryd.prog 13 #[.slice a xs.length cap, .slice a2 ys.length cap2] w fun e w' => e = .returned (.tuple #[.slice (some ⟨w.heap.size, 0, none⟩) D.length D.length, .int .i64 (n : Int), .nilIface]) ∧ Lies w' (some ⟨w.heap.size, 0, none⟩) D ∧ Below w.heap.size w w' := by
  have h := mend_any a a2 cap cap2 m xs ys w hn.1 hn.2.1 hn.2.2.1 hn.2.2.2.1 hm hP hc hcc
  rw [hn.mend hD hl] at h
  exact h.mono fun e w' ⟨h1, _, h3, h4⟩ => ⟨h1, h3.lies, h4⟩
theorem bytes_same (a a2 : Option Addr) (D : List Nat) (cap cap2 : Nat) (w : World) (hm : D.length ≤ 140737488355328) (hc : Lies w a D) (hc2 : Lies w a2 D) :
    Calls Tryd.prog 15 #[.slice a D.length cap, .slice a2 D.length cap2] w fun e w' => e = .returned (.bool true) ∧ Below w.heap.size w w' := by
  have h := bytes_any a a2 D D cap cap2 w hm hm hc hc2
  rw [decide_eq_true rfl] at h
  exact h

set_option maxHeartbeats 1600000 in
theorem mends_good (a : Option Addr) (cap m : Nat) (D : List Nat) (at' : Int) (w : World) (hD : AllB D) (hl : D.length = 8 * m) (h0 : 0 < m) (hm : m ≤ 512) (ha0 : -9223372036854775808 ≤ at') (ha1 : at' < 9223372036854775808)
    (hP : Plc w) (hc : Lies w a D) :
    Calls Tryd.prog 4 #[.slice a D.length cap, .int .i64 at'] w fun e w' => e = .returned (.bool true) ∧ Below w.heap.size w w' := by
  have HL : Hid (D.length = 8 * m) := hl
  have HA : Hid (-9223372036854775808 ≤ at' ∧ at' < 9223372036854775808) := ⟨ha0, ha1⟩
  have HC : Hid (Lies w a D) := hc
  have hpos : (((D.length : Nat) : Int) == 0) = false := by rw [beq_eq_false_iff_ne]; omega
  have hdiv : (((m : Nat) : Int) != ((D.length : Int) / 8)) = false := by simp; omega
  have hlen : D.length ≤ 4096 := by omega
  clear hl ha0 ha1 hc
  go_enter Tryd.func4, Tryd.ntmps4
  go_wp2_with (go_at_call 17; refine (fact_any w hP).mono ?_; rintro e w1 ⟨rfl, hb1⟩)
  have hP1 := hP.below hb1 hP.pos
  have hL1 := HC.out.below hb1
  have hpr := protect_any a cap m D w1 hD HL.out hm hP1 hL1
  go_wp2_with (go_at_call 11; refine hpr.mono ?_; rintro e w2 ⟨rfl, ho2, hb2⟩)
  clear hpr hL1 hP1
  have hb02 := hb1.trans (hb2.mono hb1.size)
  have htn := turned_near a cap D w1.heap.size m m w1.heap.size at' w2 hD HL.out h0 hm HA.out.1 HA.out.2 (HC.out.below hb02) ho2
  go_wp2_with (go_at_call 18; refine htn.mono ?_; rintro e w3 ⟨xs, ys, hN, g3, c3, g4, c4, rfl, ho3, ho4, hb3⟩)
  clear htn
  have hb03 := hb02.trans (hb3.mono hb02.size)
  have hmn := mend_near (some ⟨g3, 0, none⟩) (some ⟨g4, 0, none⟩) c3 c4 m 1 D xs ys w3 hD HL.out hm (hP.below hb03 hP.pos) hN ho3.lies ho4.lies
  go_wp2_with (go_at_call 13; refine hmn.mono ?_; rintro e w4 ⟨rfl, hL4, hb4⟩)
  clear hmn
  have hb04 := hb03.trans (hb4.mono hb03.size)
  have hbs := bytes_same (some ⟨w3.heap.size, 0, none⟩) a D D.length cap w4 (by omega) hL4 (HC.out.below hb04)
  go_wp2_with (go_at_call 15; refine hbs.mono ?_; rintro e w5 ⟨rfl, hb5⟩)
  clear hbs
  have hb05 := hb04.trans (hb5.mono hb04.size)
  have hO5 := ((ho2.below hb3 ho2.le.2).below hb4 (by have := ho2.le.2; have := hb3.size; omega)).below hb5 (by have := ho2.le.2; have := hb3.size; have := hb4.size; omega)
  have hmn := mend_near a (some ⟨w1.heap.size, 0, none⟩) cap m m 0 D D (chks D m) w5 hD HL.out hm (hP.below hb05 hP.pos) (near_right D m hD HL.out) (HC.out.below hb05) hO5.lies
  rw [chks_len] at hmn
  go_wp2_with (go_at_call 13; refine hmn.mono ?_; rintro e w6 ⟨rfl, hL6, hb6⟩)
  clear hmn
  have hb06 := hb05.trans (hb6.mono hb05.size)
  have hbs := bytes_same (some ⟨w5.heap.size, 0, none⟩) a D D.length cap w6 (by omega) hL6 (HC.out.below hb06)
  go_wp2_with (go_at_call 15; refine hbs.mono ?_; rintro e w7 ⟨rfl, hb7⟩)
  go_ret
  exact ⟨rfl, hb06.trans (hb7.mono hb06.size)⟩
end Go.Proofs.YtgflkfbddiccaaaDoor
