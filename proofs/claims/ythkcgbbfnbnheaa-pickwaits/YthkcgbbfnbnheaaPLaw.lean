/-
  What the laws of package pick share: numbers that are picked, a picker of the call's own between two calls, the first fact.
-/
import Derived.Test.YthkcgbbfnbnheaaPNext
namespace Go.Proofs.Ythkcgbbfnbnheaa
open Go.RowKit
set_option linter.unusedVariables false

/-- What granarysame.Pick answers. -/
def pkN (c : Int) (n : Nat) : Nat := (if 0 ≤ c then c.toNat else (-(c + 1)).toNat) % n
theorem pkN_lt (c : Int) {n : Nat} (h : 1 ≤ n) : pkN c n < n := Nat.mod_lt _ h
set_option maxHeartbeats 800000 in
theorem pick_is (c : Int) (n : Nat) (w : World) (h1 : 1 ≤ n) (h2 : n ≤ 4611686018427387904) (hc : -9223372036854775808 ≤ c ∧ c ≤ 9223372036854775807) :
    Calls Try.prog 8 #[.int .i64 c, .int .i64 n] w fun e w' => e = .returned (.int .i64 (pkN c n : Nat)) ∧ w = w' := by
  have hn0 : ¬ ((n : Int) = 0) := by omega
  by_cases h0 : 0 ≤ c
  · obtain ⟨m, rfl⟩ := Int.eq_ofNat_of_zero_le h0
    have HK : Hid (pkN (m : Int) n = m % n) := by
      show pkN (m : Int) n = m % n
      unfold pkN
      rw [if_pos h0, Int.toNat_natCast]
    go_enter Try.func8, Try.ntmps8
    go_wp2
    go_ret
    exact ⟨by rw [HK.out]; go_num, rfl⟩
  · obtain ⟨m, hm⟩ := Int.eq_ofNat_of_zero_le (show 0 ≤ -(c + 1) by omega)
    have hc' : c = -((m : Int) + 1) := by omega
    subst hc'
    have HK : Hid (pkN (-((m : Int) + 1)) n = m % n) := by
      show pkN (-((m : Int) + 1)) n = m % n
      unfold pkN
      rw [if_neg h0, hm, Int.toNat_natCast]
    have hneg : -((m : Int) + 1) < 0 := by omega
    clear hm h0
    go_enter Try.func8, Try.ntmps8
    go_wp2
    go_ret
    refine ⟨?_, rfl⟩
    rw [HK.out]
    refine ret_int ?_
    rw [show -((m : Int) + 1) + 1 = -(m : Int) by omega, Int.neg_tmod, Int.neg_neg, Int.tmod_eq_emod_of_nonneg (by omega)]
    simp
/-- WHAT LIES THERE BETWEEN TWO CALLS: a picker of the call's own. -/
structure PS (w wr : World) (pb cap : Nat) (wa : Option Addr) (W : List Int) (a c : Nat) : Prop where
  pk : PK 41 wr pb wa cap W a c
  bel : Below w.heap.size w wr
  ge : w.heap.size ≤ pb
theorem PS.below {w wr w' : World} {pb cap a c : Nat} {wa : Option Addr} {W : List Int} (h : PS w wr pb cap wa W a c) (hb : Below wr.heap.size wr w') : PS w w' pb cap wa W a c :=
  ⟨h.pk.below hb, h.bel.trans (hb.mono h.bel.size), h.ge⟩
theorem PS.step {w wr w' : World} {pb cap a c a' c' : Nat} {wa : Option Addr} {W : List Int} (h : PS w wr pb cap wa W a c) (hp : PK 41 w' pb wa cap W a' c') (hk : Keep (fun b => b = pb) wr w') : PS w w' pb cap wa W a' c' :=
  ⟨hp, h.bel.trans (hk.below h.bel.size (fun b e => by have := h.ge; omega)), h.ge⟩
theorem il_two (w : World) (x y : Int) : IL (w.alloc (.cells #[.int .i64 x, .int .i64 y] 3)) (some ⟨w.heap.size, 0, none⟩) [x, y] := by
  refine Or.inr ⟨w.heap.size, 0, rfl, fun i hi => ?_⟩
  have : i = 0 ∨ i = 1 := by simp at hi; omega
  rcases this with rfl | rfl
  · simp [gI]
  · simp [gI]
theorem nonN_11 : NonN [1, 1] := by
  intro i hi
  have : i = 0 ∨ i = 1 := by simp at hi; omega
  rcases this with rfl | rfl <;> simp [gI]
theorem good_21 : GoodW [2, 1] := by
  refine ⟨by simp, by simp, fun i hi => ?_⟩
  have : i = 0 ∨ i = 1 := by simp at hi; omega
  rcases this with rfl | rfl <;> simp [gI]
theorem turn_a : Turn [2, 1] [1, 1] 0 2 0 1 := Or.inl ⟨by omega, by simp [gI], rfl, rfl⟩
theorem turn_b : Turn [2, 1] [1, 1] 0 1 0 0 := Or.inl ⟨by omega, by simp [gI], rfl, rfl⟩
theorem turn_c : Turn [2, 1] [1, 1] 0 0 1 0 := Or.inr ⟨Or.inl rfl, ⟨0, by simp, by simp, by simp [gI], fun i hi => by omega⟩, by simp [gI]⟩
theorem some_11 : ¬ NoneW [1, 1] := fun h => by have := h 0 (by simp); simp [gI] at this
/-- One turn of the first fact. -/
theorem fact_turn {w wr : World} {pb cap a c q d : Nat} {wa : Option Addr} (h : PS w wr pb cap wa [2, 1] a c) (ht : Turn [2, 1] [1, 1] a c q d) :
    Calls Try.prog 9 #[.pointer (some ⟨pb, 0, none⟩), .slice (some ⟨wr.heap.size, 0, none⟩) 2 2] (wr.alloc (.cells #[.int .i64 1, .int .i64 1] 3)) fun e w' => e = .returned (.tuple #[.int .i64 (q : Nat), .nilIface]) ∧ PS w w' pb cap wa [2, 1] q d := by
  have h1 := h.below (alloc_below' wr (.cells #[.int .i64 1, .int .i64 1] 3))
  refine (next_any pb cap a c 2 2 wa (some ⟨wr.heap.size, 0, none⟩) [2, 1] [1, 1] _ h1.pk rfl rfl (il_two wr 1 1) nonN_11).mono ?_
  rintro e w' (⟨hN, _⟩ | ⟨q', d', ht', _, rfl, hp, hk⟩)
  · exact (some_11 hN).elim
  · obtain ⟨rfl, rfl⟩ := ht.uniq ht'
    exact ⟨rfl, h1.step hp hk⟩
set_option maxHeartbeats 1600000 in
theorem fact_any (w : World) : Calls Try.prog 6 #[] w fun e w' => e = .returned (.bool true) ∧ Below w.heap.size w w' := by
  have HN := new_yes ⟨w.heap.size, 0, none⟩ 2 2 [2, 1] _ rfl good_21 (il_two w 2 1)
  go_enter Try.func6, Try.ntmps6
  go_wp2_with fail
  refine HN.mono ?_
  rintro e w1 ⟨pb, wa, cap, c, rfl, hp, hc, hb, hge, _⟩
  have H1 : Hid (PS w w1 pb cap wa [2, 1] 0 2) := by
    have e : c = 2 := by simp [gI] at hc; omega
    subst e
    have hb0 := alloc_below' w (.cells #[.int .i64 2, .int .i64 1] 3)
    have hs := hb0.size
    exact ⟨hp, hb0.trans (hb.mono hs), by omega⟩
  clear HN hp hc hb hge
  have HA := fact_turn H1.out turn_a
  go_wp2_with fail
  refine HA.mono ?_
  rintro e w2 ⟨rfl, hp⟩
  have H2 : Hid (PS w w2 pb cap wa [2, 1] 0 1) := hp
  clear HA hp H1
  have HA := fact_turn H2.out turn_b
  go_wp2_with fail
  refine HA.mono ?_
  rintro e w3 ⟨rfl, hp⟩
  have H3 : Hid (PS w w3 pb cap wa [2, 1] 0 0) := hp
  clear HA hp H2
  have HA := fact_turn H3.out turn_c
  go_wp2_with fail
  refine HA.mono ?_
  rintro e w4 ⟨rfl, hp⟩
  have H4 : Hid (Below w.heap.size w w4) := hp.bel
  clear HA hp H3
  go_wp2
  go_ret
  exact ⟨rfl, H4.out⟩
end Go.Proofs.Ythkcgbbfnbnheaa
