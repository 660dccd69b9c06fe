/-
  What the laws of package order share: numbers that are picked; lists of numbers that are the same.
-/
import Derived.Test.YtohngekkbgklfaaFind
namespace Go.Proofs.Ytohngekkbgklfaa
open Go.RowKit
set_option linter.unusedVariables false

/-- What granarysame.Pick answers. -/
def pkN (c : Int) (n : Nat) : Nat := (if 0 ≤ c then c.toNat else (-(c + 1)).toNat) % n
theorem pkN_lt (c : Int) {n : Nat} (h : 1 ≤ n) : pkN c n < n := Nat.mod_lt _ h
set_option maxHeartbeats 800000 in
theorem pick_is (c : Int) (n : Nat) (w : World) (h1 : 1 ≤ n) (h2 : n ≤ 9223372036854775807) (hc : -9223372036854775808 ≤ c ∧ c ≤ 9223372036854775807) :
    Calls Try.prog 6 #[.int .i64 c, .int .i64 n] w fun e w' => e = .returned (.int .i64 (pkN c n : Nat)) ∧ w = w' := by
  have hn0 : ¬ ((n : Int) = 0) := by omega
  by_cases h0 : 0 ≤ c
  · obtain ⟨m, rfl⟩ := Int.eq_ofNat_of_zero_le h0
    have HK : Hid (pkN (m : Int) n = m % n) := by
      show pkN (m : Int) n = m % n
      unfold pkN
      rw [if_pos h0, Int.toNat_natCast]
    go_enter Try.func6, Try.ntmps6
    go_wp2
    go_ret
    exact ⟨by rw [HK.out]; go_num, rfl⟩
  · obtain ⟨m, hm⟩ := Int.eq_ofNat_of_zero_le (show 0 ≤ -(c + 1) by omega)
    have hc' : c = -((m : Int) + 1) := by omega
    subst hc'
    have HK : Hid (pkN (-((m : Int) + 1)) n = m % n) := by
      show pkN (-((m : Int) + 1)) n = m % n
      unfold pkN
      rw [if_neg h0, hm, Int.toNat_natCast]
    have hneg : -((m : Int) + 1) < 0 := by omega
    clear hm h0
    go_enter Try.func6, Try.ntmps6
    go_wp2
    go_ret
    refine ⟨?_, rfl⟩
    rw [HK.out]
    refine ret_int ?_
    rw [show -((m : Int) + 1) + 1 = -(m : Int) by omega, Int.neg_tmod, Int.neg_neg, Int.tmod_eq_emod_of_nonneg (by omega)]
    simp
theorem cl_two (w : World) (c d : Cl) (cs : Array Value) (h : cs = (clV c ++ clV d).toArray) : CL (w.alloc (.cells cs 29)) (some ⟨w.heap.size, 0, none⟩) [c, d] := by
  subst h
  refine Or.inr ⟨w.heap.size, 0, rfl, fun i hi => ?_⟩
  have hi2 : i = 0 ∨ i = 1 := by simp at hi; omega
  rcases hi2 with rfl | rfl
  · refine ⟨?_, ?_, ?_, ?_, ?_⟩ <;> simp [gC, clV]
  · refine ⟨?_, ?_, ?_, ?_, ?_⟩ <;> simp [gC, clV]
theorem il_two (w : World) (x y : Int) : IL (w.alloc (.cells #[.int .i64 x, .int .i64 y] 3)) (some ⟨w.heap.size, 0, none⟩) [x, y] := by
  refine Or.inr ⟨w.heap.size, 0, rfl, fun i hi => ?_⟩
  have : i = 0 ∨ i = 1 := by simp at hi; omega
  rcases this with rfl | rfl
  · simp [gI]
  · simp [gI]
/-- Find, once what it answers is known. -/
theorem FindPost.err {l : List Cl} {w w' : World} {e : Ending} {x : Nat} (h : FindPost l w e w') (hx : ¬ x = 0) (hf : findL l = (x, [])) : e = .returned (.tuple #[.slice none 0 0, .iface 40 (.int .i64 (x : Nat))]) ∧ Below w.heap.size w w' := by
  rcases h with ⟨⟨y, hy, h1, h2⟩, hb⟩ | ⟨⟨r, oa, oc, h1, _⟩, hb⟩
  · rw [hf] at h1
    have : y = x := (congrArg Prod.fst h1).symm
    subst this
    exact ⟨by rw [h2, errI_ne hx], hb⟩
  · rw [hf] at h1
    exact absurd (congrArg Prod.fst h1) hx
theorem FindPost.ok {l : List Cl} {w w' : World} {e : Ending} {r : List Nat} (h : FindPost l w e w') (hf : findL l = (0, r)) : ∃ oa oc, e = .returned (.tuple #[.slice oa r.length oc, .nilIface]) ∧ OwnI w' w.heap.size oa oc (orI r) ∧ Below w.heap.size w w' := by
  rcases h with ⟨⟨y, hy, h1, h2⟩, hb⟩ | ⟨⟨r', oa, oc, h1, _, _, h2, h3⟩, hb⟩
  · rw [hf] at h1
    exact absurd (congrArg Prod.fst h1).symm hy
  · rw [hf] at h1
    have : r = r' := congrArg Prod.snd h1
    subst this
    exact ⟨oa, oc, h2, h3, hb⟩
end Go.Proofs.Ytohngekkbgklfaa
