/-
  What the calls that the laws make give, case by case: Put of a known slot, Choose, granarysame.Pick.
-/
import Derived.Test.YtbajdgadljdnkaeDoorChoose
import Derived.Test.YtbajdgadljdnkaeDoorBytes
namespace Go.Proofs.YtbajdgadljdnkaeDoor
open Go.RowKit
set_option linter.unusedVariables false

theorem OwnA.cap {w : World} {base cap : Nat} {a : Option Addr} {ys : List Nat} (h : OwnA w base a cap ys) : ys.length ≤ cap := by
  rcases h.parts with ⟨_, _, h⟩ | ⟨g, cur, _, _, _, h, _⟩
  · rw [h]; exact Nat.zero_le _
  · exact h
theorem fact_put (w : World) : Calls Tryd.prog 19 #[.int .i64 3, .slice (some ⟨w.heap.size, 0, none⟩) 1 1] (w.alloc (.cells #[.int .u8 1] 5)) fun e w' => (∃ a c, e = .returned (.tuple #[.slice a 17 c, .nilIface])) ∧ Below w.heap.size w w' := by
  have hO : OwnA (w.alloc (.cells #[.int .u8 1] 5)) w.heap.size (some ⟨w.heap.size, 0, none⟩) 1 [1] := own_new w w.heap.size [1] (Nat.le_refl _) (by simp) _ rfl
  have hb := alloc_below' w (.cells #[.int .u8 1] 5)
  have h := put_ok 3 (some ⟨w.heap.size, 0, none⟩) [1] 1 (w.alloc (.cells #[.int .u8 1] 5)) (by decide) (by decide) (fun x hx => by simp at hx; omega) hO.lies (fun e => by cases e)
  refine h.mono ?_
  rintro e w' ⟨a1, c1, rfl, _, b1⟩
  rw [slotL_len]
  exact ⟨⟨a1, c1, rfl⟩, hb.trans (b1.mono hb.size)⟩
/-- Put is refused. -/
theorem put_bad (q : Int) (a : Option Addr) (l : List Nat) (cap : Nat) (w : World) (hI : BIn w a cap l) (h : putE q l.length ≠ 0) :
    Calls Tryd.prog 19 #[.int .i64 q, .slice a l.length cap] w fun e w' => e = .returned (.tuple #[.slice none 0 0, .iface 28 (.int .i64 (putE q l.length : Nat))]) ∧ Below w.heap.size w w' := by
  refine (put_any q a l cap w hI.all hI.lies hI.nil).mono ?_
  rintro e w' ⟨b1, ⟨_, h1⟩ | ⟨h1, _⟩⟩
  · exact ⟨h1, b1⟩
  · exact absurd h1 h
theorem choose_no {a b : Option Addr} {s t : List Nat} {ca cb : Nat} {w : World} (hA : BIn w a ca s) (hB : BIn w b cb t) (h : sel s t = none) :
    Calls Tryd.prog 23 #[.slice a s.length ca, .slice b t.length cb] w fun e w' => e = .returned (.tuple #[.int .i64 0, .int .i64 0, .slice none 0 0, .iface 28 (.int .i64 4)]) ∧ Below w.heap.size w w' := by
  refine (choose_any a b s t ca cb w hA hB).mono ?_
  rintro e w' ⟨b1, ⟨_, h1⟩ | ⟨k, X, a1, c1, h1, _⟩⟩
  · exact ⟨h1, b1⟩
  · rw [h] at h1; cases h1
theorem choose_yes {a b : Option Addr} {s t : List Nat} {ca cb k : Nat} {X : List Nat} {w : World} (hA : BIn w a ca s) (hB : BIn w b cb t) (h : sel s t = some (k, X)) :
    Calls Tryd.prog 23 #[.slice a s.length ca, .slice b t.length cb] w fun e w' => ∃ a1 c1, e = .returned (.tuple #[.int .i64 (k : Nat), .int .i64 (seqS X : Nat), .slice a1 (bodyS X).length c1, .nilIface]) ∧ OwnA w' w.heap.size a1 c1 (bodyS X) ∧ Below w.heap.size w w' := by
  refine (choose_any a b s t ca cb w hA hB).mono ?_
  rintro e w' ⟨b1, ⟨h1, _⟩ | ⟨k', X', a1, c1, h1, h2, h3⟩⟩
  · rw [h] at h1; cases h1
  · rw [h] at h1; cases h1
    exact ⟨a1, c1, h2, h3, b1⟩
/-- Two lists that are the same. -/
theorem bytes_same (a a2 : Option Addr) (xs : List Nat) (cap cap2 : Nat) (w : World) (hm : xs.length ≤ 140737488355328) (hc : Lies w a xs) (hc2 : Lies w a2 xs) :
    Calls Tryd.prog 13 #[.slice a xs.length cap, .slice a2 xs.length cap2] w fun e w' => e = .returned (.bool true) ∧ Below w.heap.size w w' := by
  have := bytes_any a a2 xs xs cap cap2 w hm hm hc hc2
  rw [decide_eq_true rfl] at this
  exact this
set_option maxRecDepth 20000 in
theorem pick_any (c : Int) (n : Nat) (w : World) (h1 : 1 ≤ n) (h2 : n ≤ 1073741824) (hc : -9223372036854775808 ≤ c ∧ c ≤ 9223372036854775807) :
    Calls Tryd.prog 18 #[.int .i64 c, .int .i64 n] w fun e w' => (∃ k : Nat, k < n ∧ e = .returned (.int .i64 (k : Nat))) ∧ w' = w := by
  have hn0 : ¬ ((n : Int) = 0) := by omega
  by_cases h0 : 0 ≤ c
  · obtain ⟨m, rfl⟩ := Int.eq_ofNat_of_zero_le h0
    have HK : Hid (m % n < n) := Nat.mod_lt _ h1
    go_enter Tryd.func18, Tryd.ntmps18
    go_wp2
    go_ret
    exact ⟨⟨m % n, HK.out, by go_num⟩, rfl⟩
  · obtain ⟨m, hm⟩ := Int.eq_ofNat_of_zero_le (show 0 ≤ -(c + 1) by omega)
    have hc' : c = -((m : Int) + 1) := by omega
    subst hc'
    have HK : Hid (m % n < n) := Nat.mod_lt _ h1
    have hneg : -((m : Int) + 1) < 0 := by omega
    clear hm h0
    go_enter Tryd.func18, Tryd.ntmps18
    go_wp2
    go_ret
    refine ⟨⟨m % n, HK.out, ret_int ?_⟩, rfl⟩
    rw [show -((m : Int) + 1) + 1 = -(m : Int) by omega, Int.neg_tmod, Int.neg_neg, Int.tmod_eq_emod_of_nonneg (by omega)]
    simp
end Go.Proofs.YtbajdgadljdnkaeDoor
