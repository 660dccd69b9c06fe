/-
  Plain mathematics of lists of pages: segments, what a walk along a memory tells, what is built. Nothing of the program is named here.
-/
import Derived.Test.YtdkafcgangcgbajMathMem
namespace Go.Proofs.Ytdkafcgangcgbaj
open Go.RowKit

/-- A segment: where, how long. -/
structure Sg where
  p : Int
  n : Int
def sg0 : Sg := ⟨0, 0⟩
def gS (L : List Sg) (i : Nat) : Sg := L[i]?.getD sg0
def gI (L : List Int) (i : Nat) : Int := L[i]?.getD 0
theorem take_snocS {l : List Sg} {k : Nat} (h : k < l.length) : l.take (k + 1) = l.take k ++ [gS l k] := by
  unfold gS
  rw [List.take_add_one, List.getElem?_eq_getElem h]
  rfl
theorem take_snocI {l : List Int} {k : Nat} (h : k < l.length) : l.take (k + 1) = l.take k ++ [gI l k] := by
  unfold gI
  rw [List.take_add_one, List.getElem?_eq_getElem h]
  rfl
/-- n bytes from i on lie in so many. -/
abbrev fits (L : Nat) (i n : Int) : Prop := 0 ≤ i ∧ 0 ≤ n ∧ i + n ≤ (L : Int)
/-- What the eight bytes at a place tell. -/
def numE (l : List Nat) (i : Int) : Option Nat := if fits l.length i 8 ∧ num (cut l i.toNat 8) ≤ 4611686018427387904 then some (num (cut l i.toNat 8)) else none
theorem numE_of {l : List Nat} {a x : Nat} (h : numE l (a : Int) = some x) : a + 8 ≤ l.length ∧ num (cut l a 8) = x ∧ x ≤ 4611686018427387904 := by
  unfold numE at h
  split at h
  · rename_i hc
    have e := Option.some.inj h
    rw [Int.toNat_natCast] at e hc
    unfold fits at hc
    exact ⟨by omega, e, by omega⟩
  · cases h
/-- A walk along a list: what is wrong, the segments. -/
def goF (l : List Nat) : Nat → Nat → Nat → Nat × List Sg
  | 0, _, _ => (0, [])
  | f + 1, a, left =>
    if left = 0 then (0, []) else
    match numE l (a : Int) with
    | none => (1, [])
    | some x =>
      if x % 64 ≠ 0 then (2, [])
      else if a % 64 = 56 ∧ 64 < left then goF l f x left
      else if l.length < x + min 64 left then (1, [])
      else ((goF l f (a + 8) (left - min 64 left)).1, ⟨(x : Int), ((min 64 left : Nat) : Int)⟩ :: (goF l f (a + 8) (left - min 64 left)).2)
/-- How far it still can go. -/
def mu (a left : Nat) : Nat := 2 * left + (if a % 64 = 56 then 1 else 0)
theorem goF_done (l : List Nat) (f a : Nat) : goF l (f + 1) a 0 = (0, []) := by simp [goF]
theorem goF_none {l : List Nat} {f a left : Nat} (h : left ≠ 0) (hn : numE l (a : Int) = none) : goF l (f + 1) a left = (1, []) := by simp [goF, h, hn]
theorem goF_shape {l : List Nat} {f a left x : Nat} (h : left ≠ 0) (hn : numE l (a : Int) = some x) (hx : x % 64 ≠ 0) : goF l (f + 1) a left = (2, []) := by simp [goF, h, hn, hx]
theorem goF_on {l : List Nat} {f a left x : Nat} (h : left ≠ 0) (hn : numE l (a : Int) = some x) (hx : x % 64 = 0) (ha : a % 64 = 56 ∧ 64 < left) : goF l (f + 1) a left = goF l f x left := by simp [goF, h, hn, hx, ha]
theorem goF_out {l : List Nat} {f a left x : Nat} (h : left ≠ 0) (hn : numE l (a : Int) = some x) (hx : x % 64 = 0) (ha : ¬ (a % 64 = 56 ∧ 64 < left)) (ho : l.length < x + min 64 left) : goF l (f + 1) a left = (1, []) := by
  simp only [goF, h, hn, hx, if_false, ne_eq, not_true_eq_false, if_neg ha, if_pos ho]
theorem goF_seg {l : List Nat} {f a left x : Nat} (h : left ≠ 0) (hn : numE l (a : Int) = some x) (hx : x % 64 = 0) (ha : ¬ (a % 64 = 56 ∧ 64 < left)) (ho : ¬ l.length < x + min 64 left) :
    goF l (f + 1) a left = ((goF l f (a + 8) (left - min 64 left)).1, ⟨(x : Int), ((min 64 left : Nat) : Int)⟩ :: (goF l f (a + 8) (left - min 64 left)).2) := by
  simp only [goF, h, hn, hx, if_false, ne_eq, not_true_eq_false, if_neg ha, if_neg ho]
/-- What the whole walk tells: what is wrong (then no segments), the segments. -/
def restF (l : List Nat) (second : Int) (left : Nat) : Nat × List Sg :=
  if left = 0 then (0, [])
  else if left ≤ 64 then
    if ¬ (0 ≤ second ∧ second % 64 = 0) then (2, [])
    else if ¬ fits l.length second (left : Int) then (1, [])
    else (0, [⟨second, (left : Int)⟩])
  else if second < 0 ∨ second % 8 ≠ 0 then (2, [])
  else goF l 5000 second.toNat left
/-- How many bytes the first segment has. -/
def firstN (first : Nat) (long : Nat) : Nat := min (64 - first % 64) long
def walkF (l : List Nat) (first second long : Int) : Nat × List Sg :=
  if long < 1 ∨ 2048 < long then (1, [])
  else if first % 4 ≠ 0 then (2, [])
  else if first < 0 then (1, [])
  else if ¬ fits l.length first (firstN first.toNat long.toNat : Nat) then (1, [])
  else ((restF l second (long.toNat - firstN first.toNat long.toNat)).1, ⟨first, (firstN first.toNat long.toNat : Nat)⟩ :: (restF l second (long.toNat - firstN first.toNat long.toNat)).2)
/-- All segments together. -/
def sumS : List Sg → Int
  | [] => 0
  | s :: r => s.n + sumS r
theorem sumS_app : ∀ a b, sumS (a ++ b) = sumS a + sumS b
  | [], b => by simp [sumS]
  | s :: r, b => by simp only [List.cons_append, sumS, sumS_app r]; omega
/-- A segment that is a page's beginning, in so many bytes. -/
def PgS (L : Nat) (s : Sg) : Prop := 0 ≤ s.p ∧ s.p % 64 = 0 ∧ 1 ≤ s.n ∧ s.n ≤ 64 ∧ s.p + s.n ≤ (L : Int)
theorem goF_good (l : List Nat) : ∀ f a left, mu a left < f → (goF l f a left).1 = 0 → (∀ s ∈ (goF l f a left).2, PgS l.length s) ∧ sumS (goF l f a left).2 = (left : Int)
  | 0, a, left, h, _ => by omega
  | f + 1, a, left, h, he => by
    by_cases h0 : left = 0
    · subst h0; rw [goF_done]; exact ⟨fun s hs => by simp at hs, rfl⟩
    cases hn : numE l (a : Int) with
    | none => rw [goF_none h0 hn] at he; cases he
    | some x =>
      by_cases hx : x % 64 = 0
      · by_cases ha : a % 64 = 56 ∧ 64 < left
        · rw [goF_on h0 hn hx ha] at he ⊢
          refine goF_good l f x left ?_ he
          unfold mu at h ⊢
          rw [if_pos ha.1] at h
          rw [if_neg (by omega)]
          omega
        · by_cases ho : l.length < x + min 64 left
          · rw [goF_out h0 hn hx ha ho] at he; cases he
          · rw [goF_seg h0 hn hx ha ho] at he ⊢
            have ih := goF_good l f (a + 8) (left - min 64 left) (by unfold mu at h ⊢; split <;> split at h <;> omega) he
            refine ⟨fun s hs => ?_, ?_⟩
            · rcases List.mem_cons.1 hs with rfl | hs
              · refine ⟨?_, ?_, ?_, ?_, ?_⟩ <;> show _ <;> simp only [] <;> omega
              · exact ih.1 s hs
            · show ((min 64 left : Nat) : Int) + sumS _ = _
              rw [ih.2]; omega
      · rw [goF_shape h0 hn hx] at he; cases he
theorem restF_good (l : List Nat) (second : Int) (left : Nat) (hl : left ≤ 2048) (he : (restF l second left).1 = 0) : (∀ s ∈ (restF l second left).2, PgS l.length s) ∧ sumS (restF l second left).2 = (left : Int) := by
  unfold restF at he ⊢
  by_cases h0 : left = 0
  · rw [if_pos h0] at he ⊢; subst h0; exact ⟨fun s hs => by simp at hs, rfl⟩
  rw [if_neg h0] at he ⊢
  by_cases h1 : left ≤ 64
  · rw [if_pos h1] at he ⊢
    by_cases h2 : 0 ≤ second ∧ second % 64 = 0
    · rw [if_neg (Decidable.not_not.2 h2)] at he ⊢
      by_cases h3 : fits l.length second (left : Int)
      · rw [if_neg (Decidable.not_not.2 h3)] at he ⊢
        unfold fits at h3
        refine ⟨fun s hs => ?_, ?_⟩
        · rw [List.mem_singleton] at hs
          subst hs
          refine ⟨?_, ?_, ?_, ?_, ?_⟩ <;> show _ <;> simp only [] <;> omega
        · show (left : Int) + 0 = _; omega
      · rw [if_pos h3] at he; cases he
    · rw [if_pos h2] at he; cases he
  · rw [if_neg h1] at he ⊢
    by_cases h2 : second < 0 ∨ second % 8 ≠ 0
    · rw [if_pos h2] at he; cases he
    · rw [if_neg h2] at he ⊢
      exact goF_good l 5000 _ left (by unfold mu; split <;> omega) he
end Go.Proofs.Ytdkafcgangcgbaj
