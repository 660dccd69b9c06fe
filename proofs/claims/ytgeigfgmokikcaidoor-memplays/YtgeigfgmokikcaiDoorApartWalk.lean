/-
  What the law MemApart gives: true, whatever the numbers and the bytes.
-/
import Derived.Test.YtgeigfgmokikcaiDoorNumbersWalk
namespace Go.Proofs.YtgeigfgmokikcaiDoor
open Go.RowKit
set_option linter.unusedVariables false

/-- Bytes that came in. -/
structure BIn (w : World) (a : Option Addr) (cap : Nat) (l : List Nat) : Prop where
  lies : Lies w a l
  all : AllB l
  big : l.length ≤ 140737488355328
  nil : a = none → cap = 0
  cap : l.length ≤ cap
theorem BIn.below {w w' : World} {a : Option Addr} {cap : Nat} {l : List Nat} (h : BIn w a cap l) (hb : Below w.heap.size w w') : BIn w' a cap l := ⟨h.lies.below hb, h.all, h.big, h.nil, h.cap⟩
theorem bytes_same (a a2 : Option Addr) (xs : List Nat) (cap cap2 : Nat) (w : World) (hm : xs.length ≤ 140737488355328) (hc : Lies w a xs) (hc2 : Lies w a2 xs) :
    Calls Tryd.prog 9 #[.slice a xs.length cap, .slice a2 xs.length cap2] w fun e w' => e = .returned (.bool true) ∧ Below w.heap.size w w' := by
  have := bytes_any a a2 xs xs cap cap2 w hm hm hc hc2
  rw [decide_eq_true rfl] at this
  exact this
/-- Whether what is written second lies elsewhere. -/
abbrev elsewhere (a : Nat) (xl : Nat) (b : Int) (yl : Nat) : Prop := (a : Int) + xl ≤ b ∨ (0 ≤ b ∧ b ≤ (a : Int) - yl)
/-- What any Write that lies elsewhere leaves. -/
theorem write_far (mb hb : Nat) (l : List Nat) (a n : Nat) (b : Int) (ya : Option Addr) (ys : List Nat) (yc : Nat) (w : World) (h : MW w mb hb l) (hI : BIn w ya yc ys) (hb2 : -9223372036854775808 ≤ b ∧ b ≤ 9223372036854775807) (hf : a + n ≤ l.length) (he : elsewhere a n b ys.length) :
    Calls Tryd.prog 12 #[.pointer (some ⟨mb, 0, none⟩), .int .i64 b, .slice ya ys.length yc] w fun e w' => (∃ v, e = .returned v) ∧ ∃ l', MW w' mb hb l' ∧ l'.length = l.length ∧ cut l' a n = cut l a n ∧ Keep (fun b => b = hb) w w' := by
  by_cases h2 : fits l.length b (ys.length : Nat)
  · obtain ⟨k, rfl, hk⟩ := fits_nat h2
    refine (write_yes mb hb l k ya ys yc w h hI.lies hI.all hk).mono ?_
    rintro e w' ⟨rfl, m1, k1⟩
    refine ⟨⟨_, rfl⟩, _, m1, lay_len hk, lay_far hk hf ?_, k1⟩
    unfold elsewhere at he
    omega
  · refine (write_no mb hb l b ya ys.length yc w h h2 hb2).mono ?_
    rintro e w' ⟨rfl, rfl⟩
    exact ⟨⟨_, rfl⟩, l, h, rfl, rfl, Keep.refl _ _⟩
end Go.Proofs.YtgeigfgmokikcaiDoor
