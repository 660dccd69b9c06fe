/-
  What the laws' own filled gives: a memory with these bytes.
-/
import Derived.Test.YtdkafcgangcgbajTake
import Derived.Test.YtdkafcgangcgbajMathMove
namespace Go.Proofs.Ytdkafcgangcgbaj
open Go.RowKit
set_option linter.unusedVariables false

/-- Bytes that came in. -/
structure BIn (w : World) (a : Option Addr) (cap : Nat) (l : List Nat) : Prop where
  lies : Lies w a l
  all : AllB l
  big : l.length ≤ 140737488355328
  nil : a = none → cap = 0
  cap : l.length ≤ cap
theorem BIn.below {w w' : World} {a : Option Addr} {cap : Nat} {l : List Nat} (h : BIn w a cap l) (hb : Below w.heap.size w w') : BIn w' a cap l := ⟨h.lies.below hb, h.all, h.big, h.nil, h.cap⟩
theorem Lies.lt' {w : World} {a : Option Addr} {l : List Nat} (h : Lies w a l) {b off : Nat} (hl : l ≠ []) (ha : a = some ⟨b, off, none⟩) : b < w.heap.size := h.lt b off hl ha
theorem bytes_same (a a2 : Option Addr) (xs : List Nat) (cap cap2 : Nat) (w : World) (hm : xs.length ≤ 140737488355328) (hc : Lies w a xs) (hc2 : Lies w a2 xs) :
    Calls Try.prog 10 #[.slice a xs.length cap, .slice a2 xs.length cap2] w fun e w' => e = .returned (.bool true) ∧ Below w.heap.size w w' := by
  have := bytes_any a a2 xs xs cap cap2 w hm hm hc hc2
  rw [decide_eq_true rfl] at this
  exact this
set_option maxHeartbeats 1600000 in
theorem filled_no (a : Option Addr) (n cap : Nat) (w : World) (h : 16384 < n) (hn : n ≤ 140737488355328) :
    Calls Try.prog 5 #[.slice a n cap] w fun e w' => e = .returned (.tuple #[.pointer none, .bool false]) ∧ w = w' := by
  have HN := new_bad (n : Nat) w (by omega)
  go_enter Try.func5, Try.ntmps5
  go_wp2_with fail
  refine HN.mono ?_
  rintro e w' ⟨rfl, rfl⟩
  clear HN
  go_wp2
  go_ret2
  exact ⟨rfl, rfl⟩
/-- A memory with these bytes, behind all that was there. -/
def FillPost (w w' : World) (e : Ending) (b : List Nat) : Prop := ∃ mb hb, e = .returned (.tuple #[.pointer (some ⟨mb, 0, none⟩), .bool true]) ∧ MW w' mb hb b ∧ Below w.heap.size w w' ∧ w.heap.size ≤ mb ∧ w.heap.size ≤ hb
set_option maxHeartbeats 1600000 in
theorem filled_yes (a : Option Addr) (b : List Nat) (cap : Nat) (w : World) (h : b.length ≤ 16384) (hI : BIn w a cap b) :
    Calls Try.prog 5 #[.slice a b.length cap] w fun e w' => FillPost w w' e b := by
  have HN : Hid (Calls Try.prog 12 #[.int .i64 (b.length : Nat)] w fun e w' => NewPost w w' e b.length) := new_yes b.length w h
  have HW : Hid (∀ wz mb hb, MW wz mb hb (List.replicate b.length 0) → Below w.heap.size w wz → w.heap.size ≤ hb → w.heap.size ≤ mb → Calls Try.prog 13 #[.pointer (some ⟨mb, 0, none⟩), .int .i64 0, .slice a b.length cap] wz fun e w' => e = .returned .nilIface ∧ MW w' mb hb b ∧ Below w.heap.size w w') := fun wz mb hb hm hbl hge hge2 => by
    refine (write_yes mb hb (List.replicate b.length 0) 0 a b cap wz hm (hI.below hbl).lies hI.all (by simp)).mono ?_
    rintro e w' ⟨q1, q2, q3⟩
    rw [lay_zero _ _ (by simp)] at q2
    exact ⟨q1, q2, hbl.trans (q3.below hbl.size (fun k e => by rw [e]; exact hge))⟩
  clear hI h
  go_enter Try.func5, Try.ntmps5
  go_wp2_with fail
  refine HN.out.mono ?_
  rintro e w1 ⟨mb, hb, rfl, hm, hbl, hg1, hg2⟩
  have HW2 := HW.out w1 mb hb hm hbl hg2 hg1
  have HG : Hid (w.heap.size ≤ mb ∧ w.heap.size ≤ hb) := ⟨hg1, hg2⟩
  clear HN HW hm hbl hg1 hg2
  go_wp2_with fail
  refine HW2.mono ?_
  rintro e w2 ⟨rfl, hm, hbl⟩
  have HE : Hid (∀ n, FillPost w (w2.drewN n) (.returned (.tuple #[.pointer (some ⟨mb, 0, none⟩), .bool true])) b) := fun n => ⟨mb, hb, rfl, hm.below (below_drewN (Below.refl _ _) n), below_drewN hbl n, HG.out.1, HG.out.2⟩
  clear HW2 HG hm hbl
  go_wp2
  go_quiet (fail)
  go_wp2
  go_ret2
  exact HE.out _
end Go.Proofs.Ytdkafcgangcgbaj
