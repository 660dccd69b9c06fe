/-
  What the call of SweepLeast gives: true.
-/
import Derived.Test.YtgmobibogoebpagLeastSome
namespace Go.Proofs.Ytgmobibogoebpag
open Go.RowKit
set_option linter.unusedVariables false

set_option maxRecDepth 20000 in
set_option maxHeartbeats 4000000 in
theorem least_none (a sa : Option Addr) (cap n3 cs : Nat) (p need : Int) (w : World) :
    Calls Try.prog 3 #[.slice a 0 cap, .int .i64 p, .int .i64 need, .slice sa n3 cs] w fun e w' => e = .returned (.bool true) ∧ Below w.heap.size w w' := by
  have HF : Hid (Calls Try.prog 5 #[.slice (some ⟨w.heap.size, 0, none⟩) 2 2, .int .i64 4] (w.alloc (.cells #[.bool true, .int .i64 2, .int .i64 0, .bool true, .int .i64 1, .int .i64 0] 29)) fun e w' => e = .returned (.tuple #[.int .i64 1, .nilIface]) ∧ Below w.heap.size w w') := fore_any w
  have HBo : Hid (∀ wr, Calls Try.prog 6 #[.slice a 0 cap] wr fun e w' => e = .returned (.slice none 0 0) ∧ w' = wr) := fun wr => both_nil a cap wr
  have HP : Hid (∀ wr, Below w.heap.size w wr → Calls Try.prog 7 #[.slice none 0 0, .int .i64 p, .int .i64 need] wr fun e w' => ((∃ f : Nat, e = .returned (.tuple #[.slice none 0 0, .iface 40 (.int .i64 (f : Int))])) ∨ (need ≤ 0 ∧ ∃ pa cp, e = .returned (.tuple #[.slice pa 0 cp, .nilIface]))) ∧ Below w.heap.size w w') := fun wr hb => (plan_any none 0 [] p need wr (Or.inl rfl)).mono fun e w' ⟨h1, h2⟩ => ⟨by
    rcases plan_two h1 with h | ⟨t, pa, cp, hPT, h3, _⟩
    · exact Or.inl h
    · have ht : t = [] := by
        cases t with
        | nil => rfl
        | cons x r => exact absurd (hPT.tm x List.mem_cons_self).1 (Nat.not_lt_zero _)
      subst ht
      exact Or.inr ⟨hPT.ts, pa, cp, h3⟩, hb.trans (h2.mono hb.size)⟩
  go_enter Try.func3, Try.ntmps3
  go_wp2_with fail
  refine HF.out.mono ?_
  rintro e w1 ⟨rfl, hb1⟩
  have HB1 : Hid (Below w.heap.size w w1) := hb1
  clear hb1 HF
  go_wp2_with fail
  refine (HBo.out _).mono ?_
  rintro e w2 ⟨rfl, rfl⟩
  have H2 := HP.out w2 HB1.out
  clear HBo HP HB1
  go_wp2_with fail
  refine H2.mono ?_
  rintro e w3 ⟨⟨f, rfl⟩ | ⟨hn, pa, cp, rfl⟩, hb3⟩
  · have HB3 : Hid (Below w.heap.size w w3) := hb3
    clear H2 hb3
    go_wp2
    go_ret
    exact ⟨rfl, HB3.out⟩
  · have HB3 : Hid (Below w.heap.size w w3) := hb3
    have hns : ¬ (0 : Int) < need := by omega
    clear H2 hb3 hn
    go_wp2
    go_loopw [13, 14] (fun s13 j wr => s13 = .int .i64 0 ∧ j = .int .i64 0 ∧ wr = w3) (fun _ _ _ => 0)
    case atStart => exact ⟨rfl, rfl, rfl⟩
    case round =>
      obtain ⟨rfl, rfl, rfl⟩ := hrel
      obtain ⟨wp, rfl⟩ : ∃ wp, wp = wr := ⟨_, rfl⟩
      go_wp2
      go_loopw [15, 16, 17] (fun s15 s16 j wr => s15 = .slice none 0 0 ∧ s16 = .int .i64 0 ∧ j = .int .i64 0 ∧ wr = wp) (fun _ _ _ _ => 0)
      case atStart => exact ⟨rfl, rfl, rfl, rfl⟩
      case round =>
        obtain ⟨rfl, rfl, rfl, rfl⟩ := hrel
        by_cases h3 : 0 < n3
        · go_wp2
          go_ret
          exact ⟨rfl, HB3.out⟩
        · obtain rfl : n3 = 0 := by omega
          clear h3
          go_wp2
          go_ret
          exact ⟨rfl, HB3.out⟩
theorem least_any (a : Option Addr) (cap : Nat) (l : List Bl) (p need : Int) (sa : Option Addr) (cs : Nat) (xs : List Int) (w : World) (h24 : l.length * 24 ≤ 140737488355328) (hB : BL w a l) (hxl : xs.length ≤ 4611686018427387904) (hI : IL w sa xs) :
    Calls Try.prog 3 #[.slice a l.length cap, .int .i64 p, .int .i64 need, .slice sa xs.length cs] w fun e w' => e = .returned (.bool true) ∧ Below w.heap.size w w' := by
  rcases hB with rfl | ⟨g, off, rfl, hat⟩
  · exact least_none a sa cap xs.length cs p need w
  · by_cases h0 : 0 < l.length
    · rcases hI with rfl | ⟨gs, os, rfl, hI⟩
      · exact least_nosome g off cap l p need sa cs w h0 h24 hat
      · exact least_some g off cap l p need gs os cs xs w h0 h24 hat hxl hI
    · obtain rfl : l = [] := List.length_eq_zero_iff.1 (by omega)
      exact least_none _ sa cap xs.length cs p need w
end Go.Proofs.Ytgmobibogoebpag
