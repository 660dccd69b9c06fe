/-
  What the call of order.endedBy gives: which calls have ended by then, as bits.
-/
import Derived.Test.YtohngekkbgklfaaBits
namespace Go.Proofs.Ytohngekkbgklfaa
open Go.RowKit
set_option linter.unusedVariables false

set_option maxHeartbeats 3200000 in
theorem ended_some (g off cap : Nat) (l : List Cl) (x : Int) (w : World) (h10 : l.length ≤ 10) (hat : ∀ i, i < l.length → ClAt w g off i (gC l i)) :
    Calls Try.prog 12 #[.slice (some ⟨g, off, none⟩) l.length cap, .int .i64 x] w fun e w' => e = .returned (.int .i64 (endK l x l.length : Nat)) ∧ Below w.heap.size w w' := by
  have HA : Hid (∀ wr, Below w.heap.size w wr → ∀ i, i < l.length → ClAt wr g off i (gC l i)) := fun wr hb i hi => (hat i hi).keep (S := fun _ => False) (Keep.of_below hb) (fun e => e)
  clear hat
  go_enter Try.func12, Try.ntmps12
  go_wp2
  go_loopw [5, 10] (fun b j wr => ∃ k : Nat, k ≤ l.length ∧ j = .int .i64 k ∧ ∃ A : Nat, b = .int .i64 A ∧ Hid (A = endK l x k ∧ Below w.heap.size w wr)) (fun _ j _ => l.length - (intOf j).toNat)
  case atStart => exact ⟨0, Nat.zero_le _, rfl, 0, rfl, rfl, Below.refl _ _⟩
  case round =>
    obtain ⟨k, hk, rfl, A, rfl, hR⟩ := hrel
    by_cases hlt : k < l.length
    · obtain ⟨c0, c1, c2, c3, c4⟩ := HA.out wr hR.out.2 k hlt
      have HS : Hid ((gC l k).t ≤ x → (A ||| 2 ^ k) = endK l x (k + 1)) := fun h => by rw [hR.out.1, endK, if_pos h]
      have HN : Hid (¬ (gC l k).t ≤ x → A = endK l x (k + 1)) := fun h => by rw [hR.out.1, endK, if_neg h]
      have hA : A < 1024 := by rw [hR.out.1]; exact lt_pow (endK_lt l x k) (by omega)
      have hW : Hid (Below w.heap.size w (wr.alloc (.cells #[.int .i64 (gC l k).f, .int .i64 (gC l k).t, .bool (gC l k).w, .int .i64 (gC l k).b, .int .i64 (gC l k).v] 29))) := hR.out.2.trans ((Below.refl _ _).alloc hR.out.2.size _)
      obtain ⟨p, q, e1, e2, HQ⟩ := or_bit (A := A) (k := k) hA (by omega)
      clear hR
      generalize (gC l k).f = f at *
      generalize (gC l k).t = t at *
      generalize (gC l k).w = wb at *
      generalize (gC l k).b = b at *
      generalize (gC l k).v = v at *
      by_cases b0 : t ≤ x
      · have HS' : Hid (q = endK l x (k + 1)) := HQ.out.trans (HS.out b0)
        clear HS HN HQ
        go_wp2
        exact ⟨⟨k + 1, by omega, by go_num, q, by first | rfl | (rw [e2]), HS'.out, hW.out⟩, by simp [intOf]; omega⟩
      · have HN' : Hid (A = endK l x (k + 1)) := HN.out b0
        clear HS HN
        go_wp2
        exact ⟨⟨k + 1, by omega, by go_num, A, rfl, HN'.out, hW.out⟩, by simp [intOf]; omega⟩
    · obtain rfl : k = l.length := by omega
      clear hlt
      go_wp2
      go_ret
      exact ⟨congrArg (fun z : Nat => Ending.returned (.int .i64 (z : Int))) hR.out.1, hR.out.2⟩
end Go.Proofs.Ytohngekkbgklfaa
