/-
  What the call of order.Check gives: what is wrong with calls; nothing that was there has turned.
-/
import Derived.Test.YtohngekkbgklfaaCalls
namespace Go.Proofs.Ytohngekkbgklfaa
open Go.RowKit
set_option linter.unusedVariables false

theorem min4 (x y z u : Int) : ∃ M : Int, (∀ (P : Program) (ts : Array TypeId) (t : TypeId) (w : World), (Builtin.min_ ts t #[.int .i64 x, .int .i64 y, .int .i64 z, .int .i64 u]).run P w = .ok (.int .i64 M) w) ∧ (M < 0 ↔ x < 0 ∨ y < 0 ∨ z < 0 ∨ u < 0) := by
  refine ⟨if u < (if z < (if y < x then y else x) then z else if y < x then y else x) then u else (if z < (if y < x then y else x) then z else if y < x then y else x), fun P ts t w => ?_, ?_⟩
  · simp [Builtin.min_, Builtin.min2]
  · split <;> split <;> split <;> omega
set_option maxHeartbeats 1600000 in
theorem check_full (a : Option Addr) (n cap : Nat) (w : World) (h : 10 < n) :
    Calls Try.prog 8 #[.slice a n cap] w fun e w' => e = .returned (errI 3) ∧ w' = w := by
  rw [errI_ne (by decide)]
  go_enter Try.func8, Try.ntmps8
  go_wp2
  go_ret
  exact ⟨rfl, rfl⟩
set_option maxHeartbeats 1600000 in
theorem check_none (a : Option Addr) (cap : Nat) (w : World) :
    Calls Try.prog 8 #[.slice a 0 cap] w fun e w' => e = .returned .nilIface ∧ w' = w := by
  go_enter Try.func8, Try.ntmps8
  go_wp2
  go_loopw [11] (fun j wr => j = .int .i64 0 ∧ wr = w) (fun _ _ => 0)
  case atStart => exact ⟨rfl, rfl⟩
  case round =>
    obtain ⟨rfl, rfl⟩ := hrel
    go_wp2
    go_ret
    exact ⟨rfl, rfl⟩
set_option maxHeartbeats 3200000 in
theorem check_some (g off cap : Nat) (l : List Cl) (w : World) (h10 : l.length ≤ 10) (hat : ∀ i, i < l.length → ClAt w g off i (gC l i)) :
    Calls Try.prog 8 #[.slice (some ⟨g, off, none⟩) l.length cap] w fun e w' => e = .returned (errI (faultF l)) ∧ Below w.heap.size w w' := by
  have HA : Hid (∀ wr, Below w.heap.size w wr → ∀ i, i < l.length → ClAt wr g off i (gC l i)) := fun wr hb i hi => (hat i hi).keep (S := fun _ => False) (Keep.of_below hb) (fun e => e)
  have HZ : Hid ((∀ i, i < l.length → badC (gC l i) = 0) → errI (faultF l) = .nilIface) := fun h => by rw [faultF_all h10 h]; rfl
  have HB : Hid (∀ k, k < l.length → (∀ i, i < k → badC (gC l i) = 0) → ∀ n, ¬ n = 0 → badC (gC l k) = n → errI (faultF l) = .iface 40 (.int .i64 (n : Int))) := fun k hk h n hn hb => by
    rw [faultF_at h10 hk h (by omega), hb, errI_ne hn]
  clear hat
  go_enter Try.func8, Try.ntmps8
  go_wp2
  go_loopw [11] (fun j wr => ∃ k : Nat, k ≤ l.length ∧ j = .int .i64 k ∧ Hid ((∀ i, i < k → badC (gC l i) = 0) ∧ Below w.heap.size w wr)) (fun j _ => l.length - (intOf j).toNat)
  case atStart => exact ⟨0, Nat.zero_le _, rfl, fun i hi => absurd hi (Nat.not_lt_zero _), Below.refl _ _⟩
  case round =>
    obtain ⟨k, hk, rfl, hR⟩ := hrel
    by_cases hlt : k < l.length
    · obtain ⟨c0, c1, c2, c3, c4⟩ := HA.out wr hR.out.2 k hlt
      have HX : Hid (badC (gC l k) = 0 → ∀ i, i < k + 1 → badC (gC l i) = 0) := fun hg i hi => by
        by_cases e : i = k
        · rw [e]; exact hg
        · exact hR.out.1 i (by omega)
      have HE : Hid (∀ n, ¬ n = 0 → badC (gC l k) = n → errI (faultF l) = .iface 40 (.int .i64 (n : Int))) := HB.out k hlt hR.out.1
      have HW : Hid (Below w.heap.size w wr) := hR.out.2
      clear hR
      generalize hF : (gC l k).f = f at *
      generalize hT : (gC l k).t = t at *
      generalize hW : (gC l k).w = wb at *
      generalize hL : (gC l k).b = b at *
      generalize hV : (gC l k).v = v at *
      have HG : Hid (badC (gC l k) = if f < 0 ∨ t < 0 ∨ b < 0 ∨ v < 0 then 1 else if t ≤ f then 5 else 0) := by unfold Hid badC; rw [hF, hT, hL, hV]
      clear hF hT hW hL hV
      have HW' : Hid (Below w.heap.size w (wr.alloc (.cells #[.int .i64 f, .int .i64 t, .bool wb, .int .i64 b, .int .i64 v] 29))) := HW.out.trans ((Below.refl _ _).alloc HW.out.size _)
      clear HW
      obtain ⟨M, hM, hM2⟩ := min4 f t b v
      have hM' := hM Try.prog
      clear hM
      by_cases b0 : M < 0
      · have HE' : Hid (errI (faultF l) = .iface 40 (.int .i64 1)) := HE.out 1 (by decide) (by rw [HG.out, if_pos (hM2.1 b0)])
        clear HE HG HX hM2
        go_wp2
        go_ret
        exact ⟨congrArg Ending.returned HE'.out.symm, HW'.out⟩
      · by_cases b1 : t ≤ f
        · have HE' : Hid (errI (faultF l) = .iface 40 (.int .i64 5)) := HE.out 5 (by decide) (by rw [HG.out, if_neg (fun h => b0 (hM2.2 h)), if_pos b1])
          clear HE HG HX hM2
          go_wp2
          go_ret
          exact ⟨congrArg Ending.returned HE'.out.symm, HW'.out⟩
        · have HX' : Hid (∀ i, i < k + 1 → badC (gC l i) = 0) := HX.out (by rw [HG.out, if_neg (fun h => b0 (hM2.2 h)), if_neg b1])
          clear HE HG HX hM2
          go_wp2
          exact ⟨⟨k + 1, by omega, by go_num, HX'.out, HW'.out⟩, by simp [intOf]; omega⟩
    · obtain rfl : k = l.length := by omega
      clear hlt
      go_wp2
      go_ret
      exact ⟨congrArg Ending.returned (HZ.out hR.out.1).symm, hR.out.2⟩
end Go.Proofs.Ytohngekkbgklfaa
