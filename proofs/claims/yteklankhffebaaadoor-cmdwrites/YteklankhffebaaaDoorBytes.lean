/-
  What the call of granaryref1.Bytes gives: whether two lists are the same.
-/
import Derived.Test.YteklankhffebaaaDoorBase
namespace Go.Proofs.YteklankhffebaaaDoor
open Go.RowKit

set_option maxHeartbeats 800000 in
theorem bytes_any (a a2 : Option Addr) (xs bs : List Nat) (cap cap2 : Nat) (w : World) (hm : xs.length ≤ 140737488355328) (hm2 : bs.length ≤ 140737488355328) (hc : Lies w a xs) (hc2 : Lies w a2 bs) :
    Calls Tryd.prog 9 #[.slice a xs.length cap, .slice a2 bs.length cap2] w fun e w' => e = .returned (.bool (decide (xs = bs))) ∧ Below w.heap.size w w' := by
  by_cases hl : xs.length = bs.length
  · have HL : Hid (xs.length = bs.length) := hl
    have ht : (((xs.length : Nat) : Int) != ((bs.length : Nat) : Int)) = false := by simp; omega
    have hle : xs.length ≤ bs.length := by omega
    by_cases h0 : xs.length = 0
    · have h1 : bs.length = 0 := by omega
      obtain rfl := List.eq_nil_of_length_eq_zero h0
      obtain rfl := List.eq_nil_of_length_eq_zero h1
      clear hl HL ht h0 h1 hle
      go_enter Tryd.func9, Tryd.ntmps9
      go_wp2
      go_loop [5] (fun j => j = .int .i64 0) (fun _ => 0)
      case atStart => rfl
      case round =>
        subst hrel
        go_wp2
        go_ret
        exact ⟨rfl, Below.refl _ _⟩
    · rcases hc with h | ⟨b, off, rfl, hc⟩
      · rw [h] at h0; exact absurd rfl h0
      rcases hc2 with h | ⟨b2, off2, rfl, hc2⟩
      · rw [h] at hl; exact absurd hl h0
      have hc' : ∀ wr, Below w.heap.size w wr → Lies wr (some ⟨b, off, none⟩) xs := fun wr hb => Lies.below (Or.inr ⟨b, off, rfl, hc⟩) hb
      have hc2' : ∀ wr, Below w.heap.size w wr → Lies wr (some ⟨b2, off2, none⟩) bs := fun wr hb => Lies.below (Or.inr ⟨b2, off2, rfl, hc2⟩) hb
      have HC : Hid (∀ wr, Below w.heap.size w wr → Lies wr (some ⟨b, off, none⟩) xs) := hc'
      have HC2 : Hid (∀ wr, Below w.heap.size w wr → Lies wr (some ⟨b2, off2, none⟩) bs) := hc2'
      clear hl h0 hc hc2 hc' hc2'
      go_enter Tryd.func9, Tryd.ntmps9
      go_wp2
      go_loopw [5] (fun j wr => ∃ k : Nat, k ≤ xs.length ∧ j = .int .i64 k ∧ Hid (∀ i, i < k → xs[i]?.getD 0 = bs[i]?.getD 0) ∧ Below w.heap.size w wr) (fun j _ => xs.length - (intOf j).toNat)
      case atStart => exact ⟨0, by omega, rfl, (fun i h => by omega), Below.refl _ _⟩
      case round =>
        obtain ⟨k, hk, rfl, hsame, hbr⟩ := hrel
        by_cases hlt : k < xs.length
        · have hlt2 : k < bs.length := by omega
          obtain hno | ⟨b3, off3, hbo, hc⟩ := HC.out wr hbr
          · rw [hno] at hlt; exact absurd hlt (Nat.not_lt_zero _)
          cases hbo
          obtain hno | ⟨b3, off3, hbo, hc2⟩ := HC2.out wr hbr
          · rw [hno] at hlt2; exact absurd hlt2 (Nat.not_lt_zero _)
          cases hbo
          have hck := hc k hlt
          have hck2 := hc2 k hlt2
          have HX : Hid (∀ X Y : Nat, xs[k]?.getD 0 = X → bs[k]?.getD 0 = Y → (X = Y → ∀ i, i < k + 1 → xs[i]?.getD 0 = bs[i]?.getD 0) ∧ (X ≠ Y → xs ≠ bs)) := by
            rintro X Y rfl rfl
            refine ⟨fun h i hi => ?_, fun h e => h (by rw [e])⟩
            by_cases h2 : i < k
            · exact hsame.out i h2
            · have : i = k := by omega
              subst this; exact h
          have HX2 : Hid (((xs[k]?.getD 0 : Nat) = (bs[k]?.getD 0) → ∀ i, i < k + 1 → xs[i]?.getD 0 = bs[i]?.getD 0) ∧ (xs[k]?.getD 0 ≠ bs[k]?.getD 0 → xs ≠ bs)) := HX.out _ _ rfl rfl
          clear HX hc hc2
          generalize xs[k]?.getD 0 = X at hck HX2
          generalize bs[k]?.getD 0 = Y at hck2 HX2
          go_wp2
          go_quiet (fail)
          go_wp2
          · have hne : (X != Y) = true := by
              have h : ((X : Int) != (Y : Int)) = true := by assumption
              simp at h ⊢; omega
            have hb2 := below_drewN hbr nq
            go_ret
            refine ⟨?_, hb2⟩
            rw [decide_eq_false (HX2.out.2 (by simpa using hne))]
            rfl
          · have heq : X = Y := by
              have h : ((X : Int) != (Y : Int)) = false := by assumption
              simp at h; omega
            have hb2 := below_drewN hbr nq
            have hall := HX2.out.1 heq
            go_roundw
            case rel => exact ⟨k + 1, by omega, by go_num, hall, hb2⟩
            case measure => simp [intOf]; omega
        · obtain rfl : k = xs.length := by omega
          go_wp2
          go_ret
          refine ⟨?_, hbr⟩
          have : xs = bs := ext_getD HL.out hsame.out
          rw [decide_eq_true this]
          rfl
  · have ht : (((xs.length : Nat) : Int) != ((bs.length : Nat) : Int)) = true := by simp; omega
    have hne : xs ≠ bs := fun e => hl (by rw [e])
    rw [decide_eq_false hne]
    clear hne hl
    go_enter Tryd.func9, Tryd.ntmps9
    go_wp2
    go_ret
    exact ⟨rfl, Below.refl _ _⟩

end Go.Proofs.YteklankhffebaaaDoor
