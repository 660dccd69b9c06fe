/-
  What the calls of the document's NumberAt and Eight give.
-/
import Derived.Test.YteklankhffebaaaDoorBase
namespace Go.Proofs.YteklankhffebaaaDoor
open Go.RowKit
set_option linter.unusedVariables false

/-- What NumberAt gives of a number. -/
def atV (x : Nat) : Ending := if x ≤ 4611686018427387904 then .returned (.tuple #[.int .i64 (x : Nat), .bool true]) else .returned (.tuple #[.int .i64 0, .bool false])
theorem num_drop (X : List Nat) (k : Nat) (h : k < X.length) : num (X.drop k) = X[k]?.getD 0 + 256 * num (X.drop (k + 1)) := by
  rw [List.drop_eq_getElem_cons h, List.getElem?_eq_getElem h]
  rfl
theorem num_drop_le : ∀ (X : List Nat) (k : Nat), num (X.drop k) ≤ num X
  | [], k => by simp
  | b :: r, 0 => by simp
  | b :: r, k + 1 => by
    show num (r.drop k) ≤ b + 256 * num r
    have := num_drop_le r k
    omega
theorem num_big (X : List Nat) (k : Nat) (hk : 0 < k) (hk2 : k ≤ X.length) (h : 18014398509481984 < num (X.drop k)) : 4611686018427387904 < num X := by
  have h1 := num_drop X (k - 1) (by omega)
  rw [show k - 1 + 1 = k by omega] at h1
  have h2 := num_drop_le X (k - 1)
  omega
set_option maxRecDepth 20000 in
set_option maxHeartbeats 800000 in
theorem numberAt_any (b off : Nat) (X : List Nat) (c : Nat) (w : World) (hX : X.length = 8) (hA : AllB X) (hc : ∀ k, k < 8 → w.cell? ⟨b, off + k, none⟩ = some (.int .u8 ((X[k]?.getD 0 : Nat) : Int))) :
    Calls Tryd.prog 23 #[.slice (some ⟨b, off, none⟩) 8 c] w fun e w' => e = atV (num X) ∧ w = w' := by
  have HX : Hid (X.length = 8) := hX
  have H0 : Hid (num (X.drop 8) = 0) := by show _ = _; rw [List.drop_eq_nil_of_le (by rw [hX]; exact Nat.le_refl _)]; rfl
  clear hX
  go_enter Tryd.func23, Tryd.ntmps23
  go_wp2
  go_loop [4, 5] (fun t j => ∃ k V : Nat, k ≤ 8 ∧ j = .int .i64 ((k : Int) - 1) ∧ t = .int .i64 (V : Nat) ∧ V ≤ 4611686018427388160 ∧ Hid (V = num (X.drop k))) (fun _ j => (intOf j + 1).toNat)
  case atStart => exact ⟨8, 0, by omega, rfl, rfl, by omega, H0.out.symm⟩
  case round =>
    obtain ⟨k, V, hk, rfl, rfl, hV, hr⟩ := hrel
    by_cases hlt : 0 < k
    · obtain ⟨j, rfl⟩ : ∃ j, k = j + 1 := ⟨k - 1, by omega⟩
      have hj : j < 8 := by omega
      have e1 : (((j + 1 : Nat) : Int) - 1) = (j : Int) := by omega
      rw [e1]
      by_cases hb : 18014398509481984 < V
      · have HV : Hid (atV (num X) = .returned (.tuple #[.int .i64 0, .bool false])) := by
          have := num_big X (j + 1) (by omega) (by rw [HX.out]; omega) (by rw [← hr.out]; exact hb)
          show _ = _
          unfold atV
          rw [if_neg (by omega)]
        have hb2 : (18014398509481984 : Int) < (V : Int) := by omega
        clear hr hc
        go_wp2
        go_ret2
        exact ⟨by rw [HV.out]; rfl, rfl⟩
      · have hcj := hc j hj
        have hz := hA.at j
        have HN : Hid (V * 256 + X[j]?.getD 0 = num (X.drop j)) := by show _ = _; rw [num_drop X j (by rw [HX.out]; exact hj), ← hr.out]; omega
        generalize X[j]?.getD 0 = Bt at hcj hz HN
        have hb2 : (V : Int) ≤ 18014398509481984 := by omega
        clear hr hc
        go_wp2
        go_round
        case rel => exact ⟨j, V * 256 + Bt, by omega, by go_num, by go_num, by omega, HN.out⟩
        case measure => simp [intOf]
    · obtain rfl : k = 0 := by omega
      have HV0 : Hid (V = num X) := hr
      clear hr hc
      by_cases hb : V ≤ 4611686018427387904
      · have HV : Hid (atV (num X) = .returned (.tuple #[.int .i64 (V : Nat), .bool true])) := by
          show _ = _
          rw [← HV0.out]
          unfold atV
          rw [if_pos hb]
        have hb2 : (V : Int) ≤ 4611686018427387904 := by omega
        clear HV0
        go_wp2
        go_ret2
        exact ⟨by rw [HV.out]; rfl, rfl⟩
      · have HV : Hid (atV (num X) = .returned (.tuple #[.int .i64 0, .bool false])) := by
          show _ = _
          rw [← HV0.out]
          unfold atV
          rw [if_neg hb]
        have hb2 : (4611686018427387904 : Int) < (V : Int) := by omega
        clear HV0
        go_wp2
        go_ret2
        exact ⟨by rw [HV.out]; rfl, rfl⟩
set_option maxRecDepth 20000 in
set_option maxHeartbeats 800000 in
theorem eight_any (x : Nat) (w : World) (hx : x ≤ 4611686018427387904) :
    Calls Tryd.prog 20 #[.int .i64 (x : Nat)] w fun e w' => OwnPost w w' e (low 8 x) := by
  have H0 : Hid (OwnA w w.heap.size none 0 [] ∧ Below w.heap.size w w ∧ ([] : List Nat) = low 0 x ∧ x = x / 2 ^ (8 * 0)) := ⟨own_nil _ _, Below.refl _ _, rfl, by simp⟩
  have HD : Hid (∀ k, x / 2 ^ (8 * k) / 256 = x / 2 ^ (8 * (k + 1))) := fun k => by rw [Nat.div_div_eq_div_mul, pow8, Nat.mul_comm]
  have HD2 : Hid (∀ k, x / 2 ^ (8 * k) ≤ x) := fun k => Nat.div_le_self _ _
  go_enter Tryd.func20, Tryd.ntmps20
  go_wp2
  go_loopw [0, 3, 4] (fun u t j wr => ∃ (k X c : Nat) (a1 : Option Addr) (rs : List Nat), k ≤ 8 ∧ j = .int .i64 k ∧ u = .int .i64 (X : Nat) ∧ t = .slice a1 rs.length c ∧ Hid (OwnA wr w.heap.size a1 c rs ∧ Below w.heap.size w wr ∧ rs = low k x ∧ X = x / 2 ^ (8 * k))) (fun _ _ j _ => 8 - (intOf j).toNat)
  case atStart => exact ⟨0, x, 0, none, [], by omega, rfl, rfl, rfl, H0.out⟩
  case round =>
    clear H0
    obtain ⟨k, X, c, a1, rs, hk, rfl, rfl, rfl, hr⟩ := hrel
    by_cases hlt : k < 8
    · obtain ⟨R, HRR⟩ : ∃ R, Hid (R = rs ++ [X % 256]) := ⟨_, rfl⟩
      have hXx : X ≤ 4611686018427387904 := by rw [hr.out.2.2.2]; exact Nat.le_trans (HD2.out k) hx
      have HX2 : Hid (X / 256 = x / 2 ^ (8 * (k + 1))) := by show _ = _; rw [hr.out.2.2.2]; exact HD.out k
      have HA : Hid (OwnA (wr.alloc (.cells #[.int .u8 ((X : Int) % 256)] 5)) w.heap.size a1 c rs ∧ Lies (wr.alloc (.cells #[.int .u8 ((X : Int) % 256)] 5)) (some ⟨wr.heap.size, 0, none⟩) [X % 256] ∧ Below w.heap.size w (wr.alloc (.cells #[.int .u8 ((X : Int) % 256)] 5)) ∧ R.length ≤ 140737488355328 ∧ w.heap.size ≤ (wr.alloc (.cells #[.int .u8 ((X : Int) % 256)] 5)).heap.size ∧ R = low (k + 1) x) := by
        have hb : Below wr.heap.size wr (wr.alloc (.cells #[.int .u8 ((X : Int) % 256)] 5)) := alloc_below' _ _
        have hs : w.heap.size ≤ wr.heap.size := hr.out.2.1.size
        refine ⟨hr.out.1.below hb, (own_new wr wr.heap.size [X % 256] (Nat.le_refl _) (by simp) _ ?_).lies, hr.out.2.1.trans (hb.mono hs), ?_, Nat.le_trans hs hb.size, ?_⟩
        · show _ = #[Value.int .u8 ((X % 256 : Nat) : Int)]
          simp
        · rw [HRR.out, hr.out.2.2.1, List.length_append, low_len, List.length_singleton]; omega
        · rw [HRR.out, hr.out.2.2.1, low_snoc, hr.out.2.2.2]
      have HO1 : Hid (OwnA wr w.heap.size a1 c rs) := hr.out.1
      clear hr
      go_wp2_with (at_builtin; refine app_step rfl (.tmp 9) (.tmp 13) rfl w.heap.size a1 c rs rfl HA.out.1 (some ⟨wr.heap.size, 0, none⟩) 1 [X % 256] rfl (fun e => by cases e) HA.out.2.1 R HRR.out HA.out.2.2.2.1 HA.out.2.2.2.2.1 ?_)
      intro a2 c2 w2 hO2 hK2
      have HR : Hid (OwnA w2 w.heap.size a2 c2 R ∧ Below w.heap.size w w2 ∧ R = low (k + 1) x ∧ X / 256 = x / 2 ^ (8 * (k + 1))) := ⟨hO2, HA.out.2.2.1.trans (hK2.below HA.out.2.2.2.2.1 (fun b hb => (HO1.out.ge hb).1)), HA.out.2.2.2.2.2, HX2.out⟩
      clear hO2 hK2 HA HO1 HRR HX2
      go_wp2
      go_roundw
      case rel => exact ⟨k + 1, X / 256, c2, a2, R, by omega, by go_num, by go_num, rfl, HR.out⟩
      case measure => simp [intOf]; omega
    · obtain rfl : k = 8 := by omega
      have HP : Hid (OwnPost w wr (.returned (.slice a1 rs.length c)) (low 8 x)) := by
        rw [← hr.out.2.2.1]
        exact ⟨a1, c, rfl, hr.out.1, hr.out.2.1⟩
      clear hr
      go_wp2
      go_ret
      exact HP.out
end Go.Proofs.YteklankhffebaaaDoor
