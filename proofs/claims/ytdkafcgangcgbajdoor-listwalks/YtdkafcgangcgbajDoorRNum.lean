/-
  What the calls of the document's NumberAt and ReadNumber give, of bytes that lie anywhere; of pageAt.
-/
import Derived.Test.YtdkafcgangcgbajDoorRFits
import Derived.Test.YtdkafcgangcgbajDoorFilled
namespace Go.Proofs.YtdkafcgangcgbajDoor
open Go.RowKit
set_option linter.unusedVariables false

/-- What NumberAt gives of a number. -/
def atV (x : Nat) : Ending := if x ≤ 4611686018427387904 then .returned (.tuple #[.int .i64 (x : Nat), .bool true]) else .returned (.tuple #[.int .i64 0, .bool false])
theorem num_drop (X : List Nat) (k : Nat) (h : k < X.length) : num (X.drop k) = X[k]?.getD 0 + 256 * num (X.drop (k + 1)) := by
  rw [List.drop_eq_getElem_cons h, List.getElem?_eq_getElem h]
  rfl
theorem num_drop_le : ∀ (X : List Nat) (k : Nat), num (X.drop k) ≤ num X
  | [], k => by simp
  | b :: r, 0 => by simp
  | b :: r, k + 1 => by
    show num (r.drop k) ≤ b + 256 * num r
    have := num_drop_le r k
    omega
theorem num_big (X : List Nat) (k : Nat) (hk : 0 < k) (hk2 : k ≤ X.length) (h : 18014398509481984 < num (X.drop k)) : 4611686018427387904 < num X := by
  have h1 := num_drop X (k - 1) (by omega)
  rw [show k - 1 + 1 = k by omega] at h1
  have h2 := num_drop_le X (k - 1)
  omega
set_option maxRecDepth 20000 in
set_option maxHeartbeats 800000 in
theorem numberAt_any (b off : Nat) (X : List Nat) (c : Nat) (w : World) (hX : X.length = 8) (hA : AllB X) (hc : ∀ k, k < 8 → w.cell? ⟨b, off + k, none⟩ = some (.int .u8 ((X[k]?.getD 0 : Nat) : Int))) :
    Calls Tryd.prog 31 #[.slice (some ⟨b, off, none⟩) 8 c] w fun e w' => e = atV (num X) ∧ w = w' := by
  have HX : Hid (X.length = 8) := hX
  have H0 : Hid (num (X.drop 8) = 0) := by show _ = _; rw [List.drop_eq_nil_of_le (by rw [hX]; exact Nat.le_refl _)]; rfl
  clear hX
  go_enter Tryd.func31, Tryd.ntmps31
  go_wp2
  go_loop [4, 5] (fun t j => ∃ k V : Nat, k ≤ 8 ∧ j = .int .i64 ((k : Int) - 1) ∧ t = .int .i64 (V : Nat) ∧ V ≤ 4611686018427388160 ∧ Hid (V = num (X.drop k))) (fun _ j => (intOf j + 1).toNat)
  case atStart => exact ⟨8, 0, by omega, rfl, rfl, by omega, H0.out.symm⟩
  case round =>
    obtain ⟨k, V, hk, rfl, rfl, hV, hr⟩ := hrel
    by_cases hlt : 0 < k
    · obtain ⟨j, rfl⟩ : ∃ j, k = j + 1 := ⟨k - 1, by omega⟩
      have hj : j < 8 := by omega
      have e1 : (((j + 1 : Nat) : Int) - 1) = (j : Int) := by omega
      rw [e1]
      by_cases hb : 18014398509481984 < V
      · have HV : Hid (atV (num X) = .returned (.tuple #[.int .i64 0, .bool false])) := by
          have := num_big X (j + 1) (by omega) (by rw [HX.out]; omega) (by rw [← hr.out]; exact hb)
          show _ = _
          unfold atV
          rw [if_neg (by omega)]
        have hb2 : (18014398509481984 : Int) < (V : Int) := by omega
        clear hr hc
        go_wp2
        go_ret2
        exact ⟨by rw [HV.out]; rfl, rfl⟩
      · have hcj := hc j hj
        have hz := hA.at j
        have HN : Hid (V * 256 + X[j]?.getD 0 = num (X.drop j)) := by show _ = _; rw [num_drop X j (by rw [HX.out]; exact hj), ← hr.out]; omega
        generalize X[j]?.getD 0 = Bt at hcj hz HN
        have hb2 : (V : Int) ≤ 18014398509481984 := by omega
        clear hr hc
        go_wp2
        go_round
        case rel => exact ⟨j, V * 256 + Bt, by omega, by go_num, by go_num, by omega, HN.out⟩
        case measure => simp [intOf]
    · obtain rfl : k = 0 := by omega
      have HV0 : Hid (V = num X) := hr
      clear hr hc
      by_cases hb : V ≤ 4611686018427387904
      · have HV : Hid (atV (num X) = .returned (.tuple #[.int .i64 (V : Nat), .bool true])) := by
          show _ = _
          rw [← HV0.out]
          unfold atV
          rw [if_pos hb]
        have hb2 : (V : Int) ≤ 4611686018427387904 := by omega
        clear HV0
        go_wp2
        go_ret2
        exact ⟨by rw [HV.out]; rfl, rfl⟩
      · have HV : Hid (atV (num X) = .returned (.tuple #[.int .i64 0, .bool false])) := by
          show _ = _
          rw [← HV0.out]
          unfold atV
          rw [if_neg hb]
        have hb2 : (4611686018427387904 : Int) < (V : Int) := by omega
        clear HV0
        go_wp2
        go_ret2
        exact ⟨by rw [HV.out]; rfl, rfl⟩
set_option maxRecDepth 20000 in
set_option maxHeartbeats 800000 in
theorem rnumber_no (a : Option Addr) (L c : Nat) (i : Int) (w : World) (hL : L ≤ 16384) (hi : -9223372036854775808 ≤ i ∧ i ≤ 9223372036854775807) (hf : ¬ fits L i 8) :
    Calls Tryd.prog 22 #[.slice a L c, .int .i64 i] w fun e w' => e = .returned (.tuple #[.int .i64 0, .int .i64 1]) ∧ w = w' := by
  have HF := rfits_any L i 8 w hL hi
  rw [decide_eq_false hf] at HF
  clear hf
  go_enter Tryd.func22, Tryd.ntmps22
  go_wp2_with fail
  refine HF.mono ?_
  rintro e w' ⟨rfl, rfl⟩
  clear HF
  go_wp2
  go_ret2
  exact ⟨rfl, rfl⟩
/-- What ReadNumber gives of a number. -/
def rnV (x : Nat) : Ending := if x ≤ 4611686018427387904 then .returned (.tuple #[.int .i64 (x : Nat), .int .i64 0]) else .returned (.tuple #[.int .i64 0, .int .i64 1])
set_option maxRecDepth 20000 in
set_option maxHeartbeats 800000 in
theorem rnumber_yes (rb off cap : Nat) (l : List Nat) (i : Nat) (w : World) (hat : ∀ k, k < l.length → w.cell? ⟨rb, off + k, none⟩ = some (.int .u8 ((l[k]?.getD 0 : Nat) : Int))) (hcap : l.length ≤ cap) (hA : AllB l) (hL : l.length ≤ 16384) (hf : i + 8 ≤ l.length) :
    Calls Tryd.prog 22 #[.slice (some ⟨rb, off, none⟩) l.length cap, .int .i64 (i : Nat)] w fun e w' => e = rnV (num (cut l i 8)) ∧ w = w' := by
  have HF : Hid (Calls Tryd.prog 10 #[.int .i64 (l.length : Nat), .int .i64 (i : Nat), .int .i64 8] w fun e w' => e = .returned (.bool true) ∧ w = w') := by
    have := rfits_any l.length i 8 w hL (by omega)
    rw [decide_eq_true ⟨by omega, by omega, by omega⟩] at this
    exact this
  have hsl := fun wz => slice_ln (some ⟨rb, off, none⟩) l.length cap i 8 (by omega) wz
  have hdr : dropA (some ⟨rb, off, none⟩) cap i = some ⟨rb, off + i, none⟩ := by
    unfold dropA
    rw [if_neg (by omega)]
    simp [Go.WideShapes.add_plain]
  rw [hdr] at hsl
  clear hdr
  have hsl' : ∀ wz, (Instr.slice 22 (.slice (some ⟨rb, off, none⟩) l.length cap) (some (.int .i64 (i : Nat))) (some (.int .i64 ((i : Int) + 8))) none).run Tryd.prog wz = .ok (.slice (some ⟨rb, off + i, none⟩) 8 (cap - i)) wz := hsl
  have HN : Hid (Calls Tryd.prog 31 #[.slice (some ⟨rb, off + i, none⟩) 8 (cap - i)] w fun e w' => e = atV (num (cut l i 8)) ∧ w = w') := numberAt_any rb (off + i) (cut l i 8) (cap - i) w (cut_len hf) (cut_all hA i 8) (fun k hk => by rw [cut_at k hk, Nat.add_assoc]; exact hat (i + k) (by omega))
  have hi : (i : Int) ≤ 16384 := by omega
  obtain ⟨V, HV⟩ : ∃ V, Hid (num (cut l i 8) = V) := ⟨_, rfl⟩
  rw [HV.out] at HN ⊢
  clear hsl hat hA hf HV hcap
  generalize cap - i = LI at *
  generalize l.length = L at *
  by_cases hb : V ≤ 4611686018427387904
  · have HA : Hid (atV V = .returned (.tuple #[.int .i64 (V : Nat), .bool true])) := if_pos hb
    have HR : Hid (rnV V = .returned (.tuple #[.int .i64 (V : Nat), .int .i64 0])) := if_pos hb
    rw [HA.out] at HN
    rw [HR.out]
    clear hb
    go_enter Tryd.func22, Tryd.ntmps22
    go_wp2_with fail
    refine HF.out.mono ?_
    rintro e w' ⟨rfl, rfl⟩
    go_wp2_with fail
    refine HN.out.mono ?_
    rintro e w' ⟨rfl, rfl⟩
    clear HF HN
    go_wp2
    go_ret2
    exact ⟨rfl, rfl⟩
  · have HA : Hid (atV V = .returned (.tuple #[.int .i64 0, .bool false])) := if_neg hb
    have HR : Hid (rnV V = .returned (.tuple #[.int .i64 0, .int .i64 1])) := if_neg hb
    rw [HA.out] at HN
    rw [HR.out]
    clear hb
    go_enter Tryd.func22, Tryd.ntmps22
    go_wp2_with fail
    refine HF.out.mono ?_
    rintro e w' ⟨rfl, rfl⟩
    go_wp2_with fail
    refine HN.out.mono ?_
    rintro e w' ⟨rfl, rfl⟩
    clear HF HN
    go_wp2
    go_ret2
    exact ⟨rfl, rfl⟩
theorem rnumber_none (a : Option Addr) (cap : Nat) (l : List Nat) (x : Nat) (w : World) (hI : BIn w a cap l) (hL : l.length ≤ 16384) (hx : x ≤ 9223372036854775807) (hn : numE l (x : Int) = none) :
    Calls Tryd.prog 22 #[.slice a l.length cap, .int .i64 (x : Nat)] w fun e w' => e = .returned (.tuple #[.int .i64 0, .int .i64 1]) ∧ w = w' := by
  by_cases hf : fits l.length (x : Int) 8
  · have h8 : x + 8 ≤ l.length := by unfold fits at hf; omega
    rcases hI.lies with h | ⟨b, off, rfl, hat⟩
    · rw [h] at h8; simp at h8
    refine (rnumber_yes b off cap l x w hat hI.cap hI.all hL h8).mono fun e w' ⟨h1, h2⟩ => ⟨?_, h2⟩
    rw [h1]
    unfold rnV
    rw [if_neg]
    intro hc
    unfold numE at hn
    rw [Int.toNat_natCast, if_pos ⟨hf, hc⟩] at hn
    cases hn
  · exact rnumber_no a l.length cap (x : Int) w hL (by omega) hf
theorem rnumber_some (a : Option Addr) (cap : Nat) (l : List Nat) (x y : Nat) (w : World) (hI : BIn w a cap l) (hL : l.length ≤ 16384) (hn : numE l (x : Int) = some y) :
    Calls Tryd.prog 22 #[.slice a l.length cap, .int .i64 (x : Nat)] w fun e w' => e = .returned (.tuple #[.int .i64 (y : Nat), .int .i64 0]) ∧ w = w' := by
  obtain ⟨h1, h2, h3⟩ := numE_of hn
  rcases hI.lies with h | ⟨b, off, rfl, hat⟩
  · rw [h] at h1; simp at h1
  refine (rnumber_yes b off cap l x w hat hI.cap hI.all hL h1).mono fun e w' ⟨q1, q2⟩ => ⟨?_, q2⟩
  rw [q1, h2]
  unfold rnV
  rw [if_pos h3]
set_option maxHeartbeats 800000 in
theorem pageAt_any (n : Int) (w : World) : Calls Tryd.prog 21 #[.int .i64 n] w fun e w' => e = .returned (.bool (decide (pageA n))) ∧ w = w' := by
  by_cases h : 0 ≤ n
  · have hm : n.tmod 64 = n % 64 := Int.tmod_eq_emod_of_nonneg h
    by_cases h2 : n % 64 = 0
    · rw [decide_eq_true (And.intro h h2)]
      have h3 : (n % 64 == 0) = true := by simpa using h2
      clear hm h2
      go_enter Tryd.func21, Tryd.ntmps21
      go_wp2
      go_ret
      exact ⟨rfl, rfl⟩
    · rw [decide_eq_false (fun c => h2 c.2)]
      have h3 : (n % 64 == 0) = false := by simpa using h2
      clear hm h2
      go_enter Tryd.func21, Tryd.ntmps21
      go_wp2
      go_ret
      exact ⟨rfl, rfl⟩
  · rw [decide_eq_false (fun c => h c.1)]
    go_enter Tryd.func21, Tryd.ntmps21
    go_wp2
    go_ret
    exact ⟨rfl, rfl⟩
end Go.Proofs.YtdkafcgangcgbajDoor
