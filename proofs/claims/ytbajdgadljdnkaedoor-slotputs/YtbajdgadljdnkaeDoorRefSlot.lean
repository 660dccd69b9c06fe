/-
  What the calls of the document's answers granaryref1.ofLow, SlotFault, SlotOf and SlotSeq give: the same plain functions as the program's.
-/
import Derived.Test.YtbajdgadljdnkaeDoorBytes
import Derived.Test.YtbajdgadljdnkaeDoorRefA
import Derived.Test.YtbajdgadljdnkaeDoorLook
namespace Go.Proofs.YtbajdgadljdnkaeDoor
open Go.RowKit
set_option linter.unusedVariables false

theorem num_drop (l : List Nat) (j : Nat) (h : j < l.length) : num (l.drop j) = l[j]?.getD 0 + 256 * num (l.drop (j + 1)) := by
  rw [List.drop_eq_getElem_cons h, List.getElem?_eq_getElem h]
  rfl
theorem num_drop_le : ∀ (l : List Nat) (j : Nat), num (l.drop j) ≤ num l
  | [], j => by simp
  | b :: r, 0 => Nat.le_refl _
  | b :: r, j + 1 => by
    have := num_drop_le r j
    show num (r.drop j) ≤ b + 256 * num r
    omega
set_option maxHeartbeats 800000 in
theorem ofLow_any (b off : Nat) (bs : List Nat) (cap : Nat) (w : World) (hn : bs.length ≤ 8) (hA : AllB bs) (hlt0 : num bs < 9223372036854775808) (hc : ∀ i, i < bs.length → w.cell? ⟨b, off + i, none⟩ = some (.int .u8 ((bs[i]?.getD 0 : Nat) : Int))) :
    Calls Tryd.prog 35 #[.slice (some ⟨b, off, none⟩) bs.length cap] w fun e w' => e = .returned (.int .i64 (num bs : Nat)) ∧ w' = w := by
  have HD : Hid (num (bs.drop bs.length) = 0) := by rw [List.drop_length]; rfl
  have HLT : Hid (num bs < 9223372036854775808) := hlt0
  have HA8 : Hid (AllB bs) := hA
  clear hlt0 hA
  go_enter Tryd.func35, Tryd.ntmps35
  go_wp2
  go_loop [3, 4] (fun t i => ∃ (k : Nat) (z : Int), k ≤ bs.length ∧ z = (k : Int) - 1 ∧ i = .int .i64 z ∧ t = .int .i64 (num (bs.drop k) : Nat)) (fun _ i => (intOf i + 1).toNat)
  case atStart => exact ⟨bs.length, (bs.length : Int) - 1, Nat.le_refl _, rfl, rfl, by rw [HD.out]; rfl⟩
  case round =>
    obtain ⟨k, z, hk, hz, rfl, rfl⟩ := hrel
    cases k with
    | zero =>
      obtain rfl : z = -1 := by omega
      rw [List.drop_zero]
      clear hz hk hc
      go_wp2
      go_ret
      exact ⟨rfl, rfl⟩
    | succ j =>
      obtain rfl : z = (j : Int) := by omega
      have hck := hc j (by omega)
      have hzk := HA8.out.at j
      have hlt0 := HLT.out
      have e := num_drop bs j (by omega)
      have hle := num_drop_le bs j
      have HS : Hid (num (bs.drop j) = bs[j]?.getD 0 + 256 * num (bs.drop (j + 1))) := e
      have hV0 : ∀ a b c d : Nat, a = b + 256 * c → a ≤ d → d < 9223372036854775808 → c * 256 + b < 9223372036854775808 := fun a b c d h1 h2 h3 => by omega
      have hV := hV0 _ _ _ _ e hle hlt0
      clear hV0 e hle hlt0
      generalize num (bs.drop (j + 1)) = V at *
      generalize bs[j]?.getD 0 = B at *
      have hV1 : V * 256 < 9223372036854775808 := Nat.lt_of_le_of_lt (Nat.le_add_right (V * 256) B) hV
      clear hc HD hz
      go_wp2
      go_round
      case rel => exact ⟨j, (j : Int) - 1, by omega, rfl, rfl, val_int (by rw [HS.out]; omega)⟩
      case measure => first | (simp [intOf]; done) | (simp [intOf]; omega)

set_option maxRecDepth 20000 in
set_option maxHeartbeats 800000 in
theorem fault_any (q : Int) (a : Option Addr) (n cap : Nat) (w : World) (hn : n ≤ 9223372036854775807) :
    Calls Tryd.prog 20 #[.int .i64 q, .slice a n cap] w fun e w' => e = .returned (.int .i64 (putE q n : Nat)) ∧ w = w' := by
  by_cases h0 : q < 0
  · have HV : Hid (putE q n = 1) := by show putE q n = 1; unfold putE; rw [if_pos (Or.inl h0)]
    go_enter Tryd.func20, Tryd.ntmps20
    go_wp2
    go_ret
    exact ⟨by rw [HV.out]; rfl, rfl⟩
  · by_cases h1 : 4611686018427387904 < q
    · have HV : Hid (putE q n = 1) := by show putE q n = 1; unfold putE; rw [if_pos (Or.inr h1)]
      go_enter Tryd.func20, Tryd.ntmps20
      go_wp2
      go_ret
      exact ⟨by rw [HV.out]; rfl, rfl⟩
    · by_cases h2 : 4096 < n
      · have HV : Hid (putE q n = 3) := by show putE q n = 3; unfold putE; rw [if_neg (by omega), if_pos h2]
        have h2' : (4096 : Int) < (n : Int) := by omega
        clear h2
        go_enter Tryd.func20, Tryd.ntmps20
        go_wp2
        go_ret
        exact ⟨by rw [HV.out]; rfl, rfl⟩
      · have HV : Hid (putE q n = 0) := by show putE q n = 0; unfold putE; rw [if_neg (by omega), if_neg h2]
        have h2' : (n : Int) ≤ (4096 : Int) := by omega
        clear h2
        go_enter Tryd.func20, Tryd.ntmps20
        go_wp2
        go_ret
        exact ⟨by rw [HV.out]; rfl, rfl⟩
set_option maxRecDepth 20000 in
set_option maxHeartbeats 1600000 in
theorem slotOf_any (q : Nat) (a : Option Addr) (l : List Nat) (cap : Nat) (w : World) (hq : q ≤ mx) (hl : l.length ≤ 4096) (hA : AllB l) (hL : Lies w a l) (hnil : a = none → cap = 0) :
    Calls Tryd.prog 21 #[.int .i64 q, .slice a l.length cap] w fun e w' => OwnPost w w' e (slotL q l) := by
  have hq63 : q < 9223372036854775808 := by unfold mx at hq; omega
  have h2 : ((l.length : Nat) : Int) ≤ 4096 := by omega
  have HLi : Hid (∀ wz, Below w.heap.size w wz → Lies wz a l) := fun wz hb => hL.below hb
  have HN : Hid (a = none → cap = 0) := hnil
  obtain ⟨R1, HR1⟩ : ∃ R, Hid (R = low 8 q) := ⟨_, rfl⟩
  obtain ⟨S1, HS1⟩ : ∃ R, Hid (R = low 4 l.length) := ⟨_, rfl⟩
  obtain ⟨R2, HR2⟩ : ∃ R, Hid (R = R1 ++ S1) := ⟨_, rfl⟩
  obtain ⟨R3, HR3⟩ : ∃ R, Hid (R = R2 ++ l) := ⟨_, rfl⟩
  obtain ⟨S3, HS3⟩ : ∃ R, Hid (R = low 4 (crcOf R3)) := ⟨_, rfl⟩
  obtain ⟨R4, HR4⟩ : ∃ R, Hid (R = R3 ++ S3) := ⟨_, rfl⟩
  have HE : Hid (slotL q l = R4) := by
    show slotL q l = R4
    rw [HR4.out, HS3.out, HR3.out, HR2.out, HS1.out, HR1.out]
    unfold slotL headS
    simp
  have HAl : Hid (AllB R3) := by
    show AllB R3
    rw [HR3.out, HR2.out, HS1.out, HR1.out]
    exact ((low_all _ _).app (low_all _ _)).app hA
  have HLen : Hid (R2.length ≤ 1073741824 ∧ R3.length ≤ 1048576 ∧ R4.length ≤ 1073741824) := by
    have e1 : R1.length = 8 := by rw [HR1.out, low_len]
    have e2 : S1.length = 4 := by rw [HS1.out, low_len]
    have e3 : R2.length = 12 := by rw [HR2.out, List.length_append, e1, e2]
    have e4 : R3.length = 12 + l.length := by rw [HR3.out, List.length_append, e3]
    have e5 : S3.length = 4 := by rw [HS3.out, low_len]
    exact ⟨by omega, by omega, by rw [HR4.out, List.length_append, e4, e5]; omega⟩
  have hcr := crcOf_lt HAl.out
  obtain ⟨V, HV⟩ : ∃ V, Hid (crcOf R3 = V) := ⟨_, rfl⟩
  rw [HV.out] at hcr
  have K1 : Hid (Calls Tryd.prog 33 #[.int .i64 q, .int .i64 8] w fun e w' => OwnPost w w' e R1) := by
    have := lowFirst_any q 8 w hq63 (by omega)
    rw [← HR1.out] at this
    exact this
  have K2 : Hid (∀ wz, Calls Tryd.prog 33 #[.int .i64 ((l.length : Nat) : Int), .int .i64 4] wz fun e w' => OwnPost wz w' e S1) := fun wz => by
    have := lowFirst_any l.length 4 wz (by omega) (by omega)
    rw [← HS1.out] at this
    exact this
  have K4 : Hid (∀ wz, Calls Tryd.prog 33 #[.int .i64 (V : Nat), .int .i64 4] wz fun e w' => OwnPost wz w' e S3) := fun wz => by
    have := lowFirst_any V 4 wz (by omega) (by omega)
    rw [← HV.out, ← HS3.out] at this
    rw [HV.out] at this
    exact this
  have K3 : Hid (∀ a1 c1 wz, Lies wz a1 R3 → Calls Tryd.prog 34 #[.slice a1 R3.length c1] wz fun e w' => e = .returned (.int .u32 V) ∧ wz = w') := fun a1 c1 wz hz => by
    have := refCrc_any a1 R3 c1 wz (by have := HLen.out.2.1; omega) HAl.out hz
    rw [HV.out] at this
    exact this
  have HF : Hid (∀ w' ev, OwnPost w w' ev R4 → OwnPost w w' ev (slotL q l)) := fun w' ev h => by rw [HE.out]; exact h
  clear hq hL hnil hA HR1 HS1 HS3 HE HAl HV hl
  go_enter Tryd.func21, Tryd.ntmps21
  go_wp2_with fail
  refine K1.out.mono ?_
  rintro e w1 ⟨a1, c1, rfl, o1, B1⟩
  clear K1
  go_wp2_with fail
  refine (K2.out w1).mono ?_
  rintro e w2 ⟨a2, c2, rfl, o2, b2⟩
  have B2 := B1.trans (b2.mono B1.size)
  have o12 := o1.below b2
  clear b2 B1 o1 K2
  go_wp2_with (at_builtin; refine app_step rfl (.tmp 13) (.tmp 14) rfl w.heap.size a1 c1 R1 rfl o12 a2 c2 S1 rfl o2.nil0 o2.lies R2 HR2.out HLen.out.1 B2.size ?_)
  intro a3 c3 w3 o3 k3
  have B3 := B2.trans (k3.below B2.size (fun b hb => (o12.ge hb).1))
  clear k3 B2 o2 o12
  go_wp2_with (at_builtin; refine app_step rfl (.tmp 16) (.tmp 17) rfl w.heap.size a3 c3 R2 rfl o3 a cap l rfl HN.out (HLi.out w3 B3) R3 HR3.out (Nat.le_trans HLen.out.2.1 (by decide)) B3.size ?_)
  intro a4 c4 w4 o4 k4
  have B4 := B3.trans (k4.below B3.size (fun b hb => (o3.ge hb).1))
  clear k4 B3 o3 HN HLi
  go_wp2_with fail
  refine (K3.out a4 c4 w4 o4.lies).mono ?_
  rintro e w5 ⟨rfl, rfl⟩
  go_wp2_with fail
  refine (K4.out w4).mono ?_
  rintro e w6 ⟨a6, c6, rfl, o6, b6⟩
  have B6 := B4.trans (b6.mono B4.size)
  have o46 := o4.below b6
  clear b6 B4 o4 K3 K4
  go_wp2_with (at_builtin; refine app_step rfl (.tmp 24) (.tmp 25) rfl w.heap.size a4 c4 R3 rfl o46 a6 c6 S3 rfl o6.nil0 o6.lies R4 HR4.out HLen.out.2.2 B6.size ?_)
  intro a7 c7 w7 o7 k7
  have B7 := B6.trans (k7.below B6.size (fun b hb => (o46.ge hb).1))
  clear k7 B6 o6 o46
  have HP : Hid (OwnPost w w7 (.returned (.slice a7 R4.length c7)) (slotL q l)) := HF.out w7 _ ⟨a7, c7, rfl, o7, B7⟩
  clear HF o7 B7
  go_wp2
  go_ret
  exact HP.out
end Go.Proofs.YtbajdgadljdnkaeDoor
