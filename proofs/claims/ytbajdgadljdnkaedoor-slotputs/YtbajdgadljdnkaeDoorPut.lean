/-
  What the call of slot.Put gives: a slot's bytes, or what is wrong.
-/
import Derived.Test.YtbajdgadljdnkaeDoorNum
namespace Go.Proofs.YtbajdgadljdnkaeDoor
open Go.RowKit
set_option linter.unusedVariables false

def mkB (n : Nat) : Array Value := ((List.replicate n 0).map bv).toArray
/-- make, of no bytes, with room for n. -/
theorem made_room (n : Nat) (q : Int) (hq : q = (n : Int)) (hn : n ≤ 1048576) (w : World) : (Instr.makeSlice 23 (.int .i64 0) (.int .i64 q)).run Tryd.prog w = .ok (.slice (some ⟨w.heap.size, 0, none⟩) 0 n) (w.alloc (.cells (mkB n) 5)) := by
  subst hq
  obtain ⟨i0, hi, hz0, hz1, hz2⟩ := info_parts info5
  have h := run_make (P := Tryd.prog) w 23 5 i0 (.int .u8 0) Tryd.underlying23 hi hz0 .i64 .i64 0 n (by omega) (by omega) (by rw [hz2]; omega) (by omega)
  rw [h]
  have e : madeCells (Value.int .u8 0).cells ((n : Int).toNat * i0.size) = mkB n := by
    unfold mkB
    apply Array.toList_inj.1
    rw [hz1, Int.toNat_natCast, Nat.mul_one]
    have := toList_madeCells_one (Value.int .u8 0) n
    simp only [List.map_replicate]
    exact this
  rw [e]
  simp
theorem own_room (w : World) (base n : Nat) (hb : base ≤ w.heap.size) (hn : n ≤ 1048576) : OwnA (w.alloc (.cells (mkB n) 5)) base (some ⟨w.heap.size, 0, none⟩) n [] :=
  ⟨rfl, Or.inr ⟨w.heap.size, n, mkB n, rfl, hb, heap_alloc_new w _, Nat.zero_le _, by unfold maxLen; omega, by simp [mkB], by simp⟩⟩
/-- What is wrong: 1, 3, or nothing. -/
def putE (q : Int) (n : Nat) : Nat := if q < 0 ∨ 4611686018427387904 < q then 1 else if 4096 < n then 3 else 0
/-- What Put gives. -/
def PutPost (w w' : World) (e : Ending) (q : Int) (l : List Nat) : Prop :=
  Below w.heap.size w w' ∧ ((putE q l.length ≠ 0 ∧ e = .returned (.tuple #[.slice none 0 0, .iface 28 (.int .i64 (putE q l.length : Nat))])) ∨ (putE q l.length = 0 ∧ ∃ a c, e = .returned (.tuple #[.slice a (slotL q.toNat l).length c, .nilIface]) ∧ OwnA w' w.heap.size a c (slotL q.toNat l)))
set_option maxRecDepth 20000 in
set_option maxHeartbeats 800000 in
theorem put_range (q : Int) (a : Option Addr) (n cap : Nat) (w : World) (h : q < 0 ∨ 4611686018427387904 < q) :
    Calls Tryd.prog 19 #[.int .i64 q, .slice a n cap] w fun e w' => e = .returned (.tuple #[.slice none 0 0, .iface 28 (.int .i64 1)]) ∧ w = w' := by
  rcases h with h | h
  · go_enter Tryd.func19, Tryd.ntmps19
    go_wp2
    go_ret2
    exact ⟨rfl, rfl⟩
  · have h0 : ¬ q < 0 := by omega
    go_enter Tryd.func19, Tryd.ntmps19
    go_wp2
    go_ret2
    exact ⟨rfl, rfl⟩
set_option maxRecDepth 20000 in
set_option maxHeartbeats 800000 in
theorem put_full (q : Nat) (a : Option Addr) (n cap : Nat) (w : World) (hq : q ≤ mx) (h : 4096 < n) :
    Calls Tryd.prog 19 #[.int .i64 q, .slice a n cap] w fun e w' => e = .returned (.tuple #[.slice none 0 0, .iface 28 (.int .i64 3)]) ∧ w = w' := by
  have h1 : (q : Int) ≤ 4611686018427387904 := by unfold mx at hq; omega
  have h2 : (4096 : Int) < (n : Int) := by omega
  clear hq h
  go_enter Tryd.func19, Tryd.ntmps19
  go_wp2
  go_ret2
  exact ⟨rfl, rfl⟩
set_option maxRecDepth 20000 in
set_option maxHeartbeats 1600000 in
theorem put_ok (q : Nat) (a : Option Addr) (l : List Nat) (cap : Nat) (w : World) (hq : q ≤ mx) (hl : l.length ≤ 4096) (hA : AllB l) (hL : Lies w a l) (hnil : a = none → cap = 0) :
    Calls Tryd.prog 19 #[.int .i64 q, .slice a l.length cap] w fun e w' => ∃ a1 c1, e = .returned (.tuple #[.slice a1 (slotL q l).length c1, .nilIface]) ∧ OwnA w' w.heap.size a1 c1 (slotL q l) ∧ Below w.heap.size w w' := by
  have h1 : (q : Int) ≤ 4611686018427387904 := by unfold mx at hq; omega
  have hq63 : q < 9223372036854775808 := by omega
  have h2 : ((l.length : Nat) : Int) ≤ 4096 := by omega
  obtain ⟨C, HC⟩ : ∃ C, Hid (C = 12 + l.length + 4) := ⟨_, rfl⟩
  have hmk : ∀ wz, (Instr.makeSlice 23 (.int .i64 0) (.int .i64 (12 + ((l.length : Nat) : Int) + 4))).run Tryd.prog wz = .ok (.slice (some ⟨wz.heap.size, 0, none⟩) 0 C) (wz.alloc (.cells (mkB C) 5)) := fun wz => made_room C _ (by rw [HC.out]; omega) (by rw [HC.out]; omega) wz
  have HB0 : Hid (Below w.heap.size w (w.alloc (.cells (mkB C) 5))) := alloc_below' w _
  have HLi : Hid (∀ wz, Below w.heap.size w wz → Lies wz a l) := fun wz hb => hL.below hb
  have HN : Hid (a = none → cap = 0) := hnil
  have HO0 : Hid (OwnA (w.alloc (.cells (mkB C) 5)) w.heap.size (some ⟨w.heap.size, 0, none⟩) C []) := own_room w w.heap.size C (Nat.le_refl _) (by rw [HC.out]; omega)
  obtain ⟨R1, HR1⟩ : ∃ R, Hid (R = low 8 q) := ⟨_, rfl⟩
  obtain ⟨R2, HR2⟩ : ∃ R, Hid (R = R1 ++ low 4 l.length) := ⟨_, rfl⟩
  obtain ⟨R3, HR3⟩ : ∃ R, Hid (R = R2 ++ l) := ⟨_, rfl⟩
  obtain ⟨R4, HR4⟩ : ∃ R, Hid (R = R3 ++ low 4 (crcOf R3)) := ⟨_, rfl⟩
  have HE : Hid (slotL q l = R4) := by
    show slotL q l = R4
    rw [HR4.out, HR3.out, HR2.out, HR1.out]
    unfold slotL headS
    simp
  have HAl : Hid (AllB R3) := by
    show AllB R3
    rw [HR3.out, HR2.out, HR1.out]
    exact ((low_all _ _).app (low_all _ _)).app hA
  have HLen : Hid (R1.length = 8 ∧ R2.length = 12 ∧ R3.length = 12 + l.length) := by
    have e1 : R1.length = 8 := by rw [HR1.out, low_len]
    have e2 : R2.length = 12 := by rw [HR2.out, List.length_append, low_len, e1]
    exact ⟨e1, e2, by rw [HR3.out, List.length_append, e2]⟩
  have hcr := crcOf_lt HAl.out
  obtain ⟨V, HV⟩ : ∃ V, Hid (crcOf R3 = V) := ⟨_, rfl⟩
  rw [HV.out] at hcr
  have HR4' : Hid (R4 = R3 ++ low 4 V) := by show R4 = _; rw [← HV.out]; exact HR4.out
  have K1 : Hid (Calls Tryd.prog 31 #[.slice (some ⟨w.heap.size, 0, none⟩) 0 C, .int .i64 q, .int .i64 8] (w.alloc (.cells (mkB C) 5)) fun e w' => AddPost (w.alloc (.cells (mkB C) 5)) w' e w.heap.size R1) := by
    have := addNumber_any (some ⟨w.heap.size, 0, none⟩) [] C q 8 w.heap.size (w.alloc (.cells (mkB C) 5)) HO0.out hq63 (by omega) (by simp) HB0.out.size
    rw [List.nil_append, ← HR1.out] at this
    exact this
  have K2 : Hid (∀ a1 c1 wz, OwnA wz w.heap.size a1 c1 R1 → w.heap.size ≤ wz.heap.size → Calls Tryd.prog 31 #[.slice a1 R1.length c1, .int .i64 ((l.length : Nat) : Int), .int .i64 4] wz fun e w' => AddPost wz w' e w.heap.size R2) := fun a1 c1 wz ho hs => by
    have := addNumber_any a1 R1 c1 l.length 4 w.heap.size wz ho (by omega) (by omega) (by rw [HLen.out.1]; omega) hs
    rw [← HR2.out] at this
    exact this
  have K4 : Hid (∀ a1 c1 wz, OwnA wz w.heap.size a1 c1 R3 → w.heap.size ≤ wz.heap.size → Calls Tryd.prog 31 #[.slice a1 R3.length c1, .int .i64 (V : Nat), .int .i64 4] wz fun e w' => AddPost wz w' e w.heap.size R4) := fun a1 c1 wz ho hs => by
    have := addNumber_any a1 R3 c1 V 4 w.heap.size wz ho (by omega) (by omega) (by rw [HLen.out.2.2]; omega) hs
    rw [← HR4'.out] at this
    exact this
  have K3 : Hid (∀ a1 c1 wz, Lies wz a1 R3 → Calls Tryd.prog 32 #[.slice a1 R3.length c1] wz fun e w' => e = .returned (.int .u32 V) ∧ w' = wz) := fun a1 c1 wz hz => by
    have := crc_any a1 R3 c1 wz (by rw [HLen.out.2.2]; unfold maxLen; omega) HAl.out hz
    rw [HV.out] at this
    exact this
  have hB3 : Hid (R3.length ≤ 1073741824) := by show R3.length ≤ _; rw [HLen.out.2.2]; omega
  rw [HE.out]
  clear hq hL hnil hA HR1 HR2 HR4 HR4' HE HAl HLen HV HC hl
  go_enter Tryd.func19, Tryd.ntmps19
  go_wp2_with fail
  refine K1.out.mono ?_
  rintro e w1 ⟨a1, c1, rfl, o1, b1⟩
  have B1 : Hid (Below w.heap.size w w1) := HB0.out.trans b1
  clear b1 K1 HO0 HB0 hmk
  go_wp2_with fail
  refine (K2.out a1 c1 w1 o1 B1.out.size).mono ?_
  rintro e w2 ⟨a2, c2, rfl, o2, b2⟩
  have B2 : Hid (Below w.heap.size w w2) := B1.out.trans b2
  clear b2 B1 o1 K2
  go_wp2_with (at_builtin; refine app_step rfl (.tmp 30) (.tmp 31) rfl w.heap.size a2 c2 R2 rfl o2 a cap l rfl HN.out (HLi.out w2 B2.out) R3 HR3.out hB3.out B2.out.size ?_)
  intro a3 c3 w3 o3 k3
  have B3 : Hid (Below w.heap.size w w3) := B2.out.trans (k3.below B2.out.size (fun b hb => (o2.ge hb).1))
  clear k3 B2 o2 HN HLi
  go_wp2_with fail
  refine (K3.out a3 c3 w3 o3.lies).mono ?_
  rintro e w4 ⟨rfl, rfl⟩
  go_wp2_with fail
  refine (K4.out a3 c3 _ o3 B3.out.size).mono ?_
  rintro e w5 ⟨a5, c5, rfl, o5, b5⟩
  have B5 : Hid (Below w.heap.size w w5) := B3.out.trans b5
  clear b5 B3 o3 K3 K4
  go_wp2
  go_ret2
  exact ⟨a5, c5, rfl, o5, B5.out⟩
theorem putE_no {q : Int} {n : Nat} (h : putE q n = 0) : 0 ≤ q ∧ q ≤ 4611686018427387904 ∧ n ≤ 4096 := by
  unfold putE at h
  split at h
  · cases h
  · next h1 =>
    split at h
    · cases h
    · omega
theorem put_any (q : Int) (a : Option Addr) (l : List Nat) (cap : Nat) (w : World) (hA : AllB l) (hL : Lies w a l) (hnil : a = none → cap = 0) :
    Calls Tryd.prog 19 #[.int .i64 q, .slice a l.length cap] w fun e w' => PutPost w w' e q l := by
  by_cases h1 : q < 0 ∨ 4611686018427387904 < q
  · have e : putE q l.length = 1 := by unfold putE; rw [if_pos h1]
    refine (put_range q a l.length cap w h1).mono ?_
    rintro ev w' ⟨rfl, rfl⟩
    exact ⟨Below.refl _ _, Or.inl ⟨by rw [e]; decide, by rw [e]; rfl⟩⟩
  · obtain ⟨n, rfl⟩ := Int.eq_ofNat_of_zero_le (show 0 ≤ q by omega)
    by_cases h2 : 4096 < l.length
    · have e : putE (n : Int) l.length = 3 := by unfold putE; rw [if_neg h1, if_pos h2]
      refine (put_full n a l.length cap w (by unfold mx; omega) h2).mono ?_
      rintro ev w' ⟨rfl, rfl⟩
      exact ⟨Below.refl _ _, Or.inl ⟨by rw [e]; decide, by rw [e]; rfl⟩⟩
    · have e : putE (n : Int) l.length = 0 := by unfold putE; rw [if_neg h1, if_neg h2]
      refine (put_ok n a l cap w (by unfold mx; omega) (by omega) hA hL hnil).mono ?_
      rintro ev w' ⟨a1, c1, rfl, o1, b1⟩
      exact ⟨b1, Or.inr ⟨e, a1, c1, by rw [Int.toNat_natCast], by rw [Int.toNat_natCast]; exact o1⟩⟩
end Go.Proofs.YtbajdgadljdnkaeDoor
