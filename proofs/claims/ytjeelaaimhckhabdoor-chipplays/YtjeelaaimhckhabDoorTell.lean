/-
  What the calls of (*Chip).Next, Wear and Bad give: what the state says; or what is wrong.
-/
import Derived.Test.YtjeelaaimhckhabDoorFind
namespace Go.Proofs.YtjeelaaimhckhabDoor
open Go.RowKit

/-- Is there such a block? -/
def Here (D B : Nat) (die block : Int) : Prop := 0 ≤ die ∧ die < D ∧ 0 ≤ block ∧ block < B
def kOf (B : Nat) (die block : Int) : Nat := die.toNat * B + block.toNat
theorem Here.nat {D B : Nat} {die block : Int} (h : Here D B die block) : ∃ d b : Nat, die = d ∧ block = b ∧ d < D ∧ b < B ∧ kOf B die block = d * B + b ∧ d * B + b < D * B := by
  obtain ⟨h1, h2, h3, h4⟩ := h
  refine ⟨die.toNat, block.toNat, by omega, by omega, by omega, by omega, rfl, ?_⟩
  have : (die.toNat + 1) * B ≤ D * B := Nat.mul_le_mul_right B (by omega)
  rw [Nat.add_mul, Nat.one_mul] at this
  omega
theorem Here.lt {D B : Nat} {die block : Int} (h : Here D B die block) : kOf B die block < D * B := by
  obtain ⟨d, b, _, _, _, _, e, h⟩ := h.nat
  rw [e]; exact h

set_option maxHeartbeats 400000 in
theorem next_off {D B P Y cb bb : Nat} {pb : Nat → Nat} {s : St} (die block : Int) (w : World) (h : CH D B P Y w cb bb pb s) (ho : s.off = true) :
    Calls Tryd.prog 20 #[.pointer (some ⟨cb, 0, none⟩), .int .i64 die, .int .i64 block] w fun e w' => e = .returned (.tuple #[.int .i64 0, .iface 30 (.int .i64 7)]) ∧ w' = w := by
  go_enter Tryd.func20, Tryd.ntmps20
  go_wp2_with fail
  refine (find_off die block w h ho).mono ?_
  rintro e w1 ⟨rfl, rfl⟩
  go_wp2
  go_ret2
  exact ⟨rfl, rfl⟩
set_option maxHeartbeats 400000 in
theorem next_none {D B P Y cb bb : Nat} {pb : Nat → Nat} {s : St} (die block : Int) (w : World) (hG : Geo D B P Y) (h : CH D B P Y w cb bb pb s) (ho : s.off = false) (hno : ¬ Here D B die block) :
    Calls Tryd.prog 20 #[.pointer (some ⟨cb, 0, none⟩), .int .i64 die, .int .i64 block] w fun e w' => e = .returned (.tuple #[.int .i64 0, .iface 30 (.int .i64 1)]) ∧ w' = w := by
  go_enter Tryd.func20, Tryd.ntmps20
  go_wp2_with fail
  refine (find_none die block w hG h ho hno).mono ?_
  rintro e w1 ⟨rfl, rfl⟩
  go_wp2
  go_ret2
  exact ⟨rfl, rfl⟩
set_option maxHeartbeats 400000 in
theorem next_some {D B P Y cb bb : Nat} {pb : Nat → Nat} {s : St} (die block : Int) (w : World) (hG : Geo D B P Y) (h : CH D B P Y w cb bb pb s) (ho : s.off = false) (hh : Here D B die block) :
    Calls Tryd.prog 20 #[.pointer (some ⟨cb, 0, none⟩), .int .i64 die, .int .i64 block] w fun e w' => e = .returned (.tuple #[.int .i64 (s.next (kOf B die block) : Int), .nilIface]) ∧ Below w.heap.size w w' := by
  obtain ⟨d, b, rfl, rfl, hd, hb, hk, hlt⟩ := hh.nat
  rw [hk]
  have HF := find_some d b w hG h ho hd hb
  have HC : Hid (CH D B P Y w cb bb pb s) := h
  have HN : Hid (1 ≤ D * B) := hG.n.1
  have HK : Hid (d * B + b < D * B) := hlt
  clear h hG ho hh hk hlt hd hb
  generalize d * B + b = k at *
  go_enter Tryd.func20, Tryd.ntmps20
  go_wp2_with fail
  refine HF.mono ?_
  rintro e w1 ⟨rfl, hb1⟩
  have h1 := (HC.out.below HN.out hb1).r1 k HK.out
  go_wp2
  go_ret2
  exact ⟨rfl, hb1⟩

set_option maxHeartbeats 400000 in
theorem wear_off {D B P Y cb bb : Nat} {pb : Nat → Nat} {s : St} (die block : Int) (w : World) (h : CH D B P Y w cb bb pb s) (ho : s.off = true) :
    Calls Tryd.prog 21 #[.pointer (some ⟨cb, 0, none⟩), .int .i64 die, .int .i64 block] w fun e w' => e = .returned (.tuple #[.int .i64 0, .iface 30 (.int .i64 7)]) ∧ w' = w := by
  go_enter Tryd.func21, Tryd.ntmps21
  go_wp2_with fail
  refine (find_off die block w h ho).mono ?_
  rintro e w1 ⟨rfl, rfl⟩
  go_wp2
  go_ret2
  exact ⟨rfl, rfl⟩
set_option maxHeartbeats 400000 in
theorem wear_none {D B P Y cb bb : Nat} {pb : Nat → Nat} {s : St} (die block : Int) (w : World) (hG : Geo D B P Y) (h : CH D B P Y w cb bb pb s) (ho : s.off = false) (hno : ¬ Here D B die block) :
    Calls Tryd.prog 21 #[.pointer (some ⟨cb, 0, none⟩), .int .i64 die, .int .i64 block] w fun e w' => e = .returned (.tuple #[.int .i64 0, .iface 30 (.int .i64 1)]) ∧ w' = w := by
  go_enter Tryd.func21, Tryd.ntmps21
  go_wp2_with fail
  refine (find_none die block w hG h ho hno).mono ?_
  rintro e w1 ⟨rfl, rfl⟩
  go_wp2
  go_ret2
  exact ⟨rfl, rfl⟩
set_option maxHeartbeats 400000 in
theorem wear_some {D B P Y cb bb : Nat} {pb : Nat → Nat} {s : St} (die block : Int) (w : World) (hG : Geo D B P Y) (h : CH D B P Y w cb bb pb s) (ho : s.off = false) (hh : Here D B die block) :
    Calls Tryd.prog 21 #[.pointer (some ⟨cb, 0, none⟩), .int .i64 die, .int .i64 block] w fun e w' => e = .returned (.tuple #[.int .i64 (s.wear (kOf B die block) : Int), .nilIface]) ∧ Below w.heap.size w w' := by
  obtain ⟨d, b, rfl, rfl, hd, hb, hk, hlt⟩ := hh.nat
  rw [hk]
  have HF := find_some d b w hG h ho hd hb
  have HC : Hid (CH D B P Y w cb bb pb s) := h
  have HN : Hid (1 ≤ D * B) := hG.n.1
  have HK : Hid (d * B + b < D * B) := hlt
  clear h hG ho hh hk hlt hd hb
  generalize d * B + b = k at *
  go_enter Tryd.func21, Tryd.ntmps21
  go_wp2_with fail
  refine HF.mono ?_
  rintro e w1 ⟨rfl, hb1⟩
  have h1 := (HC.out.below HN.out hb1).r2 k HK.out
  go_wp2
  go_ret2
  exact ⟨rfl, hb1⟩

set_option maxHeartbeats 400000 in
theorem bad_off {D B P Y cb bb : Nat} {pb : Nat → Nat} {s : St} (die block : Int) (w : World) (h : CH D B P Y w cb bb pb s) (ho : s.off = true) :
    Calls Tryd.prog 22 #[.pointer (some ⟨cb, 0, none⟩), .int .i64 die, .int .i64 block] w fun e w' => e = .returned (.tuple #[.bool false, .iface 30 (.int .i64 7)]) ∧ w' = w := by
  go_enter Tryd.func22, Tryd.ntmps22
  go_wp2_with fail
  refine (find_off die block w h ho).mono ?_
  rintro e w1 ⟨rfl, rfl⟩
  go_wp2
  go_ret2
  exact ⟨rfl, rfl⟩
set_option maxHeartbeats 400000 in
theorem bad_none {D B P Y cb bb : Nat} {pb : Nat → Nat} {s : St} (die block : Int) (w : World) (hG : Geo D B P Y) (h : CH D B P Y w cb bb pb s) (ho : s.off = false) (hno : ¬ Here D B die block) :
    Calls Tryd.prog 22 #[.pointer (some ⟨cb, 0, none⟩), .int .i64 die, .int .i64 block] w fun e w' => e = .returned (.tuple #[.bool false, .iface 30 (.int .i64 1)]) ∧ w' = w := by
  go_enter Tryd.func22, Tryd.ntmps22
  go_wp2_with fail
  refine (find_none die block w hG h ho hno).mono ?_
  rintro e w1 ⟨rfl, rfl⟩
  go_wp2
  go_ret2
  exact ⟨rfl, rfl⟩
set_option maxHeartbeats 400000 in
theorem bad_some {D B P Y cb bb : Nat} {pb : Nat → Nat} {s : St} (die block : Int) (w : World) (hG : Geo D B P Y) (h : CH D B P Y w cb bb pb s) (ho : s.off = false) (hh : Here D B die block) :
    Calls Tryd.prog 22 #[.pointer (some ⟨cb, 0, none⟩), .int .i64 die, .int .i64 block] w fun e w' => e = .returned (.tuple #[.bool (s.bad (kOf B die block)), .nilIface]) ∧ Below w.heap.size w w' := by
  obtain ⟨d, b, rfl, rfl, hd, hb, hk, hlt⟩ := hh.nat
  rw [hk]
  have HF := find_some d b w hG h ho hd hb
  have HC : Hid (CH D B P Y w cb bb pb s) := h
  have HN : Hid (1 ≤ D * B) := hG.n.1
  have HK : Hid (d * B + b < D * B) := hlt
  clear h hG ho hh hk hlt hd hb
  generalize d * B + b = k at *
  go_enter Tryd.func22, Tryd.ntmps22
  go_wp2_with fail
  refine HF.mono ?_
  rintro e w1 ⟨rfl, hb1⟩
  have h1 := (HC.out.below HN.out hb1).r3 k HK.out
  go_wp2
  go_ret2
  exact ⟨rfl, hb1⟩
end Go.Proofs.YtjeelaaimhckhabDoor
