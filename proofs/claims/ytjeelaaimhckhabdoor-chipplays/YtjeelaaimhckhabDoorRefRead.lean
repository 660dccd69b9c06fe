/-
  What the call of the document's (*Chip).Read gives: a cut of all bytes.
-/
import Derived.Test.YtjeelaaimhckhabDoorRefErr
import Derived.Deep.RegionHeld3
namespace Go.Proofs.YtjeelaaimhckhabDoor
open Go.RowKit
set_option linter.unusedVariables false

set_option maxRecDepth 100000 in
set_option maxHeartbeats 1600000 in
theorem rread_some {D B P Y rb ab nb wb db cap : Nat} {s : St} (d b page : Nat) (w : World) (hG : Geo D B P Y) (h : RH D B P Y w rb ab nb wb db cap s) (ho : s.off = false) (hd : d < D) (hb : b < B) (hp : page < P) :
    Calls Tryd.prog 27 #[.pointer (some ⟨rb, 0, none⟩), .int .i64 d, .int .i64 b, .int .i64 page] w fun e w' => ∃ A c, e = .returned (.tuple #[.slice (some ⟨ab, A, none⟩) Y c, .int .i64 0]) ∧ Lies w' (some ⟨ab, A, none⟩) (pageOf (s.bytes (d * B + b)) (page * Y) Y) ∧ Below w.heap.size w w' := by
  have y1 := hG.y1
  have y0 := hG.y0
  have p1 := hG.p1
  have hPY := hG.l
  have hn64 := hG.n
  have hlt : d * B + b < D * B := by
    have : (d + 1) * B ≤ D * B := Nat.mul_le_mul_right B hd
    rw [Nat.add_mul, Nat.one_mul] at this
    omega
  have HF := rfault_some d b w hG h ho hd hb
  have HC : Hid (RH D B P Y w rb ab nb wb db cap s) := h
  have HG : Hid (Geo D B P Y) := hG
  have HK : Hid (d * B + b < D * B) := hlt
  have hpY : page * Y + Y ≤ P * Y := by
    have : (page + 1) * Y ≤ P * Y := Nat.mul_le_mul_right Y hp
    rw [Nat.add_mul, Nat.one_mul] at this
    exact this
  have HNN : (d * B + b) * (P * Y) + P * Y ≤ D * B * (P * Y) := by
    have : (d * B + b + 1) * (P * Y) ≤ D * B * (P * Y) := Nat.mul_le_mul_right _ hlt
    rw [Nat.add_mul, Nat.one_mul] at this
    exact this
  have HNm : D * B * (P * Y) ≤ 262144 := by
    have : D * B * (P * Y) ≤ 64 * 4096 := Nat.mul_le_mul hn64.2 hPY.2
    exact this
  have hcp := h.hc
  obtain ⟨X, HX⟩ : ∃ X, Hid (page * Y = X) := ⟨_, rfl⟩
  obtain ⟨L, HLL⟩ : ∃ L, Hid (P * Y = L) := ⟨_, rfl⟩
  rw [HX.out, HLL.out] at hpY
  rw [HLL.out] at HNN HNm hPY hcp
  have HKP : (d * B + b) * P ≤ 1024 := by
    have : (d * B + b) * P ≤ 64 * 16 := Nat.mul_le_mul (by omega) p1
    exact this
  have HAeq : ((d * B + b) * P + page) * Y = (d * B + b) * L + X := by
    rw [Nat.add_mul, HX.out, Nat.mul_assoc, HLL.out]
  have mm1 : ((d * B + b : Nat) : Int) * (P : Int) = (((d * B + b) * P : Nat) : Int) := (Int.natCast_mul _ _).symm
  have mm2 : ((((d * B + b) * P : Nat) : Int) + (page : Int)) * (Y : Int) = ((((d * B + b) * P + page) * Y : Nat) : Int) := by simp only [Int.natCast_mul, Int.natCast_add]
  rw [HAeq] at mm2
  obtain ⟨NN, HNE⟩ : ∃ NN, Hid (D * B * L = NN) := ⟨_, rfl⟩
  rw [HNE.out] at HNN HNm hcp
  generalize hkk : d * B + b = k at *
  clear hkk
  generalize k * P = KP at mm1 mm2 HKP HAeq
  obtain ⟨A, HA⟩ : ∃ A, Hid (k * L + X = A) := ⟨_, rfl⟩
  have hAle : A + Y ≤ NN := by rw [← HA.out]; omega
  rw [HA.out] at mm2
  have hwA : IntKind.i64.wrap (A : Int) = (A : Int) := by rw [IntKind.wrap_i64]; omega
  have hwK : IntKind.i64.wrap (KP : Int) = (KP : Int) := by rw [IntKind.wrap_i64]; omega
  have hk64 : k < 64 := by omega
  have hpg : page < 16 := by omega
  have HLE : Hid (∀ wz, RH D B P Y wz rb ab nb wb db cap s → Lies wz (some ⟨ab, A, none⟩) (pageOf (s.bytes k) (page * Y) Y)) := by
    intro wz hz
    refine Or.inr ⟨ab, A, rfl, fun i hi => ?_⟩
    have hlen := hz.hl k HK.out
    unfold pageOf at hi ⊢
    rw [List.length_take, List.length_drop, hlen, HX.out, HLL.out] at hi
    have hi2 : i < Y := by omega
    have hj : X + i < P * Y := by rw [HLL.out]; omega
    have e : A + i = k * (P * Y) + (X + i) := by rw [HLL.out, ← HA.out]; omega
    rw [e, hz.hb k (X + i) HK.out hj, List.getElem?_take, if_pos hi2, List.getElem?_drop, HX.out]
  have hcA : ¬ cap = A := by omega
  have i1 : (0 : Int) ≤ (A : Int) := by omega
  have i2 : (A : Int) ≤ (A : Int) + (Y : Int) := by omega
  have i3 : (A : Int) + (Y : Int) ≤ (cap : Int) := by omega
  have i4 : ¬ (page : Int) < 0 := by omega
  have i5 : ¬ P ≤ page := by omega
  have hAY : A + Y - A = Y := by omega
  clear h hG ho hd hb hp HNN HAeq hlt
  go_enter Tryd.func27, Tryd.ntmps27
  go_wp2_with fail
  refine HF.mono ?_
  rintro e w1 ⟨rfl, hb1⟩
  have h1 := HC.out.below HG.out hb1
  have c2 := h1.c2
  have c3 := h1.c3
  have c4 := h1.c4
  rw [HLL.out, HNE.out] at c4
  have H1 : Hid (RH D B P Y w1 rb ab nb wb db cap s) := h1
  clear h1 HF HC
  go_wp2
  go_quiet (fail)
  go_wp2
  go_quiet (fail)
  go_wp2
  go_ret2
  refine ⟨A, cap - A, ?_, HLE.out _ (H1.out.below HG.out (below_drewN (below_drewN (Below.refl _ _) _) _)), hb1.trans ((below_drewN (below_drewN (Below.refl _ _) _) _ : Below w1.heap.size w1 _).mono hb1.size)⟩
  show Ending.returned (.tuple #[.slice (some ⟨ab, A, none⟩) (A + Y - A) (cap - A), .int .i64 0]) = _
  rw [hAY]
end Go.Proofs.YtjeelaaimhckhabDoor
