/-
  What the call of the document's (*Chip).Program gives, where the page is the next one.
-/
import Derived.Test.YtjeelaaimhckhabDoorRefErr
import Derived.Deep.RegionHeld3
namespace Go.Proofs.YtjeelaaimhckhabDoor
open Go.RowKit
set_option linter.unusedVariables false

set_option maxRecDepth 100000 in
set_option maxHeartbeats 4000000 in
theorem rprogram_fine {D B P Y rb ab nb wb db cap : Nat} {s : St} (d b page sb so cap2 : Nat) (bs : List Nat) (w : World) (hG : Geo D B P Y) (h : RH D B P Y w rb ab nb wb db cap s) (ho : s.off = false) (hd : d < D) (hb : b < B) (hp : page < P) (hl : bs.length = Y) (hL : ∀ i, i < bs.length → w.cell? ⟨sb, so + i, none⟩ = some (.int .u8 ((bs[i]?.getD 0 : Nat) : Int)))
    (hsb : ¬ RMine rb ab nb wb db sb) (hbad : s.bad (d * B + b) = false) (hnx : s.next (d * B + b) = page) :
    Calls Tryd.prog 26 #[.pointer (some ⟨rb, 0, none⟩), .int .i64 d, .int .i64 b, .int .i64 page, .slice (some ⟨sb, so, none⟩) Y cap2, .int .i64 0] w fun e w' => e = .returned (.int .i64 0) ∧ RH D B P Y w' rb ab nb wb db cap (putSt s (d * B + b) page Y bs) ∧ Keep (RMine rb ab nb wb db) w w' := by
  have y1 := hG.y1
  have y0 := hG.y0
  have p1 := hG.p1
  have hPY := hG.l
  have hn64 := hG.n
  have hlt : d * B + b < D * B := by
    have : (d + 1) * B ≤ D * B := Nat.mul_le_mul_right B hd
    rw [Nat.add_mul, Nat.one_mul] at this
    omega
  have HF := rfault_some d b w hG h ho hd hb
  have HC : Hid (RH D B P Y w rb ab nb wb db cap s) := h
  have HG : Hid (Geo D B P Y) := hG
  have HK : Hid (d * B + b < D * B) := hlt
  have HB : Hid (s.bad (d * B + b) = false ∧ s.next (d * B + b) = page) := ⟨hbad, hnx⟩
  clear hbad hnx
  have hpY : page * Y + Y ≤ P * Y := by
    have : (page + 1) * Y ≤ P * Y := Nat.mul_le_mul_right Y hp
    rw [Nat.add_mul, Nat.one_mul] at this
    exact this
  have HNN : (d * B + b) * (P * Y) + P * Y ≤ D * B * (P * Y) := by
    have : (d * B + b + 1) * (P * Y) ≤ D * B * (P * Y) := Nat.mul_le_mul_right _ hlt
    rw [Nat.add_mul, Nat.one_mul] at this
    exact this
  have HNm : D * B * (P * Y) ≤ 262144 := by
    have : D * B * (P * Y) ≤ 64 * 4096 := Nat.mul_le_mul hn64.2 hPY.2
    exact this
  have hcp := h.hc
  obtain ⟨X, HX⟩ : ∃ X, Hid (page * Y = X) := ⟨_, rfl⟩
  obtain ⟨L, HLL⟩ : ∃ L, Hid (P * Y = L) := ⟨_, rfl⟩
  rw [HX.out, HLL.out] at hpY
  rw [HLL.out] at HNN HNm hPY hcp
  have HKP : (d * B + b) * P ≤ 1024 := by
    have : (d * B + b) * P ≤ 64 * 16 := Nat.mul_le_mul (by omega) p1
    exact this
  have HAeq : ((d * B + b) * P + page) * Y = (d * B + b) * L + X := by
    rw [Nat.add_mul, HX.out, Nat.mul_assoc, HLL.out]
  have mm1 : ((d * B + b : Nat) : Int) * (P : Int) = (((d * B + b) * P : Nat) : Int) := (Int.natCast_mul _ _).symm
  have mm2 : ((((d * B + b) * P : Nat) : Int) + (page : Int)) * (Y : Int) = ((((d * B + b) * P + page) * Y : Nat) : Int) := by simp only [Int.natCast_mul, Int.natCast_add]
  rw [HAeq] at mm2
  obtain ⟨NN, HNE⟩ : ∃ NN, Hid (D * B * L = NN) := ⟨_, rfl⟩
  rw [HNE.out] at HNN HNm hcp
  generalize hkk : d * B + b = k at *
  clear hkk
  generalize k * P = KP at mm1 mm2 HKP HAeq
  obtain ⟨A, HA⟩ : ∃ A, Hid (k * L + X = A) := ⟨_, rfl⟩
  have hAle : A + Y ≤ NN := by rw [← HA.out]; omega
  rw [HA.out] at mm2
  have hwA : IntKind.i64.wrap (A : Int) = (A : Int) := by rw [IntKind.wrap_i64]; omega
  have hwK : IntKind.i64.wrap (KP : Int) = (KP : Int) := by rw [IntKind.wrap_i64]; omega
  have hk64 : k < 64 := by omega
  have hpg : page < 16 := by omega
  have HL : Hid (bs.length = Y ∧ (∀ i, i < bs.length → w.cell? ⟨sb, so + i, none⟩ = some (.int .u8 ((bs[i]?.getD 0 : Nat) : Int))) ∧ ¬ RMine rb ab nb wb db sb) := ⟨hl, hL, hsb⟩
  have HP1 : Hid (page + 1 ≤ P) := hp
  clear h hG ho hd hb hp HNN HAeq hlt hl hL hsb
  go_enter Tryd.func26, Tryd.ntmps26
  go_wp2_with fail
  refine HF.mono ?_
  rintro e w1 ⟨rfl, hb1⟩
  have h1 := HC.out.below HG.out hb1
  have c2 := h1.c2
  have c3 := h1.c3
  have c5 := h1.c5
  have c7 := h1.c7
  obtain ⟨n64, HDB⟩ : ∃ n64, Hid (D * B = n64) := ⟨_, rfl⟩
  have hkn : k < n64 := by rw [← HDB.out]; exact HK.out
  rw [HDB.out] at c5 c7 hn64
  have r1 := h1.r1 k HK.out
  have r3 := h1.r3 k HK.out
  rw [HB.out.1] at r3
  rw [HB.out.2] at r1
  have f1 := h1.fr nb k (Or.inr (Or.inr (Or.inl rfl)))
  have ne1 : ¬ nb = rb := h1.n0.2.1
  have H2 : Hid (RH D B P Y (w1.setCell ⟨nb, k, none⟩ (.int .i64 ((page : Int) + 1))) rb ab nb wb db cap { s with next := upd s.next k (page + 1) } ∧ Keep (RMine rb ab nb wb db) w (w1.setCell ⟨nb, k, none⟩ (.int .i64 ((page : Int) + 1)))) := by
    have := h1.setNext k (page + 1) HK.out HP1.out
    have e : ((page + 1 : Nat) : Int) = (page : Int) + 1 := by omega
    rw [e] at this
    exact ⟨this, (Keep.of_below hb1).set (Or.inr (Or.inr (Or.inl rfl))) _⟩
  have c2b := H2.out.1.c2
  have c3b := H2.out.1.c3
  clear h1 HF HC
  go_wp2
  go_quiet (fail)
  generalize hW : (w1.setCell ⟨nb, k, none⟩ (.int .i64 ((page : Int) + 1))) = w2 at *
  clear hW c2 c3 c5 c7 r1 r3 f1 hb1
  go_wp2
  go_loopw [16] (fun j wr => ∃ i : Nat, i ≤ Y ∧ j = .int .i64 i ∧ Hid (RH D B P Y wr rb ab nb wb db cap { s with next := upd s.next k (page + 1), bytes := upd s.bytes k (putL (s.bytes k) X bs i) } ∧ Keep (RMine rb ab nb wb db) w wr)) (fun j _ => Y - (intOf j).toNat)
  case atStart =>
    refine ⟨0, by omega, rfl, ?_, H2.out.2.trans (Keep.of_below (below_drewN (Below.refl _ _) _))⟩
    have hq := H2.out.1.below HG.out (below_drewN (Below.refl _ _) nq)
    have e : upd s.bytes k (putL (s.bytes k) X bs 0) = s.bytes := by
      funext q
      by_cases e : q = k
      · subst e; rw [upd_same]; rfl
      · rw [upd_ne _ _ _ _ e]
    rw [e]
    exact hq
  case round =>
    obtain ⟨i, hi, rfl, hR⟩ := hrel
    clear H2 c2b c3b
    by_cases hlt : i < Y
    · have hX2 : X + i < P * Y := by rw [HLL.out]; omega
      have eA : k * (P * Y) + (X + i) = A + i := by rw [HLL.out, ← HA.out]; omega
      have c4 := hR.out.1.c4
      rw [HLL.out, HNE.out] at c4
      have hcell := hR.out.1.hb k (X + i) HK.out hX2
      rw [eA] at hcell
      have hfz := hR.out.1.fr ab (A + i) (Or.inr (Or.inl rfl))
      have ne2 : ¬ ab = rb := hR.out.1.n0.1
      have hd0 := HL.out.2.1 i (by rw [HL.out.1]; exact hlt)
      have hd1 := (hR.out.2.cell (p := ⟨sb, so + i, none⟩) (World.block_lt_of_cell? w _ hd0) HL.out.2.2).trans hd0
      have HS : Hid (∀ v : Nat, RH D B P Y (wr.setCell ⟨ab, A + i, none⟩ (.int .u8 (v : Int))) rb ab nb wb db cap { s with next := upd s.next k (page + 1), bytes := upd s.bytes k ((putL (s.bytes k) X bs i).set (X + i) v) }) := by
        intro v
        have hq := hR.out.1.setByte k (X + i) v HK.out hX2
        rw [eA] at hq
        dsimp only at hq
        have e : upd (upd s.bytes k (putL (s.bytes k) X bs i)) k ((upd s.bytes k (putL (s.bytes k) X bs i) k).set (X + i) v) = upd s.bytes k ((putL (s.bytes k) X bs i).set (X + i) v) := by
          rw [upd_same]
          funext q
          by_cases e : q = k
          · rw [e, upd_same, upd_same]
          · rw [upd_ne _ _ _ _ e, upd_ne _ _ _ _ e, upd_ne _ _ _ _ e]
        rw [e] at hq
        exact hq
      generalize (St.bytes _ k)[X + i]?.getD 0 = old at hcell
      have j1 : (0 : Int) ≤ (A : Int) + (i : Int) := by omega
      have j2 : (A : Int) + (i : Int) < (NN : Int) := by omega
      have j3 : (i : Int) < (Y : Int) := by omega
      have hjA : A ≤ 262144 := by omega
      have HNX : Hid (putL (s.bytes k) X bs (i + 1) = (putL (s.bytes k) X bs i).set (X + i) (bs[i]?.getD 0)) := rfl
      have HV := HS.out (bs[i]?.getD 0)
      have HV' : Hid (RH D B P Y _ rb ab nb wb db cap _) := HV
      clear HS HV hd0
      generalize bs[i]?.getD 0 = v at hd1 HV' HNX
      go_wp2
      go_region
      all_goals
        go_wp2
        exact ⟨⟨i + 1, by omega, by go_num, (by rw [HNX.out]; exact HV'.out.below HG.out ((Below.refl _ _).drew)), (hR.out.2.set (Or.inr (Or.inl rfl)) _).trans (Keep.of_below ((Below.refl _ _).drew))⟩, by simp [intOf]; omega⟩
    · obtain rfl : i = Y := by omega
      have HF2 : Hid (RH D B P i wr rb ab nb wb db cap (putSt s k page i bs) ∧ Keep (RMine rb ab nb wb db) w wr) := by
        have := hR.out.1
        rw [putL_splice _ _ _ i (by rw [HL.out.1]; exact Nat.le_refl _) (by have := hR.out.1.hl k HK.out; dsimp only at this; rw [upd_same, putL_len, HLL.out] at this; omega), List.take_of_length_le (by rw [HL.out.1]; exact Nat.le_refl _)] at this
        refine ⟨?_, hR.out.2⟩
        unfold putSt
        rw [HX.out]
        exact this
      clear hR
      go_wp2
      go_ret
      exact ⟨rfl, HF2.out⟩
end Go.Proofs.YtjeelaaimhckhabDoor
