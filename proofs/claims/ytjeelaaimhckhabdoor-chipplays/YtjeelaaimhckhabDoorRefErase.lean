/-
  What the call of the document's (*Chip).Erase gives, where the block is good.
-/
import Derived.Test.YtjeelaaimhckhabDoorRefErr
import Derived.Deep.RegionHeld3
namespace Go.Proofs.YtjeelaaimhckhabDoor
open Go.RowKit
set_option linter.unusedVariables false

set_option maxRecDepth 100000 in
set_option maxHeartbeats 4000000 in
theorem rerase_fail {D B P Y rb ab nb wb db cap : Nat} {s : St} (d b : Nat) (w : World) (hG : Geo D B P Y) (h : RH D B P Y w rb ab nb wb db cap s) (ho : s.off = false) (hd : d < D) (hb : b < B) (hbad : s.bad (d * B + b) = false) (hwr : s.wear (d * B + b) < 4611686018427387904) :
    Calls Tryd.prog 28 #[.pointer (some ⟨rb, 0, none⟩), .int .i64 d, .int .i64 b, .int .i64 1] w fun e w' => e = .returned (.int .i64 6) ∧ RH D B P Y w' rb ab nb wb db cap { s with bad := upd s.bad (d * B + b) true } ∧ Keep (RMine rb ab nb wb db) w w' := by
  have y1 := hG.y1
  have y0 := hG.y0
  have p1 := hG.p1
  have hPY := hG.l
  have hn64 := hG.n
  have hlt : d * B + b < D * B := by
    have : (d + 1) * B ≤ D * B := Nat.mul_le_mul_right B hd
    rw [Nat.add_mul, Nat.one_mul] at this
    omega
  have HF := rfault_some d b w hG h ho hd hb
  have HC : Hid (RH D B P Y w rb ab nb wb db cap s) := h
  have HG : Hid (Geo D B P Y) := hG
  have HK : Hid (d * B + b < D * B) := hlt
  have HB : Hid (s.bad (d * B + b) = false) := hbad
  clear hbad
  have HNN : (d * B + b) * (P * Y) + P * Y ≤ D * B * (P * Y) := by
    have : (d * B + b + 1) * (P * Y) ≤ D * B * (P * Y) := Nat.mul_le_mul_right _ hlt
    rw [Nat.add_mul, Nat.one_mul] at this
    exact this
  have HNm : D * B * (P * Y) ≤ 262144 := by
    have : D * B * (P * Y) ≤ 64 * 4096 := Nat.mul_le_mul hn64.2 hPY.2
    exact this
  have hcp := h.hc
  obtain ⟨L, HLL⟩ : ∃ L, Hid (P * Y = L) := ⟨_, rfl⟩
  have mm0 : (P : Int) * (Y : Int) = (L : Int) := by
    have : (P : Int) * (Y : Int) = ((P * Y : Nat) : Int) := by simp
    rw [this, HLL.out]
  rw [HLL.out] at HNN HNm hPY hcp
  have mm1 : ((d * B + b : Nat) : Int) * (L : Int) = (((d * B + b) * L : Nat) : Int) := (Int.natCast_mul _ _).symm
  obtain ⟨NN, HNE⟩ : ∃ NN, Hid (D * B * L = NN) := ⟨_, rfl⟩
  rw [HNE.out] at HNN HNm hcp
  generalize hkk : d * B + b = k at *
  clear hkk
  obtain ⟨A, HA⟩ : ∃ A, Hid (k * L = A) := ⟨_, rfl⟩
  rw [HA.out] at mm1 HNN
  have hwA : IntKind.i64.wrap (A : Int) = (A : Int) := by rw [IntKind.wrap_i64]; omega
  have hwL : IntKind.i64.wrap (L : Int) = (L : Int) := by rw [IntKind.wrap_i64]; omega
  have hk64 : k < 64 := by omega
  obtain ⟨W, HW⟩ : ∃ W, Hid (s.wear k = W) := ⟨_, rfl⟩
  rw [HW.out] at hwr
  clear h hG ho hd hb hlt
  go_enter Tryd.func28, Tryd.ntmps28
  go_wp2_with fail
  refine HF.mono ?_
  rintro e w1 ⟨rfl, hb1⟩
  have h1 := HC.out.below HG.out hb1
  have c2 := h1.c2
  have c3 := h1.c3
  have c7 := h1.c7
  obtain ⟨n64, HDB⟩ : ∃ n64, Hid (D * B = n64) := ⟨_, rfl⟩
  have hkn : k < n64 := by rw [← HDB.out]; exact HK.out
  rw [HDB.out] at c7 hn64
  have r3 := h1.r3 k HK.out
  rw [HB.out] at r3
  have f4 := h1.fr db k (Or.inr (Or.inr (Or.inr (Or.inr rfl))))
  have ne1 : ¬ db = rb := h1.n0.2.2.2.1
  have H2 : Hid (RH D B P Y (w1.setCell ⟨db, k, none⟩ (.bool true)) rb ab nb wb db cap { s with bad := upd s.bad k true }) := h1.setBad k true HK.out
  clear h1 HF HC
  go_wp2
  go_ret
  exact ⟨rfl, H2.out, (Keep.of_below hb1).set (Or.inr (Or.inr (Or.inr (Or.inr rfl)))) _⟩
set_option maxRecDepth 100000 in
set_option maxHeartbeats 4000000 in
theorem rerase_fine {D B P Y rb ab nb wb db cap : Nat} {s : St} (d b : Nat) (w : World) (hG : Geo D B P Y) (h : RH D B P Y w rb ab nb wb db cap s) (ho : s.off = false) (hd : d < D) (hb : b < B) (hbad : s.bad (d * B + b) = false) (hwr : s.wear (d * B + b) < 4611686018427387904) :
    Calls Tryd.prog 28 #[.pointer (some ⟨rb, 0, none⟩), .int .i64 d, .int .i64 b, .int .i64 0] w fun e w' => e = .returned (.int .i64 0) ∧ RH D B P Y w' rb ab nb wb db cap { s with bytes := upd s.bytes (d * B + b) (List.replicate (P * Y) 255), next := upd s.next (d * B + b) 0, wear := upd s.wear (d * B + b) (s.wear (d * B + b) + 1) } ∧ Keep (RMine rb ab nb wb db) w w' := by
  have y1 := hG.y1
  have y0 := hG.y0
  have p1 := hG.p1
  have hPY := hG.l
  have hn64 := hG.n
  have hlt : d * B + b < D * B := by
    have : (d + 1) * B ≤ D * B := Nat.mul_le_mul_right B hd
    rw [Nat.add_mul, Nat.one_mul] at this
    omega
  have HF := rfault_some d b w hG h ho hd hb
  have HC : Hid (RH D B P Y w rb ab nb wb db cap s) := h
  have HG : Hid (Geo D B P Y) := hG
  have HK : Hid (d * B + b < D * B) := hlt
  have HB : Hid (s.bad (d * B + b) = false) := hbad
  clear hbad
  have HNN : (d * B + b) * (P * Y) + P * Y ≤ D * B * (P * Y) := by
    have : (d * B + b + 1) * (P * Y) ≤ D * B * (P * Y) := Nat.mul_le_mul_right _ hlt
    rw [Nat.add_mul, Nat.one_mul] at this
    exact this
  have HNm : D * B * (P * Y) ≤ 262144 := by
    have : D * B * (P * Y) ≤ 64 * 4096 := Nat.mul_le_mul hn64.2 hPY.2
    exact this
  have hcp := h.hc
  obtain ⟨L, HLL⟩ : ∃ L, Hid (P * Y = L) := ⟨_, rfl⟩
  have mm0 : (P : Int) * (Y : Int) = (L : Int) := by
    have : (P : Int) * (Y : Int) = ((P * Y : Nat) : Int) := by simp
    rw [this, HLL.out]
  rw [HLL.out] at HNN HNm hPY hcp
  have mm1 : ((d * B + b : Nat) : Int) * (L : Int) = (((d * B + b) * L : Nat) : Int) := (Int.natCast_mul _ _).symm
  obtain ⟨NN, HNE⟩ : ∃ NN, Hid (D * B * L = NN) := ⟨_, rfl⟩
  rw [HNE.out] at HNN HNm hcp
  generalize hkk : d * B + b = k at *
  clear hkk
  obtain ⟨A, HA⟩ : ∃ A, Hid (k * L = A) := ⟨_, rfl⟩
  rw [HA.out] at mm1 HNN
  have hwA : IntKind.i64.wrap (A : Int) = (A : Int) := by rw [IntKind.wrap_i64]; omega
  have hwL : IntKind.i64.wrap (L : Int) = (L : Int) := by rw [IntKind.wrap_i64]; omega
  have hk64 : k < 64 := by omega
  obtain ⟨W, HW⟩ : ∃ W, Hid (s.wear k = W) := ⟨_, rfl⟩
  rw [HW.out] at hwr
  clear h hG ho hd hb hlt
  go_enter Tryd.func28, Tryd.ntmps28
  go_wp2_with fail
  refine HF.mono ?_
  rintro e w1 ⟨rfl, hb1⟩
  have h1 := HC.out.below HG.out hb1
  have c2 := h1.c2
  have c3 := h1.c3
  have c7 := h1.c7
  obtain ⟨n64, HDB⟩ : ∃ n64, Hid (D * B = n64) := ⟨_, rfl⟩
  have hkn : k < n64 := by rw [← HDB.out]; exact HK.out
  rw [HDB.out] at c7 hn64
  have r3 := h1.r3 k HK.out
  rw [HB.out] at r3
  have H2 : Hid (RH D B P Y w1 rb ab nb wb db cap s ∧ Keep (RMine rb ab nb wb db) w w1) := ⟨h1, Keep.of_below hb1⟩
  clear h1 HF HC
  go_wp2
  go_quiet (fail)
  clear c7 r3 hb1
  go_wp2
  go_loopw [12] (fun j wr => ∃ i : Nat, i ≤ L ∧ j = .int .i64 i ∧ Hid (RH D B P Y wr rb ab nb wb db cap { s with bytes := upd s.bytes k (fillK (s.bytes k) 255 i) } ∧ Keep (RMine rb ab nb wb db) w wr)) (fun j _ => L - (intOf j).toNat)
  case atStart =>
    refine ⟨0, by omega, rfl, ?_, H2.out.2.trans (Keep.of_below (below_drewN (Below.refl _ _) _))⟩
    have hq := H2.out.1.below HG.out (below_drewN (Below.refl _ _) nq)
    have e : upd s.bytes k (fillK (s.bytes k) 255 0) = s.bytes := by
      funext q
      by_cases e : q = k
      · subst e; rw [upd_same]; rfl
      · rw [upd_ne _ _ _ _ e]
    rw [e]
    exact hq
  case round =>
    obtain ⟨i, hi, rfl, hR⟩ := hrel
    clear H2 c2 c3
    by_cases hlt : i < L
    · have hX2 : i < P * Y := by rw [HLL.out]; omega
      have eA : k * (P * Y) + i = A + i := by rw [HLL.out, ← HA.out]
      have c4 := hR.out.1.c4
      rw [HLL.out, HNE.out] at c4
      have hcell := hR.out.1.hb k i HK.out hX2
      rw [eA] at hcell
      have hfz := hR.out.1.fr ab (A + i) (Or.inr (Or.inl rfl))
      have ne2 : ¬ ab = rb := hR.out.1.n0.1
      have HV : Hid (RH D B P Y (wr.setCell ⟨ab, A + i, none⟩ (.int .u8 ((255 : Nat) : Int))) rb ab nb wb db cap { s with bytes := upd s.bytes k (fillK (s.bytes k) 255 (i + 1)) }) := by
        have hq := hR.out.1.setByte k i 255 HK.out hX2
        rw [eA] at hq
        dsimp only at hq
        have e : upd (upd s.bytes k (fillK (s.bytes k) 255 i)) k ((upd s.bytes k (fillK (s.bytes k) 255 i) k).set i 255) = upd s.bytes k (fillK (s.bytes k) 255 (i + 1)) := by
          rw [upd_same]
          funext q
          by_cases e : q = k
          · rw [e, upd_same, upd_same]; rfl
          · rw [upd_ne _ _ _ _ e, upd_ne _ _ _ _ e, upd_ne _ _ _ _ e]
        rw [e] at hq
        exact hq
      generalize (St.bytes _ k)[i]?.getD 0 = old at hcell
      have j1 : (0 : Int) ≤ (A : Int) + (i : Int) := by omega
      have j2 : (A : Int) + (i : Int) < (NN : Int) := by omega
      have hjA : A ≤ 262144 := by omega
      go_wp2
      first
        | exact ⟨⟨i + 1, by omega, by go_num, HV.out, hR.out.2.set (Or.inr (Or.inl rfl)) _⟩, by simp [intOf]; omega⟩
        | (refine ⟨?_, by simp [intOf]; omega⟩
           (repeat apply Exists.intro)
           refine ⟨?_, by rfl⟩
           exact ⟨i + 1, by omega, by go_num, HV.out, hR.out.2.set (Or.inr (Or.inl rfl)) _⟩)
    · obtain rfl : i = L := by omega
      have hR1 : RH D B P Y wr rb ab nb wb db cap { s with bytes := upd s.bytes k (List.replicate i 255) } := by
        have hq := hR.out.1
        have hlen : (s.bytes k).length = i := by
          have := hq.hl k HK.out
          dsimp only at this
          rw [upd_same, fillK_len, HLL.out] at this
          exact this
        have e := fillK_all (s.bytes k) 255
        rw [hlen] at e
        rw [e] at hq
        exact hq
      have h2 := hR1.setWear k (s.wear k + 1) HK.out
      have eW : ((s.wear k + 1 : Nat) : Int) = (W : Int) + 1 := by rw [HW.out]; omega
      rw [eW] at h2
      have h3 := h2.setNext k 0 HK.out (Nat.zero_le _)
      have H3 : Hid (RH D B P Y ((wr.setCell ⟨wb, k, none⟩ (.int .i64 ((W : Int) + 1))).setCell ⟨nb, k, none⟩ (.int .i64 0)) rb ab nb wb db cap { s with bytes := upd s.bytes k (List.replicate i 255), next := upd s.next k 0, wear := upd s.wear k (s.wear k + 1) }) := h3
      have c5 := hR1.c5
      have c6 := hR1.c6
      rw [HDB.out] at c5 c6
      have r1 := hR1.r1 k HK.out
      have r2 := hR1.r2 k HK.out
      dsimp only at r1 r2
      rw [HW.out] at r2
      have f1 := hR1.fr nb k (Or.inr (Or.inr (Or.inl rfl)))
      have f2 := hR1.fr wb k (Or.inr (Or.inr (Or.inr (Or.inl rfl))))
      have ne1 : ¬ nb = rb := hR1.n0.2.1
      have ne2 : ¬ wb = rb := hR1.n0.2.2.1
      have ne3 : ¬ wb = nb := hR1.n0.2.2.2.2.2.2.2.1
      have ne4 : ¬ nb = wb := fun e => ne3 e.symm
      have ne5 : ¬ rb = nb := fun e => ne1 e.symm
      have ne6 : ¬ rb = wb := fun e => ne2 e.symm
      clear hR1 h2 h3
      go_wp2
      go_ret
      refine ⟨rfl, ?_, ?_⟩
      · rw [HLL.out]; exact H3.out
      · exact (hR.out.2.set (Or.inr (Or.inr (Or.inr (Or.inl rfl)))) _).set (Or.inr (Or.inr (Or.inl rfl))) _
set_option maxRecDepth 100000 in
set_option maxHeartbeats 4000000 in
theorem rerase_torn {D B P Y rb ab nb wb db cap : Nat} {s : St} (d b : Nat) (w : World) (hG : Geo D B P Y) (h : RH D B P Y w rb ab nb wb db cap s) (ho : s.off = false) (hd : d < D) (hb : b < B) (hbad : s.bad (d * B + b) = false) (hwr : s.wear (d * B + b) < 4611686018427387904) :
    Calls Tryd.prog 28 #[.pointer (some ⟨rb, 0, none⟩), .int .i64 d, .int .i64 b, .int .i64 2] w fun e w' => e = .returned (.int .i64 7) ∧ RH D B P Y w' rb ab nb wb db cap { s with off := true, bytes := upd s.bytes (d * B + b) (List.replicate (P * Y) 0), next := upd s.next (d * B + b) P, wear := upd s.wear (d * B + b) (s.wear (d * B + b) + 1) } ∧ Keep (RMine rb ab nb wb db) w w' := by
  have y1 := hG.y1
  have y0 := hG.y0
  have p1 := hG.p1
  have hPY := hG.l
  have hn64 := hG.n
  have hlt : d * B + b < D * B := by
    have : (d + 1) * B ≤ D * B := Nat.mul_le_mul_right B hd
    rw [Nat.add_mul, Nat.one_mul] at this
    omega
  have HF := rfault_some d b w hG h ho hd hb
  have HC : Hid (RH D B P Y w rb ab nb wb db cap s) := h
  have HG : Hid (Geo D B P Y) := hG
  have HK : Hid (d * B + b < D * B) := hlt
  have HB : Hid (s.bad (d * B + b) = false) := hbad
  clear hbad
  have HNN : (d * B + b) * (P * Y) + P * Y ≤ D * B * (P * Y) := by
    have : (d * B + b + 1) * (P * Y) ≤ D * B * (P * Y) := Nat.mul_le_mul_right _ hlt
    rw [Nat.add_mul, Nat.one_mul] at this
    exact this
  have HNm : D * B * (P * Y) ≤ 262144 := by
    have : D * B * (P * Y) ≤ 64 * 4096 := Nat.mul_le_mul hn64.2 hPY.2
    exact this
  have hcp := h.hc
  obtain ⟨L, HLL⟩ : ∃ L, Hid (P * Y = L) := ⟨_, rfl⟩
  have mm0 : (P : Int) * (Y : Int) = (L : Int) := by
    have : (P : Int) * (Y : Int) = ((P * Y : Nat) : Int) := by simp
    rw [this, HLL.out]
  rw [HLL.out] at HNN HNm hPY hcp
  have mm1 : ((d * B + b : Nat) : Int) * (L : Int) = (((d * B + b) * L : Nat) : Int) := (Int.natCast_mul _ _).symm
  obtain ⟨NN, HNE⟩ : ∃ NN, Hid (D * B * L = NN) := ⟨_, rfl⟩
  rw [HNE.out] at HNN HNm hcp
  generalize hkk : d * B + b = k at *
  clear hkk
  obtain ⟨A, HA⟩ : ∃ A, Hid (k * L = A) := ⟨_, rfl⟩
  rw [HA.out] at mm1 HNN
  have hwA : IntKind.i64.wrap (A : Int) = (A : Int) := by rw [IntKind.wrap_i64]; omega
  have hwL : IntKind.i64.wrap (L : Int) = (L : Int) := by rw [IntKind.wrap_i64]; omega
  have hk64 : k < 64 := by omega
  obtain ⟨W, HW⟩ : ∃ W, Hid (s.wear k = W) := ⟨_, rfl⟩
  rw [HW.out] at hwr
  clear h hG ho hd hb hlt
  go_enter Tryd.func28, Tryd.ntmps28
  go_wp2_with fail
  refine HF.mono ?_
  rintro e w1 ⟨rfl, hb1⟩
  have h1 := HC.out.below HG.out hb1
  have c2 := h1.c2
  have c3 := h1.c3
  have c7 := h1.c7
  obtain ⟨n64, HDB⟩ : ∃ n64, Hid (D * B = n64) := ⟨_, rfl⟩
  have hkn : k < n64 := by rw [← HDB.out]; exact HK.out
  rw [HDB.out] at c7 hn64
  have r3 := h1.r3 k HK.out
  rw [HB.out] at r3
  have H2 : Hid (RH D B P Y w1 rb ab nb wb db cap s ∧ Keep (RMine rb ab nb wb db) w w1) := ⟨h1, Keep.of_below hb1⟩
  clear h1 HF HC
  go_wp2
  go_quiet (fail)
  clear c7 r3 hb1
  go_wp2
  go_loopw [12] (fun j wr => ∃ i : Nat, i ≤ L ∧ j = .int .i64 i ∧ Hid (RH D B P Y wr rb ab nb wb db cap { s with bytes := upd s.bytes k (fillK (s.bytes k) 0 i) } ∧ Keep (RMine rb ab nb wb db) w wr)) (fun j _ => L - (intOf j).toNat)
  case atStart =>
    refine ⟨0, by omega, rfl, ?_, H2.out.2.trans (Keep.of_below (below_drewN (Below.refl _ _) _))⟩
    have hq := H2.out.1.below HG.out (below_drewN (Below.refl _ _) nq)
    have e : upd s.bytes k (fillK (s.bytes k) 0 0) = s.bytes := by
      funext q
      by_cases e : q = k
      · subst e; rw [upd_same]; rfl
      · rw [upd_ne _ _ _ _ e]
    rw [e]
    exact hq
  case round =>
    obtain ⟨i, hi, rfl, hR⟩ := hrel
    clear H2 c2 c3
    by_cases hlt : i < L
    · have hX2 : i < P * Y := by rw [HLL.out]; omega
      have eA : k * (P * Y) + i = A + i := by rw [HLL.out, ← HA.out]
      have c4 := hR.out.1.c4
      rw [HLL.out, HNE.out] at c4
      have hcell := hR.out.1.hb k i HK.out hX2
      rw [eA] at hcell
      have hfz := hR.out.1.fr ab (A + i) (Or.inr (Or.inl rfl))
      have ne2 : ¬ ab = rb := hR.out.1.n0.1
      have HV : Hid (RH D B P Y (wr.setCell ⟨ab, A + i, none⟩ (.int .u8 ((0 : Nat) : Int))) rb ab nb wb db cap { s with bytes := upd s.bytes k (fillK (s.bytes k) 0 (i + 1)) }) := by
        have hq := hR.out.1.setByte k i 0 HK.out hX2
        rw [eA] at hq
        dsimp only at hq
        have e : upd (upd s.bytes k (fillK (s.bytes k) 0 i)) k ((upd s.bytes k (fillK (s.bytes k) 0 i) k).set i 0) = upd s.bytes k (fillK (s.bytes k) 0 (i + 1)) := by
          rw [upd_same]
          funext q
          by_cases e : q = k
          · rw [e, upd_same, upd_same]; rfl
          · rw [upd_ne _ _ _ _ e, upd_ne _ _ _ _ e, upd_ne _ _ _ _ e]
        rw [e] at hq
        exact hq
      generalize (St.bytes _ k)[i]?.getD 0 = old at hcell
      have j1 : (0 : Int) ≤ (A : Int) + (i : Int) := by omega
      have j2 : (A : Int) + (i : Int) < (NN : Int) := by omega
      have hjA : A ≤ 262144 := by omega
      go_wp2
      first
        | exact ⟨⟨i + 1, by omega, by go_num, HV.out, hR.out.2.set (Or.inr (Or.inl rfl)) _⟩, by simp [intOf]; omega⟩
        | (refine ⟨?_, by simp [intOf]; omega⟩
           (repeat apply Exists.intro)
           refine ⟨?_, by rfl⟩
           exact ⟨i + 1, by omega, by go_num, HV.out, hR.out.2.set (Or.inr (Or.inl rfl)) _⟩)
    · obtain rfl : i = L := by omega
      have hR1 : RH D B P Y wr rb ab nb wb db cap { s with bytes := upd s.bytes k (List.replicate i 0) } := by
        have hq := hR.out.1
        have hlen : (s.bytes k).length = i := by
          have := hq.hl k HK.out
          dsimp only at this
          rw [upd_same, fillK_len, HLL.out] at this
          exact this
        have e := fillK_all (s.bytes k) 0
        rw [hlen] at e
        rw [e] at hq
        exact hq
      have h2 := hR1.setWear k (s.wear k + 1) HK.out
      have eW : ((s.wear k + 1 : Nat) : Int) = (W : Int) + 1 := by rw [HW.out]; omega
      rw [eW] at h2
      have h3 := h2.setNext k 0 HK.out (Nat.zero_le _)
      have h4 := h3.setNext k P HK.out (Nat.le_refl _)
      have h5 := h4.setOff true
      have eU : upd (upd s.next k 0) k P = upd s.next k P := by
        funext q
        by_cases e : q = k
        · rw [e, upd_same, upd_same]
        · rw [upd_ne _ _ _ _ e, upd_ne _ _ _ _ e, upd_ne _ _ _ _ e]
      dsimp only at h5
      rw [eU] at h5
      have H3 : Hid (RH D B P Y ((((wr.setCell ⟨wb, k, none⟩ (.int .i64 ((W : Int) + 1))).setCell ⟨nb, k, none⟩ (.int .i64 0)).setCell ⟨nb, k, none⟩ (.int .i64 (P : Int))).setCell ⟨rb, 8, none⟩ (.bool true)) rb ab nb wb db cap { s with off := true, bytes := upd s.bytes k (List.replicate i 0), next := upd s.next k P, wear := upd s.wear k (s.wear k + 1) }) := h5
      have c2 := hR1.c2
      have c8 := hR1.c8
      have f8 := hR1.fr rb 8 (Or.inl rfl)
      have c5 := hR1.c5
      have c6 := hR1.c6
      rw [HDB.out] at c5 c6
      have r1 := hR1.r1 k HK.out
      have r2 := hR1.r2 k HK.out
      dsimp only at r1 r2
      rw [HW.out] at r2
      have f1 := hR1.fr nb k (Or.inr (Or.inr (Or.inl rfl)))
      have f2 := hR1.fr wb k (Or.inr (Or.inr (Or.inr (Or.inl rfl))))
      have ne1 : ¬ nb = rb := hR1.n0.2.1
      have ne2 : ¬ wb = rb := hR1.n0.2.2.1
      have ne3 : ¬ wb = nb := hR1.n0.2.2.2.2.2.2.2.1
      have ne4 : ¬ nb = wb := fun e => ne3 e.symm
      have ne5 : ¬ rb = nb := fun e => ne1 e.symm
      have ne6 : ¬ rb = wb := fun e => ne2 e.symm
      clear hR1 h2 h3 h4 h5
      have K3 : Hid (Keep (RMine rb ab nb wb db) w ((((wr.setCell ⟨wb, k, none⟩ (.int .i64 ((W : Int) + 1))).setCell ⟨nb, k, none⟩ (.int .i64 0)).setCell ⟨nb, k, none⟩ (.int .i64 (P : Int))).setCell ⟨rb, 8, none⟩ (.bool true))) := (((hR.out.2.set (Or.inr (Or.inr (Or.inr (Or.inl rfl)))) _).set (Or.inr (Or.inr (Or.inl rfl))) _).set (Or.inr (Or.inr (Or.inl rfl))) _).set (Or.inl rfl) _
      go_wp2
      go_region
      all_goals
        go_wp2
        go_ret
        refine ⟨rfl, ?_, ?_⟩
        · rw [HLL.out]; exact H3.out.below HG.out ((Below.refl _ _).drew)
        · exact K3.out.trans (Keep.of_below ((Below.refl _ _).drew))
end Go.Proofs.YtjeelaaimhckhabDoor
