/-
  The walk of granarylaw1.ChipTurns: it returns true, and nothing that was there has turned.
-/
import Derived.Test.YtjeelaaimhckhabDoorAids
namespace Go.Proofs.YtjeelaaimhckhabDoor
open Go.RowKit
set_option linter.unusedVariables false

theorem turns_prog {D B P Y : Nat} {s : St} {die block d b p f : Int} {xs : List Nat} (hh : Here D B die block) :
    (d = die ∧ b = block ∧ (((progF D B P Y s d b p xs f).2.next (kOf B die block) = s.next (kOf B die block) + 1 ∧ p = (s.next (kOf B die block) : Int)) ∨ ((progF D B P Y s d b p xs f).2.next (kOf B die block) = s.next (kOf B die block) ∧ (progF D B P Y s d b p xs f).1 ≠ 0))) ∨
    (¬ (d = die ∧ b = block) ∧ (progF D B P Y s d b p xs f).2.next (kOf B die block) = s.next (kOf B die block)) := by
  rcases progF_cases D B P Y s d b p xs f with ⟨h0, e⟩ | ⟨_, hh2, _, _, _, hp, hpP, ys, o, e, _⟩
  · rw [e]
    by_cases h : d = die ∧ b = block
    · exact Or.inl ⟨h.1, h.2, Or.inr ⟨rfl, h0⟩⟩
    · exact Or.inr ⟨h, rfl⟩
  · have hn : (progF D B P Y s d b p xs f).2.next = upd s.next (kOf B d b) (p.toNat + 1) := by rw [e]; rfl
    rw [hn]
    by_cases h : d = die ∧ b = block
    · obtain ⟨rfl, rfl⟩ := h
      refine Or.inl ⟨rfl, rfl, Or.inl ⟨?_, hp⟩⟩
      rw [upd_same]; omega
    · exact Or.inr ⟨h, upd_ne _ _ _ _ (fun e => h (kOf_inj hh2 hh e.symm))⟩
theorem turns_erase {D B P Y : Nat} {s : St} {die block d b f : Int} (hh : Here D B die block) (hne : ¬ (d = die ∧ b = block)) : (eraseF D B P Y s d b f).2.next (kOf B die block) = s.next (kOf B die block) := by
  rcases eraseF_cases D B P Y s d b f with ⟨_, e, _⟩ | ⟨_, hh2, _, e | ⟨c, o, l, nx, _, _, e⟩⟩
  · rw [e]
  · rw [e]
  · rw [e]
    exact upd_ne _ _ _ _ (fun e => hne (kOf_inj hh2 hh e.symm))
theorem not_here {d die b block : Int} (hne : ¬ (d = die ∧ b = block)) : ((d == die) = false ∧ (d != die) = true) ∨ (d = die ∧ (b == block) = false ∧ (b != block) = true) := by
  by_cases e : d = die
  · have e2 : ¬ b = block := fun e2 => hne ⟨e, e2⟩
    exact Or.inr ⟨e, by simpa using e2, by simpa using e2⟩
  · exact Or.inl ⟨by simpa using e, by simpa using e⟩
set_option maxHeartbeats 1600000 in
theorem turns_no (g0 g1 g2 g3 : Int) (die block : Int) (a2 : Option Addr) (n2 cap2 : Nat) (w : World) (hE : EType w) (h : ¬ GeoI g0 g1 g2 g3) :
    Calls Tryd.prog 5 #[.agg #[.int .i64 g0, .int .i64 g1, .int .i64 g2, .int .i64 g3], .int .i64 die, .int .i64 block, .slice a2 n2 cap2] w fun e w' => e = .returned (.bool true) ∧ Below w.heap.size w w' := by
  have HE : Hid (EType w) := hE
  clear hE
  go_enter Tryd.func5, Tryd.ntmps5
  go_wp2_with fail
  refine (fact_any _ (HE.out.below ((Below.refl _ _).alloc (Nat.le_refl _) _) HE.out.pos)).mono ?_
  rintro e w1 ⟨rfl, hb1⟩
  have hg := fun o => hb1.cell (p := ⟨w.heap.size, o, none⟩) (by simp)
  have q0 := hg 0
  have q1 := hg 1
  have q2 := hg 2
  have q3 := hg 3
  simp at q0 q1 q2 q3
  have hB : Below w.heap.size w w1 := ((Below.refl _ _).alloc (Nat.le_refl _) _).trans (hb1.mono (by simp))
  clear hb1 hg
  go_wp2_with fail
  refine (new_no g0 g1 g2 g3 _ h).mono ?_
  rintro e w2 ⟨rfl, hb2⟩
  go_wp2
  go_ret
  exact ⟨rfl, hB.trans (hb2.mono hB.size)⟩
set_option maxRecDepth 100000 in
set_option maxHeartbeats 8000000 in
theorem turns_yes {D B P Y : Nat} (die block : Int) (a2 : Option Addr) (n2 cap2 : Nat) (w : World) (hG : Geo D B P Y) (hE : EType w) (hm2 : n2 ≤ 140737488351232) (hS : Script w a2 n2) :
    Calls Tryd.prog 5 #[.agg #[.int .i64 D, .int .i64 B, .int .i64 P, .int .i64 Y], .int .i64 die, .int .i64 block, .slice a2 n2 cap2] w fun e w' => e = .returned (.bool true) ∧ Below w.heap.size w w' := by
  have HE : Hid (EType w) := hE
  have HG : Hid (Geo D B P Y) := hG
  have HS : Hid (Script w a2 n2) := hS
  have p1 := hG.p1
  clear hE hG hS
  go_enter Tryd.func5, Tryd.ntmps5
  go_wp2_with fail
  have hw0 : Below w.heap.size w (w.alloc (.cells #[.int .i64 (D : Int), .int .i64 (B : Int), .int .i64 (P : Int), .int .i64 (Y : Int)] 23)) := (Below.refl _ _).alloc (Nat.le_refl _) _
  have q0 : (w.alloc (.cells #[.int .i64 (D : Int), .int .i64 (B : Int), .int .i64 (P : Int), .int .i64 (Y : Int)] 23)).cell? ⟨w.heap.size, 0, none⟩ = some (.int .i64 (D : Int)) := by simp
  have q1 : (w.alloc (.cells #[.int .i64 (D : Int), .int .i64 (B : Int), .int .i64 (P : Int), .int .i64 (Y : Int)] 23)).cell? ⟨w.heap.size, 1, none⟩ = some (.int .i64 (B : Int)) := by simp
  have q2 : (w.alloc (.cells #[.int .i64 (D : Int), .int .i64 (B : Int), .int .i64 (P : Int), .int .i64 (Y : Int)] 23)).cell? ⟨w.heap.size, 2, none⟩ = some (.int .i64 (P : Int)) := by simp
  have q3 : (w.alloc (.cells #[.int .i64 (D : Int), .int .i64 (B : Int), .int .i64 (P : Int), .int .i64 (Y : Int)] 23)).cell? ⟨w.heap.size, 3, none⟩ = some (.int .i64 (Y : Int)) := by simp
  generalize w.alloc (.cells #[.int .i64 (D : Int), .int .i64 (B : Int), .int .i64 (P : Int), .int .i64 (Y : Int)] 23) = w0 at hw0 q0 q1 q2 q3 ⊢
  have HW0 : Hid (Below w.heap.size w w0) := hw0
  have HQ : Hid (w0.cell? ⟨w.heap.size, 0, none⟩ = some (.int .i64 (D : Int)) ∧ w0.cell? ⟨w.heap.size, 1, none⟩ = some (.int .i64 (B : Int)) ∧ w0.cell? ⟨w.heap.size, 2, none⟩ = some (.int .i64 (P : Int)) ∧ w0.cell? ⟨w.heap.size, 3, none⟩ = some (.int .i64 (Y : Int))) := ⟨q0, q1, q2, q3⟩
  have HE0 : Hid (EType w0) := HE.out.below HW0.out HE.out.pos
  have HS0 : Hid (Script w0 a2 n2) := HS.out.below HW0.out
  clear hw0 q0 q1 q2 q3 HE HS
  refine (fact_any _ HE0.out).mono ?_
  rintro e w1 ⟨rfl, hb1⟩
  have hlt0 : Hid (w.heap.size < w0.heap.size) := World.block_lt_of_cell? w0 ⟨w.heap.size, 0, none⟩ HQ.out.1
  have q0 := (hb1.cell (p := ⟨w.heap.size, 0, none⟩) hlt0.out).trans HQ.out.1
  have q1 := (hb1.cell (p := ⟨w.heap.size, 1, none⟩) hlt0.out).trans HQ.out.2.1
  have q2 := (hb1.cell (p := ⟨w.heap.size, 2, none⟩) hlt0.out).trans HQ.out.2.2.1
  have q3 := (hb1.cell (p := ⟨w.heap.size, 3, none⟩) hlt0.out).trans HQ.out.2.2.2
  have HB1 : Hid (Below w0.heap.size w0 w1) := hb1
  clear hb1
  go_wp2_with fail
  refine (new_yes _ HG.out).mono ?_
  rintro e w2 ⟨cb, bb, pb, rfl, h2, hge, hb2⟩
  have HGE : Hid (∀ b, Mine (D * B) cb bb pb b → w0.heap.size ≤ b) := fun b hb => Nat.le_trans HB1.out.size (hge b hb)
  have HB2 : Hid (CH D B P Y w2 cb bb pb (blank (P * Y)) ∧ Below w0.heap.size w0 w2) := ⟨h2, HB1.out.trans (hb2.mono HB1.out.size)⟩
  clear h2 hge hb2 q0 q1 q2 q3 HB1
  go_wp2_with fail
  by_cases hh : ¬ Here D B die block
  · refine (next_none die block _ HG.out HB2.out.1 rfl hh).mono ?_
    rintro e w3 ⟨rfl, rfl⟩
    have HB : Hid (Below w.heap.size w w3) := HW0.out.trans (HB2.out.2.mono HW0.out.size)
    clear HB2 hh
    go_wp2
    go_ret
    exact ⟨rfl, HB.out⟩
  replace hh := Classical.not_not.1 hh
  refine (next_some die block _ HG.out HB2.out.1 rfl hh).mono ?_
  rintro e w3 ⟨rfl, hb3⟩
  have HH : Hid (Here D B die block) := hh
  have HB3 : Hid (CH D B P Y w3 cb bb pb (blank (P * Y)) ∧ Below w0.heap.size w0 w3) := ⟨HB2.out.1.below HG.out.n.1 hb3, HB2.out.2.trans (hb3.mono HB2.out.2.size)⟩
  clear hb3 HB2 hh
  go_wp2
  go_loopw [12, 13] (fun v j wr => ∃ (i : Nat) (s : St), i ≤ n2 ∧ j = .int .i64 i ∧ v = .int .i64 (s.next (kOf B die block) : Int) ∧ Hid (CH D B P Y wr cb bb pb s ∧ ((∀ k, s.wear k ≤ i) ∧ s.off = false) ∧ Below w0.heap.size w0 wr)) (fun _ j _ => n2 - (intOf j).toNat)
  case atStart => exact ⟨0, _, by omega, rfl, rfl, HB3.out.1, ⟨(fun k => Nat.le_refl _), rfl⟩, HB3.out.2⟩
  case round =>
    obtain ⟨i, s, hi, rfl, rfl, hR⟩ := hrel
    clear HB3
    have hVP : s.next (kOf B die block) ≤ P := hR.out.1.hn _
    by_cases hlt : i < n2
    · obtain ⟨V, HV⟩ : ∃ V, Hid (s.next (kOf B die block) = V) := ⟨_, rfl⟩
      rw [HV.out] at hVP ⊢
      obtain ⟨sb, so, ha2, o, hO⟩ := (HS0.out.below hR.out.2.2).slice hlt
      have k0 := hO.k0
      have k1 := hO.k1
      have k2 := hO.k2
      have k3 := hO.k3
      have k4 := hO.k4
      have k5 := hO.k5
      have HO : Hid (OpAt wr sb so i o) := hO
      clear hO
      rw [ha2]
      have HA : Hid (∀ ob : Obj, Below wr.heap.size wr (wr.alloc ob)) := fun ob => (Below.refl _ _).alloc (Nat.le_refl _) ob
      have HBd : Hid (∀ k, s.wear k < 4611686018427387904) := fun k => by have := hR.out.2.1.1 k; omega
      by_cases hk1 : o.kind = 1
      · rw [hk1] at k0
        have ht := turns_prog (P := P) (Y := Y) (s := s) (d := o.die) (b := o.block) (p := o.page) (f := o.fault) (xs := o.bs) HH.out
        go_wp2_with fail
        refine (program_any o.die o.block o.page o.fault o.a o.bs o.cap _ HG.out (hR.out.1.below HG.out.n.1 (HA.out _)) HO.out.all HO.out.fits (HO.out.lies.below (HA.out _))).mono ?_
        rintro e w4 ⟨rfl, h4, hk4⟩
        have HWR : ∀ k, (progF D B P Y s o.die o.block o.page o.bs o.fault).2.wear k ≤ i + 1 := fun k => by rw [(progF_wear ..).1]; exact Nat.le_succ_of_le (hR.out.2.1.1 k)
        generalize (progF D B P Y s o.die o.block o.page o.bs o.fault).2 = S' at h4 HWR ht
        generalize (progF D B P Y s o.die o.block o.page o.bs o.fault).1 = c at ht ⊢
        have H4 : Hid (CH D B P Y w4 cb bb pb S') := h4
        have K4 : Hid (Below w0.heap.size w0 w4) := (hR.out.2.2.trans ((HA.out _).mono hR.out.2.2.size)).trans (hk4.below (Nat.le_trans hR.out.2.2.size (HA.out _).size) HGE.out)
        have hcell := fun o' => hk4.cell (p := ⟨wr.heap.size, o', none⟩) (by simp) (fun hm => by
          have h5 := (hR.out.1.lt HG.out.n.1 _ hm)
          exact Nat.lt_irrefl _ h5)
        have z1 := hcell 1
        have z2 := hcell 2
        have z3 := hcell 3
        have z0 := hcell 0
        simp at z0 z1 z2 z3
        have Hs : Hid (wr.heap.size < w4.heap.size) := by have := hk4.size; simp at this; show _ < _; omega
        clear h4 hk4 hcell
        go_wp2_with fail
        refine (on_any _ H4.out).mono ?_
        rintro e w5 ⟨rfl, h5, hk5⟩
        have HN5 : Hid (CH D B P Y w5 cb bb pb { S' with off := false } ∧ Below w0.heap.size w0 w5) := ⟨h5, K4.out.trans (hk5.below K4.out.size HGE.out)⟩
        have hcell := fun o' => hk5.cell (p := ⟨wr.heap.size, o', none⟩) Hs.out (fun hm => by
          have h5 := (hR.out.1.lt HG.out.n.1 _ hm)
          exact Nat.lt_irrefl _ h5)
        have y0 := (hcell 0).trans z0
        have y1 := (hcell 1).trans z1
        have y2 := (hcell 2).trans z2
        have y3 := (hcell 3).trans z3
        have Hs5 : Hid (wr.heap.size < w5.heap.size) := Nat.lt_of_lt_of_le Hs.out hk5.size
        clear h5 hk5 hcell z0 z1 z2 z3 H4 K4
        go_wp2_with fail
        refine (next_some die block _ HG.out HN5.out.1 rfl HH.out).mono ?_
        rintro e w6 ⟨rfl, hb6⟩
        have hcell := fun o' => hb6.cell (p := ⟨wr.heap.size, o', none⟩) Hs5.out
        have z0 := (hcell 0).trans y0
        have z1 := (hcell 1).trans y1
        have z2 := (hcell 2).trans y2
        have z3 := (hcell 3).trans y3
        have HN6 : Hid (CH D B P Y w6 cb bb pb { S' with off := false } ∧ ((∀ k, S'.wear k ≤ i + 1) ∧ false = false) ∧ Below w0.heap.size w0 w6) := ⟨HN5.out.1.below HG.out.n.1 hb6, ⟨HWR, rfl⟩, HN5.out.2.trans (hb6.mono HN5.out.2.size)⟩
        clear hcell y0 y1 y2 y3 hb6 HN5 HWR Hs Hs5
        dsimp only
        rw [HV.out] at ht
        rcases ht with ⟨hd1, hd2, ⟨hn, hpg⟩ | ⟨hn, hc⟩⟩ | ⟨hne, hn⟩
        · rw [hd1] at z1
          rw [hd2] at z2
          rw [hpg] at z3
          have HX : Hid (S'.next (kOf B die block) = V + 1) := hn
          rw [hn]
          have hcast : ((V + 1 : Nat) : Int) = (V : Int) + 1 := by omega
          rw [hcast]
          have t1 : ((V : Int) + 1 != (V : Int)) = true := by rw [bne_iff_ne]; omega
          by_cases hc0 : c = 0
          · subst hc0
            rw [errI_zero]
            clear hn
            go_wp2
            go_roundw
            case rel => exact ⟨i + 1, { S' with off := false }, by omega, by go_num, by dsimp only; rw [HX.out, hcast], HN6.out⟩
            case measure => simp [intOf]; omega
          · have e1 : errI c = .iface 30 (.int .i64 (c : Int)) := if_neg hc0
            rw [e1]
            clear e1 hc0 hn
            go_wp2
            go_roundw
            case rel => exact ⟨i + 1, { S' with off := false }, by omega, by go_num, by dsimp only; rw [HX.out, hcast], HN6.out⟩
            case measure => simp [intOf]; omega
        · rw [hd1] at z1
          rw [hd2] at z2
          have HX : Hid (S'.next (kOf B die block) = V) := hn
          rw [hn]
          have e1 : errI c = .iface 30 (.int .i64 (c : Int)) := if_neg hc
          rw [e1]
          clear e1 hc hn
          go_wp2
          go_roundw
          case rel => exact ⟨i + 1, { S' with off := false }, by omega, by go_num, by dsimp only; rw [HX.out], HN6.out⟩
          case measure => simp [intOf]; omega
        · have HX : Hid (S'.next (kOf B die block) = V) := hn
          rw [hn]
          clear hn
          rcases not_here hne with ⟨t1, t2⟩ | ⟨t0, t1, t2⟩
          · clear hne
            go_wp2
            go_roundw
            case rel => exact ⟨i + 1, { S' with off := false }, by omega, by go_num, by dsimp only; rw [HX.out], HN6.out⟩
            case measure => simp [intOf]; omega
          · rw [t0] at z1
            clear hne t0
            go_wp2
            go_roundw
            case rel => exact ⟨i + 1, { S' with off := false }, by omega, by go_num, by dsimp only; rw [HX.out], HN6.out⟩
            case measure => simp [intOf]; omega
      have f1 : (o.kind == 1) = false := beq_eq_false_iff_ne.2 hk1
      clear hk1
      have HSK : Hid (∀ ob : Obj, CH D B P Y (wr.alloc ob) cb bb pb s ∧ ((∀ k, s.wear k ≤ i + 1) ∧ s.off = false) ∧ Below w0.heap.size w0 (wr.alloc ob)) := fun ob => ⟨hR.out.1.below HG.out.n.1 (HA.out ob), ⟨fun k => Nat.le_succ_of_le (hR.out.2.1.1 k), hR.out.2.1.2⟩, hR.out.2.2.trans ((HA.out ob).mono hR.out.2.2.size)⟩
      by_cases hk3 : o.kind = 3
      · rw [hk3] at k0
        clear f1
        by_cases hne : o.die = die ∧ o.block = block
        · obtain ⟨hd1, hd2⟩ := hne
          rw [hd1] at k1
          rw [hd2] at k2
          go_wp2
          go_roundw
          case rel => exact ⟨i + 1, s, by omega, by go_num, by rw [HV.out], HSK.out _⟩
          case measure => simp [intOf]; omega
        · have hte := turns_erase (P := P) (Y := Y) (s := s) (d := o.die) (b := o.block) (f := o.fault) HH.out hne
          rcases not_here hne with ⟨t1, t2⟩ | ⟨t0, t1, t2⟩
          case inr => 
            rw [t0] at k1
            clear hne t1
            go_wp2_with fail
            refine (erase_any die o.block o.fault _ HG.out (hR.out.1.below HG.out.n.1 (HA.out _)) HBd.out).mono ?_
            rintro e w4 ⟨rfl, h4, hk4⟩
            rw [t0] at hte
            have HWR : ∀ k, (eraseF D B P Y s die o.block o.fault).2.wear k ≤ i + 1 := eraseF_wear D B P Y s die o.block o.fault i hR.out.2.1.1
            generalize (eraseF D B P Y s die o.block o.fault).2 = S' at h4 HWR hte
            have H4 : Hid (CH D B P Y w4 cb bb pb S') := h4
            have K4 : Hid (Below w0.heap.size w0 w4) := (hR.out.2.2.trans ((HA.out _).mono hR.out.2.2.size)).trans (hk4.below (Nat.le_trans hR.out.2.2.size (HA.out _).size) HGE.out)
            clear h4 hk4
            go_wp2_with fail
            refine (on_any _ H4.out).mono ?_
            rintro e w5 ⟨rfl, h5, hk5⟩
            have HN5 : Hid (CH D B P Y w5 cb bb pb { S' with off := false } ∧ Below w0.heap.size w0 w5) := ⟨h5, K4.out.trans (hk5.below K4.out.size HGE.out)⟩
            clear h5 hk5 H4 K4
            go_wp2_with fail
            refine (next_some die block _ HG.out HN5.out.1 rfl HH.out).mono ?_
            rintro e w6 ⟨rfl, hb6⟩
            have HN6 : Hid (CH D B P Y w6 cb bb pb { S' with off := false } ∧ ((∀ k, S'.wear k ≤ i + 1) ∧ false = false) ∧ Below w0.heap.size w0 w6) := ⟨HN5.out.1.below HG.out.n.1 hb6, ⟨HWR, rfl⟩, HN5.out.2.trans (hb6.mono HN5.out.2.size)⟩
            clear hb6 HN5 HWR
            dsimp only
            rw [HV.out] at hte
            have HX : Hid (S'.next (kOf B die block) = V) := hte
            rw [hte]
            clear hte
            go_wp2
            go_roundw
            case rel => exact ⟨i + 1, { S' with off := false }, by omega, by go_num, by dsimp only; rw [HX.out], HN6.out⟩
            case measure => simp [intOf]; omega
          case inl =>
            clear hne t1
            go_wp2_with fail
            refine (erase_any o.die o.block o.fault _ HG.out (hR.out.1.below HG.out.n.1 (HA.out _)) HBd.out).mono ?_
            rintro e w4 ⟨rfl, h4, hk4⟩
            have HWR : ∀ k, (eraseF D B P Y s o.die o.block o.fault).2.wear k ≤ i + 1 := eraseF_wear D B P Y s o.die o.block o.fault i hR.out.2.1.1
            generalize (eraseF D B P Y s o.die o.block o.fault).2 = S' at h4 HWR hte
            have H4 : Hid (CH D B P Y w4 cb bb pb S') := h4
            have K4 : Hid (Below w0.heap.size w0 w4) := (hR.out.2.2.trans ((HA.out _).mono hR.out.2.2.size)).trans (hk4.below (Nat.le_trans hR.out.2.2.size (HA.out _).size) HGE.out)
            clear h4 hk4
            go_wp2_with fail
            refine (on_any _ H4.out).mono ?_
            rintro e w5 ⟨rfl, h5, hk5⟩
            have HN5 : Hid (CH D B P Y w5 cb bb pb { S' with off := false } ∧ Below w0.heap.size w0 w5) := ⟨h5, K4.out.trans (hk5.below K4.out.size HGE.out)⟩
            clear h5 hk5 H4 K4
            go_wp2_with fail
            refine (next_some die block _ HG.out HN5.out.1 rfl HH.out).mono ?_
            rintro e w6 ⟨rfl, hb6⟩
            have HN6 : Hid (CH D B P Y w6 cb bb pb { S' with off := false } ∧ ((∀ k, S'.wear k ≤ i + 1) ∧ false = false) ∧ Below w0.heap.size w0 w6) := ⟨HN5.out.1.below HG.out.n.1 hb6, ⟨HWR, rfl⟩, HN5.out.2.trans (hb6.mono HN5.out.2.size)⟩
            clear hb6 HN5 HWR
            dsimp only
            rw [HV.out] at hte
            have HX : Hid (S'.next (kOf B die block) = V) := hte
            rw [hte]
            clear hte
            go_wp2
            go_roundw
            case rel => exact ⟨i + 1, { S' with off := false }, by omega, by go_num, by dsimp only; rw [HX.out], HN6.out⟩
            case measure => simp [intOf]; omega
      · have f3 : (o.kind == 3) = false := beq_eq_false_iff_ne.2 hk3
        clear hk3
        go_wp2
        go_roundw
        case rel => exact ⟨i + 1, s, by omega, by go_num, by rw [HV.out], HSK.out _⟩
        case measure => simp [intOf]; omega
    · obtain rfl : i = n2 := by omega
      have q2 := (hR.out.2.2.cell (p := ⟨w.heap.size, 2, none⟩) hlt0.out).trans HQ.out.2.2.1
      have hB := HW0.out.trans (hR.out.2.2.mono HW0.out.size)
      have HB : Hid (Below w.heap.size w wr) := hB
      clear hB
      generalize s.next (kOf B die block) = V at hVP ⊢
      have hvi : (V : Int) ≤ (P : Int) := by omega
      go_wp2
      go_ret
      exact ⟨rfl, HB.out⟩
theorem turns_any (g0 g1 g2 g3 die block : Int) (a2 : Option Addr) (n2 cap2 : Nat) (w : World) (hE : EType w) (hm2 : n2 ≤ 140737488351232) (hS : Script w a2 n2) :
    Calls Tryd.prog 5 #[.agg #[.int .i64 g0, .int .i64 g1, .int .i64 g2, .int .i64 g3], .int .i64 die, .int .i64 block, .slice a2 n2 cap2] w fun e w' => e = .returned (.bool true) ∧ Below w.heap.size w w' := by
  by_cases h : GeoI g0 g1 g2 g3
  · obtain ⟨D, B, P, Y, rfl, rfl, rfl, rfl, hG⟩ := h.nat
    exact turns_yes die block a2 n2 cap2 w hG hE hm2 hS
  · exact turns_no g0 g1 g2 g3 die block a2 n2 cap2 w hE h
end Go.Proofs.YtjeelaaimhckhabDoor
