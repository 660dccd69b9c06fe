/-
  The walk of granarylaw1.ChipWears: it returns true, and nothing that was there has turned.
-/
import Derived.Test.YtjeelaaimhckhabDoorAids
namespace Go.Proofs.YtjeelaaimhckhabDoor
open Go.RowKit
set_option linter.unusedVariables false

/-- A copy of one call of a script, in a block of its own. -/
structure OBox (w : World) (b : Nat) (o : OpD) : Prop where
  c0 : w.cell? ⟨b, 0, none⟩ = some (.int .i64 o.kind)
  c1 : w.cell? ⟨b, 1, none⟩ = some (.int .i64 o.die)
  c2 : w.cell? ⟨b, 2, none⟩ = some (.int .i64 o.block)
  c3 : w.cell? ⟨b, 3, none⟩ = some (.int .i64 o.page)
  c4 : w.cell? ⟨b, 4, none⟩ = some (.slice o.a o.bs.length o.cap)
  c5 : w.cell? ⟨b, 5, none⟩ = some (.int .i64 o.fault)
theorem OBox.new (w : World) (o : OpD) : OBox (w.alloc (.cells #[.int .i64 o.kind, .int .i64 o.die, .int .i64 o.block, .int .i64 o.page, .slice o.a o.bs.length o.cap, .int .i64 o.fault] 38)) w.heap.size o :=
  ⟨by simp, by simp, by simp, by simp, by simp, by simp⟩
theorem OBox.keep {w w' : World} {b : Nat} {o : OpD} {S : Nat → Prop} (h : OBox w b o) (hk : Keep S w w') (hs : ¬ S b) : OBox w' b o := by
  have hc : ∀ q, w'.cell? ⟨b, q, none⟩ = w.cell? ⟨b, q, none⟩ := fun q => hk.cell (p := ⟨b, q, none⟩) (show b < w.heap.size from World.block_lt_of_cell? w ⟨b, 0, none⟩ h.c0) hs
  exact ⟨by rw [hc]; exact h.c0, by rw [hc]; exact h.c1, by rw [hc]; exact h.c2, by rw [hc]; exact h.c3, by rw [hc]; exact h.c4, by rw [hc]; exact h.c5⟩
theorem OBox.below {w w' : World} {b : Nat} {o : OpD} (h : OBox w b o) (hb : Below w.heap.size w w') : OBox w' b o := h.keep (S := fun _ => False) (Keep.of_below hb) (fun e => e)
theorem wears_erase {D B P Y : Nat} {s : St} {die block d b f : Int} (hh : Here D B die block) (ho : s.off = false) :
    ((d = die ∧ b = block ∧ (((eraseF D B P Y s d b f).1 = 0 ∨ (eraseF D B P Y s d b f).1 = 7) ∧ (eraseF D B P Y s d b f).2.wear (kOf B die block) = s.wear (kOf B die block) + 1 ∨
      ((eraseF D B P Y s d b f).1 ≠ 0 ∧ (eraseF D B P Y s d b f).1 ≠ 7) ∧ (eraseF D B P Y s d b f).2.wear (kOf B die block) = s.wear (kOf B die block))) ∨
    (¬ (d = die ∧ b = block) ∧ (eraseF D B P Y s d b f).2.wear (kOf B die block) = s.wear (kOf B die block))) ∧ (s.bad (kOf B die block) = true → (eraseF D B P Y s d b f).2.bad (kOf B die block) = true) := by
  rcases eraseF_cases D B P Y s d b f with ⟨h0, e, h7⟩ | ⟨_, hh2, _, e | ⟨c, o, l, nx, _, hc, e⟩⟩
  · rw [e]
    refine ⟨?_, fun h => h⟩
    by_cases h : d = die ∧ b = block
    · exact Or.inl ⟨h.1, h.2, Or.inr ⟨⟨h0, h7 ho⟩, rfl⟩⟩
    · exact Or.inr ⟨h, rfl⟩
  · rw [e]
    refine ⟨?_, fun h => ?_⟩
    · by_cases h : d = die ∧ b = block
      · exact Or.inl ⟨h.1, h.2, Or.inr ⟨⟨by simp, by simp⟩, rfl⟩⟩
      · exact Or.inr ⟨h, rfl⟩
    · show upd s.bad (kOf B d b) true _ = true
      by_cases hk : kOf B die block = kOf B d b
      · rw [hk, upd_same]
      · rw [upd_ne _ _ _ _ hk]; exact h
  · rw [e]
    refine ⟨?_, fun h => h⟩
    by_cases h : d = die ∧ b = block
    · obtain ⟨rfl, rfl⟩ := h
      exact Or.inl ⟨rfl, rfl, Or.inl ⟨hc, upd_same _ _ _⟩⟩
    · exact Or.inr ⟨h, upd_ne _ _ _ _ (fun e => h (kOf_inj hh2 hh e.symm))⟩
theorem not_hereB {d die b block : Int} (hne : ¬ (d = die ∧ b = block)) : (d == die) = false ∨ ((d == die) = true ∧ (b == block) = false) := by
  by_cases e : d = die
  · have e2 : ¬ b = block := fun e2 => hne ⟨e, e2⟩
    exact Or.inr ⟨by simpa using e, by simpa using e2⟩
  · exact Or.inl (by simpa using e)
set_option maxHeartbeats 1600000 in
theorem wears_no (g0 g1 g2 g3 : Int) (die block : Int) (a2 : Option Addr) (n2 cap2 : Nat) (w : World) (hE : EType w) (h : ¬ GeoI g0 g1 g2 g3) :
    Calls Tryd.prog 7 #[.agg #[.int .i64 g0, .int .i64 g1, .int .i64 g2, .int .i64 g3], .int .i64 die, .int .i64 block, .slice a2 n2 cap2] w fun e w' => e = .returned (.bool true) ∧ Below w.heap.size w w' := by
  have HE : Hid (EType w) := hE
  clear hE
  go_enter Tryd.func7, Tryd.ntmps7
  go_wp2_with fail
  refine (fact_any _ (HE.out.below ((Below.refl _ _).alloc (Nat.le_refl _) _) HE.out.pos)).mono ?_
  rintro e w1 ⟨rfl, hb1⟩
  have hg := fun o => hb1.cell (p := ⟨w.heap.size, o, none⟩) (by simp)
  have q0 := hg 0
  have q1 := hg 1
  have q2 := hg 2
  have q3 := hg 3
  simp at q0 q1 q2 q3
  have hB : Below w.heap.size w w1 := ((Below.refl _ _).alloc (Nat.le_refl _) _).trans (hb1.mono (by simp))
  clear hb1 hg
  go_wp2_with fail
  refine (new_no g0 g1 g2 g3 _ h).mono ?_
  rintro e w2 ⟨rfl, hb2⟩
  go_wp2
  go_ret
  exact ⟨rfl, hB.trans (hb2.mono hB.size)⟩
set_option maxRecDepth 100000 in
set_option maxHeartbeats 8000000 in
theorem wears_yes {D B P Y : Nat} (die block : Int) (a2 : Option Addr) (n2 cap2 : Nat) (w : World) (hG : Geo D B P Y) (hE : EType w) (hm2 : n2 ≤ 140737488351232) (hS : Script w a2 n2) :
    Calls Tryd.prog 7 #[.agg #[.int .i64 D, .int .i64 B, .int .i64 P, .int .i64 Y], .int .i64 die, .int .i64 block, .slice a2 n2 cap2] w fun e w' => e = .returned (.bool true) ∧ Below w.heap.size w w' := by
  have HE : Hid (EType w) := hE
  have HG : Hid (Geo D B P Y) := hG
  have HS : Hid (Script w a2 n2) := hS
  clear hE hG hS
  go_enter Tryd.func7, Tryd.ntmps7
  go_wp2_with fail
  have hw0 : Below w.heap.size w (w.alloc (.cells #[.int .i64 (D : Int), .int .i64 (B : Int), .int .i64 (P : Int), .int .i64 (Y : Int)] 23)) := (Below.refl _ _).alloc (Nat.le_refl _) _
  have q0 : (w.alloc (.cells #[.int .i64 (D : Int), .int .i64 (B : Int), .int .i64 (P : Int), .int .i64 (Y : Int)] 23)).cell? ⟨w.heap.size, 0, none⟩ = some (.int .i64 (D : Int)) := by simp
  have q1 : (w.alloc (.cells #[.int .i64 (D : Int), .int .i64 (B : Int), .int .i64 (P : Int), .int .i64 (Y : Int)] 23)).cell? ⟨w.heap.size, 1, none⟩ = some (.int .i64 (B : Int)) := by simp
  have q2 : (w.alloc (.cells #[.int .i64 (D : Int), .int .i64 (B : Int), .int .i64 (P : Int), .int .i64 (Y : Int)] 23)).cell? ⟨w.heap.size, 2, none⟩ = some (.int .i64 (P : Int)) := by simp
  have q3 : (w.alloc (.cells #[.int .i64 (D : Int), .int .i64 (B : Int), .int .i64 (P : Int), .int .i64 (Y : Int)] 23)).cell? ⟨w.heap.size, 3, none⟩ = some (.int .i64 (Y : Int)) := by simp
  generalize w.alloc (.cells #[.int .i64 (D : Int), .int .i64 (B : Int), .int .i64 (P : Int), .int .i64 (Y : Int)] 23) = w0 at hw0 q0 q1 q2 q3 ⊢
  have HW0 : Hid (Below w.heap.size w w0) := hw0
  have HQ : Hid (w0.cell? ⟨w.heap.size, 0, none⟩ = some (.int .i64 (D : Int)) ∧ w0.cell? ⟨w.heap.size, 1, none⟩ = some (.int .i64 (B : Int)) ∧ w0.cell? ⟨w.heap.size, 2, none⟩ = some (.int .i64 (P : Int)) ∧ w0.cell? ⟨w.heap.size, 3, none⟩ = some (.int .i64 (Y : Int))) := ⟨q0, q1, q2, q3⟩
  have HE0 : Hid (EType w0) := HE.out.below HW0.out HE.out.pos
  have HS0 : Hid (Script w0 a2 n2) := HS.out.below HW0.out
  clear hw0 q0 q1 q2 q3 HE HS
  refine (fact_any _ HE0.out).mono ?_
  rintro e w1 ⟨rfl, hb1⟩
  have hlt0 : Hid (w.heap.size < w0.heap.size) := World.block_lt_of_cell? w0 ⟨w.heap.size, 0, none⟩ HQ.out.1
  have q0 := (hb1.cell (p := ⟨w.heap.size, 0, none⟩) hlt0.out).trans HQ.out.1
  have q1 := (hb1.cell (p := ⟨w.heap.size, 1, none⟩) hlt0.out).trans HQ.out.2.1
  have q2 := (hb1.cell (p := ⟨w.heap.size, 2, none⟩) hlt0.out).trans HQ.out.2.2.1
  have q3 := (hb1.cell (p := ⟨w.heap.size, 3, none⟩) hlt0.out).trans HQ.out.2.2.2
  have HB1 : Hid (Below w0.heap.size w0 w1) := hb1
  clear hb1
  go_wp2_with fail
  refine (new_yes _ HG.out).mono ?_
  rintro e w2 ⟨cb, bb, pb, rfl, h2, hge, hb2⟩
  have HGE : Hid (∀ b, Mine (D * B) cb bb pb b → w0.heap.size ≤ b) := fun b hb => Nat.le_trans HB1.out.size (hge b hb)
  have HB2 : Hid (CH D B P Y w2 cb bb pb (blank (P * Y)) ∧ Below w0.heap.size w0 w2) := ⟨h2, HB1.out.trans (hb2.mono HB1.out.size)⟩
  clear h2 hge hb2 q0 q1 q2 q3 HB1
  go_wp2_with fail
  by_cases hh : ¬ Here D B die block
  · refine (next_none die block _ HG.out HB2.out.1 rfl hh).mono ?_
    rintro e w3 ⟨rfl, rfl⟩
    have HB : Hid (Below w.heap.size w w3) := HW0.out.trans (HB2.out.2.mono HW0.out.size)
    clear HB2 hh
    go_wp2
    go_ret
    exact ⟨rfl, HB.out⟩
  replace hh := Classical.not_not.1 hh
  refine (next_some die block _ HG.out HB2.out.1 rfl hh).mono ?_
  rintro e w3 ⟨rfl, hb3⟩
  have HH : Hid (Here D B die block) := hh
  have HB3 : Hid (CH D B P Y w3 cb bb pb (blank (P * Y)) ∧ Below w0.heap.size w0 w3) := ⟨HB2.out.1.below HG.out.n.1 hb3, HB2.out.2.trans (hb3.mono HB2.out.2.size)⟩
  clear hb3 HB2 hh
  go_wp2
  go_loopw [12, 13] (fun v j wr => ∃ (i : Nat) (s : St), i ≤ n2 ∧ j = .int .i64 i ∧ v = .int .i64 (s.wear (kOf B die block) : Int) ∧ Hid (CH D B P Y wr cb bb pb s ∧ ((∀ k, s.wear k ≤ i) ∧ s.off = false) ∧ Below w0.heap.size w0 wr)) (fun _ j _ => n2 - (intOf j).toNat)
  case atStart => exact ⟨0, _, by omega, rfl, rfl, HB3.out.1, ⟨(fun k => Nat.le_refl _), rfl⟩, HB3.out.2⟩
  case round =>
    obtain ⟨i, s, hi, rfl, rfl, hR⟩ := hrel
    clear HB3
    by_cases hlt : i < n2
    · have hVi : s.wear (kOf B die block) ≤ i := hR.out.2.1.1 _
      obtain ⟨V, HV⟩ : ∃ V, Hid (s.wear (kOf B die block) = V) := ⟨_, rfl⟩
      rw [HV.out] at hVi ⊢
      obtain ⟨sb, so, ha2, o, hO⟩ := (HS0.out.below hR.out.2.2).slice hlt
      have k0 := hO.k0
      have k1 := hO.k1
      have k2 := hO.k2
      have k3 := hO.k3
      have k4 := hO.k4
      have k5 := hO.k5
      have HO : Hid (OpAt wr sb so i o) := hO
      clear hO
      rw [ha2]
      have HA : Hid (∀ ob : Obj, Below wr.heap.size wr (wr.alloc ob)) := fun ob => (Below.refl _ _).alloc (Nat.le_refl _) ob
      have HBd : Hid (∀ k, s.wear k < 4611686018427387904) := fun k => by have := hR.out.2.1.1 k; omega
      have HOB : Hid (OBox (wr.alloc (.cells #[.int .i64 o.kind, .int .i64 o.die, .int .i64 o.block, .int .i64 o.page, .slice o.a o.bs.length o.cap, .int .i64 o.fault] 38)) wr.heap.size o) := OBox.new wr o
      have HM : Hid (¬ Mine (D * B) cb bb pb wr.heap.size) := fun hm => Nat.lt_irrefl _ (hR.out.1.lt HG.out.n.1 _ hm)
      go_wp2_with fail
      have HA3 := HA.out (.cells #[.int .i64 o.kind, .int .i64 o.die, .int .i64 o.block, .int .i64 o.page, .slice o.a o.bs.length o.cap, .int .i64 o.fault] 38)
      replace HA3 : Hid (Below wr.heap.size wr (wr.alloc (.cells #[.int .i64 o.kind, .int .i64 o.die, .int .i64 o.block, .int .i64 o.page, .slice o.a o.bs.length o.cap, .int .i64 o.fault] 38))) := HA3
      generalize wr.alloc (.cells #[.int .i64 o.kind, .int .i64 o.die, .int .i64 o.block, .int .i64 o.page, .slice o.a o.bs.length o.cap, .int .i64 o.fault] 38) = w3a at HOB HA3 ⊢
      refine (bad_some die block _ HG.out (hR.out.1.below HG.out.n.1 HA3.out) hR.out.2.1.2 HH.out).mono ?_
      rintro e w4 ⟨rfl, hb4⟩
      have H4 : Hid (CH D B P Y w4 cb bb pb s ∧ Below w0.heap.size w0 w4) := ⟨(hR.out.1.below HG.out.n.1 HA3.out).below HG.out.n.1 hb4, (hR.out.2.2.trans (HA3.out.mono hR.out.2.2.size)).trans (hb4.mono (Nat.le_trans hR.out.2.2.size HA3.out.size))⟩
      have HOB4 : Hid (OBox w4 wr.heap.size o ∧ Lies w4 o.a o.bs) := ⟨HOB.out.below hb4, (HO.out.lies.below HA3.out).below hb4⟩
      clear hb4 HOB HA3 k0 k1 k2 k3 k4 k5
      have z0 := HOB4.out.1.c0
      have z1 := HOB4.out.1.c1
      have z2 := HOB4.out.1.c2
      have z3 := HOB4.out.1.c3
      have z4 := HOB4.out.1.c4
      have z5 := HOB4.out.1.c5
      by_cases hk3 : o.kind = 3
      · have f3 : (o.kind == 3) = true := beq_iff_eq.2 hk3
        clear hk3
        have hte := wears_erase (P := P) (Y := Y) (s := s) (d := o.die) (b := o.block) (f := o.fault) HH.out hR.out.2.1.2
        go_wp2_with fail
        refine (erase_any o.die o.block o.fault _ HG.out H4.out.1 HBd.out).mono ?_
        rintro e w5 ⟨rfl, h5, hk5⟩
        have HWR : Hid (∀ k, (eraseF D B P Y s o.die o.block o.fault).2.wear k ≤ i + 1) := eraseF_wear D B P Y s o.die o.block o.fault i hR.out.2.1.1
        generalize (eraseF D B P Y s o.die o.block o.fault).2 = S' at h5 HWR hte
        generalize (eraseF D B P Y s o.die o.block o.fault).1 = c at hte ⊢
        rw [HV.out] at hte
        have HBT : Hid (s.bad (kOf B die block) = true → S'.bad (kOf B die block) = true) := hte.2
        replace hte := hte.1
        have H5a : Hid (CH D B P Y w5 cb bb pb S' ∧ Below w0.heap.size w0 w5) := ⟨h5, H4.out.2.trans (hk5.below H4.out.2.size HGE.out)⟩
        have HOB5 : Hid (OBox w5 wr.heap.size o) := HOB4.out.1.keep hk5 HM.out
        clear h5 hk5 z0 z1 z2 z3 z4 z5 H4 HOB4
        go_wp2_with fail
        refine (error_any c 7 w5 (HE0.out.below H5a.out.2 HE0.out.pos)).mono ?_
        rintro e w6 ⟨rfl, hb6⟩
        have H5 : Hid (CH D B P Y w6 cb bb pb S' ∧ Below w0.heap.size w0 w6) := ⟨H5a.out.1.below HG.out.n.1 hb6, H5a.out.2.trans (hb6.mono H5a.out.2.size)⟩
        have z1 := (HOB5.out.below hb6).c1
        have z2 := (HOB5.out.below hb6).c2
        clear hb6 H5a HOB5
        rcases hte with ⟨hd1, hd2, ⟨hc, hx⟩ | ⟨hc, hx⟩⟩ | ⟨hne, hx⟩
        · rw [hd1] at z1
          rw [hd2] at z2
          have HX : Hid (S'.wear (kOf B die block) = V + 1) := hx
          clear hx
          have hcast : ((V + 1 : Nat) : Int) = (V : Int) + 1 := by omega
          rcases hc with hc | hc
          · subst hc
            rw [errI_zero]
            go_wp2_with fail
            refine (on_any _ H5.out.1).mono ?_
            rintro e w7 ⟨rfl, h7, hk7⟩
            have H7 : Hid (CH D B P Y w7 cb bb pb { S' with off := false } ∧ Below w0.heap.size w0 w7) := ⟨h7, H5.out.2.trans (hk7.below H5.out.2.size HGE.out)⟩
            clear h7 hk7
            go_wp2_with fail
            refine (wear_some die block _ HG.out H7.out.1 rfl HH.out).mono ?_
            rintro e w8 ⟨rfl, hb8⟩
            have H8 : Hid (CH D B P Y w8 cb bb pb { S' with off := false } ∧ Below w0.heap.size w0 w8) := ⟨H7.out.1.below HG.out.n.1 hb8, H7.out.2.trans (hb8.mono H7.out.2.size)⟩
            clear hb8 H7
            dsimp only
            rw [HX.out, hcast]
            go_wp2_with fail
            refine (bad_some die block _ HG.out H8.out.1 rfl HH.out).mono ?_
            rintro e w9 ⟨rfl, hb9⟩
            have H9 : Hid (CH D B P Y w9 cb bb pb { S' with off := false } ∧ ((∀ k, S'.wear k ≤ i + 1) ∧ false = false) ∧ Below w0.heap.size w0 w9) := ⟨H8.out.1.below HG.out.n.1 hb9, ⟨HWR.out, rfl⟩, H8.out.2.trans (hb9.mono H8.out.2.size)⟩
            clear hb9 H8
            dsimp only
            have hbt := HBT.out
            generalize S'.bad (kOf B die block) = y at hbt ⊢
            generalize s.bad (kOf B die block) = x at hbt ⊢
            have HX2 : Hid (S'.wear (kOf B die block) = V + 1) := HX
            cases x
            case false =>
              clear hbt
              go_wp2
              go_roundw
              case rel => exact ⟨i + 1, { S' with off := false }, by omega, by go_num, by dsimp only; rw [HX2.out]; all_goals first | rfl | go_num, H9.out⟩
              case measure => simp [intOf]; omega
            case true =>
              have hy := hbt rfl
              subst hy
              clear hbt
              go_wp2
              go_roundw
              case rel => exact ⟨i + 1, { S' with off := false }, by omega, by go_num, by dsimp only; rw [HX2.out]; all_goals first | rfl | go_num, H9.out⟩
              case measure => simp [intOf]; omega
          · subst hc
            rw [show errI 7 = .iface 30 (.int .i64 7) from rfl]
            go_wp2_with fail
            refine (on_any _ H5.out.1).mono ?_
            rintro e w7 ⟨rfl, h7, hk7⟩
            have H7 : Hid (CH D B P Y w7 cb bb pb { S' with off := false } ∧ Below w0.heap.size w0 w7) := ⟨h7, H5.out.2.trans (hk7.below H5.out.2.size HGE.out)⟩
            clear h7 hk7
            go_wp2_with fail
            refine (wear_some die block _ HG.out H7.out.1 rfl HH.out).mono ?_
            rintro e w8 ⟨rfl, hb8⟩
            have H8 : Hid (CH D B P Y w8 cb bb pb { S' with off := false } ∧ Below w0.heap.size w0 w8) := ⟨H7.out.1.below HG.out.n.1 hb8, H7.out.2.trans (hb8.mono H7.out.2.size)⟩
            clear hb8 H7
            dsimp only
            rw [HX.out, hcast]
            go_wp2_with fail
            refine (bad_some die block _ HG.out H8.out.1 rfl HH.out).mono ?_
            rintro e w9 ⟨rfl, hb9⟩
            have H9 : Hid (CH D B P Y w9 cb bb pb { S' with off := false } ∧ ((∀ k, S'.wear k ≤ i + 1) ∧ false = false) ∧ Below w0.heap.size w0 w9) := ⟨H8.out.1.below HG.out.n.1 hb9, ⟨HWR.out, rfl⟩, H8.out.2.trans (hb9.mono H8.out.2.size)⟩
            clear hb9 H8
            dsimp only
            have hbt := HBT.out
            generalize S'.bad (kOf B die block) = y at hbt ⊢
            generalize s.bad (kOf B die block) = x at hbt ⊢
            have HX2 : Hid (S'.wear (kOf B die block) = V + 1) := HX
            cases x
            case false =>
              clear hbt
              go_wp2
              go_roundw
              case rel => exact ⟨i + 1, { S' with off := false }, by omega, by go_num, by dsimp only; rw [HX2.out]; all_goals first | rfl | go_num, H9.out⟩
              case measure => simp [intOf]; omega
            case true =>
              have hy := hbt rfl
              subst hy
              clear hbt
              go_wp2
              go_roundw
              case rel => exact ⟨i + 1, { S' with off := false }, by omega, by go_num, by dsimp only; rw [HX2.out]; all_goals first | rfl | go_num, H9.out⟩
              case measure => simp [intOf]; omega
        · rw [hd1] at z1
          rw [hd2] at z2
          have HX : Hid (S'.wear (kOf B die block) = V) := hx
          clear hx
          have e1 : errI c = .iface 30 (.int .i64 (c : Int)) := if_neg hc.1
          rw [e1, decide_eq_false hc.2]
          clear e1 hc
          go_wp2_with fail
          refine (on_any _ H5.out.1).mono ?_
          rintro e w7 ⟨rfl, h7, hk7⟩
          have H7 : Hid (CH D B P Y w7 cb bb pb { S' with off := false } ∧ Below w0.heap.size w0 w7) := ⟨h7, H5.out.2.trans (hk7.below H5.out.2.size HGE.out)⟩
          clear h7 hk7
          go_wp2_with fail
          refine (wear_some die block _ HG.out H7.out.1 rfl HH.out).mono ?_
          rintro e w8 ⟨rfl, hb8⟩
          have H8 : Hid (CH D B P Y w8 cb bb pb { S' with off := false } ∧ Below w0.heap.size w0 w8) := ⟨H7.out.1.below HG.out.n.1 hb8, H7.out.2.trans (hb8.mono H7.out.2.size)⟩
          clear hb8 H7
          dsimp only
          rw [HX.out]
          go_wp2_with fail
          refine (bad_some die block _ HG.out H8.out.1 rfl HH.out).mono ?_
          rintro e w9 ⟨rfl, hb9⟩
          have H9 : Hid (CH D B P Y w9 cb bb pb { S' with off := false } ∧ ((∀ k, S'.wear k ≤ i + 1) ∧ false = false) ∧ Below w0.heap.size w0 w9) := ⟨H8.out.1.below HG.out.n.1 hb9, ⟨HWR.out, rfl⟩, H8.out.2.trans (hb9.mono H8.out.2.size)⟩
          clear hb9 H8
          dsimp only
          have hbt := HBT.out
          generalize S'.bad (kOf B die block) = y at hbt ⊢
          generalize s.bad (kOf B die block) = x at hbt ⊢
          have HX2 : Hid (S'.wear (kOf B die block) = V) := HX
          cases x
          case false =>
            clear hbt
            go_wp2
            go_roundw
            case rel => exact ⟨i + 1, { S' with off := false }, by omega, by go_num, by dsimp only; rw [HX2.out]; all_goals first | rfl | go_num, H9.out⟩
            case measure => simp [intOf]; omega
          case true =>
            have hy := hbt rfl
            subst hy
            clear hbt
            go_wp2
            go_roundw
            case rel => exact ⟨i + 1, { S' with off := false }, by omega, by go_num, by dsimp only; rw [HX2.out]; all_goals first | rfl | go_num, H9.out⟩
            case measure => simp [intOf]; omega
        · have HX : Hid (S'.wear (kOf B die block) = V) := hx
          clear hx
          rcases not_hereB hne with t1 | ⟨t1, t2⟩
          · clear hne
            go_wp2_with fail
            refine (on_any _ H5.out.1).mono ?_
            rintro e w7 ⟨rfl, h7, hk7⟩
            have H7 : Hid (CH D B P Y w7 cb bb pb { S' with off := false } ∧ Below w0.heap.size w0 w7) := ⟨h7, H5.out.2.trans (hk7.below H5.out.2.size HGE.out)⟩
            clear h7 hk7
            go_wp2_with fail
            refine (wear_some die block _ HG.out H7.out.1 rfl HH.out).mono ?_
            rintro e w8 ⟨rfl, hb8⟩
            have H8 : Hid (CH D B P Y w8 cb bb pb { S' with off := false } ∧ Below w0.heap.size w0 w8) := ⟨H7.out.1.below HG.out.n.1 hb8, H7.out.2.trans (hb8.mono H7.out.2.size)⟩
            clear hb8 H7
            dsimp only
            rw [HX.out]
            go_wp2_with fail
            refine (bad_some die block _ HG.out H8.out.1 rfl HH.out).mono ?_
            rintro e w9 ⟨rfl, hb9⟩
            have H9 : Hid (CH D B P Y w9 cb bb pb { S' with off := false } ∧ ((∀ k, S'.wear k ≤ i + 1) ∧ false = false) ∧ Below w0.heap.size w0 w9) := ⟨H8.out.1.below HG.out.n.1 hb9, ⟨HWR.out, rfl⟩, H8.out.2.trans (hb9.mono H8.out.2.size)⟩
            clear hb9 H8
            dsimp only
            have hbt := HBT.out
            generalize S'.bad (kOf B die block) = y at hbt ⊢
            generalize s.bad (kOf B die block) = x at hbt ⊢
            have HX2 : Hid (S'.wear (kOf B die block) = V) := HX
            cases x
            case false =>
              clear hbt
              go_wp2
              go_roundw
              case rel => exact ⟨i + 1, { S' with off := false }, by omega, by go_num, by dsimp only; rw [HX2.out]; all_goals first | rfl | go_num, H9.out⟩
              case measure => simp [intOf]; omega
            case true =>
              have hy := hbt rfl
              subst hy
              clear hbt
              go_wp2
              go_roundw
              case rel => exact ⟨i + 1, { S' with off := false }, by omega, by go_num, by dsimp only; rw [HX2.out]; all_goals first | rfl | go_num, H9.out⟩
              case measure => simp [intOf]; omega
          · clear hne
            go_wp2_with fail
            refine (on_any _ H5.out.1).mono ?_
            rintro e w7 ⟨rfl, h7, hk7⟩
            have H7 : Hid (CH D B P Y w7 cb bb pb { S' with off := false } ∧ Below w0.heap.size w0 w7) := ⟨h7, H5.out.2.trans (hk7.below H5.out.2.size HGE.out)⟩
            clear h7 hk7
            go_wp2_with fail
            refine (wear_some die block _ HG.out H7.out.1 rfl HH.out).mono ?_
            rintro e w8 ⟨rfl, hb8⟩
            have H8 : Hid (CH D B P Y w8 cb bb pb { S' with off := false } ∧ Below w0.heap.size w0 w8) := ⟨H7.out.1.below HG.out.n.1 hb8, H7.out.2.trans (hb8.mono H7.out.2.size)⟩
            clear hb8 H7
            dsimp only
            rw [HX.out]
            go_wp2_with fail
            refine (bad_some die block _ HG.out H8.out.1 rfl HH.out).mono ?_
            rintro e w9 ⟨rfl, hb9⟩
            have H9 : Hid (CH D B P Y w9 cb bb pb { S' with off := false } ∧ ((∀ k, S'.wear k ≤ i + 1) ∧ false = false) ∧ Below w0.heap.size w0 w9) := ⟨H8.out.1.below HG.out.n.1 hb9, ⟨HWR.out, rfl⟩, H8.out.2.trans (hb9.mono H8.out.2.size)⟩
            clear hb9 H8
            dsimp only
            have hbt := HBT.out
            generalize S'.bad (kOf B die block) = y at hbt ⊢
            generalize s.bad (kOf B die block) = x at hbt ⊢
            have HX2 : Hid (S'.wear (kOf B die block) = V) := HX
            cases x
            case false =>
              clear hbt
              go_wp2
              go_roundw
              case rel => exact ⟨i + 1, { S' with off := false }, by omega, by go_num, by dsimp only; rw [HX2.out]; all_goals first | rfl | go_num, H9.out⟩
              case measure => simp [intOf]; omega
            case true =>
              have hy := hbt rfl
              subst hy
              clear hbt
              go_wp2
              go_roundw
              case rel => exact ⟨i + 1, { S' with off := false }, by omega, by go_num, by dsimp only; rw [HX2.out]; all_goals first | rfl | go_num, H9.out⟩
              case measure => simp [intOf]; omega
      · have f3 : (o.kind == 3) = false := beq_eq_false_iff_ne.2 hk3
        clear hk3
        go_wp2_with fail
        refine (program_any o.die o.block o.page o.fault o.a o.bs o.cap _ HG.out H4.out.1 HO.out.all HO.out.fits HOB4.out.2).mono ?_
        rintro e w5 ⟨rfl, h5, hk5⟩
        have HWR : Hid (∀ k, (progF D B P Y s o.die o.block o.page o.bs o.fault).2.wear k ≤ i + 1) := fun k => by rw [(progF_wear ..).1]; exact Nat.le_succ_of_le (hR.out.2.1.1 k)
        have HX : Hid ((progF D B P Y s o.die o.block o.page o.bs o.fault).2.wear (kOf B die block) = V) := by
          show _ = _
          rw [(progF_wear ..).1, HV.out]
        have HBT : Hid (s.bad (kOf B die block) = true → (progF D B P Y s o.die o.block o.page o.bs o.fault).2.bad (kOf B die block) = true) := fun h => by rw [(progF_wear ..).2]; exact h
        generalize (progF D B P Y s o.die o.block o.page o.bs o.fault).2 = S' at h5 HWR HX HBT
        have H5 : Hid (CH D B P Y w5 cb bb pb S' ∧ Below w0.heap.size w0 w5) := ⟨h5, H4.out.2.trans (hk5.below H4.out.2.size HGE.out)⟩
        clear h5 hk5 z0 z1 z2 z3 z4 z5 H4 HOB4
        go_wp2_with fail
        refine (on_any _ H5.out.1).mono ?_
        rintro e w7 ⟨rfl, h7, hk7⟩
        have H7 : Hid (CH D B P Y w7 cb bb pb { S' with off := false } ∧ Below w0.heap.size w0 w7) := ⟨h7, H5.out.2.trans (hk7.below H5.out.2.size HGE.out)⟩
        clear h7 hk7
        go_wp2_with fail
        refine (wear_some die block _ HG.out H7.out.1 rfl HH.out).mono ?_
        rintro e w8 ⟨rfl, hb8⟩
        have H8 : Hid (CH D B P Y w8 cb bb pb { S' with off := false } ∧ Below w0.heap.size w0 w8) := ⟨H7.out.1.below HG.out.n.1 hb8, H7.out.2.trans (hb8.mono H7.out.2.size)⟩
        clear hb8 H7
        dsimp only
        rw [HX.out]
        go_wp2_with fail
        refine (bad_some die block _ HG.out H8.out.1 rfl HH.out).mono ?_
        rintro e w9 ⟨rfl, hb9⟩
        have H9 : Hid (CH D B P Y w9 cb bb pb { S' with off := false } ∧ ((∀ k, S'.wear k ≤ i + 1) ∧ false = false) ∧ Below w0.heap.size w0 w9) := ⟨H8.out.1.below HG.out.n.1 hb9, ⟨HWR.out, rfl⟩, H8.out.2.trans (hb9.mono H8.out.2.size)⟩
        clear hb9 H8
        dsimp only
        have hbt := HBT.out
        generalize S'.bad (kOf B die block) = y at hbt ⊢
        generalize s.bad (kOf B die block) = x at hbt ⊢
        have HX2 : Hid (S'.wear (kOf B die block) = V) := HX
        cases x
        case false =>
          clear hbt
          go_wp2
          go_roundw
          case rel => exact ⟨i + 1, { S' with off := false }, by omega, by go_num, by dsimp only; rw [HX2.out]; all_goals first | rfl | go_num, H9.out⟩
          case measure => simp [intOf]; omega
        case true =>
          have hy := hbt rfl
          subst hy
          clear hbt
          go_wp2
          go_roundw
          case rel => exact ⟨i + 1, { S' with off := false }, by omega, by go_num, by dsimp only; rw [HX2.out]; all_goals first | rfl | go_num, H9.out⟩
          case measure => simp [intOf]; omega
    · obtain rfl : i = n2 := by omega
      have HB : Hid (Below w.heap.size w wr) := HW0.out.trans (hR.out.2.2.mono HW0.out.size)
      go_wp2
      go_ret
      exact ⟨rfl, HB.out⟩
theorem wears_any (g0 g1 g2 g3 : Int) (die block : Int) (a2 : Option Addr) (n2 cap2 : Nat) (w : World) (hE : EType w)  (hm2 : n2 ≤ 140737488351232) (hS : Script w a2 n2) :
    Calls Tryd.prog 7 #[.agg #[.int .i64 g0, .int .i64 g1, .int .i64 g2, .int .i64 g3], .int .i64 die, .int .i64 block, .slice a2 n2 cap2] w fun e w' => e = .returned (.bool true) ∧ Below w.heap.size w w' := by
  by_cases h : GeoI g0 g1 g2 g3
  · obtain ⟨D, B, P, Y, rfl, rfl, rfl, rfl, hG⟩ := h.nat
    exact wears_yes die block a2 n2 cap2 w hG hE hm2 hS
  · exact wears_no g0 g1 g2 g3 die block a2 n2 cap2 w hE h
end Go.Proofs.YtjeelaaimhckhabDoor
