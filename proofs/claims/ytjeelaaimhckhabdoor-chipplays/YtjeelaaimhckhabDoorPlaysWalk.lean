/-
  The walk of granarylaw1.ChipPlays: it returns true, and nothing that was there has turned.
-/
import Derived.Test.YtjeelaaimhckhabDoorStep
namespace Go.Proofs.YtjeelaaimhckhabDoor
open Go.RowKit
set_option linter.unusedVariables false

set_option maxRecDepth 100000 in
set_option maxHeartbeats 1600000 in
theorem plays_no (g0 g1 g2 g3 : Int) (a2 : Option Addr) (n2 cap2 : Nat) (w : World) (hE : EType w) (h : ¬ GeoI g0 g1 g2 g3) :
    Calls Tryd.prog 3 #[.agg #[.int .i64 g0, .int .i64 g1, .int .i64 g2, .int .i64 g3], .slice a2 n2 cap2] w fun e w' => e = .returned (.bool true) ∧ Below w.heap.size w w' := by
  have HE : Hid (EType w) := hE
  clear hE
  go_enter Tryd.func3, Tryd.ntmps3
  go_wp2_with fail
  refine (new_no g0 g1 g2 g3 _ h).mono ?_
  rintro e w1 ⟨rfl, hb1⟩
  have hg := fun o => hb1.cell (p := ⟨w.heap.size, o, none⟩) (by simp)
  have q0 := hg 0
  have q1 := hg 1
  have q2 := hg 2
  have q3 := hg 3
  simp at q0 q1 q2 q3
  have hB : Below w.heap.size w w1 := ((Below.refl _ _).alloc (Nat.le_refl _) _).trans (hb1.mono (by simp))
  clear hb1 hg
  go_wp2_with fail
  refine (geoFault_no g0 g1 g2 g3 _ h).mono ?_
  rintro e w2 ⟨rfl, hb2⟩
  have hB2 := hB.trans (hb2.mono hB.size)
  clear hb2 hB q0 q1 q2 q3
  go_wp2_with fail
  refine (error_same 1 w2 (HE.out.below hB2 HE.out.pos)).mono ?_
  rintro e w3 ⟨rfl, hb3⟩
  go_wp2
  go_ret
  exact ⟨rfl, hB2.trans (hb3.mono hB2.size)⟩
set_option maxRecDepth 100000 in
set_option maxHeartbeats 8000000 in
theorem plays_yes {D B P Y : Nat} (a2 : Option Addr) (n2 cap2 : Nat) (w : World) (hG : Geo D B P Y) (hE : EType w) (hm2 : n2 ≤ 140737488351232) (hS : Script w a2 n2) :
    Calls Tryd.prog 3 #[.agg #[.int .i64 D, .int .i64 B, .int .i64 P, .int .i64 Y], .slice a2 n2 cap2] w fun e w' => e = .returned (.bool true) ∧ Below w.heap.size w w' := by
  have HE : Hid (EType w) := hE
  have HG : Hid (Geo D B P Y) := hG
  have HS : Hid (Script w a2 n2) := hS
  have HGI : Hid (GeoI D B P Y) := by
    show GeoI _ _ _ _
    have := hG.d0; have := hG.d1; have := hG.b0; have := hG.b1; have := hG.p0; have := hG.p1; have := hG.y0; have := hG.y1; have := hG.y8
    exact ⟨by omega, by omega, by omega, by omega, by omega⟩
  clear hE hG hS
  go_enter Tryd.func3, Tryd.ntmps3
  go_wp2_with fail
  have hw0 : Below w.heap.size w (w.alloc (.cells #[.int .i64 (D : Int), .int .i64 (B : Int), .int .i64 (P : Int), .int .i64 (Y : Int)] 23)) := (Below.refl _ _).alloc (Nat.le_refl _) _
  have q0 : (w.alloc (.cells #[.int .i64 (D : Int), .int .i64 (B : Int), .int .i64 (P : Int), .int .i64 (Y : Int)] 23)).cell? ⟨w.heap.size, 0, none⟩ = some (.int .i64 (D : Int)) := by simp
  have q1 : (w.alloc (.cells #[.int .i64 (D : Int), .int .i64 (B : Int), .int .i64 (P : Int), .int .i64 (Y : Int)] 23)).cell? ⟨w.heap.size, 1, none⟩ = some (.int .i64 (B : Int)) := by simp
  have q2 : (w.alloc (.cells #[.int .i64 (D : Int), .int .i64 (B : Int), .int .i64 (P : Int), .int .i64 (Y : Int)] 23)).cell? ⟨w.heap.size, 2, none⟩ = some (.int .i64 (P : Int)) := by simp
  have q3 : (w.alloc (.cells #[.int .i64 (D : Int), .int .i64 (B : Int), .int .i64 (P : Int), .int .i64 (Y : Int)] 23)).cell? ⟨w.heap.size, 3, none⟩ = some (.int .i64 (Y : Int)) := by simp
  generalize w.alloc (.cells #[.int .i64 (D : Int), .int .i64 (B : Int), .int .i64 (P : Int), .int .i64 (Y : Int)] 23) = w0 at hw0 q0 q1 q2 q3 ⊢
  have HW0 : Hid (Below w.heap.size w w0) := hw0
  have HQ : Hid (w0.cell? ⟨w.heap.size, 0, none⟩ = some (.int .i64 (D : Int)) ∧ w0.cell? ⟨w.heap.size, 1, none⟩ = some (.int .i64 (B : Int)) ∧ w0.cell? ⟨w.heap.size, 2, none⟩ = some (.int .i64 (P : Int)) ∧ w0.cell? ⟨w.heap.size, 3, none⟩ = some (.int .i64 (Y : Int))) := ⟨q0, q1, q2, q3⟩
  have HE0 : Hid (EType w0) := HE.out.below HW0.out HE.out.pos
  have HS0 : Hid (Script w0 a2 n2) := HS.out.below HW0.out
  have hlt0 : Hid (w.heap.size < w0.heap.size) := World.block_lt_of_cell? w0 ⟨w.heap.size, 0, none⟩ HQ.out.1
  clear hw0 q0 q1 q2 q3 HE HS
  refine (new_yes _ HG.out).mono ?_
  rintro e w1 ⟨cb, bb, pb, rfl, h1, hge, hb1⟩
  have q0 := (hb1.cell (p := ⟨w.heap.size, 0, none⟩) hlt0.out).trans HQ.out.1
  have q1 := (hb1.cell (p := ⟨w.heap.size, 1, none⟩) hlt0.out).trans HQ.out.2.1
  have q2 := (hb1.cell (p := ⟨w.heap.size, 2, none⟩) hlt0.out).trans HQ.out.2.2.1
  have q3 := (hb1.cell (p := ⟨w.heap.size, 3, none⟩) hlt0.out).trans HQ.out.2.2.2
  have HGE : Hid (∀ b, Mine (D * B) cb bb pb b → w0.heap.size ≤ b) := hge
  have HB1 : Hid (CH D B P Y w1 cb bb pb (blank (P * Y)) ∧ Below w0.heap.size w0 w1) := ⟨h1, hb1⟩
  clear h1 hge hb1
  go_wp2_with fail
  refine (geoFault_yes _ _ _ _ _ HGI.out).mono ?_
  rintro e w2 ⟨rfl, hb2⟩
  have HB2 : Hid (CH D B P Y w2 cb bb pb (blank (P * Y)) ∧ Below w0.heap.size w0 w2) := ⟨HB1.out.1.below HG.out.n.1 hb2, HB1.out.2.trans (hb2.mono HB1.out.2.size)⟩
  clear hb2 HB1 q0 q1 q2 q3
  have q0 := (HB2.out.2.cell (p := ⟨w.heap.size, 0, none⟩) hlt0.out).trans HQ.out.1
  have q1 := (HB2.out.2.cell (p := ⟨w.heap.size, 1, none⟩) hlt0.out).trans HQ.out.2.1
  have q2 := (HB2.out.2.cell (p := ⟨w.heap.size, 2, none⟩) hlt0.out).trans HQ.out.2.2.1
  have q3 := (HB2.out.2.cell (p := ⟨w.heap.size, 3, none⟩) hlt0.out).trans HQ.out.2.2.2
  have HNIL : Hid (∀ wz, Calls Tryd.prog 10 #[.nilIface, .int .i64 0] wz fun ev w' => ev = .returned (.bool true) ∧ wz = w') := fun wz => error_nil 0 wz
  go_wp2_with fail
  refine (HNIL.out _).mono ?_
  rintro e w3 ⟨rfl, rfl⟩
  go_wp2_with fail
  refine (rnew_any _ HG.out).mono ?_
  rintro e w4 ⟨rb, ab, nb, wb, db, rcap, rfl, h4, hge4, hb4⟩
  have HB4 : Hid (PB D B P Y w4 cb bb pb rb ab nb wb db rcap (blank (P * Y)) ∧ Below w0.heap.size w0 w4) := ⟨⟨HB2.out.1.below HG.out.n.1 hb4, h4⟩, HB2.out.2.trans (hb4.mono HB2.out.2.size)⟩
  have HSP : Hid (Sep (D * B) cb bb pb rb ab nb wb db w0.heap.size) := ⟨fun b hm hr => by have := HB2.out.1.lt HG.out.n.1 b hm; have := hge4 b hr; omega, HGE.out, fun b hr => Nat.le_trans HB2.out.2.size (hge4 b hr), by have := hlt0.out; omega⟩
  clear h4 hge4 hb4 HB2 q0 q1 q2 q3 HNIL
  go_wp2
  go_loopw [10] (fun j wr => ∃ (i : Nat) (s : St), i ≤ n2 ∧ j = .int .i64 i ∧ Hid (PB D B P Y wr cb bb pb rb ab nb wb db rcap s ∧ (∀ k, s.wear k ≤ i) ∧ Below w0.heap.size w0 wr)) (fun j _ => n2 - (intOf j).toNat)
  case atStart => exact ⟨0, _, by omega, rfl, HB4.out.1, (fun k => Nat.le_refl _), HB4.out.2⟩
  case round =>
    obtain ⟨i, s, hi, rfl, hR⟩ := hrel
    clear HB4
    by_cases hlt : i < n2
    · obtain ⟨sb, so, ha2, o, hO⟩ := HS0.out.slice hlt
      have hOr := hO.below hR.out.2.2
      have k0 := hOr.k0
      have k1 := hOr.k1
      have k2 := hOr.k2
      have k3 := hOr.k3
      have k4 := hOr.k4
      have k5 := hOr.k5
      have HDt : Hid (Dat wr o w0.heap.size) := ⟨hOr.all, hOr.lies, hOr.fits, fun b off e e2 => by
        rcases hO.lies with h | ⟨b', off', e', h⟩
        · exact absurd h e2
        · rw [e] at e'
          cases e'
          have hp : 0 < o.bs.length := List.length_pos_iff.2 e2
          exact World.block_lt_of_cell? w0 _ (h 0 hp)⟩
      clear hO hOr
      rw [ha2]
      go_wp2_with fail
      refine (step_any (m := i) o wr HG.out (HE0.out.below hR.out.2.2 HE0.out.pos) hR.out.1 HSP.out hR.out.2.2.size HDt.out hR.out.2.1 (by omega)).mono ?_
      rintro e w5 ⟨rfl, s', h5, hw5, hb5⟩
      have H5 : Hid (PB D B P Y w5 cb bb pb rb ab nb wb db rcap s' ∧ (∀ k, s'.wear k ≤ i + 1) ∧ Below w0.heap.size w0 w5) := ⟨h5, hw5, hR.out.2.2.trans hb5⟩
      clear h5 hw5 hb5 hR HDt k0 k1 k2 k3 k4 k5
      go_wp2_with fail
      refine (off_any _ H5.out.1.ch).mono ?_
      rintro e w6 ⟨rfl, rfl⟩
      have c8 := H5.out.1.rh.c8
      generalize s'.off = x at c8 ⊢
      cases x
      case false =>
        go_wp2
        exact ⟨⟨i + 1, s', by omega, by go_num, H5.out⟩, by simp [intOf]; omega⟩
      case true =>
        go_wp2
        exact ⟨⟨i + 1, s', by omega, by go_num, H5.out⟩, by simp [intOf]; omega⟩
    · obtain rfl : i = n2 := by omega
      have HB : Hid (Below w.heap.size w wr) := HW0.out.trans (hR.out.2.2.mono HW0.out.size)
      go_wp2
      go_ret
      exact ⟨rfl, HB.out⟩
theorem plays_any (g0 g1 g2 g3 : Int) (a2 : Option Addr) (n2 cap2 : Nat) (w : World) (hE : EType w) (hm2 : n2 ≤ 140737488351232) (hS : Script w a2 n2) :
    Calls Tryd.prog 3 #[.agg #[.int .i64 g0, .int .i64 g1, .int .i64 g2, .int .i64 g3], .slice a2 n2 cap2] w fun e w' => e = .returned (.bool true) ∧ Below w.heap.size w w' := by
  by_cases h : GeoI g0 g1 g2 g3
  · obtain ⟨D, B, P, Y, rfl, rfl, rfl, rfl, hG⟩ := h.nat
    exact plays_yes a2 n2 cap2 w hG hE hm2 hS
  · exact plays_no g0 g1 g2 g3 a2 n2 cap2 w hE h
end Go.Proofs.YtjeelaaimhckhabDoor
