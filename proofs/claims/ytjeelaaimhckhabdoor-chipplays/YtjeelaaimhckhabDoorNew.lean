/-
  What the call of chip.New gives: a chip that is on, and blank, in new memory.
-/
import Derived.Test.YtjeelaaimhckhabDoorGeom
namespace Go.Proofs.YtjeelaaimhckhabDoor
open Go.RowKit
set_option linter.unusedVariables false

/-- A chip that is on, and blank. -/
def blank (L : Nat) : St := { off := false, bytes := fun _ => List.replicate L 255, next := fun _ => 0, wear := fun _ => 0, bad := fun _ => false }
theorem info63 : (Tryd.prog.info? 63).map (fun i => (i.zero, i.size, i.bytes)) = some (some (.agg #[.slice none 0 0, .int .i64 0, .int .i64 0, .bool false]), 4, 48) := by kernel_rfl
def mkR (n : Nat) : Array Value := madeCells #[.slice none 0 0, .int .i64 0, .int .i64 0, .bool false] (n * 4)
theorem mkR_at (n i : Nat) (h : i < n * 4) : (mkR n)[i]? = some (#[Value.slice none 0 0, .int .i64 0, .int .i64 0, .bool false][i % 4]!) := by
  unfold mkR madeCells
  rw [Array.getElem?_map, Array.getElem?_eq_getElem (by simpa using h)]
  simp
theorem mkR_four (n k : Nat) (h : k < n) : (mkR n)[k * 4]? = some (.slice none 0 0) ∧ (mkR n)[k * 4 + 1]? = some (.int .i64 0) ∧ (mkR n)[k * 4 + 2]? = some (.int .i64 0) ∧ (mkR n)[k * 4 + 3]? = some (.bool false) := by
  refine ⟨?_, ?_, ?_, ?_⟩
  · rw [mkR_at _ _ (by omega), show k * 4 % 4 = 0 by omega]; rfl
  · rw [mkR_at _ _ (by omega), show (k * 4 + 1) % 4 = 1 by omega]; rfl
  · rw [mkR_at _ _ (by omega), show (k * 4 + 2) % 4 = 2 by omega]; rfl
  · rw [mkR_at _ _ (by omega), show (k * 4 + 3) % 4 = 3 by omega]; rfl
theorem made_rows (n : Nat) (hn : n ≤ 64) (w : World) : (Instr.makeSlice 42 (.int .i64 (n : Int)) (.int .i64 (n : Int))).run Tryd.prog w = .ok (.slice (some ⟨w.heap.size, 0, none⟩) n n) (w.alloc (.cells (mkR n) 63)) := by
  obtain ⟨i0, hi, hz0, hz1, hz2⟩ := info_parts info63
  have h := run_make (P := Tryd.prog) w 42 63 i0 (.agg #[.slice none 0 0, .int .i64 0, .int .i64 0, .bool false]) Tryd.underlying42 hi hz0 .i64 .i64 n n (by omega) (by omega) (by rw [hz2]; omega) (by omega)
  rw [h, hz1, Int.toNat_natCast]
  rfl
/-- A chip in the making: m blocks have their bytes. -/
structure PH (D B n P Y : Nat) (w : World) (gb cb bb : Nat) (pb : Nat → Nat) (m : Nat) : Prop where
  g2 : w.cell? ⟨gb, 2, none⟩ = some (.int .i64 (P : Int))
  g3 : w.cell? ⟨gb, 3, none⟩ = some (.int .i64 (Y : Int))
  c0 : w.cell? ⟨cb, 0, none⟩ = some (.bool false)
  c1 : w.cell? ⟨cb, 1, none⟩ = some (.int .i64 (D : Int))
  c2 : w.cell? ⟨cb, 2, none⟩ = some (.int .i64 (B : Int))
  c3 : w.cell? ⟨cb, 3, none⟩ = some (.int .i64 (P : Int))
  c4 : w.cell? ⟨cb, 4, none⟩ = some (.int .i64 (Y : Int))
  c5 : w.cell? ⟨cb, 5, none⟩ = some (.slice (some ⟨bb, 0, none⟩) n n)
  fc : ∀ o, w.frozen? ⟨cb, o, none⟩ = false
  fb : ∀ o, w.frozen? ⟨bb, o, none⟩ = false
  r0 : ∀ k, k < m → w.cell? ⟨bb, k * 4, none⟩ = some (.slice (some ⟨pb k, 0, none⟩) (P * Y) (P * Y))
  rz : ∀ k, m ≤ k → k < n → w.cell? ⟨bb, k * 4, none⟩ = some (.slice none 0 0)
  r1 : ∀ k, k < n → w.cell? ⟨bb, k * 4 + 1, none⟩ = some (.int .i64 0) ∧ w.cell? ⟨bb, k * 4 + 2, none⟩ = some (.int .i64 0) ∧ w.cell? ⟨bb, k * 4 + 3, none⟩ = some (.bool false)
  hp : ∀ k, k < m → w.heap[pb k]? = some (.cells ((List.replicate (P * Y) 255).map bv).toArray 5 (0, 0))
  n0 : cb ≠ bb ∧ gb ≠ bb
  n1 : ∀ k, k < m → pb k ≠ cb ∧ pb k ≠ bb
  n2 : ∀ i k, i < m → k < m → pb i = pb k → i = k
theorem PH.lt {D B n P Y gb cb bb m : Nat} {pb : Nat → Nat} {w : World} (h : PH D B n P Y w gb cb bb pb m) : gb < w.heap.size ∧ cb < w.heap.size ∧ (∀ k, k < m → pb k < w.heap.size) :=
  ⟨World.block_lt_of_cell? w _ h.g2, World.block_lt_of_cell? w _ h.c5, fun k hk => heap_lt (h.hp k hk)⟩
/-- One block more has its bytes: a new row, put in its place, and filled. -/
theorem PH.step {D B n P Y gb cb bb m : Nat} {pb : Nat → Nat} {w w3 : World} (h : PH D B n P Y w gb cb bb pb m) (hm : m < n) (hk : Keep (fun b => b = bb ∨ b = w.heap.size) w w3) (hbb : bb < w.heap.size)
    (hc : ∀ o, o ≠ m * 4 → w3.cell? ⟨bb, o, none⟩ = w.cell? ⟨bb, o, none⟩) (hc0 : w3.cell? ⟨bb, m * 4, none⟩ = some (.slice (some ⟨w.heap.size, 0, none⟩) (P * Y) (P * Y))) (hf : ∀ o, w3.frozen? ⟨bb, o, none⟩ = false)
    (hr : w3.heap[w.heap.size]? = some (.cells ((List.replicate (P * Y) 255).map bv).toArray 5 (0, 0))) : PH D B n P Y w3 gb cb bb (upd pb m w.heap.size) (m + 1) := by
  obtain ⟨l1, l2, l3⟩ := h.lt
  have hg : ∀ o, w3.cell? ⟨gb, o, none⟩ = w.cell? ⟨gb, o, none⟩ := fun o => hk.cell l1 (fun e => e.elim (fun e => h.n0.2 e) (fun e => Nat.ne_of_lt l1 e))
  have hcb : ∀ o, w3.cell? ⟨cb, o, none⟩ = w.cell? ⟨cb, o, none⟩ := fun o => hk.cell l2 (fun e => e.elim (fun e => h.n0.1 e) (fun e => Nat.ne_of_lt l2 e))
  exact {
    g2 := by rw [hg]; exact h.g2
    g3 := by rw [hg]; exact h.g3
    c0 := by rw [hcb]; exact h.c0
    c1 := by rw [hcb]; exact h.c1
    c2 := by rw [hcb]; exact h.c2
    c3 := by rw [hcb]; exact h.c3
    c4 := by rw [hcb]; exact h.c4
    c5 := by rw [hcb]; exact h.c5
    fc := fun o => by rw [hk.frozen l2 (fun e => e.elim (fun e => h.n0.1 e) (fun e => Nat.ne_of_lt l2 e))]; exact h.fc o
    fb := hf
    r0 := fun k hk' => by
      by_cases e : k = m
      · subst e; rw [upd_same]; exact hc0
      · rw [upd_ne _ _ _ _ e, hc _ (by omega)]; exact h.r0 k (by omega)
    rz := fun k h1 h2 => by rw [hc _ (by omega)]; exact h.rz k (by omega) h2
    r1 := fun k hk' => ⟨by rw [hc _ (by omega)]; exact (h.r1 k hk').1, by rw [hc _ (by omega)]; exact (h.r1 k hk').2.1, by rw [hc _ (by omega)]; exact (h.r1 k hk').2.2⟩
    hp := fun k hk' => by
      by_cases e : k = m
      · subst e; rw [upd_same]; exact hr
      · have hl := l3 k (by omega)
        rw [upd_ne _ _ _ _ e, hk.block _ hl (fun e' => e'.elim (fun e' => (h.n1 k (by omega)).2 e') (fun e' => Nat.ne_of_lt hl e'))]; exact h.hp k (by omega)
    n0 := h.n0
    n1 := fun k hk' => by
      by_cases e : k = m
      · subst e; rw [upd_same]; exact ⟨fun e => by omega, fun e => by omega⟩
      · rw [upd_ne _ _ _ _ e]; exact h.n1 k (by omega)
    n2 := fun i k hi hk' e => by
      by_cases e1 : i = m
      · by_cases e2 : k = m
        · omega
        · rw [e1, upd_same, upd_ne _ _ _ _ e2] at e
          have := l3 k (by omega)
          omega
      · by_cases e2 : k = m
        · rw [e2, upd_same, upd_ne _ _ _ _ e1] at e
          have := l3 i (by omega)
          omega
        · rw [upd_ne _ _ _ _ e1, upd_ne _ _ _ _ e2] at e
          exact h.n2 i k (by omega) (by omega) e }
theorem PH.done {D B P Y gb cb bb : Nat} {pb : Nat → Nat} {w : World} (h : PH D B (D * B) P Y w gb cb bb pb (D * B)) : CH D B P Y w cb bb pb (blank (P * Y)) :=
  { c0 := h.c0
    c1 := h.c1
    c2 := h.c2
    c3 := h.c3
    c4 := h.c4
    c5 := h.c5
    fc := h.fc
    fb := h.fb
    r0 := h.r0
    r1 := fun k hk => (h.r1 k hk).1
    r2 := fun k hk => (h.r1 k hk).2.1
    r3 := fun k hk => (h.r1 k hk).2.2
    hp := h.hp
    hl := fun k hk => List.length_replicate
    n0 := h.n0.1
    n1 := h.n1
    n2 := h.n2
    hn := fun k => Nat.zero_le _
    ha := fun k hk => all_rep _ _ (by omega) }
theorem PH.first {D B P Y : Nat} {w w1 : World} (hw : w.heap.size < w1.heap.size) (g2 : w1.cell? ⟨w.heap.size, 2, none⟩ = some (.int .i64 (P : Int))) (g3 : w1.cell? ⟨w.heap.size, 3, none⟩ = some (.int .i64 (Y : Int))) (n : Nat) (hn : D * B = n) :
    PH D B n P Y ((w1.alloc (.cells (mkR n) 63)).alloc (.cells #[.bool false, .int .i64 (D : Int), .int .i64 (B : Int), .int .i64 (P : Int), .int .i64 (Y : Int), .slice (some ⟨w1.heap.size, 0, none⟩) n n] 44)).drew w.heap.size (w1.heap.size + 1) w1.heap.size (fun _ => 0) 0 := by
  generalize hA : ((w1.alloc (.cells (mkR n) 63)).alloc (.cells #[.bool false, .int .i64 (D : Int), .int .i64 (B : Int), .int .i64 (P : Int), .int .i64 (Y : Int), .slice (some ⟨w1.heap.size, 0, none⟩) n n] 44)).drew = W
  have hb : Below w1.heap.size w1 W := by rw [← hA]; exact ((((Below.refl _ _).alloc (Nat.le_refl _) _).alloc (by simp) _).drew)
  have hs : (w1.alloc (.cells (mkR n) 63)).heap.size = w1.heap.size + 1 := by simp
  have hh1 : W.heap[w1.heap.size]? = some (.cells (mkR n) 63 (0, 0)) := by
    rw [← hA]
    show ((w1.alloc (.cells (mkR n) 63)).alloc _).heap[w1.heap.size]? = _
    rw [Below.heap_alloc _ _ _ (by rw [hs]; omega)]
    exact heap_alloc_new w1 _
  have hh2 : W.heap[w1.heap.size + 1]? = some (.cells #[.bool false, .int .i64 (D : Int), .int .i64 (B : Int), .int .i64 (P : Int), .int .i64 (Y : Int), .slice (some ⟨w1.heap.size, 0, none⟩) n n] 44 (0, 0)) := by
    rw [← hA, ← hs]
    exact heap_alloc_new (w1.alloc (.cells (mkR n) 63)) _
  have cc : ∀ o v, (mkR n)[o]? = some v → W.cell? ⟨w1.heap.size, o, none⟩ = some v := fun o v h => by simp [World.cell?, hh1, h]
  exact {
    g2 := by rw [hb.cell (p := ⟨w.heap.size, 2, none⟩) hw]; exact g2
    g3 := by rw [hb.cell (p := ⟨w.heap.size, 3, none⟩) hw]; exact g3
    c0 := by simp [World.cell?, hh2]
    c1 := by simp [World.cell?, hh2]
    c2 := by simp [World.cell?, hh2]
    c3 := by simp [World.cell?, hh2]
    c4 := by simp [World.cell?, hh2]
    c5 := by simp [World.cell?, hh2]
    fc := fun o => row_free hh2 o
    fb := fun o => row_free hh1 o
    r0 := fun k hk => by omega
    rz := fun k _ hk => cc _ _ (mkR_four n k hk).1
    r1 := fun k hk => ⟨cc _ _ (mkR_four n k hk).2.1, cc _ _ (mkR_four n k hk).2.2.1, cc _ _ (mkR_four n k hk).2.2.2⟩
    hp := fun k hk => by omega
    n0 := ⟨by omega, by omega⟩
    n1 := fun k hk => by omega
    n2 := fun i k hi => by omega }
theorem new_put {wr : World} {bb m L : Nat} (hbb : bb < wr.heap.size) (rz : wr.cell? ⟨bb, m * 4, none⟩ = some (.slice none 0 0)) (W4 : World)
    (hW : ((wr.setCell ⟨bb, m * 4, none⟩ (.slice (some ⟨wr.heap.size, 0, none⟩) L L)).alloc (.cells (mkB L) 5)).drew = W4) :
    Keep (fun b => b = bb ∨ b = wr.heap.size) wr W4 ∧ (∀ o, o ≠ m * 4 → W4.cell? ⟨bb, o, none⟩ = wr.cell? ⟨bb, o, none⟩) ∧ W4.cell? ⟨bb, m * 4, none⟩ = some (.slice (some ⟨wr.heap.size, 0, none⟩) L L) ∧ (∀ o, W4.frozen? ⟨bb, o, none⟩ = wr.frozen? ⟨bb, o, none⟩) ∧
      W4.heap[wr.heap.size]? = some (.cells ((List.replicate L 0).map bv).toArray 5 (0, 0)) := by
  have hs : (wr.setCell ⟨bb, m * 4, none⟩ (.slice (some ⟨wr.heap.size, 0, none⟩) L L)).heap.size = wr.heap.size := by simp
  have hb : Below wr.heap.size (wr.setCell ⟨bb, m * 4, none⟩ (.slice (some ⟨wr.heap.size, 0, none⟩) L L)) W4 := by
    rw [← hW]; exact ((Below.refl _ _).alloc (by rw [hs]; exact Nat.le_refl _) _).drew
  refine ⟨((Keep.refl _ _).set (Or.inl rfl) _).trans (Keep.of_below (by rw [hs]; exact hb)), fun o ho => ?_, ?_, fun o => ?_, ?_⟩
  · rw [hb.cell (p := ⟨bb, o, none⟩) hbb, far _ (fun e => ho e.2.symm)]
  · rw [hb.cell (p := ⟨bb, m * 4, none⟩) hbb]; exact World.cell?_setCell_same _ _ _ rz
  · rw [hb.frozen (p := ⟨bb, o, none⟩) hbb, World.frozen?_setCell]
  · rw [← hW]
    have := heap_alloc_new (wr.setCell ⟨bb, m * 4, none⟩ (.slice (some ⟨wr.heap.size, 0, none⟩) L L)) (.cells (mkB L) 5)
    rw [hs] at this
    exact this
set_option maxHeartbeats 1600000 in
theorem new_yes {D B P Y : Nat} (w : World) (hG : Geo D B P Y) :
    Calls Tryd.prog 8 #[.agg #[.int .i64 D, .int .i64 B, .int .i64 P, .int .i64 Y]] w fun e w' => ∃ cb bb pb, e = .returned (.tuple #[.pointer (some ⟨cb, 0, none⟩), .nilIface]) ∧ CH D B P Y w' cb bb pb (blank (P * Y)) ∧ (∀ b, Mine (D * B) cb bb pb b → w.heap.size ≤ b) ∧ Below w.heap.size w w' := by
  have d1 := hG.d1
  have b1 := hG.b1
  have p1 := hG.p1
  have y1 := hG.y1
  have hn := hG.n
  have hl := hG.l
  have HGI : Hid (GeoI D B P Y) := by
    show GeoI _ _ _ _
    have := hG.d0; have := hG.b0; have := hG.p0; have := hG.y0; have := hG.y8
    exact ⟨by omega, by omega, by omega, by omega, by omega⟩
  obtain ⟨n, HN⟩ : ∃ n, Hid (D * B = n) := ⟨_, rfl⟩
  obtain ⟨L, HL⟩ : ∃ L, Hid (P * Y = L) := ⟨_, rfl⟩
  have hm1 : (D : Int) * (B : Int) = (n : Int) := by
    have : (D : Int) * (B : Int) = ((D * B : Nat) : Int) := by simp
    rw [this, HN.out]
  have hm2 : (P : Int) * (Y : Int) = (L : Int) := by
    have : (P : Int) * (Y : Int) = ((P * Y : Nat) : Int) := by simp
    rw [this, HL.out]
  rw [HN.out] at hn
  rw [HL.out] at hl
  have hwn : IntKind.i64.wrap (n : Int) = (n : Int) := by rw [IntKind.wrap_i64]; omega
  have hwl : IntKind.i64.wrap (L : Int) = (L : Int) := by rw [IntKind.wrap_i64]; omega
  have mk1 := fun wz => made_rows n (by omega) wz
  have mk2 := fun wz => made_bytes L (by omega) wz
  clear hG
  go_enter Tryd.func8, Tryd.ntmps8
  go_wp2_with fail
  refine (isGeo_yes D B P Y _ HGI.out).mono ?_
  rintro e w1 ⟨rfl, hb1⟩
  have hg := fun o => hb1.cell (p := ⟨w.heap.size, o, none⟩) (by simp)
  have g0 := hg 0
  have g1 := hg 1
  have g2 := hg 2
  have g3 := hg 3
  simp at g0 g1 g2 g3
  have hB : Below w.heap.size w w1 := ((Below.refl _ _).alloc (Nat.le_refl _) _).trans (hb1.mono (by simp))
  have hlt : w.heap.size < w1.heap.size := by have := hb1.size; simp at this; omega
  clear hb1 hg HGI
  go_wp2
  go_region
  have HP := PH.first (D := D) (B := B) hlt g2 g3 n HN.out
  have HB2 : Below w.heap.size w ((w1.alloc (.cells (mkR n) 63)).alloc (.cells #[.bool false, .int .i64 (D : Int), .int .i64 (B : Int), .int .i64 (P : Int), .int .i64 (Y : Int), .slice (some ⟨w1.heap.size, 0, none⟩) n n] 44)).drew := ((hB.alloc hB.size _).alloc (by simp; omega) _).drew
  generalize ((w1.alloc (.cells (mkR n) 63)).alloc (.cells #[.bool false, .int .i64 (D : Int), .int .i64 (B : Int), .int .i64 (P : Int), .int .i64 (Y : Int), .slice (some ⟨w1.heap.size, 0, none⟩) n n] 44)).drew = W2 at HP HB2 ⊢
  have hN1 : w.heap.size ≤ w1.heap.size := by omega
  clear mk1 g0 g1 g2 g3 hB
  generalize w1.heap.size = bb at HP hlt hN1 ⊢
  have c5 := HP.c5
  have HP0 : Hid (PH D B n P Y W2 w.heap.size (bb + 1) bb (fun _ => 0) 0) := HP
  clear HP
  go_wp2
  go_loopw [24] (fun j wr => ∃ (m : Nat) (pb : Nat → Nat), m ≤ n ∧ j = .int .i64 m ∧ Hid (PH D B n P Y wr w.heap.size (bb + 1) bb pb m ∧ (∀ k, k < m → w.heap.size ≤ pb k) ∧ Below w.heap.size w wr)) (fun j _ => n - (intOf j).toNat)
  case atStart => exact ⟨0, _, by omega, rfl, HP0.out, (fun k hk => by omega), HB2⟩
  case round =>
    obtain ⟨m, pb, hm, rfl, hr⟩ := hrel
    clear c5 HP0 HB2
    by_cases hlt2 : m < n
    · have c5 := hr.out.1.c5
      have g2 := hr.out.1.g2
      have g3 := hr.out.1.g3
      have rz := hr.out.1.rz m (Nat.le_refl _) hlt2
      have fb := hr.out.1.fb (m * 4)
      have hbb : bb < wr.heap.size := World.block_lt_of_cell? wr _ rz
      have hcb : bb + 1 < wr.heap.size := World.block_lt_of_cell? wr _ c5
      go_wp2
      go_region
      generalize hW : ((wr.setCell ⟨bb, m * 4, none⟩ (.slice (some ⟨wr.heap.size, 0, none⟩) L L)).alloc (.cells (mkB L) 5)).drew = W4
      obtain ⟨q1, q2, q3, q4, q5⟩ := new_put hbb rz W4 hW
      have hne : bb ≠ wr.heap.size := Nat.ne_of_lt hbb
      have c5b : W4.cell? ⟨bb + 1, 5, none⟩ = some (.slice (some ⟨bb, 0, none⟩) n n) := by
        rw [q1.cell (p := ⟨bb + 1, 5, none⟩) hcb (fun e => e.elim (fun e => by have e : bb + 1 = bb := e; omega) (fun e => by have e : bb + 1 = wr.heap.size := e; omega))]; exact c5
      have hfill := fill_row bb (m * 4) wr.heap.size 255 (List.replicate L 0) W4 (by rw [List.length_replicate]; omega) hne (by rw [List.length_replicate]; exact q3) q5
      rw [List.length_replicate] at hfill
      have HQ : Hid (Keep (fun b => b = bb ∨ b = wr.heap.size) wr W4 ∧ (∀ o, o ≠ m * 4 → W4.cell? ⟨bb, o, none⟩ = wr.cell? ⟨bb, o, none⟩) ∧ W4.cell? ⟨bb, m * 4, none⟩ = some (.slice (some ⟨wr.heap.size, 0, none⟩) L L) ∧ (∀ o, W4.frozen? ⟨bb, o, none⟩ = wr.frozen? ⟨bb, o, none⟩)) := ⟨q1, q2, q3, q4⟩
      clear hW q1 q2 q3 q4 q5 c5 g2 g3 rz fb
      go_wp2_with fail
      refine hfill.mono ?_
      rintro e w5 ⟨rfl, h5, hk5⟩
      have HR : Hid (PH D B n P Y w5 w.heap.size (bb + 1) bb (upd pb m wr.heap.size) (m + 1) ∧ (∀ k, k < m + 1 → w.heap.size ≤ upd pb m wr.heap.size k) ∧ Below w.heap.size w w5) := by
        obtain ⟨q1, q2, q3, q4⟩ := HQ.out
        have hs4 : wr.heap.size ≤ W4.heap.size := q1.size
        have hbb4 : bb < W4.heap.size := by omega
        have hk : Keep (fun b => b = bb ∨ b = wr.heap.size) wr w5 := q1.trans (hk5.mono fun b hb => Or.inr hb)
        have hle := hr.out.2.2.size
        refine ⟨hr.out.1.step hlt2 hk hbb (fun o ho => ?_) ?_ (fun o => ?_) (by rw [HL.out]; exact h5), fun k hk' => ?_, hr.out.2.2.trans (hk.below hle (fun b hb => hb.elim (fun e => by omega) (fun e => by omega)))⟩
        · rw [hk5.cell (p := ⟨bb, o, none⟩) hbb4 hne]; exact q2 o ho
        · rw [hk5.cell (p := ⟨bb, m * 4, none⟩) hbb4 hne, HL.out]; exact q3
        · rw [hk5.frozen (p := ⟨bb, o, none⟩) hbb4 hne, q4 o]; exact hr.out.1.fb o
        · by_cases e : k = m
          · rw [e, upd_same]; exact hle
          · rw [upd_ne _ _ _ _ e]; exact hr.out.2.1 k (by omega)
      clear h5 hk5 HQ hfill
      go_wp2
      go_roundw
      case rel => exact ⟨m + 1, _, by omega, by go_num, HR.out⟩
      case measure => simp [intOf]; omega
    · obtain rfl : m = n := by omega
      have HF : Hid (CH D B P Y wr (bb + 1) bb pb (blank (P * Y))) := by
        have h := hr.out.1
        rw [← HN.out] at h
        exact h.done
      go_wp2
      go_ret2
      refine ⟨_, _, pb, rfl, HF.out, ?_, hr.out.2.2⟩
      rintro b (rfl | rfl | ⟨k, hk, rfl⟩)
      · omega
      · omega
      · rw [HN.out] at hk; exact hr.out.2.1 k hk
end Go.Proofs.YtjeelaaimhckhabDoor
