/-
  What the call of the document's NewChip gives: a blank chip in new memory.
-/
import Derived.Test.YtjeelaaimhckhabDoorRefErr
import Derived.Laws.AppendOwnNone
namespace Go.Proofs.YtjeelaaimhckhabDoor
open Go.RowKit
set_option linter.unusedVariables false

theorem info3 : (Tryd.prog.info? 3).map (fun i => (i.zero, i.size, i.bytes)) = some (some (.int .i64 0), 1, 8) := by kernel_rfl
theorem info4 : (Tryd.prog.info? 4).map (fun i => (i.zero, i.size, i.bytes)) = some (some (.bool false), 1, 1) := by kernel_rfl
def mkI (n : Nat) : Array Value := (List.replicate n (Value.int .i64 0)).toArray
def mkF (n : Nat) : Array Value := (List.replicate n (Value.bool false)).toArray
theorem made_ints (n : Nat) (hn : n ≤ 64) (w : World) : (Instr.makeSlice 45 (.int .i64 (n : Int)) (.int .i64 (n : Int))).run Tryd.prog w = .ok (.slice (some ⟨w.heap.size, 0, none⟩) n n) (w.alloc (.cells (mkI n) 3)) := by
  obtain ⟨i0, hi, hz0, hz1, hz2⟩ := info_parts info3
  have h := run_make (P := Tryd.prog) w 45 3 i0 (.int .i64 0) Tryd.underlying45 hi hz0 .i64 .i64 n n (by omega) (by omega) (by rw [hz2]; omega) (by omega)
  rw [h]
  have e : madeCells (Value.int .i64 0).cells ((n : Int).toNat * i0.size) = mkI n := by
    unfold mkI
    apply Array.toList_inj.1
    rw [hz1, Int.toNat_natCast, Nat.mul_one]
    exact toList_madeCells_one (Value.int .i64 0) n
  rw [e]
  simp
theorem made_bools (n : Nat) (hn : n ≤ 64) (w : World) : (Instr.makeSlice 46 (.int .i64 (n : Int)) (.int .i64 (n : Int))).run Tryd.prog w = .ok (.slice (some ⟨w.heap.size, 0, none⟩) n n) (w.alloc (.cells (mkF n) 4)) := by
  obtain ⟨i0, hi, hz0, hz1, hz2⟩ := info_parts info4
  have h := run_make (P := Tryd.prog) w 46 4 i0 (.bool false) Tryd.underlying46 hi hz0 .i64 .i64 n n (by omega) (by omega) (by rw [hz2]; omega) (by omega)
  rw [h]
  have e : madeCells (Value.bool false).cells ((n : Int).toNat * i0.size) = mkF n := by
    unfold mkF
    apply Array.toList_inj.1
    rw [hz1, Int.toNat_natCast, Nat.mul_one]
    exact toList_madeCells_one (Value.bool false) n
  rw [e]
  simp
/-- The document's chip in the making: all but its bytes. -/
structure RP (D B n P Y : Nat) (w : World) (gb rb nb wb db : Nat) : Prop where
  g2 : w.cell? ⟨gb, 2, none⟩ = some (.int .i64 (P : Int))
  g3 : w.cell? ⟨gb, 3, none⟩ = some (.int .i64 (Y : Int))
  c0 : w.cell? ⟨rb, 0, none⟩ = some (.int .i64 (D : Int))
  c1 : w.cell? ⟨rb, 1, none⟩ = some (.int .i64 (B : Int))
  c2 : w.cell? ⟨rb, 2, none⟩ = some (.int .i64 (P : Int))
  c3 : w.cell? ⟨rb, 3, none⟩ = some (.int .i64 (Y : Int))
  c4 : w.cell? ⟨rb, 4, none⟩ = some (.slice none 0 0)
  c5 : w.cell? ⟨rb, 5, none⟩ = some (.slice (some ⟨nb, 0, none⟩) n n)
  c6 : w.cell? ⟨rb, 6, none⟩ = some (.slice (some ⟨wb, 0, none⟩) n n)
  c7 : w.cell? ⟨rb, 7, none⟩ = some (.slice (some ⟨db, 0, none⟩) n n)
  c8 : w.cell? ⟨rb, 8, none⟩ = some (.bool false)
  hr : ∀ o, w.frozen? ⟨rb, o, none⟩ = false
  hn : w.heap[nb]? = some (.cells (mkI n) 3 (0, 0))
  hw : w.heap[wb]? = some (.cells (mkI n) 3 (0, 0))
  hd : w.heap[db]? = some (.cells (mkF n) 4 (0, 0))
  n0 : gb ≠ rb ∧ nb ≠ rb ∧ wb ≠ rb ∧ db ≠ rb ∧ wb ≠ nb ∧ db ≠ nb ∧ db ≠ wb
theorem rp_first {D B n P Y : Nat} (w : World) (o1 o2 o3 : Obj) (nb wb db : Nat)
    (h1 : (nb = w.heap.size + 1 ∧ o1 = .cells (mkI n) 3 (0, 0)) ∨ (nb = w.heap.size + 2 ∧ o2 = .cells (mkI n) 3 (0, 0)) ∨ (nb = w.heap.size + 3 ∧ o3 = .cells (mkI n) 3 (0, 0)))
    (h2 : (wb = w.heap.size + 1 ∧ o1 = .cells (mkI n) 3 (0, 0)) ∨ (wb = w.heap.size + 2 ∧ o2 = .cells (mkI n) 3 (0, 0)) ∨ (wb = w.heap.size + 3 ∧ o3 = .cells (mkI n) 3 (0, 0)))
    (h3 : (db = w.heap.size + 1 ∧ o1 = .cells (mkF n) 4 (0, 0)) ∨ (db = w.heap.size + 2 ∧ o2 = .cells (mkF n) 4 (0, 0)) ∨ (db = w.heap.size + 3 ∧ o3 = .cells (mkF n) 4 (0, 0)))
    (h4 : wb ≠ nb ∧ db ≠ nb ∧ db ≠ wb) (W : World)
    (hW : (((((w.alloc (.cells #[.int .i64 (D : Int), .int .i64 (B : Int), .int .i64 (P : Int), .int .i64 (Y : Int)] 23)).alloc o1).alloc o2).alloc o3).alloc (.cells #[.int .i64 (D : Int), .int .i64 (B : Int), .int .i64 (P : Int), .int .i64 (Y : Int), .slice none 0 0, .slice (some ⟨nb, 0, none⟩) n n, .slice (some ⟨wb, 0, none⟩) n n, .slice (some ⟨db, 0, none⟩) n n, .bool false] 48)).drew = W) :
    RP D B n P Y W w.heap.size (w.heap.size + 4) nb wb db ∧ Below w.heap.size w W ∧ W.heap.size = w.heap.size + 5 := by
  generalize hG : w.alloc (.cells #[.int .i64 (D : Int), .int .i64 (B : Int), .int .i64 (P : Int), .int .i64 (Y : Int)] 23) = w1 at hW
  have s1 : w1.heap.size = w.heap.size + 1 := by rw [← hG]; simp
  have a0 : w1.heap[w.heap.size]? = some (.cells #[.int .i64 (D : Int), .int .i64 (B : Int), .int .i64 (P : Int), .int .i64 (Y : Int)] 23 (0, 0)) := by rw [← hG]; exact heap_alloc_new w _
  have s2 : (w1.alloc o1).heap.size = w.heap.size + 2 := by simp [s1]
  have s3 : ((w1.alloc o1).alloc o2).heap.size = w.heap.size + 3 := by simp [s1]
  have s4 : (((w1.alloc o1).alloc o2).alloc o3).heap.size = w.heap.size + 4 := by simp [s1]
  have e0 : W.heap[w.heap.size]? = some (.cells #[.int .i64 (D : Int), .int .i64 (B : Int), .int .i64 (P : Int), .int .i64 (Y : Int)] 23 (0, 0)) := by
    rw [← hW]
    show ((((w1.alloc o1).alloc o2).alloc o3).alloc _).heap[w.heap.size]? = _
    rw [Below.heap_alloc _ _ _ (by rw [s4]; omega), Below.heap_alloc _ _ _ (by rw [s3]; omega), Below.heap_alloc _ _ _ (by rw [s2]; omega), Below.heap_alloc _ _ _ (by rw [s1]; omega)]
    exact a0
  have e1 : W.heap[w.heap.size + 1]? = some o1 := by
    rw [← hW]
    show ((((w1.alloc o1).alloc o2).alloc o3).alloc _).heap[w.heap.size + 1]? = _
    rw [Below.heap_alloc _ _ _ (by rw [s4]; omega), Below.heap_alloc _ _ _ (by rw [s3]; omega), Below.heap_alloc _ _ _ (by rw [s2]; omega), ← s1]
    exact heap_alloc_new w1 o1
  have e2 : W.heap[w.heap.size + 2]? = some o2 := by
    rw [← hW]
    show ((((w1.alloc o1).alloc o2).alloc o3).alloc _).heap[w.heap.size + 2]? = _
    rw [Below.heap_alloc _ _ _ (by rw [s4]; omega), Below.heap_alloc _ _ _ (by rw [s3]; omega), ← s2]
    exact heap_alloc_new (w1.alloc o1) o2
  have e3 : W.heap[w.heap.size + 3]? = some o3 := by
    rw [← hW]
    show ((((w1.alloc o1).alloc o2).alloc o3).alloc _).heap[w.heap.size + 3]? = _
    rw [Below.heap_alloc _ _ _ (by rw [s4]; omega), ← s3]
    exact heap_alloc_new ((w1.alloc o1).alloc o2) o3
  have e4 : W.heap[w.heap.size + 4]? = some (.cells #[.int .i64 (D : Int), .int .i64 (B : Int), .int .i64 (P : Int), .int .i64 (Y : Int), .slice none 0 0, .slice (some ⟨nb, 0, none⟩) n n, .slice (some ⟨wb, 0, none⟩) n n, .slice (some ⟨db, 0, none⟩) n n, .bool false] 48 (0, 0)) := by
    rw [← hW, ← s4]
    exact heap_alloc_new (((w1.alloc o1).alloc o2).alloc o3) _
  have hbl : Below w.heap.size w w1 := by rw [← hG]; exact (Below.refl _ _).alloc (Nat.le_refl _) _
  refine ⟨?_, ?_, ?_⟩
  · exact {
      g2 := by simp [World.cell?, e0]
      g3 := by simp [World.cell?, e0]
      c0 := by simp [World.cell?, e4]
      c1 := by simp [World.cell?, e4]
      c2 := by simp [World.cell?, e4]
      c3 := by simp [World.cell?, e4]
      c4 := by simp [World.cell?, e4]
      c5 := by simp [World.cell?, e4]
      c6 := by simp [World.cell?, e4]
      c7 := by simp [World.cell?, e4]
      c8 := by simp [World.cell?, e4]
      hr := fun o => row_free e4 o
      hn := by
        rcases h1 with ⟨q, r⟩ | ⟨q, r⟩ | ⟨q, r⟩
        · rw [q, e1, r]
        · rw [q, e2, r]
        · rw [q, e3, r]
      hw := by
        rcases h2 with ⟨q, r⟩ | ⟨q, r⟩ | ⟨q, r⟩
        · rw [q, e1, r]
        · rw [q, e2, r]
        · rw [q, e3, r]
      hd := by
        rcases h3 with ⟨q, r⟩ | ⟨q, r⟩ | ⟨q, r⟩
        · rw [q, e1, r]
        · rw [q, e2, r]
        · rw [q, e3, r]
      n0 := ⟨by omega, by omega, by omega, by omega, h4⟩ }
  · rw [← hW]
    exact ((((hbl.alloc (by omega) _).alloc (by omega) _).alloc (by omega) _).alloc (by omega) _).drew
  · rw [← hW]
    show ((((w1.alloc o1).alloc o2).alloc o3).alloc _).heap.size = _
    simp [s1]
theorem owned_form {w : World} {base n : Nat} {v : Value} {xs : List Value} (h : w.ownsRow base 5 1 v n xs) : ∃ ao cp, v = .slice ao n cp := by
  rcases h.2 with ⟨rfl, rfl⟩ | ⟨g, cap, cur, rfl, _⟩
  · exact ⟨none, 0, rfl⟩
  · exact ⟨_, _, rfl⟩
theorem own_other {w : World} {base n b o : Nat} {v u : Value} {xs : List Value} (h : w.ownsRow base 5 1 v n xs) (hb : b < base) : (w.setCell ⟨b, o, none⟩ u).ownsRow base 5 1 v n xs := by
  obtain ⟨h1, h2⟩ := h
  refine ⟨h1, ?_⟩
  rcases h2 with h2 | ⟨g, cap, cur, hv, hb', hh, r⟩
  · exact Or.inl h2
  · exact Or.inr ⟨g, cap, cur, hv, hb', by rw [Below.heap_setCell _ _ _ _ (show g ≠ b by omega)]; exact hh, r⟩
/-- The bytes so far. -/
structure RL (W wr : World) (rb i : Nat) (v : Value) : Prop where
  v4 : wr.cell? ⟨rb, 4, none⟩ = some v
  own : wr.ownsRow W.heap.size 5 1 v i (List.replicate i (bv 255))
  kp : Keep (fun b => b = rb ∨ W.heap.size ≤ b) W wr
  rc : ∀ o, o ≠ 4 → wr.cell? ⟨rb, o, none⟩ = W.cell? ⟨rb, o, none⟩
  rf : ∀ o, wr.frozen? ⟨rb, o, none⟩ = W.frozen? ⟨rb, o, none⟩
theorem RL.done {D B n P Y gb rb nb wb db NN : Nat} {W wr : World} {v : Value} (hP : RP D B n P Y W gb rb nb wb db) (h : RL W wr rb NN v) (hn : D * B = n) (hN : D * B * (P * Y) = NN) (h0 : 0 < NN) :
    ∃ ab cap, RH D B P Y wr rb ab nb wb db cap (blank (P * Y)) ∧ W.heap.size ≤ ab := by
  rcases h.own.2 with ⟨_, h2⟩ | ⟨g, cap, cur, hv, hb, hh, hle, hmx, hsz, htk⟩
  · omega
  · have hO : wr.ownsRow W.heap.size 5 1 (.slice (some ⟨g, 0, none⟩) NN cap) NN (List.replicate NN (bv 255)) := by rw [← hv]; exact h.own
    have hlt : ∀ b, (b = nb ∨ b = wb ∨ b = db) → b < W.heap.size ∧ b ≠ rb := by
      rintro b (rfl | rfl | rfl)
      · exact ⟨heap_lt hP.hn, hP.n0.2.1⟩
      · exact ⟨heap_lt hP.hw, hP.n0.2.2.1⟩
      · exact ⟨heap_lt hP.hd, hP.n0.2.2.2.1⟩
    have hrb : rb < W.heap.size := World.block_lt_of_cell? W _ hP.c0
    have hbk : ∀ b, (b = nb ∨ b = wb ∨ b = db) → wr.heap[b]? = W.heap[b]? := fun b hb' => h.kp.block b (hlt b hb').1 (fun e => e.elim (fun e => (hlt b hb').2 e) (fun e => by have := (hlt b hb').1; omega))
    have l1 := hlt nb (Or.inl rfl)
    have l2 := hlt wb (Or.inr (Or.inl rfl))
    have l3 := hlt db (Or.inr (Or.inr rfl))
    have k1 := (hbk nb (Or.inl rfl)).trans hP.hn
    have k2 := (hbk wb (Or.inr (Or.inl rfl))).trans hP.hw
    have k3 := (hbk db (Or.inr (Or.inr rfl))).trans hP.hd
    refine ⟨g, cap, ?_, hb⟩
    exact {
      c0 := by rw [h.rc 0 (by omega)]; exact hP.c0
      c1 := by rw [h.rc 1 (by omega)]; exact hP.c1
      c2 := by rw [h.rc 2 (by omega)]; exact hP.c2
      c3 := by rw [h.rc 3 (by omega)]; exact hP.c3
      c4 := by rw [h.v4, hv, hN]
      c5 := by rw [h.rc 5 (by omega), hn]; exact hP.c5
      c6 := by rw [h.rc 6 (by omega), hn]; exact hP.c6
      c7 := by rw [h.rc 7 (by omega), hn]; exact hP.c7
      c8 := by rw [h.rc 8 (by omega)]; exact hP.c8
      fr := by
        rintro b o (rfl | rfl | rfl | rfl | rfl)
        · rw [h.rf]; exact hP.hr o
        · exact World.ownsRow.frozenAt hO o
        · exact row_free k1 o
        · exact row_free k2 o
        · exact row_free k3 o
      hb := fun k j hk hj => by
        have hlt2 : k * (P * Y) + j < NN := by
          have : (k + 1) * (P * Y) ≤ D * B * (P * Y) := Nat.mul_le_mul_right _ hk
          rw [Nat.add_mul, Nat.one_mul] at this
          omega
        rw [World.ownsRow.cellAt hO _ (by omega), List.getElem?_replicate, if_pos hlt2]
        show some (bv 255) = some (.int .u8 ((((List.replicate (P * Y) 255)[j]?.getD 0 : Nat)) : Int))
        rw [List.getElem?_replicate, if_pos hj]
        rfl
      r1 := fun k hk => by rw [hn] at hk; simp [World.cell?, k1, mkI, hk, blank]
      r2 := fun k hk => by rw [hn] at hk; simp [World.cell?, k2, mkI, hk, blank]
      r3 := fun k hk => by rw [hn] at hk; simp [World.cell?, k3, mkF, hk, blank]
      n0 := ⟨by omega, l1.2, l2.2, l3.2, by omega, by omega, by omega, hP.n0.2.2.2.2.1, hP.n0.2.2.2.2.2.1, hP.n0.2.2.2.2.2.2⟩
      hl := fun k hk => List.length_replicate
      hn := fun k => Nat.zero_le _
      hc := by rw [hN]; exact hle }
set_option maxHeartbeats 1600000 in
theorem rnew_any {D B P Y : Nat} (w : World) (hG : Geo D B P Y) :
    Calls Tryd.prog 11 #[.agg #[.int .i64 D, .int .i64 B, .int .i64 P, .int .i64 Y]] w fun e w' => ∃ rb ab nb wb db cap, e = .returned (.pointer (some ⟨rb, 0, none⟩)) ∧ RH D B P Y w' rb ab nb wb db cap (blank (P * Y)) ∧ (∀ b, RMine rb ab nb wb db b → w.heap.size ≤ b) ∧ Below w.heap.size w w' := by
  have d1 := hG.d1
  have b1 := hG.b1
  have p1 := hG.p1
  have y1 := hG.y1
  have hn := hG.n
  have hl := hG.l
  have hNm : D * B * (P * Y) ≤ 262144 := by
    have : D * B * (P * Y) ≤ 64 * 4096 := Nat.mul_le_mul hn.2 hl.2
    exact this
  have hNP : D * B * P ≤ 1024 := by
    have : D * B * P ≤ 64 * 16 := Nat.mul_le_mul hn.2 p1
    exact this
  have HG : Hid (Geo D B P Y) := hG
  have m1 : (D : Int) * (B : Int) = ((D * B : Nat) : Int) := (Int.natCast_mul _ _).symm
  have m2 : ((D * B : Nat) : Int) * (P : Int) = ((D * B * P : Nat) : Int) := (Int.natCast_mul _ _).symm
  have m3 : ((D * B * P : Nat) : Int) * (Y : Int) = ((D * B * (P * Y) : Nat) : Int) := by rw [← Nat.mul_assoc]; exact (Int.natCast_mul _ _).symm
  obtain ⟨NN, HNN⟩ : ∃ NN, Hid (D * B * (P * Y) = NN) := ⟨_, rfl⟩
  rw [HNN.out] at hNm m3
  obtain ⟨NP, HNP⟩ : ∃ NP, Hid (D * B * P = NP) := ⟨_, rfl⟩
  rw [HNP.out] at hNP m3 m2
  obtain ⟨n, HN⟩ : ∃ n, Hid (D * B = n) := ⟨_, rfl⟩
  rw [HN.out] at m1 m2 hn
  have w1 : IntKind.i64.wrap (n : Int) = (n : Int) := by rw [IntKind.wrap_i64]; omega
  have w2 : IntKind.i64.wrap (NP : Int) = (NP : Int) := by rw [IntKind.wrap_i64]; omega
  have w3 : IntKind.i64.wrap (NN : Int) = (NN : Int) := by rw [IntKind.wrap_i64]; omega
  have k1 := fun wz => made_ints n (by omega) wz
  have k2 := fun wz => made_bools n (by omega) wz
  obtain ⟨i0, HI⟩ : ∃ i0, Hid (Tryd.prog.info? 5 = some i0 ∧ i0.zero = some (.int .u8 0) ∧ i0.size = 1 ∧ i0.bytes = 1) := info_parts info5
  have h0N : Hid (0 < NN) := by
    show 0 < NN
    rw [← HNN.out]
    exact Nat.mul_pos (by rw [HN.out]; omega) (by omega)
  clear hG hl
  go_enter Tryd.func11, Tryd.ntmps11
  go_wp2
  go_region
  · have hW := rp_first (D := D) (B := B) (n := n) (P := P) (Y := Y) w (.cells (mkI n) 3) (.cells (mkI n) 3) (.cells (mkF n) 4) (w.heap.size + 1) (w.heap.size + 1 + 1) (w.heap.size + 1 + 1 + 1) (Or.inl ⟨rfl, rfl⟩) (Or.inr (Or.inl ⟨rfl, rfl⟩)) (Or.inr (Or.inr ⟨rfl, rfl⟩)) ⟨by omega, by omega, by omega⟩ _ rfl
    generalize hW2 : (((((w.alloc (.cells #[.int .i64 (D : Int), .int .i64 (B : Int), .int .i64 (P : Int), .int .i64 (Y : Int)] 23)).alloc (.cells (mkI n) 3)).alloc (.cells (mkI n) 3)).alloc (.cells (mkF n) 4)).alloc (.cells #[.int .i64 (D : Int), .int .i64 (B : Int), .int .i64 (P : Int), .int .i64 (Y : Int), .slice none 0 0, .slice (some ⟨w.heap.size + 1, 0, none⟩) n n, .slice (some ⟨w.heap.size + 1 + 1, 0, none⟩) n n, .slice (some ⟨w.heap.size + 1 + 1 + 1, 0, none⟩) n n, .bool false] 48)).drew = W2 at hW ⊢
    have HP : Hid (RP D B n P Y W2 w.heap.size (w.heap.size + 1 + 1 + 1 + 1) (w.heap.size + 1) (w.heap.size + 1 + 1) (w.heap.size + 1 + 1 + 1) ∧ Below w.heap.size w W2 ∧ W2.heap.size = w.heap.size + 5) := hW
    clear hW hW2
    clear k1 k2
    go_wp2
    go_loopw [5] (fun j wr => ∃ i v, i ≤ NN ∧ j = .int .i64 (i : Nat) ∧ Hid (RL W2 wr (w.heap.size + 1 + 1 + 1 + 1) i v)) (fun j _ => NN - (intOf j).toNat)
    case atStart => exact ⟨0, _, by omega, rfl, HP.out.1.c4, World.ownsRow_nil _ _ _ _, Keep.refl _ _, (fun _ _ => rfl), (fun _ => rfl)⟩
    case round =>
      obtain ⟨i, v, hi, rfl, hR⟩ := hrel
      have hgb : w.heap.size < W2.heap.size := World.block_lt_of_cell? W2 _ HP.out.1.g2
      have hrb : (w.heap.size + 1 + 1 + 1 + 1) < W2.heap.size := World.block_lt_of_cell? W2 _ HP.out.1.c0
      have hng : ¬ (w.heap.size = (w.heap.size + 1 + 1 + 1 + 1) ∨ W2.heap.size ≤ w.heap.size) := fun e => e.elim (fun e => HP.out.1.n0.1 e) (fun e => by omega)
      have g2 := (hR.out.kp.cell (p := ⟨w.heap.size, 2, none⟩) hgb hng).trans HP.out.1.g2
      have g3 := (hR.out.kp.cell (p := ⟨w.heap.size, 3, none⟩) hgb hng).trans HP.out.1.g3
      by_cases hlt : i < NN
      · obtain ⟨ao, cp, rfl⟩ := owned_form hR.out.own
        have v4 := hR.out.v4
        have hfz : wr.frozen? ⟨(w.heap.size + 1 + 1 + 1 + 1), 4, none⟩ = false := by rw [hR.out.rf]; exact HP.out.1.hr 4
        have hsz : W2.heap.size ≤ wr.heap.size := hR.out.kp.size
        have hrw : (w.heap.size + 1 + 1 + 1 + 1) < wr.heap.size := by omega
        go_wp2_with (at_builtin; refine wpList_append_own _ rfl (.tmp 35) (.tmp 36) 36 rfl W2.heap.size 5 i0 (.int .u8 0) 1 1 Tryd.underlying36 HI.out.1 HI.out.2.1 HI.out.2.2.1 HI.out.2.2.2 rfl (by decide) (.slice ao i cp) i (List.replicate i (bv 255)) rfl (hR.out.own.alloc _) ⟨wr.heap.size, 0, none⟩ 1 1 [.int .u8 255] rfl ?d1 ?d2 ?d3 ?d4 ?d5 ?d6 ?_)
        case d1 => rfl
        case d2 => exact cell_one_new _ _ _
        case d3 => intro u hu; simp at hu; subst hu; rfl
        case d4 => unfold maxLen; omega
        case d5 => omega
        case d6 => simp; omega
        intro v' w2 hown2 hgrow hv
        obtain ⟨ao2, cp2, hv2⟩ := owned_form hown2
        have hrow : ∀ g, Value.ownBlock (.slice ao i cp) = some g → W2.heap.size ≤ g := fun g hg => (World.ownsRow.lt hR.out.own g hg).1
        have hneR : (some (w.heap.size + 1 + 1 + 1 + 1) : Option Nat) ≠ Value.ownBlock (.slice ao i cp) := fun e => by have := hrow (w.heap.size + 1 + 1 + 1 + 1) e.symm; omega
        have hbB : Below W2.heap.size (wr.alloc (.cells #[.int .u8 255] 5)) w2 := (Below.refl _ _).grown hgrow (by simp; omega) hrow
        have hbA : Below wr.heap.size wr (wr.alloc (.cells #[.int .u8 255] 5)) := (Below.refl _ _).alloc (Nat.le_refl _) _
        have hbC : Below W2.heap.size wr w2 := (hbA.mono hsz).trans hbB
        have v4b : w2.cell? ⟨(w.heap.size + 1 + 1 + 1 + 1), 4, none⟩ = some (.slice ao i cp) := by rw [hbC.cell (p := ⟨(w.heap.size + 1 + 1 + 1 + 1), 4, none⟩) hrb]; exact v4
        have hfb : w2.frozen? ⟨(w.heap.size + 1 + 1 + 1 + 1), 4, none⟩ = false := by rw [hbC.frozen (p := ⟨(w.heap.size + 1 + 1 + 1 + 1), 4, none⟩) hrb]; exact hfz
        have HR2 : Hid (RL W2 (w2.setCell ⟨(w.heap.size + 1 + 1 + 1 + 1), 4, none⟩ (.slice ao2 (i + 1) cp2)) (w.heap.size + 1 + 1 + 1 + 1) (i + 1) (.slice ao2 (i + 1) cp2)) := by
          refine ⟨World.cell?_setCell_same _ _ _ v4b, ?_, ?_, fun o ho => ?_, fun o => ?_⟩
          · rw [hv2] at hown2
            have e : List.replicate i (bv 255) ++ [Value.int .u8 255] = List.replicate (i + 1) (bv 255) := by rw [List.replicate_succ']; rfl
            rw [e] at hown2
            exact own_other hown2 hrb
          · have hk2 : Keep (fun b => b = (w.heap.size + 1 + 1 + 1 + 1) ∨ W2.heap.size ≤ b) wr w2 := ⟨hbC.os, hbC.tape, hbC.output, hbC.size, fun k hk hs => hbC.block k (by
              have : ¬ W2.heap.size ≤ k := fun e => hs (Or.inr e)
              omega)⟩
            exact (hR.out.kp.trans hk2).set (Or.inl rfl) _
          · rw [far _ (fun e => ho e.2.symm), hbC.cell (p := ⟨(w.heap.size + 1 + 1 + 1 + 1), o, none⟩) hrb]; exact hR.out.rc o ho
          · rw [World.frozen?_setCell, hbC.frozen (p := ⟨(w.heap.size + 1 + 1 + 1 + 1), o, none⟩) hrb]; exact hR.out.rf o
        rw [hv2]
        clear hown2 hgrow hv hv2 hrow hneR hbB hbA hbC g2 g3 v4 hfz hR
        go_wp2
        first
          | exact ⟨⟨i + 1, _, by omega, by go_num, HR2.out⟩, by simp [intOf]; omega⟩
          | (refine ⟨?_, by simp [intOf]; omega⟩
             (repeat apply Exists.intro)
             refine ⟨?_, by rfl⟩
             exact ⟨i + 1, _, by omega, by go_num, HR2.out⟩)
      · obtain rfl : i = NN := by omega
        obtain ⟨ab, cap, hRH, hab⟩ := RL.done HP.out.1 hR.out HN.out HNN.out h0N.out
        have HF : Hid (RH D B P Y wr (w.heap.size + 1 + 1 + 1 + 1) ab (w.heap.size + 1) (w.heap.size + 1 + 1) (w.heap.size + 1 + 1 + 1) cap (blank (P * Y)) ∧ (∀ b, RMine (w.heap.size + 1 + 1 + 1 + 1) ab (w.heap.size + 1) (w.heap.size + 1 + 1) (w.heap.size + 1 + 1 + 1) b → w.heap.size ≤ b) ∧ Below w.heap.size w wr) := by
          refine ⟨hRH, ?_, ?_⟩
          · rintro b (rfl | rfl | rfl | rfl | rfl) <;> omega
          · exact HP.out.2.1.trans (hR.out.kp.below HP.out.2.1.size (fun b hb => hb.elim (fun e => by omega) (fun e => by omega)))
        clear hRH hR
        go_wp2
        go_ret
        exact ⟨_, ab, _, _, _, cap, rfl, HF.out⟩
  · have hW := rp_first (D := D) (B := B) (n := n) (P := P) (Y := Y) w (.cells (mkI n) 3) (.cells (mkF n) 4) (.cells (mkI n) 3) (w.heap.size + 1) (w.heap.size + 1 + 1 + 1) (w.heap.size + 1 + 1) (Or.inl ⟨rfl, rfl⟩) (Or.inr (Or.inr ⟨rfl, rfl⟩)) (Or.inr (Or.inl ⟨rfl, rfl⟩)) ⟨by omega, by omega, by omega⟩ _ rfl
    generalize hW2 : (((((w.alloc (.cells #[.int .i64 (D : Int), .int .i64 (B : Int), .int .i64 (P : Int), .int .i64 (Y : Int)] 23)).alloc (.cells (mkI n) 3)).alloc (.cells (mkF n) 4)).alloc (.cells (mkI n) 3)).alloc (.cells #[.int .i64 (D : Int), .int .i64 (B : Int), .int .i64 (P : Int), .int .i64 (Y : Int), .slice none 0 0, .slice (some ⟨w.heap.size + 1, 0, none⟩) n n, .slice (some ⟨w.heap.size + 1 + 1 + 1, 0, none⟩) n n, .slice (some ⟨w.heap.size + 1 + 1, 0, none⟩) n n, .bool false] 48)).drew = W2 at hW ⊢
    have HP : Hid (RP D B n P Y W2 w.heap.size (w.heap.size + 1 + 1 + 1 + 1) (w.heap.size + 1) (w.heap.size + 1 + 1 + 1) (w.heap.size + 1 + 1) ∧ Below w.heap.size w W2 ∧ W2.heap.size = w.heap.size + 5) := hW
    clear hW hW2
    clear k1 k2
    go_wp2
    go_loopw [5] (fun j wr => ∃ i v, i ≤ NN ∧ j = .int .i64 (i : Nat) ∧ Hid (RL W2 wr (w.heap.size + 1 + 1 + 1 + 1) i v)) (fun j _ => NN - (intOf j).toNat)
    case atStart => exact ⟨0, _, by omega, rfl, HP.out.1.c4, World.ownsRow_nil _ _ _ _, Keep.refl _ _, (fun _ _ => rfl), (fun _ => rfl)⟩
    case round =>
      obtain ⟨i, v, hi, rfl, hR⟩ := hrel
      have hgb : w.heap.size < W2.heap.size := World.block_lt_of_cell? W2 _ HP.out.1.g2
      have hrb : (w.heap.size + 1 + 1 + 1 + 1) < W2.heap.size := World.block_lt_of_cell? W2 _ HP.out.1.c0
      have hng : ¬ (w.heap.size = (w.heap.size + 1 + 1 + 1 + 1) ∨ W2.heap.size ≤ w.heap.size) := fun e => e.elim (fun e => HP.out.1.n0.1 e) (fun e => by omega)
      have g2 := (hR.out.kp.cell (p := ⟨w.heap.size, 2, none⟩) hgb hng).trans HP.out.1.g2
      have g3 := (hR.out.kp.cell (p := ⟨w.heap.size, 3, none⟩) hgb hng).trans HP.out.1.g3
      by_cases hlt : i < NN
      · obtain ⟨ao, cp, rfl⟩ := owned_form hR.out.own
        have v4 := hR.out.v4
        have hfz : wr.frozen? ⟨(w.heap.size + 1 + 1 + 1 + 1), 4, none⟩ = false := by rw [hR.out.rf]; exact HP.out.1.hr 4
        have hsz : W2.heap.size ≤ wr.heap.size := hR.out.kp.size
        have hrw : (w.heap.size + 1 + 1 + 1 + 1) < wr.heap.size := by omega
        go_wp2_with (at_builtin; refine wpList_append_own _ rfl (.tmp 35) (.tmp 36) 36 rfl W2.heap.size 5 i0 (.int .u8 0) 1 1 Tryd.underlying36 HI.out.1 HI.out.2.1 HI.out.2.2.1 HI.out.2.2.2 rfl (by decide) (.slice ao i cp) i (List.replicate i (bv 255)) rfl (hR.out.own.alloc _) ⟨wr.heap.size, 0, none⟩ 1 1 [.int .u8 255] rfl ?d1 ?d2 ?d3 ?d4 ?d5 ?d6 ?_)
        case d1 => rfl
        case d2 => exact cell_one_new _ _ _
        case d3 => intro u hu; simp at hu; subst hu; rfl
        case d4 => unfold maxLen; omega
        case d5 => omega
        case d6 => simp; omega
        intro v' w2 hown2 hgrow hv
        obtain ⟨ao2, cp2, hv2⟩ := owned_form hown2
        have hrow : ∀ g, Value.ownBlock (.slice ao i cp) = some g → W2.heap.size ≤ g := fun g hg => (World.ownsRow.lt hR.out.own g hg).1
        have hneR : (some (w.heap.size + 1 + 1 + 1 + 1) : Option Nat) ≠ Value.ownBlock (.slice ao i cp) := fun e => by have := hrow (w.heap.size + 1 + 1 + 1 + 1) e.symm; omega
        have hbB : Below W2.heap.size (wr.alloc (.cells #[.int .u8 255] 5)) w2 := (Below.refl _ _).grown hgrow (by simp; omega) hrow
        have hbA : Below wr.heap.size wr (wr.alloc (.cells #[.int .u8 255] 5)) := (Below.refl _ _).alloc (Nat.le_refl _) _
        have hbC : Below W2.heap.size wr w2 := (hbA.mono hsz).trans hbB
        have v4b : w2.cell? ⟨(w.heap.size + 1 + 1 + 1 + 1), 4, none⟩ = some (.slice ao i cp) := by rw [hbC.cell (p := ⟨(w.heap.size + 1 + 1 + 1 + 1), 4, none⟩) hrb]; exact v4
        have hfb : w2.frozen? ⟨(w.heap.size + 1 + 1 + 1 + 1), 4, none⟩ = false := by rw [hbC.frozen (p := ⟨(w.heap.size + 1 + 1 + 1 + 1), 4, none⟩) hrb]; exact hfz
        have HR2 : Hid (RL W2 (w2.setCell ⟨(w.heap.size + 1 + 1 + 1 + 1), 4, none⟩ (.slice ao2 (i + 1) cp2)) (w.heap.size + 1 + 1 + 1 + 1) (i + 1) (.slice ao2 (i + 1) cp2)) := by
          refine ⟨World.cell?_setCell_same _ _ _ v4b, ?_, ?_, fun o ho => ?_, fun o => ?_⟩
          · rw [hv2] at hown2
            have e : List.replicate i (bv 255) ++ [Value.int .u8 255] = List.replicate (i + 1) (bv 255) := by rw [List.replicate_succ']; rfl
            rw [e] at hown2
            exact own_other hown2 hrb
          · have hk2 : Keep (fun b => b = (w.heap.size + 1 + 1 + 1 + 1) ∨ W2.heap.size ≤ b) wr w2 := ⟨hbC.os, hbC.tape, hbC.output, hbC.size, fun k hk hs => hbC.block k (by
              have : ¬ W2.heap.size ≤ k := fun e => hs (Or.inr e)
              omega)⟩
            exact (hR.out.kp.trans hk2).set (Or.inl rfl) _
          · rw [far _ (fun e => ho e.2.symm), hbC.cell (p := ⟨(w.heap.size + 1 + 1 + 1 + 1), o, none⟩) hrb]; exact hR.out.rc o ho
          · rw [World.frozen?_setCell, hbC.frozen (p := ⟨(w.heap.size + 1 + 1 + 1 + 1), o, none⟩) hrb]; exact hR.out.rf o
        rw [hv2]
        clear hown2 hgrow hv hv2 hrow hneR hbB hbA hbC g2 g3 v4 hfz hR
        go_wp2
        first
          | exact ⟨⟨i + 1, _, by omega, by go_num, HR2.out⟩, by simp [intOf]; omega⟩
          | (refine ⟨?_, by simp [intOf]; omega⟩
             (repeat apply Exists.intro)
             refine ⟨?_, by rfl⟩
             exact ⟨i + 1, _, by omega, by go_num, HR2.out⟩)
      · obtain rfl : i = NN := by omega
        obtain ⟨ab, cap, hRH, hab⟩ := RL.done HP.out.1 hR.out HN.out HNN.out h0N.out
        have HF : Hid (RH D B P Y wr (w.heap.size + 1 + 1 + 1 + 1) ab (w.heap.size + 1) (w.heap.size + 1 + 1 + 1) (w.heap.size + 1 + 1) cap (blank (P * Y)) ∧ (∀ b, RMine (w.heap.size + 1 + 1 + 1 + 1) ab (w.heap.size + 1) (w.heap.size + 1 + 1 + 1) (w.heap.size + 1 + 1) b → w.heap.size ≤ b) ∧ Below w.heap.size w wr) := by
          refine ⟨hRH, ?_, ?_⟩
          · rintro b (rfl | rfl | rfl | rfl | rfl) <;> omega
          · exact HP.out.2.1.trans (hR.out.kp.below HP.out.2.1.size (fun b hb => hb.elim (fun e => by omega) (fun e => by omega)))
        clear hRH hR
        go_wp2
        go_ret
        exact ⟨_, ab, _, _, _, cap, rfl, HF.out⟩
  · have hW := rp_first (D := D) (B := B) (n := n) (P := P) (Y := Y) w (.cells (mkI n) 3) (.cells (mkI n) 3) (.cells (mkF n) 4) (w.heap.size + 1 + 1) (w.heap.size + 1) (w.heap.size + 1 + 1 + 1) (Or.inr (Or.inl ⟨rfl, rfl⟩)) (Or.inl ⟨rfl, rfl⟩) (Or.inr (Or.inr ⟨rfl, rfl⟩)) ⟨by omega, by omega, by omega⟩ _ rfl
    generalize hW2 : (((((w.alloc (.cells #[.int .i64 (D : Int), .int .i64 (B : Int), .int .i64 (P : Int), .int .i64 (Y : Int)] 23)).alloc (.cells (mkI n) 3)).alloc (.cells (mkI n) 3)).alloc (.cells (mkF n) 4)).alloc (.cells #[.int .i64 (D : Int), .int .i64 (B : Int), .int .i64 (P : Int), .int .i64 (Y : Int), .slice none 0 0, .slice (some ⟨w.heap.size + 1 + 1, 0, none⟩) n n, .slice (some ⟨w.heap.size + 1, 0, none⟩) n n, .slice (some ⟨w.heap.size + 1 + 1 + 1, 0, none⟩) n n, .bool false] 48)).drew = W2 at hW ⊢
    have HP : Hid (RP D B n P Y W2 w.heap.size (w.heap.size + 1 + 1 + 1 + 1) (w.heap.size + 1 + 1) (w.heap.size + 1) (w.heap.size + 1 + 1 + 1) ∧ Below w.heap.size w W2 ∧ W2.heap.size = w.heap.size + 5) := hW
    clear hW hW2
    clear k1 k2
    go_wp2
    go_loopw [5] (fun j wr => ∃ i v, i ≤ NN ∧ j = .int .i64 (i : Nat) ∧ Hid (RL W2 wr (w.heap.size + 1 + 1 + 1 + 1) i v)) (fun j _ => NN - (intOf j).toNat)
    case atStart => exact ⟨0, _, by omega, rfl, HP.out.1.c4, World.ownsRow_nil _ _ _ _, Keep.refl _ _, (fun _ _ => rfl), (fun _ => rfl)⟩
    case round =>
      obtain ⟨i, v, hi, rfl, hR⟩ := hrel
      have hgb : w.heap.size < W2.heap.size := World.block_lt_of_cell? W2 _ HP.out.1.g2
      have hrb : (w.heap.size + 1 + 1 + 1 + 1) < W2.heap.size := World.block_lt_of_cell? W2 _ HP.out.1.c0
      have hng : ¬ (w.heap.size = (w.heap.size + 1 + 1 + 1 + 1) ∨ W2.heap.size ≤ w.heap.size) := fun e => e.elim (fun e => HP.out.1.n0.1 e) (fun e => by omega)
      have g2 := (hR.out.kp.cell (p := ⟨w.heap.size, 2, none⟩) hgb hng).trans HP.out.1.g2
      have g3 := (hR.out.kp.cell (p := ⟨w.heap.size, 3, none⟩) hgb hng).trans HP.out.1.g3
      by_cases hlt : i < NN
      · obtain ⟨ao, cp, rfl⟩ := owned_form hR.out.own
        have v4 := hR.out.v4
        have hfz : wr.frozen? ⟨(w.heap.size + 1 + 1 + 1 + 1), 4, none⟩ = false := by rw [hR.out.rf]; exact HP.out.1.hr 4
        have hsz : W2.heap.size ≤ wr.heap.size := hR.out.kp.size
        have hrw : (w.heap.size + 1 + 1 + 1 + 1) < wr.heap.size := by omega
        go_wp2_with (at_builtin; refine wpList_append_own _ rfl (.tmp 35) (.tmp 36) 36 rfl W2.heap.size 5 i0 (.int .u8 0) 1 1 Tryd.underlying36 HI.out.1 HI.out.2.1 HI.out.2.2.1 HI.out.2.2.2 rfl (by decide) (.slice ao i cp) i (List.replicate i (bv 255)) rfl (hR.out.own.alloc _) ⟨wr.heap.size, 0, none⟩ 1 1 [.int .u8 255] rfl ?d1 ?d2 ?d3 ?d4 ?d5 ?d6 ?_)
        case d1 => rfl
        case d2 => exact cell_one_new _ _ _
        case d3 => intro u hu; simp at hu; subst hu; rfl
        case d4 => unfold maxLen; omega
        case d5 => omega
        case d6 => simp; omega
        intro v' w2 hown2 hgrow hv
        obtain ⟨ao2, cp2, hv2⟩ := owned_form hown2
        have hrow : ∀ g, Value.ownBlock (.slice ao i cp) = some g → W2.heap.size ≤ g := fun g hg => (World.ownsRow.lt hR.out.own g hg).1
        have hneR : (some (w.heap.size + 1 + 1 + 1 + 1) : Option Nat) ≠ Value.ownBlock (.slice ao i cp) := fun e => by have := hrow (w.heap.size + 1 + 1 + 1 + 1) e.symm; omega
        have hbB : Below W2.heap.size (wr.alloc (.cells #[.int .u8 255] 5)) w2 := (Below.refl _ _).grown hgrow (by simp; omega) hrow
        have hbA : Below wr.heap.size wr (wr.alloc (.cells #[.int .u8 255] 5)) := (Below.refl _ _).alloc (Nat.le_refl _) _
        have hbC : Below W2.heap.size wr w2 := (hbA.mono hsz).trans hbB
        have v4b : w2.cell? ⟨(w.heap.size + 1 + 1 + 1 + 1), 4, none⟩ = some (.slice ao i cp) := by rw [hbC.cell (p := ⟨(w.heap.size + 1 + 1 + 1 + 1), 4, none⟩) hrb]; exact v4
        have hfb : w2.frozen? ⟨(w.heap.size + 1 + 1 + 1 + 1), 4, none⟩ = false := by rw [hbC.frozen (p := ⟨(w.heap.size + 1 + 1 + 1 + 1), 4, none⟩) hrb]; exact hfz
        have HR2 : Hid (RL W2 (w2.setCell ⟨(w.heap.size + 1 + 1 + 1 + 1), 4, none⟩ (.slice ao2 (i + 1) cp2)) (w.heap.size + 1 + 1 + 1 + 1) (i + 1) (.slice ao2 (i + 1) cp2)) := by
          refine ⟨World.cell?_setCell_same _ _ _ v4b, ?_, ?_, fun o ho => ?_, fun o => ?_⟩
          · rw [hv2] at hown2
            have e : List.replicate i (bv 255) ++ [Value.int .u8 255] = List.replicate (i + 1) (bv 255) := by rw [List.replicate_succ']; rfl
            rw [e] at hown2
            exact own_other hown2 hrb
          · have hk2 : Keep (fun b => b = (w.heap.size + 1 + 1 + 1 + 1) ∨ W2.heap.size ≤ b) wr w2 := ⟨hbC.os, hbC.tape, hbC.output, hbC.size, fun k hk hs => hbC.block k (by
              have : ¬ W2.heap.size ≤ k := fun e => hs (Or.inr e)
              omega)⟩
            exact (hR.out.kp.trans hk2).set (Or.inl rfl) _
          · rw [far _ (fun e => ho e.2.symm), hbC.cell (p := ⟨(w.heap.size + 1 + 1 + 1 + 1), o, none⟩) hrb]; exact hR.out.rc o ho
          · rw [World.frozen?_setCell, hbC.frozen (p := ⟨(w.heap.size + 1 + 1 + 1 + 1), o, none⟩) hrb]; exact hR.out.rf o
        rw [hv2]
        clear hown2 hgrow hv hv2 hrow hneR hbB hbA hbC g2 g3 v4 hfz hR
        go_wp2
        first
          | exact ⟨⟨i + 1, _, by omega, by go_num, HR2.out⟩, by simp [intOf]; omega⟩
          | (refine ⟨?_, by simp [intOf]; omega⟩
             (repeat apply Exists.intro)
             refine ⟨?_, by rfl⟩
             exact ⟨i + 1, _, by omega, by go_num, HR2.out⟩)
      · obtain rfl : i = NN := by omega
        obtain ⟨ab, cap, hRH, hab⟩ := RL.done HP.out.1 hR.out HN.out HNN.out h0N.out
        have HF : Hid (RH D B P Y wr (w.heap.size + 1 + 1 + 1 + 1) ab (w.heap.size + 1 + 1) (w.heap.size + 1) (w.heap.size + 1 + 1 + 1) cap (blank (P * Y)) ∧ (∀ b, RMine (w.heap.size + 1 + 1 + 1 + 1) ab (w.heap.size + 1 + 1) (w.heap.size + 1) (w.heap.size + 1 + 1 + 1) b → w.heap.size ≤ b) ∧ Below w.heap.size w wr) := by
          refine ⟨hRH, ?_, ?_⟩
          · rintro b (rfl | rfl | rfl | rfl | rfl) <;> omega
          · exact HP.out.2.1.trans (hR.out.kp.below HP.out.2.1.size (fun b hb => hb.elim (fun e => by omega) (fun e => by omega)))
        clear hRH hR
        go_wp2
        go_ret
        exact ⟨_, ab, _, _, _, cap, rfl, HF.out⟩
  · have hW := rp_first (D := D) (B := B) (n := n) (P := P) (Y := Y) w (.cells (mkI n) 3) (.cells (mkF n) 4) (.cells (mkI n) 3) (w.heap.size + 1 + 1 + 1) (w.heap.size + 1) (w.heap.size + 1 + 1) (Or.inr (Or.inr ⟨rfl, rfl⟩)) (Or.inl ⟨rfl, rfl⟩) (Or.inr (Or.inl ⟨rfl, rfl⟩)) ⟨by omega, by omega, by omega⟩ _ rfl
    generalize hW2 : (((((w.alloc (.cells #[.int .i64 (D : Int), .int .i64 (B : Int), .int .i64 (P : Int), .int .i64 (Y : Int)] 23)).alloc (.cells (mkI n) 3)).alloc (.cells (mkF n) 4)).alloc (.cells (mkI n) 3)).alloc (.cells #[.int .i64 (D : Int), .int .i64 (B : Int), .int .i64 (P : Int), .int .i64 (Y : Int), .slice none 0 0, .slice (some ⟨w.heap.size + 1 + 1 + 1, 0, none⟩) n n, .slice (some ⟨w.heap.size + 1, 0, none⟩) n n, .slice (some ⟨w.heap.size + 1 + 1, 0, none⟩) n n, .bool false] 48)).drew = W2 at hW ⊢
    have HP : Hid (RP D B n P Y W2 w.heap.size (w.heap.size + 1 + 1 + 1 + 1) (w.heap.size + 1 + 1 + 1) (w.heap.size + 1) (w.heap.size + 1 + 1) ∧ Below w.heap.size w W2 ∧ W2.heap.size = w.heap.size + 5) := hW
    clear hW hW2
    clear k1 k2
    go_wp2
    go_loopw [5] (fun j wr => ∃ i v, i ≤ NN ∧ j = .int .i64 (i : Nat) ∧ Hid (RL W2 wr (w.heap.size + 1 + 1 + 1 + 1) i v)) (fun j _ => NN - (intOf j).toNat)
    case atStart => exact ⟨0, _, by omega, rfl, HP.out.1.c4, World.ownsRow_nil _ _ _ _, Keep.refl _ _, (fun _ _ => rfl), (fun _ => rfl)⟩
    case round =>
      obtain ⟨i, v, hi, rfl, hR⟩ := hrel
      have hgb : w.heap.size < W2.heap.size := World.block_lt_of_cell? W2 _ HP.out.1.g2
      have hrb : (w.heap.size + 1 + 1 + 1 + 1) < W2.heap.size := World.block_lt_of_cell? W2 _ HP.out.1.c0
      have hng : ¬ (w.heap.size = (w.heap.size + 1 + 1 + 1 + 1) ∨ W2.heap.size ≤ w.heap.size) := fun e => e.elim (fun e => HP.out.1.n0.1 e) (fun e => by omega)
      have g2 := (hR.out.kp.cell (p := ⟨w.heap.size, 2, none⟩) hgb hng).trans HP.out.1.g2
      have g3 := (hR.out.kp.cell (p := ⟨w.heap.size, 3, none⟩) hgb hng).trans HP.out.1.g3
      by_cases hlt : i < NN
      · obtain ⟨ao, cp, rfl⟩ := owned_form hR.out.own
        have v4 := hR.out.v4
        have hfz : wr.frozen? ⟨(w.heap.size + 1 + 1 + 1 + 1), 4, none⟩ = false := by rw [hR.out.rf]; exact HP.out.1.hr 4
        have hsz : W2.heap.size ≤ wr.heap.size := hR.out.kp.size
        have hrw : (w.heap.size + 1 + 1 + 1 + 1) < wr.heap.size := by omega
        go_wp2_with (at_builtin; refine wpList_append_own _ rfl (.tmp 35) (.tmp 36) 36 rfl W2.heap.size 5 i0 (.int .u8 0) 1 1 Tryd.underlying36 HI.out.1 HI.out.2.1 HI.out.2.2.1 HI.out.2.2.2 rfl (by decide) (.slice ao i cp) i (List.replicate i (bv 255)) rfl (hR.out.own.alloc _) ⟨wr.heap.size, 0, none⟩ 1 1 [.int .u8 255] rfl ?d1 ?d2 ?d3 ?d4 ?d5 ?d6 ?_)
        case d1 => rfl
        case d2 => exact cell_one_new _ _ _
        case d3 => intro u hu; simp at hu; subst hu; rfl
        case d4 => unfold maxLen; omega
        case d5 => omega
        case d6 => simp; omega
        intro v' w2 hown2 hgrow hv
        obtain ⟨ao2, cp2, hv2⟩ := owned_form hown2
        have hrow : ∀ g, Value.ownBlock (.slice ao i cp) = some g → W2.heap.size ≤ g := fun g hg => (World.ownsRow.lt hR.out.own g hg).1
        have hneR : (some (w.heap.size + 1 + 1 + 1 + 1) : Option Nat) ≠ Value.ownBlock (.slice ao i cp) := fun e => by have := hrow (w.heap.size + 1 + 1 + 1 + 1) e.symm; omega
        have hbB : Below W2.heap.size (wr.alloc (.cells #[.int .u8 255] 5)) w2 := (Below.refl _ _).grown hgrow (by simp; omega) hrow
        have hbA : Below wr.heap.size wr (wr.alloc (.cells #[.int .u8 255] 5)) := (Below.refl _ _).alloc (Nat.le_refl _) _
        have hbC : Below W2.heap.size wr w2 := (hbA.mono hsz).trans hbB
        have v4b : w2.cell? ⟨(w.heap.size + 1 + 1 + 1 + 1), 4, none⟩ = some (.slice ao i cp) := by rw [hbC.cell (p := ⟨(w.heap.size + 1 + 1 + 1 + 1), 4, none⟩) hrb]; exact v4
        have hfb : w2.frozen? ⟨(w.heap.size + 1 + 1 + 1 + 1), 4, none⟩ = false := by rw [hbC.frozen (p := ⟨(w.heap.size + 1 + 1 + 1 + 1), 4, none⟩) hrb]; exact hfz
        have HR2 : Hid (RL W2 (w2.setCell ⟨(w.heap.size + 1 + 1 + 1 + 1), 4, none⟩ (.slice ao2 (i + 1) cp2)) (w.heap.size + 1 + 1 + 1 + 1) (i + 1) (.slice ao2 (i + 1) cp2)) := by
          refine ⟨World.cell?_setCell_same _ _ _ v4b, ?_, ?_, fun o ho => ?_, fun o => ?_⟩
          · rw [hv2] at hown2
            have e : List.replicate i (bv 255) ++ [Value.int .u8 255] = List.replicate (i + 1) (bv 255) := by rw [List.replicate_succ']; rfl
            rw [e] at hown2
            exact own_other hown2 hrb
          · have hk2 : Keep (fun b => b = (w.heap.size + 1 + 1 + 1 + 1) ∨ W2.heap.size ≤ b) wr w2 := ⟨hbC.os, hbC.tape, hbC.output, hbC.size, fun k hk hs => hbC.block k (by
              have : ¬ W2.heap.size ≤ k := fun e => hs (Or.inr e)
              omega)⟩
            exact (hR.out.kp.trans hk2).set (Or.inl rfl) _
          · rw [far _ (fun e => ho e.2.symm), hbC.cell (p := ⟨(w.heap.size + 1 + 1 + 1 + 1), o, none⟩) hrb]; exact hR.out.rc o ho
          · rw [World.frozen?_setCell, hbC.frozen (p := ⟨(w.heap.size + 1 + 1 + 1 + 1), o, none⟩) hrb]; exact hR.out.rf o
        rw [hv2]
        clear hown2 hgrow hv hv2 hrow hneR hbB hbA hbC g2 g3 v4 hfz hR
        go_wp2
        first
          | exact ⟨⟨i + 1, _, by omega, by go_num, HR2.out⟩, by simp [intOf]; omega⟩
          | (refine ⟨?_, by simp [intOf]; omega⟩
             (repeat apply Exists.intro)
             refine ⟨?_, by rfl⟩
             exact ⟨i + 1, _, by omega, by go_num, HR2.out⟩)
      · obtain rfl : i = NN := by omega
        obtain ⟨ab, cap, hRH, hab⟩ := RL.done HP.out.1 hR.out HN.out HNN.out h0N.out
        have HF : Hid (RH D B P Y wr (w.heap.size + 1 + 1 + 1 + 1) ab (w.heap.size + 1 + 1 + 1) (w.heap.size + 1) (w.heap.size + 1 + 1) cap (blank (P * Y)) ∧ (∀ b, RMine (w.heap.size + 1 + 1 + 1 + 1) ab (w.heap.size + 1 + 1 + 1) (w.heap.size + 1) (w.heap.size + 1 + 1) b → w.heap.size ≤ b) ∧ Below w.heap.size w wr) := by
          refine ⟨hRH, ?_, ?_⟩
          · rintro b (rfl | rfl | rfl | rfl | rfl) <;> omega
          · exact HP.out.2.1.trans (hR.out.kp.below HP.out.2.1.size (fun b hb => hb.elim (fun e => by omega) (fun e => by omega)))
        clear hRH hR
        go_wp2
        go_ret
        exact ⟨_, ab, _, _, _, cap, rfl, HF.out⟩
  · have hW := rp_first (D := D) (B := B) (n := n) (P := P) (Y := Y) w (.cells (mkF n) 4) (.cells (mkI n) 3) (.cells (mkI n) 3) (w.heap.size + 1 + 1) (w.heap.size + 1 + 1 + 1) (w.heap.size + 1) (Or.inr (Or.inl ⟨rfl, rfl⟩)) (Or.inr (Or.inr ⟨rfl, rfl⟩)) (Or.inl ⟨rfl, rfl⟩) ⟨by omega, by omega, by omega⟩ _ rfl
    generalize hW2 : (((((w.alloc (.cells #[.int .i64 (D : Int), .int .i64 (B : Int), .int .i64 (P : Int), .int .i64 (Y : Int)] 23)).alloc (.cells (mkF n) 4)).alloc (.cells (mkI n) 3)).alloc (.cells (mkI n) 3)).alloc (.cells #[.int .i64 (D : Int), .int .i64 (B : Int), .int .i64 (P : Int), .int .i64 (Y : Int), .slice none 0 0, .slice (some ⟨w.heap.size + 1 + 1, 0, none⟩) n n, .slice (some ⟨w.heap.size + 1 + 1 + 1, 0, none⟩) n n, .slice (some ⟨w.heap.size + 1, 0, none⟩) n n, .bool false] 48)).drew = W2 at hW ⊢
    have HP : Hid (RP D B n P Y W2 w.heap.size (w.heap.size + 1 + 1 + 1 + 1) (w.heap.size + 1 + 1) (w.heap.size + 1 + 1 + 1) (w.heap.size + 1) ∧ Below w.heap.size w W2 ∧ W2.heap.size = w.heap.size + 5) := hW
    clear hW hW2
    clear k1 k2
    go_wp2
    go_loopw [5] (fun j wr => ∃ i v, i ≤ NN ∧ j = .int .i64 (i : Nat) ∧ Hid (RL W2 wr (w.heap.size + 1 + 1 + 1 + 1) i v)) (fun j _ => NN - (intOf j).toNat)
    case atStart => exact ⟨0, _, by omega, rfl, HP.out.1.c4, World.ownsRow_nil _ _ _ _, Keep.refl _ _, (fun _ _ => rfl), (fun _ => rfl)⟩
    case round =>
      obtain ⟨i, v, hi, rfl, hR⟩ := hrel
      have hgb : w.heap.size < W2.heap.size := World.block_lt_of_cell? W2 _ HP.out.1.g2
      have hrb : (w.heap.size + 1 + 1 + 1 + 1) < W2.heap.size := World.block_lt_of_cell? W2 _ HP.out.1.c0
      have hng : ¬ (w.heap.size = (w.heap.size + 1 + 1 + 1 + 1) ∨ W2.heap.size ≤ w.heap.size) := fun e => e.elim (fun e => HP.out.1.n0.1 e) (fun e => by omega)
      have g2 := (hR.out.kp.cell (p := ⟨w.heap.size, 2, none⟩) hgb hng).trans HP.out.1.g2
      have g3 := (hR.out.kp.cell (p := ⟨w.heap.size, 3, none⟩) hgb hng).trans HP.out.1.g3
      by_cases hlt : i < NN
      · obtain ⟨ao, cp, rfl⟩ := owned_form hR.out.own
        have v4 := hR.out.v4
        have hfz : wr.frozen? ⟨(w.heap.size + 1 + 1 + 1 + 1), 4, none⟩ = false := by rw [hR.out.rf]; exact HP.out.1.hr 4
        have hsz : W2.heap.size ≤ wr.heap.size := hR.out.kp.size
        have hrw : (w.heap.size + 1 + 1 + 1 + 1) < wr.heap.size := by omega
        go_wp2_with (at_builtin; refine wpList_append_own _ rfl (.tmp 35) (.tmp 36) 36 rfl W2.heap.size 5 i0 (.int .u8 0) 1 1 Tryd.underlying36 HI.out.1 HI.out.2.1 HI.out.2.2.1 HI.out.2.2.2 rfl (by decide) (.slice ao i cp) i (List.replicate i (bv 255)) rfl (hR.out.own.alloc _) ⟨wr.heap.size, 0, none⟩ 1 1 [.int .u8 255] rfl ?d1 ?d2 ?d3 ?d4 ?d5 ?d6 ?_)
        case d1 => rfl
        case d2 => exact cell_one_new _ _ _
        case d3 => intro u hu; simp at hu; subst hu; rfl
        case d4 => unfold maxLen; omega
        case d5 => omega
        case d6 => simp; omega
        intro v' w2 hown2 hgrow hv
        obtain ⟨ao2, cp2, hv2⟩ := owned_form hown2
        have hrow : ∀ g, Value.ownBlock (.slice ao i cp) = some g → W2.heap.size ≤ g := fun g hg => (World.ownsRow.lt hR.out.own g hg).1
        have hneR : (some (w.heap.size + 1 + 1 + 1 + 1) : Option Nat) ≠ Value.ownBlock (.slice ao i cp) := fun e => by have := hrow (w.heap.size + 1 + 1 + 1 + 1) e.symm; omega
        have hbB : Below W2.heap.size (wr.alloc (.cells #[.int .u8 255] 5)) w2 := (Below.refl _ _).grown hgrow (by simp; omega) hrow
        have hbA : Below wr.heap.size wr (wr.alloc (.cells #[.int .u8 255] 5)) := (Below.refl _ _).alloc (Nat.le_refl _) _
        have hbC : Below W2.heap.size wr w2 := (hbA.mono hsz).trans hbB
        have v4b : w2.cell? ⟨(w.heap.size + 1 + 1 + 1 + 1), 4, none⟩ = some (.slice ao i cp) := by rw [hbC.cell (p := ⟨(w.heap.size + 1 + 1 + 1 + 1), 4, none⟩) hrb]; exact v4
        have hfb : w2.frozen? ⟨(w.heap.size + 1 + 1 + 1 + 1), 4, none⟩ = false := by rw [hbC.frozen (p := ⟨(w.heap.size + 1 + 1 + 1 + 1), 4, none⟩) hrb]; exact hfz
        have HR2 : Hid (RL W2 (w2.setCell ⟨(w.heap.size + 1 + 1 + 1 + 1), 4, none⟩ (.slice ao2 (i + 1) cp2)) (w.heap.size + 1 + 1 + 1 + 1) (i + 1) (.slice ao2 (i + 1) cp2)) := by
          refine ⟨World.cell?_setCell_same _ _ _ v4b, ?_, ?_, fun o ho => ?_, fun o => ?_⟩
          · rw [hv2] at hown2
            have e : List.replicate i (bv 255) ++ [Value.int .u8 255] = List.replicate (i + 1) (bv 255) := by rw [List.replicate_succ']; rfl
            rw [e] at hown2
            exact own_other hown2 hrb
          · have hk2 : Keep (fun b => b = (w.heap.size + 1 + 1 + 1 + 1) ∨ W2.heap.size ≤ b) wr w2 := ⟨hbC.os, hbC.tape, hbC.output, hbC.size, fun k hk hs => hbC.block k (by
              have : ¬ W2.heap.size ≤ k := fun e => hs (Or.inr e)
              omega)⟩
            exact (hR.out.kp.trans hk2).set (Or.inl rfl) _
          · rw [far _ (fun e => ho e.2.symm), hbC.cell (p := ⟨(w.heap.size + 1 + 1 + 1 + 1), o, none⟩) hrb]; exact hR.out.rc o ho
          · rw [World.frozen?_setCell, hbC.frozen (p := ⟨(w.heap.size + 1 + 1 + 1 + 1), o, none⟩) hrb]; exact hR.out.rf o
        rw [hv2]
        clear hown2 hgrow hv hv2 hrow hneR hbB hbA hbC g2 g3 v4 hfz hR
        go_wp2
        first
          | exact ⟨⟨i + 1, _, by omega, by go_num, HR2.out⟩, by simp [intOf]; omega⟩
          | (refine ⟨?_, by simp [intOf]; omega⟩
             (repeat apply Exists.intro)
             refine ⟨?_, by rfl⟩
             exact ⟨i + 1, _, by omega, by go_num, HR2.out⟩)
      · obtain rfl : i = NN := by omega
        obtain ⟨ab, cap, hRH, hab⟩ := RL.done HP.out.1 hR.out HN.out HNN.out h0N.out
        have HF : Hid (RH D B P Y wr (w.heap.size + 1 + 1 + 1 + 1) ab (w.heap.size + 1 + 1) (w.heap.size + 1 + 1 + 1) (w.heap.size + 1) cap (blank (P * Y)) ∧ (∀ b, RMine (w.heap.size + 1 + 1 + 1 + 1) ab (w.heap.size + 1 + 1) (w.heap.size + 1 + 1 + 1) (w.heap.size + 1) b → w.heap.size ≤ b) ∧ Below w.heap.size w wr) := by
          refine ⟨hRH, ?_, ?_⟩
          · rintro b (rfl | rfl | rfl | rfl | rfl) <;> omega
          · exact HP.out.2.1.trans (hR.out.kp.below HP.out.2.1.size (fun b hb => hb.elim (fun e => by omega) (fun e => by omega)))
        clear hRH hR
        go_wp2
        go_ret
        exact ⟨_, ab, _, _, _, cap, rfl, HF.out⟩
  · have hW := rp_first (D := D) (B := B) (n := n) (P := P) (Y := Y) w (.cells (mkF n) 4) (.cells (mkI n) 3) (.cells (mkI n) 3) (w.heap.size + 1 + 1 + 1) (w.heap.size + 1 + 1) (w.heap.size + 1) (Or.inr (Or.inr ⟨rfl, rfl⟩)) (Or.inr (Or.inl ⟨rfl, rfl⟩)) (Or.inl ⟨rfl, rfl⟩) ⟨by omega, by omega, by omega⟩ _ rfl
    generalize hW2 : (((((w.alloc (.cells #[.int .i64 (D : Int), .int .i64 (B : Int), .int .i64 (P : Int), .int .i64 (Y : Int)] 23)).alloc (.cells (mkF n) 4)).alloc (.cells (mkI n) 3)).alloc (.cells (mkI n) 3)).alloc (.cells #[.int .i64 (D : Int), .int .i64 (B : Int), .int .i64 (P : Int), .int .i64 (Y : Int), .slice none 0 0, .slice (some ⟨w.heap.size + 1 + 1 + 1, 0, none⟩) n n, .slice (some ⟨w.heap.size + 1 + 1, 0, none⟩) n n, .slice (some ⟨w.heap.size + 1, 0, none⟩) n n, .bool false] 48)).drew = W2 at hW ⊢
    have HP : Hid (RP D B n P Y W2 w.heap.size (w.heap.size + 1 + 1 + 1 + 1) (w.heap.size + 1 + 1 + 1) (w.heap.size + 1 + 1) (w.heap.size + 1) ∧ Below w.heap.size w W2 ∧ W2.heap.size = w.heap.size + 5) := hW
    clear hW hW2
    clear k1 k2
    go_wp2
    go_loopw [5] (fun j wr => ∃ i v, i ≤ NN ∧ j = .int .i64 (i : Nat) ∧ Hid (RL W2 wr (w.heap.size + 1 + 1 + 1 + 1) i v)) (fun j _ => NN - (intOf j).toNat)
    case atStart => exact ⟨0, _, by omega, rfl, HP.out.1.c4, World.ownsRow_nil _ _ _ _, Keep.refl _ _, (fun _ _ => rfl), (fun _ => rfl)⟩
    case round =>
      obtain ⟨i, v, hi, rfl, hR⟩ := hrel
      have hgb : w.heap.size < W2.heap.size := World.block_lt_of_cell? W2 _ HP.out.1.g2
      have hrb : (w.heap.size + 1 + 1 + 1 + 1) < W2.heap.size := World.block_lt_of_cell? W2 _ HP.out.1.c0
      have hng : ¬ (w.heap.size = (w.heap.size + 1 + 1 + 1 + 1) ∨ W2.heap.size ≤ w.heap.size) := fun e => e.elim (fun e => HP.out.1.n0.1 e) (fun e => by omega)
      have g2 := (hR.out.kp.cell (p := ⟨w.heap.size, 2, none⟩) hgb hng).trans HP.out.1.g2
      have g3 := (hR.out.kp.cell (p := ⟨w.heap.size, 3, none⟩) hgb hng).trans HP.out.1.g3
      by_cases hlt : i < NN
      · obtain ⟨ao, cp, rfl⟩ := owned_form hR.out.own
        have v4 := hR.out.v4
        have hfz : wr.frozen? ⟨(w.heap.size + 1 + 1 + 1 + 1), 4, none⟩ = false := by rw [hR.out.rf]; exact HP.out.1.hr 4
        have hsz : W2.heap.size ≤ wr.heap.size := hR.out.kp.size
        have hrw : (w.heap.size + 1 + 1 + 1 + 1) < wr.heap.size := by omega
        go_wp2_with (at_builtin; refine wpList_append_own _ rfl (.tmp 35) (.tmp 36) 36 rfl W2.heap.size 5 i0 (.int .u8 0) 1 1 Tryd.underlying36 HI.out.1 HI.out.2.1 HI.out.2.2.1 HI.out.2.2.2 rfl (by decide) (.slice ao i cp) i (List.replicate i (bv 255)) rfl (hR.out.own.alloc _) ⟨wr.heap.size, 0, none⟩ 1 1 [.int .u8 255] rfl ?d1 ?d2 ?d3 ?d4 ?d5 ?d6 ?_)
        case d1 => rfl
        case d2 => exact cell_one_new _ _ _
        case d3 => intro u hu; simp at hu; subst hu; rfl
        case d4 => unfold maxLen; omega
        case d5 => omega
        case d6 => simp; omega
        intro v' w2 hown2 hgrow hv
        obtain ⟨ao2, cp2, hv2⟩ := owned_form hown2
        have hrow : ∀ g, Value.ownBlock (.slice ao i cp) = some g → W2.heap.size ≤ g := fun g hg => (World.ownsRow.lt hR.out.own g hg).1
        have hneR : (some (w.heap.size + 1 + 1 + 1 + 1) : Option Nat) ≠ Value.ownBlock (.slice ao i cp) := fun e => by have := hrow (w.heap.size + 1 + 1 + 1 + 1) e.symm; omega
        have hbB : Below W2.heap.size (wr.alloc (.cells #[.int .u8 255] 5)) w2 := (Below.refl _ _).grown hgrow (by simp; omega) hrow
        have hbA : Below wr.heap.size wr (wr.alloc (.cells #[.int .u8 255] 5)) := (Below.refl _ _).alloc (Nat.le_refl _) _
        have hbC : Below W2.heap.size wr w2 := (hbA.mono hsz).trans hbB
        have v4b : w2.cell? ⟨(w.heap.size + 1 + 1 + 1 + 1), 4, none⟩ = some (.slice ao i cp) := by rw [hbC.cell (p := ⟨(w.heap.size + 1 + 1 + 1 + 1), 4, none⟩) hrb]; exact v4
        have hfb : w2.frozen? ⟨(w.heap.size + 1 + 1 + 1 + 1), 4, none⟩ = false := by rw [hbC.frozen (p := ⟨(w.heap.size + 1 + 1 + 1 + 1), 4, none⟩) hrb]; exact hfz
        have HR2 : Hid (RL W2 (w2.setCell ⟨(w.heap.size + 1 + 1 + 1 + 1), 4, none⟩ (.slice ao2 (i + 1) cp2)) (w.heap.size + 1 + 1 + 1 + 1) (i + 1) (.slice ao2 (i + 1) cp2)) := by
          refine ⟨World.cell?_setCell_same _ _ _ v4b, ?_, ?_, fun o ho => ?_, fun o => ?_⟩
          · rw [hv2] at hown2
            have e : List.replicate i (bv 255) ++ [Value.int .u8 255] = List.replicate (i + 1) (bv 255) := by rw [List.replicate_succ']; rfl
            rw [e] at hown2
            exact own_other hown2 hrb
          · have hk2 : Keep (fun b => b = (w.heap.size + 1 + 1 + 1 + 1) ∨ W2.heap.size ≤ b) wr w2 := ⟨hbC.os, hbC.tape, hbC.output, hbC.size, fun k hk hs => hbC.block k (by
              have : ¬ W2.heap.size ≤ k := fun e => hs (Or.inr e)
              omega)⟩
            exact (hR.out.kp.trans hk2).set (Or.inl rfl) _
          · rw [far _ (fun e => ho e.2.symm), hbC.cell (p := ⟨(w.heap.size + 1 + 1 + 1 + 1), o, none⟩) hrb]; exact hR.out.rc o ho
          · rw [World.frozen?_setCell, hbC.frozen (p := ⟨(w.heap.size + 1 + 1 + 1 + 1), o, none⟩) hrb]; exact hR.out.rf o
        rw [hv2]
        clear hown2 hgrow hv hv2 hrow hneR hbB hbA hbC g2 g3 v4 hfz hR
        go_wp2
        first
          | exact ⟨⟨i + 1, _, by omega, by go_num, HR2.out⟩, by simp [intOf]; omega⟩
          | (refine ⟨?_, by simp [intOf]; omega⟩
             (repeat apply Exists.intro)
             refine ⟨?_, by rfl⟩
             exact ⟨i + 1, _, by omega, by go_num, HR2.out⟩)
      · obtain rfl : i = NN := by omega
        obtain ⟨ab, cap, hRH, hab⟩ := RL.done HP.out.1 hR.out HN.out HNN.out h0N.out
        have HF : Hid (RH D B P Y wr (w.heap.size + 1 + 1 + 1 + 1) ab (w.heap.size + 1 + 1 + 1) (w.heap.size + 1 + 1) (w.heap.size + 1) cap (blank (P * Y)) ∧ (∀ b, RMine (w.heap.size + 1 + 1 + 1 + 1) ab (w.heap.size + 1 + 1 + 1) (w.heap.size + 1 + 1) (w.heap.size + 1) b → w.heap.size ≤ b) ∧ Below w.heap.size w wr) := by
          refine ⟨hRH, ?_, ?_⟩
          · rintro b (rfl | rfl | rfl | rfl | rfl) <;> omega
          · exact HP.out.2.1.trans (hR.out.kp.below HP.out.2.1.size (fun b hb => hb.elim (fun e => by omega) (fun e => by omega)))
        clear hRH hR
        go_wp2
        go_ret
        exact ⟨_, ab, _, _, _, cap, rfl, HF.out⟩
end Go.Proofs.YtjeelaaimhckhabDoor
