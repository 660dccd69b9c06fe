/-
  The walk of granarylaw1.PoolPlays: it returns true, and nothing that was there has turned.
-/
import Derived.Test.YtebnjoammfidnacDoorRefTurn
import Derived.Test.YtebnjoammfidnacDoorTold
import Derived.Deep.DeepCutAuto
namespace Go.Proofs.YtebnjoammfidnacDoor
open Go.RowKit
set_option linter.unusedVariables false

theorem infoInt : (Tryd.prog.info? 3).map (fun i => (i.zero, i.size, i.bytes)) = some (some (.int .i64 0), 1, 8) := by kernel_rfl
def mkI (n : Nat) : Array Value := (List.replicate n (Value.int .i64 0)).toArray
theorem made_ints (n : Nat) (hn : n ≤ 64) (w : World) : (Instr.makeSlice 32 (.int .i64 (n : Int)) (.int .i64 (n : Int))).run Tryd.prog w = .ok (.slice (some ⟨w.heap.size, 0, none⟩) n n) (w.alloc (.cells (mkI n) 3)) := by
  obtain ⟨i0, hi, hz0, hz1, hz2⟩ := info_parts infoInt
  have h := run_make (P := Tryd.prog) w 32 3 i0 (.int .i64 0) Tryd.underlying32 hi hz0 .i64 .i64 n n (by omega) (by omega) (by rw [hz2]; omega) (by omega)
  rw [h]
  have e : madeCells (Value.int .i64 0).cells ((n : Int).toNat * i0.size) = mkI n := by
    unfold mkI
    apply Array.toList_inj.1
    rw [hz1, Int.toNat_natCast, Nat.mul_one]
    exact toList_madeCells_one (Value.int .i64 0) n
  rw [e]
  simp
/-- The document's pool, made: its two rows in whichever order. -/
theorem RA.first {n sp : Nat} (w : World) (h1 : 1 ≤ n) (h2 : n ≤ 64) (sb wb : Nat) (hs : (sb = w.heap.size ∧ wb = w.heap.size + 1) ∨ (wb = w.heap.size ∧ sb = w.heap.size + 1)) (W : World)
    (hW : W = (((w.alloc (.cells (mkI n) 3)).alloc (.cells (mkI n) 3)).alloc (.cells #[.int .i64 (sp : Int), .slice (some ⟨sb, 0, none⟩) n n, .slice (some ⟨wb, 0, none⟩) n n] 34)).drew) : RA n sp W (w.heap.size + 2) sb wb fresh ∧ Below w.heap.size w W ∧ W.heap.size = w.heap.size + 3 := by
  have s1 : (w.alloc (.cells (mkI n) 3)).heap.size = w.heap.size + 1 := by simp
  have s2 : ((w.alloc (.cells (mkI n) 3)).alloc (.cells (mkI n) 3)).heap.size = w.heap.size + 2 := by simp
  have s3 : W.heap.size = w.heap.size + 3 := by rw [hW]; simp
  have g0 : W.heap[w.heap.size]? = some (.cells (mkI n) 3 (0, 0)) := by
    rw [hW]
    show (((w.alloc (.cells (mkI n) 3)).alloc (.cells (mkI n) 3)).alloc _).heap[w.heap.size]? = _
    rw [Below.heap_alloc _ _ _ (by rw [s2]; omega), Below.heap_alloc _ _ _ (by rw [s1]; omega)]
    exact heap_alloc_new w _
  have g1 : W.heap[w.heap.size + 1]? = some (.cells (mkI n) 3 (0, 0)) := by
    rw [hW]
    show (((w.alloc (.cells (mkI n) 3)).alloc (.cells (mkI n) 3)).alloc _).heap[w.heap.size + 1]? = _
    rw [Below.heap_alloc _ _ _ (by rw [s2]; omega), ← s1]
    exact heap_alloc_new (w.alloc (.cells (mkI n) 3)) _
  have g2 : W.heap[w.heap.size + 2]? = some (.cells #[.int .i64 (sp : Int), .slice (some ⟨sb, 0, none⟩) n n, .slice (some ⟨wb, 0, none⟩) n n] 34 (0, 0)) := by
    rw [hW, ← s2]
    exact heap_alloc_new ((w.alloc (.cells (mkI n) 3)).alloc (.cells (mkI n) 3)) _
  have hb : Below w.heap.size w W := by rw [hW]; exact ((((Below.refl _ _).alloc (Nat.le_refl _) _).alloc (by simp) _).alloc (by simp; omega) _).drew
  have hsb : W.heap[sb]? = some (.cells (mkI n) 3 (0, 0)) := by
    rcases hs with ⟨e, _⟩ | ⟨_, e⟩ <;> rw [e]
    · exact g0
    · exact g1
  have hwb : W.heap[wb]? = some (.cells (mkI n) 3 (0, 0)) := by
    rcases hs with ⟨_, e⟩ | ⟨e, _⟩ <;> rw [e]
    · exact g1
    · exact g0
  clear hW
  refine ⟨⟨by simp [World.cell?, g2], by simp [World.cell?, g2], by simp [World.cell?, g2], fun k hk => ?_, fun k hk => ?_, fun o => by simp [World.frozen?, hsb], fun o => by simp [World.frozen?, hwb], by omega, h1, h2⟩, hb, s3⟩
  · simp [World.cell?, hsb, mkI, hk, fresh]
  · simp [World.cell?, hwb, mkI, hk, fresh]
def RS (B rb sb wb : Nat) (b : Nat) : Prop := b < B ∨ b = rb ∨ b = sb ∨ b = wb
def RT (B rb sb wb nb : Nat) (b : Nat) : Prop := (b < B ∨ b = rb ∨ b = sb ∨ b = wb) ∨ b = nb
/-- What lies there between two calls. -/
structure PS (n sp B pb bb rb sb wb : Nat) (w1 wr : World) (i : Nat) (s : St) : Prop where
  pa : PA n sp (RS B rb sb wb) wr pb bb s
  ra : RA n sp wr rb sb wb s
  bel : Below B w1 wr
  le : ∀ k, s.wn k ≤ i
  ge : B ≤ rb ∧ B ≤ sb ∧ B ≤ wb
theorem PS.below {n sp B pb bb rb sb wb i : Nat} {w1 wr w' : World} {s : St} (h : PS n sp B pb bb rb sb wb w1 wr i s) (hb : Below wr.heap.size wr w') (hB : B ≤ wr.heap.size) : PS n sp B pb bb rb sb wb w1 w' i s := ⟨h.pa.below hb, h.ra.below hb, h.bel.trans (hb.mono hB), h.le, h.ge⟩
theorem PA.less {R T : Nat → Prop} {n sp : Nat} {w : World} {pb bb : Nat} {s : St} (h : PA n sp R w pb bb s) (ht : ∀ b, T b → R b) : PA n sp T w pb bb s := by
  obtain ⟨a, cap, L, h1, h2⟩ := h
  exact ⟨a, cap, L, h1, fun b hb => h2 b (ht b hb)⟩
/-- Half way: the pool has done its call, the document's not yet. -/
structure PM (n sp B pb bb rb sb wb nb : Nat) (w1 wr : World) (i : Nat) (s s' : St) (bl : Int) : Prop where
  pa : PA n sp (RT B rb sb wb nb) wr pb bb s'
  ra : RA n sp wr rb sb wb s
  bel : Below B w1 wr
  le : ∀ k, s.wn k ≤ i
  ge : B ≤ rb ∧ B ≤ sb ∧ B ≤ wb
  c1 : wr.cell? ⟨nb, 1, none⟩ = some (.int .i64 bl)
  sz : w1.heap.size ≤ wr.heap.size
theorem PS.half {n sp B pb bb rb sb wb nb i : Nat} {w1 wa w5 : World} {s s' : St} {bl : Int} (h : PS n sp B pb bb rb sb wb w1 wa i s) (hB : B = w1.heap.size) (hk : Keep (fun b => ¬ RT B rb sb wb nb b) wa w5) (c : wa.cell? ⟨nb, 1, none⟩ = some (.int .i64 bl)) (hp : PA n sp (RT B rb sb wb nb) w5 pb bb s') : PM n sp B pb bb rb sb wb nb w1 w5 i s s' bl where
  pa := hp
  ra := h.ra.keep hk (fun b hb e => e (Or.inl (Or.inr hb)))
  bel := h.bel.trans (hk.base (by rw [hB]; exact h.bel.size) (fun b hb => Or.inl (Or.inl hb)))
  le := h.le
  ge := h.ge
  c1 := by rw [hk.cell (p := ⟨nb, 1, none⟩) (World.block_lt_of_cell? wa _ c) (fun e => e (Or.inr rfl))]; exact c
  sz := Nat.le_trans h.bel.size hk.size
/-- .. and then the document's. -/
theorem PM.whole {n sp B pb bb rb sb wb nb i j : Nat} {w1 w5 w6 : World} {s s' : St} {bl : Int} (h : PM n sp B pb bb rb sb wb nb w1 w5 i s s' bl) (hB : B ≤ w5.heap.size) (hk : Keep (RM rb sb wb) w5 w6) (hr : RA n sp w6 rb sb wb s') (hle : ∀ k, s'.wn k ≤ j) : PS n sp B pb bb rb sb wb w1 w6 j s' where
  pa := (h.pa.keep hk (fun b hb => Or.inl (Or.inr hb))).less (fun b hb => Or.inl hb)
  ra := hr
  bel := h.bel.trans (hk.below hB (fun b hb => by
    have g := h.ge
    rcases hb with e | e | e
    · rw [e]; exact g.1
    · rw [e]; exact g.2.1
    · rw [e]; exact g.2.2))
  le := hle
  ge := h.ge
theorem same_err (n : Nat) (w : World) (hE : EType w) : Calls Tryd.prog 6 #[errI n, .int .i64 (n : Int)] w fun ev w' => ev = .returned (.bool true) ∧ Below w.heap.size w w' := by
  by_cases h0 : n = 0
  · subst h0
    exact (error_nil 0 w).mono fun e w' ⟨h1, h2⟩ => ⟨h1, h2 ▸ Below.refl _ _⟩
  · rw [errI_ne h0]
    exact error_same n w hE
set_option maxRecDepth 100000 in
set_option maxHeartbeats 1600000 in
theorem plays_no (n sp : Int) (a2 : Option Addr) (n2 cap2 : Nat) (w : World) (hE : EType w) (h : ¬ GoodN n sp) : Calls Tryd.prog 3 #[.int .i64 n, .int .i64 sp, .slice a2 n2 cap2] w fun e w' => e = .returned (.bool true) ∧ Below w.heap.size w w' := by
  have HF : Hid (¬ GoodN n sp) := h
  have HE : Hid (EType w) := hE
  clear h hE
  go_enter Tryd.func3, Tryd.ntmps3
  go_wp2_with fail
  refine (new_no n sp _ HF.out).mono ?_
  rintro e w1 ⟨rfl, rfl⟩
  go_wp2_with fail
  refine (fault_no n sp _ HF.out).mono ?_
  rintro e w2 ⟨rfl, rfl⟩
  go_wp2_with fail
  refine (error_same 1 w2 HE.out).mono ?_
  rintro e w3 ⟨rfl, hb3⟩
  go_wp2
  go_ret
  exact ⟨rfl, hb3⟩
set_option maxRecDepth 100000 in
set_option maxHeartbeats 8000000 in
theorem plays_yes (n sp : Nat) (a2 : Option Addr) (n2 cap2 : Nat) (w : World) (h1 : 1 ≤ n) (h2 : n ≤ 64) (hsp : sp ≤ n) (hE : EType w) (hS : Script w a2 n2) (hl2 : n2 ≤ 9223372036854775807) : Calls Tryd.prog 3 #[.int .i64 n, .int .i64 sp, .slice a2 n2 cap2] w fun e w' => e = .returned (.bool true) ∧ Below w.heap.size w w' := by
  have HSC : Hid (Script w a2 n2) := hS
  have HE1 : Hid (∀ w', Below w.heap.size w w' → EType w') := fun w' hb => hE.below hb hE.pos
  clear hS hE
  have mk := fun wz => made_ints n h2 wz
  go_enter Tryd.func3, Tryd.ntmps3
  go_wp2_with fail
  refine (new_yes n sp _ h1 h2 hsp).mono ?_
  rintro e w2 ⟨pb, bb, rfl, hp2, hb2⟩
  have H2 : Hid (PA n sp (fun b => b < w.heap.size) w2 pb bb fresh ∧ Below w.heap.size w w2) := ⟨hp2, hb2⟩
  clear hp2 hb2
  go_wp2_with fail
  refine (fault_yes n sp _ h1 h2 hsp).mono ?_
  rintro e w3 ⟨rfl, rfl⟩
  have HNIL : Hid (∀ wz, Calls Tryd.prog 6 #[.nilIface, .int .i64 0] wz fun ev w' => ev = .returned (.bool true) ∧ wz = w') := fun wz => error_nil 0 wz
  go_wp2_with fail
  refine (HNIL.out _).mono ?_
  rintro e w4 ⟨rfl, rfl⟩
  clear HNIL
  go_upto_region 8 with fail
  go_cut [11] (fun v wx => ∃ rb sb wb, v = .pointer (some ⟨rb, 0, none⟩) ∧ Hid (PS n sp w.heap.size pb bb rb sb wb w wx 0 fresh))
  case first =>
    have HFI : Hid (∀ sb wb W, ((sb = w3.heap.size ∧ wb = w3.heap.size + 1) ∨ (wb = w3.heap.size ∧ sb = w3.heap.size + 1)) → W = (((w3.alloc (.cells (mkI n) 3)).alloc (.cells (mkI n) 3)).alloc (.cells #[.int .i64 (sp : Int), .slice (some ⟨sb, 0, none⟩) n n, .slice (some ⟨wb, 0, none⟩) n n] 34)).drew → PS n sp w.heap.size pb bb (w3.heap.size + 2) sb wb w W 0 fresh) := by
      intro sb wb W hs hW
      obtain ⟨g1, g2, g3⟩ := RA.first (sp := sp) w3 h1 h2 sb wb hs W hW
      have hsz := H2.out.2.size
      refine ⟨H2.out.1.more g2 (fun b hb => ?_), g1, H2.out.2.trans (g2.mono hsz), fun _ => Nat.le_refl _, by omega⟩
      rcases hb with e | e | e | e
      · exact Or.inl e
      · exact Or.inr ⟨by omega, by omega⟩
      · exact Or.inr ⟨by omega, by omega⟩
      · exact Or.inr ⟨by omega, by omega⟩
    go_region
    all_goals
      try go_wp2_with fail
      go_meet
      refine ⟨_, _, _, rfl, HFI.out _ _ _ ?_ rfl⟩
      simp
  case rest =>
  obtain ⟨wz, hwz⟩ : ∃ wz, wz = wc := ⟨_, rfl⟩
  obtain ⟨rb, sb, wb, rfl, H3⟩ := hcut
  clear H2 mk hwz
  go_wp2
  go_loopw [12] (fun j wq => ∃ (i : Nat) (s : St), i ≤ n2 ∧ j = .int .i64 i ∧ Hid (PS n sp w.heap.size pb bb rb sb wb w wq i s)) (fun j _ => n2 - (intOf j).toNat)
  case atStart => exact ⟨0, fresh, Nat.zero_le _, rfl, H3.out⟩
  case round =>
    obtain ⟨i, s, hi, rfl, hR⟩ := hrel
    clear H3
    by_cases hlt2 : i < n2
    · obtain ⟨so, oo, ha2, o, hO⟩ := HSC.out.slice hlt2
      have hOr := hO.below hR.out.bel (Nat.le_refl _)
      have k0 := hOr.k0
      have k1 := hOr.k1
      clear hO hOr
      rw [ha2]
      generalize o.kind = kd at k0
      generalize o.block = bl at k1
      have HN : Hid (PS n sp w.heap.size pb bb rb sb wb w (wr.alloc (.cells #[.int .i64 kd, .int .i64 bl] 36)) i s ∧ PA n sp (RT w.heap.size rb sb wb wr.heap.size) (wr.alloc (.cells #[.int .i64 kd, .int .i64 bl] 36)) pb bb s ∧ (wr.alloc (.cells #[.int .i64 kd, .int .i64 bl] 36)).cell? ⟨wr.heap.size, 1, none⟩ = some (.int .i64 bl)) := by
        have hb : Below wr.heap.size wr (wr.alloc (.cells #[.int .i64 kd, .int .i64 bl] 36)) := (Below.refl _ _).alloc (Nat.le_refl _) _
        refine ⟨hR.out.below hb hR.out.bel.size, hR.out.pa.more hb (fun b hb' => hb'.imp id (fun e => ⟨by omega, by rw [e]; simp⟩)), by simp⟩
      clear hR
      by_cases hk1 : kd = 1
      · subst hk1
        go_wp2_with fail
        generalize wr.alloc (.cells #[.int .i64 1, .int .i64 bl] 36) = wa at HN ⊢
        generalize wr.heap.size = nb at *
        clear k0 k1
        have hT := take_any HN.out.2.1
        have HRT : Hid (∀ W, RA n sp W rb sb wb s → Calls Tryd.prog 8 #[.pointer (some ⟨rb, 0, none⟩)] W fun e w' => e = .returned (.tuple #[.int .i64 ((takeF n sp s).1.1 : Nat), .int .i64 ((takeF n sp s).1.2 : Nat)]) ∧ RA n sp w' rb sb wb (takeF n sp s).2 ∧ Keep (fun b => b = sb) W w') := fun W h => rtake_any h
        have HW : Hid (∀ x, (takeF n sp s).2.wn x ≤ i + 1) := fun x => by rw [takeF_wn]; exact Nat.le_succ_of_le (HN.out.1.le x)
        generalize takeF n sp s = q at *
        obtain ⟨⟨b, ec⟩, s5⟩ := q
        have HT : Hid (Calls Tryd.prog 7 #[.pointer (some ⟨pb, 0, none⟩)] wa fun e w' => e = .returned (.tuple #[.int .i64 (b : Nat), errI ec]) ∧ PA n sp (RT w.heap.size rb sb wb nb) w' pb bb s5 ∧ Keep (fun b => ¬ RT w.heap.size rb sb wb nb b) wa w') := hT
        clear hT
        refine HT.out.mono ?_
        rintro e w5 ⟨rfl, h5, hk5⟩
        have H5 : Hid (PM n sp w.heap.size pb bb rb sb wb nb w w5 i s s5 bl) := HN.out.1.half rfl hk5 HN.out.2.2 h5
        clear h5 hk5 HT HN
        go_wp2_with fail
        refine (HRT.out _ H5.out.ra).mono ?_
        rintro e w6 ⟨rfl, h6, hk6⟩
        have H6 : Hid (PS n sp w.heap.size pb bb rb sb wb w w6 (i + 1) s5) := H5.out.whole H5.out.sz (hk6.mono fun b hb => Or.inr (Or.inl hb)) h6 HW.out
        clear h6 hk6 HRT H5 HW
        go_wp2_with fail
        refine (same_err ec w6 (HE1.out w6 H6.out.bel)).mono ?_
        rintro e w7 ⟨rfl, hb7⟩
        have H7 : Hid (PS n sp w.heap.size pb bb rb sb wb w w7 (i + 1) s5) := H6.out.below hb7 H6.out.bel.size
        clear hb7 H6
        have HC7 : Hid (Calls Tryd.prog 13 #[.pointer (some ⟨pb, 0, none⟩)] w7 fun e w' => e = .returned (.tuple #[.int .i64 (cnt s5.st 0 n : Int), .int .i64 (cnt s5.st 1 n : Int), .int .i64 (cnt s5.st 2 n : Int)]) ∧ Below w7.heap.size w7 w') := pa_count H7.out.pa
        have HM : Hid (∀ W, RA n sp W rb sb wb s5 → Calls Tryd.prog 14 #[.pointer (some ⟨rb, 0, none⟩), .int .i64 ((0 : Nat) : Int)] W fun e w' => e = .returned (.int .i64 (cnt s5.st 0 n : Int)) ∧ w' = W) := fun W h => many_any h 0
        have HM1 : Hid (∀ W, RA n sp W rb sb wb s5 → Calls Tryd.prog 14 #[.pointer (some ⟨rb, 0, none⟩), .int .i64 ((1 : Nat) : Int)] W fun e w' => e = .returned (.int .i64 (cnt s5.st 1 n : Int)) ∧ w' = W) := fun W h => many_any h 1
        have HM2 : Hid (∀ W, RA n sp W rb sb wb s5 → Calls Tryd.prog 14 #[.pointer (some ⟨rb, 0, none⟩), .int .i64 ((2 : Nat) : Int)] W fun e w' => e = .returned (.int .i64 (cnt s5.st 2 n : Int)) ∧ w' = W) := fun W h => many_any h 2
        have HLP : Hid (∀ W, PA n sp (RS w.heap.size rb sb wb) W pb bb s5 → Calls Tryd.prog 15 #[.pointer (some ⟨pb, 0, none⟩)] W fun e w' => e = .returned (.bool (latB n sp s5)) ∧ Below W.heap.size W w') := fun W h => pa_latched h
        have HLR : Hid (∀ W, RA n sp W rb sb wb s5 → Calls Tryd.prog 16 #[.pointer (some ⟨rb, 0, none⟩)] W fun e w' => e = .returned (.bool (latB n sp s5)) ∧ w' = W) := fun W h => rlat_any h
        generalize cnt s5.st 0 n = y0 at *
        generalize cnt s5.st 1 n = y1 at *
        generalize cnt s5.st 2 n = y2 at *
        generalize latB n sp s5 = lb at *
        go_wp2_with fail
        refine HC7.out.mono ?_
        rintro e w8 ⟨rfl, hb8⟩
        have H8 : Hid (PS n sp w.heap.size pb bb rb sb wb w w8 (i + 1) s5) := H7.out.below hb8 H7.out.bel.size
        clear hb8 H7 HC7
        go_wp2_with fail
        refine (HM.out _ H8.out.ra).mono ?_
        rintro e w9 ⟨rfl, rfl⟩
        go_wp2_with fail
        refine (HM1.out _ H8.out.ra).mono ?_
        rintro e w9 ⟨rfl, rfl⟩
        go_wp2_with fail
        refine (HM2.out _ H8.out.ra).mono ?_
        rintro e w9 ⟨rfl, rfl⟩
        go_wp2_with fail
        refine (HLP.out _ H8.out.pa).mono ?_
        rintro e w10 ⟨rfl, hb10⟩
        have H10 : Hid (PS n sp w.heap.size pb bb rb sb wb w w10 (i + 1) s5) := H8.out.below hb10 H8.out.bel.size
        clear hb10 H8
        go_wp2_with fail
        refine (HLR.out _ H10.out.ra).mono ?_
        rintro e w11 ⟨rfl, rfl⟩
        clear HM HM1 HM2 HLP HLR
        have z0 : ((y0 : Int) != (y0 : Int)) = false := by simp
        have z1 : ((y1 : Int) != (y1 : Int)) = false := by simp
        have z2 : ((y2 : Int) != (y2 : Int)) = false := by simp
        cases lb
        case false =>
          go_wp2
          exact ⟨⟨i + 1, s5, by omega, by go_num, H10.out⟩, by simp [intOf]; omega⟩
        case true =>
          go_wp2
          exact ⟨⟨i + 1, s5, by omega, by go_num, H10.out⟩, by simp [intOf]; omega⟩
      have t1 : (kd == 1) = false := by rw [beq_eq_false_iff_ne]; exact hk1
      by_cases hk2 : kd = 2
      · subst hk2
        clear hk1
        go_wp2_with fail
        generalize wr.alloc (.cells #[.int .i64 2, .int .i64 bl] 36) = wa at HN ⊢
        generalize wr.heap.size = nb at *
        clear k0 k1
        have hT := give_any HN.out.2.1 bl (fun x => by have := HN.out.1.le x; omega)
        have HRT : Hid (∀ W, RA n sp W rb sb wb s → Calls Tryd.prog 10 #[.pointer (some ⟨rb, 0, none⟩), .int .i64 bl, .int .i64 ((0 : Nat) : Int)] W fun e w' => e = .returned (.int .i64 ((putF n sp s bl 0).1 : Nat)) ∧ RA n sp w' rb sb wb (putF n sp s bl 0).2 ∧ Keep (RM rb sb wb) W w') := fun W h => rput_any h bl 0 (Or.inl rfl) (fun x => by have := HN.out.1.le x; omega)
        have HW : Hid (∀ x, (putF n sp s bl 0).2.wn x ≤ i + 1) := putF_wn n sp s bl 0 i HN.out.1.le
        generalize putF n sp s bl 0 = q at *
        obtain ⟨ec, s5⟩ := q
        have HT : Hid (Calls Tryd.prog 9 #[.pointer (some ⟨pb, 0, none⟩), .int .i64 bl] wa fun e w' => e = .returned (errI ec) ∧ PA n sp (RT w.heap.size rb sb wb nb) w' pb bb s5 ∧ Keep (fun b => ¬ RT w.heap.size rb sb wb nb b) wa w') := hT
        clear hT
        refine HT.out.mono ?_
        rintro e w5 ⟨rfl, h5, hk5⟩
        have H5 : Hid (PM n sp w.heap.size pb bb rb sb wb nb w w5 i s s5 bl) := HN.out.1.half rfl hk5 HN.out.2.2 h5
        have k1 := H5.out.c1
        clear h5 hk5 HT HN
        go_wp2_with fail
        refine (HRT.out _ H5.out.ra).mono ?_
        rintro e w6 ⟨rfl, h6, hk6⟩
        have H6 : Hid (PS n sp w.heap.size pb bb rb sb wb w w6 (i + 1) s5) := H5.out.whole H5.out.sz hk6 h6 HW.out
        clear h6 hk6 HRT H5 HW k1
        go_wp2_with fail
        refine (same_err ec w6 (HE1.out w6 H6.out.bel)).mono ?_
        rintro e w7 ⟨rfl, hb7⟩
        have H7 : Hid (PS n sp w.heap.size pb bb rb sb wb w w7 (i + 1) s5) := H6.out.below hb7 H6.out.bel.size
        clear hb7 H6
        have HC7 : Hid (Calls Tryd.prog 13 #[.pointer (some ⟨pb, 0, none⟩)] w7 fun e w' => e = .returned (.tuple #[.int .i64 (cnt s5.st 0 n : Int), .int .i64 (cnt s5.st 1 n : Int), .int .i64 (cnt s5.st 2 n : Int)]) ∧ Below w7.heap.size w7 w') := pa_count H7.out.pa
        have HM : Hid (∀ W, RA n sp W rb sb wb s5 → Calls Tryd.prog 14 #[.pointer (some ⟨rb, 0, none⟩), .int .i64 ((0 : Nat) : Int)] W fun e w' => e = .returned (.int .i64 (cnt s5.st 0 n : Int)) ∧ w' = W) := fun W h => many_any h 0
        have HM1 : Hid (∀ W, RA n sp W rb sb wb s5 → Calls Tryd.prog 14 #[.pointer (some ⟨rb, 0, none⟩), .int .i64 ((1 : Nat) : Int)] W fun e w' => e = .returned (.int .i64 (cnt s5.st 1 n : Int)) ∧ w' = W) := fun W h => many_any h 1
        have HM2 : Hid (∀ W, RA n sp W rb sb wb s5 → Calls Tryd.prog 14 #[.pointer (some ⟨rb, 0, none⟩), .int .i64 ((2 : Nat) : Int)] W fun e w' => e = .returned (.int .i64 (cnt s5.st 2 n : Int)) ∧ w' = W) := fun W h => many_any h 2
        have HLP : Hid (∀ W, PA n sp (RS w.heap.size rb sb wb) W pb bb s5 → Calls Tryd.prog 15 #[.pointer (some ⟨pb, 0, none⟩)] W fun e w' => e = .returned (.bool (latB n sp s5)) ∧ Below W.heap.size W w') := fun W h => pa_latched h
        have HLR : Hid (∀ W, RA n sp W rb sb wb s5 → Calls Tryd.prog 16 #[.pointer (some ⟨rb, 0, none⟩)] W fun e w' => e = .returned (.bool (latB n sp s5)) ∧ w' = W) := fun W h => rlat_any h
        generalize cnt s5.st 0 n = y0 at *
        generalize cnt s5.st 1 n = y1 at *
        generalize cnt s5.st 2 n = y2 at *
        generalize latB n sp s5 = lb at *
        go_wp2_with fail
        refine HC7.out.mono ?_
        rintro e w8 ⟨rfl, hb8⟩
        have H8 : Hid (PS n sp w.heap.size pb bb rb sb wb w w8 (i + 1) s5) := H7.out.below hb8 H7.out.bel.size
        clear hb8 H7 HC7
        go_wp2_with fail
        refine (HM.out _ H8.out.ra).mono ?_
        rintro e w9 ⟨rfl, rfl⟩
        go_wp2_with fail
        refine (HM1.out _ H8.out.ra).mono ?_
        rintro e w9 ⟨rfl, rfl⟩
        go_wp2_with fail
        refine (HM2.out _ H8.out.ra).mono ?_
        rintro e w9 ⟨rfl, rfl⟩
        go_wp2_with fail
        refine (HLP.out _ H8.out.pa).mono ?_
        rintro e w10 ⟨rfl, hb10⟩
        have H10 : Hid (PS n sp w.heap.size pb bb rb sb wb w w10 (i + 1) s5) := H8.out.below hb10 H8.out.bel.size
        clear hb10 H8
        go_wp2_with fail
        refine (HLR.out _ H10.out.ra).mono ?_
        rintro e w11 ⟨rfl, rfl⟩
        clear HM HM1 HM2 HLP HLR
        have z0 : ((y0 : Int) != (y0 : Int)) = false := by simp
        have z1 : ((y1 : Int) != (y1 : Int)) = false := by simp
        have z2 : ((y2 : Int) != (y2 : Int)) = false := by simp
        cases lb
        case false =>
          go_wp2
          exact ⟨⟨i + 1, s5, by omega, by go_num, H10.out⟩, by simp [intOf]; omega⟩
        case true =>
          go_wp2
          exact ⟨⟨i + 1, s5, by omega, by go_num, H10.out⟩, by simp [intOf]; omega⟩
      have t2 : (kd == 2) = false := by rw [beq_eq_false_iff_ne]; exact hk2
      by_cases hk3 : kd = 3
      · subst hk3
        clear hk1 hk2
        go_wp2_with fail
        generalize wr.alloc (.cells #[.int .i64 3, .int .i64 bl] 36) = wa at HN ⊢
        generalize wr.heap.size = nb at *
        clear k0 k1
        have hT := retire_any HN.out.2.1 bl
        have HRT : Hid (∀ W, RA n sp W rb sb wb s → Calls Tryd.prog 10 #[.pointer (some ⟨rb, 0, none⟩), .int .i64 bl, .int .i64 ((2 : Nat) : Int)] W fun e w' => e = .returned (.int .i64 ((putF n sp s bl 2).1 : Nat)) ∧ RA n sp w' rb sb wb (putF n sp s bl 2).2 ∧ Keep (RM rb sb wb) W w') := fun W h => rput_any h bl 2 (Or.inr rfl) (fun x => by have := HN.out.1.le x; omega)
        have HW : Hid (∀ x, (putF n sp s bl 2).2.wn x ≤ i + 1) := putF_wn n sp s bl 2 i HN.out.1.le
        generalize putF n sp s bl 2 = q at *
        obtain ⟨ec, s5⟩ := q
        have HT : Hid (Calls Tryd.prog 11 #[.pointer (some ⟨pb, 0, none⟩), .int .i64 bl] wa fun e w' => e = .returned (errI ec) ∧ PA n sp (RT w.heap.size rb sb wb nb) w' pb bb s5 ∧ Keep (fun b => ¬ RT w.heap.size rb sb wb nb b) wa w') := hT
        clear hT
        refine HT.out.mono ?_
        rintro e w5 ⟨rfl, h5, hk5⟩
        have H5 : Hid (PM n sp w.heap.size pb bb rb sb wb nb w w5 i s s5 bl) := HN.out.1.half rfl hk5 HN.out.2.2 h5
        have k1 := H5.out.c1
        clear h5 hk5 HT HN
        go_wp2_with fail
        refine (HRT.out _ H5.out.ra).mono ?_
        rintro e w6 ⟨rfl, h6, hk6⟩
        have H6 : Hid (PS n sp w.heap.size pb bb rb sb wb w w6 (i + 1) s5) := H5.out.whole H5.out.sz hk6 h6 HW.out
        clear h6 hk6 HRT H5 HW k1
        go_wp2_with fail
        refine (same_err ec w6 (HE1.out w6 H6.out.bel)).mono ?_
        rintro e w7 ⟨rfl, hb7⟩
        have H7 : Hid (PS n sp w.heap.size pb bb rb sb wb w w7 (i + 1) s5) := H6.out.below hb7 H6.out.bel.size
        clear hb7 H6
        have HC7 : Hid (Calls Tryd.prog 13 #[.pointer (some ⟨pb, 0, none⟩)] w7 fun e w' => e = .returned (.tuple #[.int .i64 (cnt s5.st 0 n : Int), .int .i64 (cnt s5.st 1 n : Int), .int .i64 (cnt s5.st 2 n : Int)]) ∧ Below w7.heap.size w7 w') := pa_count H7.out.pa
        have HM : Hid (∀ W, RA n sp W rb sb wb s5 → Calls Tryd.prog 14 #[.pointer (some ⟨rb, 0, none⟩), .int .i64 ((0 : Nat) : Int)] W fun e w' => e = .returned (.int .i64 (cnt s5.st 0 n : Int)) ∧ w' = W) := fun W h => many_any h 0
        have HM1 : Hid (∀ W, RA n sp W rb sb wb s5 → Calls Tryd.prog 14 #[.pointer (some ⟨rb, 0, none⟩), .int .i64 ((1 : Nat) : Int)] W fun e w' => e = .returned (.int .i64 (cnt s5.st 1 n : Int)) ∧ w' = W) := fun W h => many_any h 1
        have HM2 : Hid (∀ W, RA n sp W rb sb wb s5 → Calls Tryd.prog 14 #[.pointer (some ⟨rb, 0, none⟩), .int .i64 ((2 : Nat) : Int)] W fun e w' => e = .returned (.int .i64 (cnt s5.st 2 n : Int)) ∧ w' = W) := fun W h => many_any h 2
        have HLP : Hid (∀ W, PA n sp (RS w.heap.size rb sb wb) W pb bb s5 → Calls Tryd.prog 15 #[.pointer (some ⟨pb, 0, none⟩)] W fun e w' => e = .returned (.bool (latB n sp s5)) ∧ Below W.heap.size W w') := fun W h => pa_latched h
        have HLR : Hid (∀ W, RA n sp W rb sb wb s5 → Calls Tryd.prog 16 #[.pointer (some ⟨rb, 0, none⟩)] W fun e w' => e = .returned (.bool (latB n sp s5)) ∧ w' = W) := fun W h => rlat_any h
        generalize cnt s5.st 0 n = y0 at *
        generalize cnt s5.st 1 n = y1 at *
        generalize cnt s5.st 2 n = y2 at *
        generalize latB n sp s5 = lb at *
        go_wp2_with fail
        refine HC7.out.mono ?_
        rintro e w8 ⟨rfl, hb8⟩
        have H8 : Hid (PS n sp w.heap.size pb bb rb sb wb w w8 (i + 1) s5) := H7.out.below hb8 H7.out.bel.size
        clear hb8 H7 HC7
        go_wp2_with fail
        refine (HM.out _ H8.out.ra).mono ?_
        rintro e w9 ⟨rfl, rfl⟩
        go_wp2_with fail
        refine (HM1.out _ H8.out.ra).mono ?_
        rintro e w9 ⟨rfl, rfl⟩
        go_wp2_with fail
        refine (HM2.out _ H8.out.ra).mono ?_
        rintro e w9 ⟨rfl, rfl⟩
        go_wp2_with fail
        refine (HLP.out _ H8.out.pa).mono ?_
        rintro e w10 ⟨rfl, hb10⟩
        have H10 : Hid (PS n sp w.heap.size pb bb rb sb wb w w10 (i + 1) s5) := H8.out.below hb10 H8.out.bel.size
        clear hb10 H8
        go_wp2_with fail
        refine (HLR.out _ H10.out.ra).mono ?_
        rintro e w11 ⟨rfl, rfl⟩
        clear HM HM1 HM2 HLP HLR
        have z0 : ((y0 : Int) != (y0 : Int)) = false := by simp
        have z1 : ((y1 : Int) != (y1 : Int)) = false := by simp
        have z2 : ((y2 : Int) != (y2 : Int)) = false := by simp
        cases lb
        case false =>
          go_wp2
          exact ⟨⟨i + 1, s5, by omega, by go_num, H10.out⟩, by simp [intOf]; omega⟩
        case true =>
          go_wp2
          exact ⟨⟨i + 1, s5, by omega, by go_num, H10.out⟩, by simp [intOf]; omega⟩
      have t3 : (kd == 3) = false := by rw [beq_eq_false_iff_ne]; exact hk3
      clear hk1 hk2 hk3
      by_cases hin : 0 ≤ bl ∧ bl < n
      · obtain ⟨m, rfl⟩ := Int.eq_ofNat_of_zero_le hin.1
        have hmn : m < n := by omega
        clear hin
        go_wp2_with fail
        generalize wr.alloc (.cells #[.int .i64 kd, .int .i64 (m : Int)] 36) = wa at HN ⊢
        generalize wr.heap.size = nb at *
        clear k0 k1
        have HWO : Hid (Calls Tryd.prog 12 #[.pointer (some ⟨pb, 0, none⟩), .int .i64 (m : Int)] wa fun e w' => e = .returned (.tuple #[.int .i64 (s.wn m : Int), .nilIface]) ∧ w' = wa) := pa_worn HN.out.1.pa m hmn
        have c2 := HN.out.1.ra.c2
        have q2 := HN.out.1.ra.r2 m hmn
        have k1 := HN.out.2.2
        have u1 : ¬ ((m : Int) < 0) := by omega
        have u2 : ¬ ((n : Int) ≤ (m : Int)) := by omega
        refine HWO.out.mono ?_
        rintro e w5 ⟨rfl, rfl⟩
        have H6 : Hid (PS n sp w.heap.size pb bb rb sb wb w w5 (i + 1) s) := ⟨HN.out.1.pa, HN.out.1.ra, HN.out.1.bel, fun x => Nat.le_succ_of_le (HN.out.1.le x), HN.out.1.ge⟩
        clear HWO HN
        generalize s.wn m = X at *
        go_wp2
        go_quiet (fail)
        have H7 : Hid (PS n sp w.heap.size pb bb rb sb wb w (w5.drewN nq) (i + 1) s) := H6.out.below (below_drewN (Below.refl _ _) nq) H6.out.bel.size
        clear H6 c2 q2 k1
        generalize w5.drewN nq = w7 at *
        have HC7 : Hid (Calls Tryd.prog 13 #[.pointer (some ⟨pb, 0, none⟩)] w7 fun e w' => e = .returned (.tuple #[.int .i64 (cnt s.st 0 n : Int), .int .i64 (cnt s.st 1 n : Int), .int .i64 (cnt s.st 2 n : Int)]) ∧ Below w7.heap.size w7 w') := pa_count H7.out.pa
        have HM : Hid (∀ W, RA n sp W rb sb wb s → Calls Tryd.prog 14 #[.pointer (some ⟨rb, 0, none⟩), .int .i64 ((0 : Nat) : Int)] W fun e w' => e = .returned (.int .i64 (cnt s.st 0 n : Int)) ∧ w' = W) := fun W h => many_any h 0
        have HM1 : Hid (∀ W, RA n sp W rb sb wb s → Calls Tryd.prog 14 #[.pointer (some ⟨rb, 0, none⟩), .int .i64 ((1 : Nat) : Int)] W fun e w' => e = .returned (.int .i64 (cnt s.st 1 n : Int)) ∧ w' = W) := fun W h => many_any h 1
        have HM2 : Hid (∀ W, RA n sp W rb sb wb s → Calls Tryd.prog 14 #[.pointer (some ⟨rb, 0, none⟩), .int .i64 ((2 : Nat) : Int)] W fun e w' => e = .returned (.int .i64 (cnt s.st 2 n : Int)) ∧ w' = W) := fun W h => many_any h 2
        have HLP : Hid (∀ W, PA n sp (RS w.heap.size rb sb wb) W pb bb s → Calls Tryd.prog 15 #[.pointer (some ⟨pb, 0, none⟩)] W fun e w' => e = .returned (.bool (latB n sp s)) ∧ Below W.heap.size W w') := fun W h => pa_latched h
        have HLR : Hid (∀ W, RA n sp W rb sb wb s → Calls Tryd.prog 16 #[.pointer (some ⟨rb, 0, none⟩)] W fun e w' => e = .returned (.bool (latB n sp s)) ∧ w' = W) := fun W h => rlat_any h
        generalize cnt s.st 0 n = y0 at *
        generalize cnt s.st 1 n = y1 at *
        generalize cnt s.st 2 n = y2 at *
        generalize latB n sp s = lb at *
        go_wp2_with fail
        refine HC7.out.mono ?_
        rintro e w8 ⟨rfl, hb8⟩
        have H8 : Hid (PS n sp w.heap.size pb bb rb sb wb w w8 (i + 1) s) := H7.out.below hb8 H7.out.bel.size
        clear hb8 H7 HC7
        go_wp2_with fail
        refine (HM.out _ H8.out.ra).mono ?_
        rintro e w9 ⟨rfl, rfl⟩
        go_wp2_with fail
        refine (HM1.out _ H8.out.ra).mono ?_
        rintro e w9 ⟨rfl, rfl⟩
        go_wp2_with fail
        refine (HM2.out _ H8.out.ra).mono ?_
        rintro e w9 ⟨rfl, rfl⟩
        go_wp2_with fail
        refine (HLP.out _ H8.out.pa).mono ?_
        rintro e w10 ⟨rfl, hb10⟩
        have H10 : Hid (PS n sp w.heap.size pb bb rb sb wb w w10 (i + 1) s) := H8.out.below hb10 H8.out.bel.size
        clear hb10 H8
        go_wp2_with fail
        refine (HLR.out _ H10.out.ra).mono ?_
        rintro e w11 ⟨rfl, rfl⟩
        clear HM HM1 HM2 HLP HLR
        have z0 : ((y0 : Int) != (y0 : Int)) = false := by simp
        have z1 : ((y1 : Int) != (y1 : Int)) = false := by simp
        have z2 : ((y2 : Int) != (y2 : Int)) = false := by simp
        cases lb
        case false =>
          go_wp2
          exact ⟨⟨i + 1, s, by omega, by go_num, H10.out⟩, by simp [intOf]; omega⟩
        case true =>
          go_wp2
          exact ⟨⟨i + 1, s, by omega, by go_num, H10.out⟩, by simp [intOf]; omega⟩
      · go_wp2_with fail
        generalize wr.alloc (.cells #[.int .i64 kd, .int .i64 bl] 36) = wa at HN ⊢
        generalize wr.heap.size = nb at *
        clear k0 k1
        have HWO : Hid (Calls Tryd.prog 12 #[.pointer (some ⟨pb, 0, none⟩), .int .i64 bl] wa fun e w' => e = .returned (.tuple #[.int .i64 0, .iface 28 (.int .i64 1)]) ∧ w' = wa) := pa_worn_no HN.out.1.pa bl hin
        have k1 := HN.out.2.2
        refine HWO.out.mono ?_
        rintro e w5 ⟨rfl, rfl⟩
        have H6 : Hid (PS n sp w.heap.size pb bb rb sb wb w w5 (i + 1) s) := ⟨HN.out.1.pa, HN.out.1.ra, HN.out.1.bel, fun x => Nat.le_succ_of_le (HN.out.1.le x), HN.out.1.ge⟩
        have HER : Hid (Calls Tryd.prog 6 #[.iface 28 (.int .i64 1), .int .i64 1] w5 fun ev w' => ev = .returned (.bool true) ∧ Below w5.heap.size w5 w') := error_same 1 w5 (HE1.out w5 H6.out.bel)
        clear HWO HN
        by_cases hneg : bl < 0
        · have u1 : decide (bl < 0) = true := decide_eq_true hneg
          clear hin
          go_wp2_with fail
          refine HER.out.mono ?_
          rintro e w7 ⟨rfl, hb7⟩
          have H7 : Hid (PS n sp w.heap.size pb bb rb sb wb w w7 (i + 1) s) := H6.out.below hb7 H6.out.bel.size
          clear hb7 H6 HER k1
          have HC7 : Hid (Calls Tryd.prog 13 #[.pointer (some ⟨pb, 0, none⟩)] w7 fun e w' => e = .returned (.tuple #[.int .i64 (cnt s.st 0 n : Int), .int .i64 (cnt s.st 1 n : Int), .int .i64 (cnt s.st 2 n : Int)]) ∧ Below w7.heap.size w7 w') := pa_count H7.out.pa
          have HM : Hid (∀ W, RA n sp W rb sb wb s → Calls Tryd.prog 14 #[.pointer (some ⟨rb, 0, none⟩), .int .i64 ((0 : Nat) : Int)] W fun e w' => e = .returned (.int .i64 (cnt s.st 0 n : Int)) ∧ w' = W) := fun W h => many_any h 0
          have HM1 : Hid (∀ W, RA n sp W rb sb wb s → Calls Tryd.prog 14 #[.pointer (some ⟨rb, 0, none⟩), .int .i64 ((1 : Nat) : Int)] W fun e w' => e = .returned (.int .i64 (cnt s.st 1 n : Int)) ∧ w' = W) := fun W h => many_any h 1
          have HM2 : Hid (∀ W, RA n sp W rb sb wb s → Calls Tryd.prog 14 #[.pointer (some ⟨rb, 0, none⟩), .int .i64 ((2 : Nat) : Int)] W fun e w' => e = .returned (.int .i64 (cnt s.st 2 n : Int)) ∧ w' = W) := fun W h => many_any h 2
          have HLP : Hid (∀ W, PA n sp (RS w.heap.size rb sb wb) W pb bb s → Calls Tryd.prog 15 #[.pointer (some ⟨pb, 0, none⟩)] W fun e w' => e = .returned (.bool (latB n sp s)) ∧ Below W.heap.size W w') := fun W h => pa_latched h
          have HLR : Hid (∀ W, RA n sp W rb sb wb s → Calls Tryd.prog 16 #[.pointer (some ⟨rb, 0, none⟩)] W fun e w' => e = .returned (.bool (latB n sp s)) ∧ w' = W) := fun W h => rlat_any h
          generalize cnt s.st 0 n = y0 at *
          generalize cnt s.st 1 n = y1 at *
          generalize cnt s.st 2 n = y2 at *
          generalize latB n sp s = lb at *
          go_wp2_with fail
          refine HC7.out.mono ?_
          rintro e w8 ⟨rfl, hb8⟩
          have H8 : Hid (PS n sp w.heap.size pb bb rb sb wb w w8 (i + 1) s) := H7.out.below hb8 H7.out.bel.size
          clear hb8 H7 HC7
          go_wp2_with fail
          refine (HM.out _ H8.out.ra).mono ?_
          rintro e w9 ⟨rfl, rfl⟩
          go_wp2_with fail
          refine (HM1.out _ H8.out.ra).mono ?_
          rintro e w9 ⟨rfl, rfl⟩
          go_wp2_with fail
          refine (HM2.out _ H8.out.ra).mono ?_
          rintro e w9 ⟨rfl, rfl⟩
          go_wp2_with fail
          refine (HLP.out _ H8.out.pa).mono ?_
          rintro e w10 ⟨rfl, hb10⟩
          have H10 : Hid (PS n sp w.heap.size pb bb rb sb wb w w10 (i + 1) s) := H8.out.below hb10 H8.out.bel.size
          clear hb10 H8
          go_wp2_with fail
          refine (HLR.out _ H10.out.ra).mono ?_
          rintro e w11 ⟨rfl, rfl⟩
          clear HM HM1 HM2 HLP HLR
          have z0 : ((y0 : Int) != (y0 : Int)) = false := by simp
          have z1 : ((y1 : Int) != (y1 : Int)) = false := by simp
          have z2 : ((y2 : Int) != (y2 : Int)) = false := by simp
          cases lb
          case false =>
            go_wp2
            exact ⟨⟨i + 1, s, by omega, by go_num, H10.out⟩, by simp [intOf]; omega⟩
          case true =>
            go_wp2
            exact ⟨⟨i + 1, s, by omega, by go_num, H10.out⟩, by simp [intOf]; omega⟩
        · have u1 : decide (bl < 0) = false := decide_eq_false hneg
          have u2 : (n : Int) ≤ bl := by omega
          clear hin
          go_wp2_with fail
          refine HER.out.mono ?_
          rintro e w7 ⟨rfl, hb7⟩
          have H7 : Hid (PS n sp w.heap.size pb bb rb sb wb w w7 (i + 1) s) := H6.out.below hb7 H6.out.bel.size
          clear hb7 H6 HER k1
          have HC7 : Hid (Calls Tryd.prog 13 #[.pointer (some ⟨pb, 0, none⟩)] w7 fun e w' => e = .returned (.tuple #[.int .i64 (cnt s.st 0 n : Int), .int .i64 (cnt s.st 1 n : Int), .int .i64 (cnt s.st 2 n : Int)]) ∧ Below w7.heap.size w7 w') := pa_count H7.out.pa
          have HM : Hid (∀ W, RA n sp W rb sb wb s → Calls Tryd.prog 14 #[.pointer (some ⟨rb, 0, none⟩), .int .i64 ((0 : Nat) : Int)] W fun e w' => e = .returned (.int .i64 (cnt s.st 0 n : Int)) ∧ w' = W) := fun W h => many_any h 0
          have HM1 : Hid (∀ W, RA n sp W rb sb wb s → Calls Tryd.prog 14 #[.pointer (some ⟨rb, 0, none⟩), .int .i64 ((1 : Nat) : Int)] W fun e w' => e = .returned (.int .i64 (cnt s.st 1 n : Int)) ∧ w' = W) := fun W h => many_any h 1
          have HM2 : Hid (∀ W, RA n sp W rb sb wb s → Calls Tryd.prog 14 #[.pointer (some ⟨rb, 0, none⟩), .int .i64 ((2 : Nat) : Int)] W fun e w' => e = .returned (.int .i64 (cnt s.st 2 n : Int)) ∧ w' = W) := fun W h => many_any h 2
          have HLP : Hid (∀ W, PA n sp (RS w.heap.size rb sb wb) W pb bb s → Calls Tryd.prog 15 #[.pointer (some ⟨pb, 0, none⟩)] W fun e w' => e = .returned (.bool (latB n sp s)) ∧ Below W.heap.size W w') := fun W h => pa_latched h
          have HLR : Hid (∀ W, RA n sp W rb sb wb s → Calls Tryd.prog 16 #[.pointer (some ⟨rb, 0, none⟩)] W fun e w' => e = .returned (.bool (latB n sp s)) ∧ w' = W) := fun W h => rlat_any h
          generalize cnt s.st 0 n = y0 at *
          generalize cnt s.st 1 n = y1 at *
          generalize cnt s.st 2 n = y2 at *
          generalize latB n sp s = lb at *
          go_wp2_with fail
          refine HC7.out.mono ?_
          rintro e w8 ⟨rfl, hb8⟩
          have H8 : Hid (PS n sp w.heap.size pb bb rb sb wb w w8 (i + 1) s) := H7.out.below hb8 H7.out.bel.size
          clear hb8 H7 HC7
          go_wp2_with fail
          refine (HM.out _ H8.out.ra).mono ?_
          rintro e w9 ⟨rfl, rfl⟩
          go_wp2_with fail
          refine (HM1.out _ H8.out.ra).mono ?_
          rintro e w9 ⟨rfl, rfl⟩
          go_wp2_with fail
          refine (HM2.out _ H8.out.ra).mono ?_
          rintro e w9 ⟨rfl, rfl⟩
          go_wp2_with fail
          refine (HLP.out _ H8.out.pa).mono ?_
          rintro e w10 ⟨rfl, hb10⟩
          have H10 : Hid (PS n sp w.heap.size pb bb rb sb wb w w10 (i + 1) s) := H8.out.below hb10 H8.out.bel.size
          clear hb10 H8
          go_wp2_with fail
          refine (HLR.out _ H10.out.ra).mono ?_
          rintro e w11 ⟨rfl, rfl⟩
          clear HM HM1 HM2 HLP HLR
          have z0 : ((y0 : Int) != (y0 : Int)) = false := by simp
          have z1 : ((y1 : Int) != (y1 : Int)) = false := by simp
          have z2 : ((y2 : Int) != (y2 : Int)) = false := by simp
          cases lb
          case false =>
            go_wp2
            exact ⟨⟨i + 1, s, by omega, by go_num, H10.out⟩, by simp [intOf]; omega⟩
          case true =>
            go_wp2
            exact ⟨⟨i + 1, s, by omega, by go_num, H10.out⟩, by simp [intOf]; omega⟩
    · obtain rfl : i = n2 := by omega
      have HF : Hid (Below w.heap.size w wr) := hR.out.bel
      clear hR
      go_wp2
      go_ret
      exact ⟨rfl, HF.out⟩
theorem plays_any (n sp : Int) (a2 : Option Addr) (n2 cap2 : Nat) (w : World) (hE : EType w) (hS : Script w a2 n2) (hl2 : n2 ≤ 9223372036854775807) : Calls Tryd.prog 3 #[.int .i64 n, .int .i64 sp, .slice a2 n2 cap2] w fun e w' => e = .returned (.bool true) ∧ Below w.heap.size w w' := by
  by_cases h : GoodN n sp
  · obtain ⟨N, S, rfl, rfl, h1, h2, h3⟩ := goodN_nat h
    exact plays_yes N S a2 n2 cap2 w h1 h2 h3 hE hS hl2
  · exact plays_no n sp a2 n2 cap2 w hE h
end Go.Proofs.YtebnjoammfidnacDoor
