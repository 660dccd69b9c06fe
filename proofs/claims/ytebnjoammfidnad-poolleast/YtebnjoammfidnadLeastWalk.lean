/-
  The walk of granarylaw1.PoolLeast: it returns true, and nothing that was there has turned.
-/
import Derived.Test.YtebnjoammfidnadFact
namespace Go.Proofs.Ytebnjoammfidnad
open Go.RowKit
set_option linter.unusedVariables false

theorem infoBool : (Try.prog.info? 4).map (fun i => (i.zero, i.size, i.bytes)) = some (some (.bool false), 1, 1) := by kernel_rfl
def mkF (n : Nat) : Array Value := (List.replicate n (Value.bool false)).toArray
theorem made_bools (n : Nat) (hn : n ≤ 64) (w : World) : (Instr.makeSlice 35 (.int .i64 (n : Int)) (.int .i64 (n : Int))).run Try.prog w = .ok (.slice (some ⟨w.heap.size, 0, none⟩) n n) (w.alloc (.cells (mkF n) 4)) := by
  obtain ⟨i0, hi, hz0, hz1, hz2⟩ := info_parts infoBool
  have h := run_make (P := Try.prog) w 35 4 i0 (.bool false) Try.underlying35 hi hz0 .i64 .i64 n n (by omega) (by omega) (by rw [hz2]; omega) (by omega)
  rw [h]
  have e : madeCells (Value.bool false).cells ((n : Int).toNat * i0.size) = mkF n := by
    unfold mkF
    apply Array.toList_inj.1
    rw [hz1, Int.toNat_natCast, Nat.mul_one]
    exact toList_madeCells_one (Value.bool false) n
  rw [e]
  simp
/-- The bools f lie in block g. -/
structure BR (w : World) (g n : Nat) (f : Nat → Bool) : Prop where
  cell : ∀ i, i < n → w.cell? ⟨g, i, none⟩ = some (.bool (f i))
  free : ∀ i, w.frozen? ⟨g, i, none⟩ = false
theorem BR.keep {S : Nat → Prop} {w w' : World} {g n : Nat} {f : Nat → Bool} (h : BR w g n f) (hn : 1 ≤ n) (hk : Keep S w w') (hs : ¬ S g) : BR w' g n f := by
  have hl : g < w.heap.size := World.block_lt_of_cell? w _ (h.cell 0 hn)
  exact ⟨fun i hi => by rw [hk.cell (p := ⟨g, i, none⟩) hl hs]; exact h.cell i hi, fun i => by rw [hk.frozen (p := ⟨g, i, none⟩) hl hs]; exact h.free i⟩
theorem BR.set {w : World} {g n : Nat} {f f' : Nat → Bool} (h : BR w g n f) (k : Nat) (v : Bool) (hk : k < n) (hv : f' k = v) (hf : ∀ i, i ≠ k → f' i = f i) : BR (w.setCell ⟨g, k, none⟩ (.bool v)) g n f' := by
  refine ⟨fun i hi => ?_, fun i => by rw [World.frozen?_setCell]; exact h.free i⟩
  by_cases e : i = k
  · subst e; rw [World.cell?_setCell_same _ _ _ (h.cell i hi), hv]
  · rw [far _ (by omega), hf i e]; exact h.cell i hi
theorem BR.congr {w : World} {g n : Nat} {f f' : Nat → Bool} (h : BR w g n f) (hf : ∀ i, i < n → f' i = f i) : BR w g n f' := ⟨fun i hi => by rw [hf i hi]; exact h.cell i hi, h.free⟩
theorem BR.first (w : World) (n : Nat) : BR (w.alloc (.cells (mkF n) 4)) w.heap.size n (fun i => decide (i < 0)) := by
  have hh := heap_alloc_new w (.cells (mkF n) 4)
  generalize w.alloc (.cells (mkF n) 4) = W at hh ⊢
  refine ⟨fun i hi => ?_, fun i => by simp [World.frozen?, hh]⟩
  simp [World.cell?, hh, mkF, hi]
theorem PA.less {R T : Nat → Prop} {n sp : Nat} {w : World} {pb bb : Nat} {s : St} (h : PA n sp R w pb bb s) (ht : ∀ b, T b → R b) : PA n sp T w pb bb s := by
  obtain ⟨a, cap, L, h1, h2⟩ := h
  exact ⟨a, cap, L, h1, fun b hb => h2 b (ht b hb)⟩
/-- What lies there between two calls. -/
structure LS (n sp B gb pb bb : Nat) (w1 wr : World) (i : Nat) (s : St) : Prop where
  pa : PA n sp (fun b => b < B ∨ b = gb) wr pb bb s
  br : BR wr gb n (fun x => decide (s.st x = 0))
  bel : Below B w1 wr
  le : ∀ k, s.wn k ≤ i
def RN (B gb nb : Nat) (b : Nat) : Prop := b < B ∨ b = gb ∨ b = nb
theorem least_free {n sp : Nat} {s s' : St} {b : Nat} (h : takeF n sp s = ((b, 0), s')) : b < n ∧ s.st b = 0 ∧ s' = { s with st := upd s.st b 1 } ∧ ∀ x, x < n → s.st x = 0 → ¬ Lts s.wn x b := by
  rcases takeF_cases n sp s with ⟨e, _⟩ | ⟨_, c, e1, e2⟩
  · rw [h] at e; exact absurd rfl e
  · rw [h] at e2
    simp only [Prod.mk.injEq, and_true] at e2
    obtain ⟨rfl, rfl⟩ := e2
    obtain ⟨h1, h2, h3⟩ := best_some s n b e1
    exact ⟨h1, h2, rfl, h3⟩
theorem put_free {n sp : Nat} {s : St} {b : Int} (x : Nat) : decide ((putF n sp s b 2).2.st x = 0) = decide (s.st x = 0) := by
  rcases putF_cases n sp s b 2 with ⟨_, e⟩ | ⟨_, k, _, _, h1, e⟩
  · rw [e]
  · rw [e]
    show decide (upd s.st k 2 x = 0) = decide (s.st x = 0)
    refine decide_eq_decide.2 ?_
    by_cases ex : x = k
    · subst ex; rw [upd_same, h1]; simp
    · rw [upd_ne _ _ _ _ ex]
theorem LS.after {n sp B gb nb pb bb i : Nat} {w1 wa w5 : World} {s : St} {v : Value} (h : LS n sp B gb pb bb w1 wa i s) (hn : 1 ≤ n) (hB : B ≤ wa.heap.size) (hk : Keep (fun b => ¬ RN B gb nb b) wa w5) (c : wa.cell? ⟨nb, 1, none⟩ = some v) :
    BR w5 gb n (fun x => decide (s.st x = 0)) ∧ Below B w1 w5 ∧ w5.cell? ⟨nb, 1, none⟩ = some v :=
  ⟨h.br.keep hn hk (fun e => e (Or.inr (Or.inl rfl))), h.bel.trans (hk.base hB (fun b hb => Or.inl hb)), by rw [hk.cell (p := ⟨nb, 1, none⟩) (World.block_lt_of_cell? wa _ c) (fun e => e (Or.inr (Or.inr rfl)))]; exact c⟩
set_option maxRecDepth 100000 in
set_option maxHeartbeats 1600000 in
theorem least_no (n sp : Int) (a2 : Option Addr) (n2 cap2 : Nat) (w : World) (h : ¬ GoodN n sp) : Calls Try.prog 4 #[.int .i64 n, .int .i64 sp, .slice a2 n2 cap2] w fun e w' => e = .returned (.bool true) ∧ Below w.heap.size w w' := by
  have HF : Hid (¬ GoodN n sp) := h
  clear h
  go_enter Try.func4, Try.ntmps4
  go_wp2_with fail
  refine (fact_any _).mono ?_
  rintro e w1 ⟨rfl, hb1⟩
  go_wp2_with fail
  refine (new_no n sp _ HF.out).mono ?_
  rintro e w2 ⟨rfl, rfl⟩
  go_wp2
  go_ret
  exact ⟨rfl, hb1⟩
set_option maxRecDepth 100000 in
set_option maxHeartbeats 8000000 in
theorem least_yes (n sp : Nat) (a2 : Option Addr) (n2 cap2 : Nat) (w : World) (h1 : 1 ≤ n) (h2 : n ≤ 64) (hsp : sp ≤ n) (hS : Script w a2 n2) (hl2 : n2 ≤ 9223372036854775807) : Calls Try.prog 4 #[.int .i64 n, .int .i64 sp, .slice a2 n2 cap2] w fun e w' => e = .returned (.bool true) ∧ Below w.heap.size w w' := by
  have HS : Hid (Script w a2 n2) := hS
  clear hS
  have mk := fun wz => made_bools n h2 wz
  go_enter Try.func4, Try.ntmps4
  go_wp2_with fail
  refine (fact_any _).mono ?_
  rintro e w1 ⟨rfl, hb1⟩
  have HB1 : Hid (Below w.heap.size w w1) := hb1
  have HS1 : Hid (Script w1 a2 n2) := HS.out.below hb1 (Nat.le_refl _)
  clear hb1 HS
  go_wp2_with fail
  refine (new_yes n sp _ h1 h2 hsp).mono ?_
  rintro e w2 ⟨pb, bb, rfl, hp2, hb2⟩
  have H2 : Hid (PA n sp (fun b => b < w1.heap.size) w2 pb bb fresh ∧ Below w1.heap.size w1 w2) := ⟨hp2, hb2⟩
  clear hp2 hb2
  go_wp2
  have H3 : Hid (PA n sp (fun b => b < w1.heap.size ∨ b = w2.heap.size) (w2.alloc (.cells (mkF n) 4)) pb bb fresh ∧ BR (w2.alloc (.cells (mkF n) 4)) w2.heap.size n (fun i => decide (i < 0)) ∧ Below w1.heap.size w1 (w2.alloc (.cells (mkF n) 4)) ∧ w1.heap.size ≤ w2.heap.size) := by
    have hb : Below w2.heap.size w2 (w2.alloc (.cells (mkF n) 4)) := (Below.refl _ _).alloc (Nat.le_refl _) _
    refine ⟨H2.out.1.more hb (fun b hb' => hb'.imp id (fun e => ⟨by omega, by rw [e]; simp⟩)), BR.first w2 n, H2.out.2.trans (hb.mono H2.out.2.size), H2.out.2.size⟩
  clear mk H2
  generalize w2.alloc (.cells (mkF n) 4) = w3 at *
  generalize w2.heap.size = gb at *
  have HGB : Hid (w1.heap.size ≤ gb) := H3.out.2.2.2
  go_loopw [11] (fun j wr => ∃ (k : Nat), k ≤ n ∧ j = .int .i64 k ∧ Hid (PA n sp (fun b => b < w1.heap.size ∨ b = gb) wr pb bb fresh ∧ BR wr gb n (fun i => decide (i < k)) ∧ Below w1.heap.size w1 wr)) (fun j _ => n - (intOf j).toNat)
  case atStart => exact ⟨0, Nat.zero_le _, rfl, H3.out.1, H3.out.2.1, H3.out.2.2.1⟩
  case round =>
    obtain ⟨k, hk, rfl, hR⟩ := hrel
    clear H3
    by_cases hlt : k < n
    · have ck := hR.out.2.1.cell k hlt
      have fk := hR.out.2.1.free k
      have HR : Hid (PA n sp (fun b => b < w1.heap.size ∨ b = gb) (wr.setCell ⟨gb, k, none⟩ (.bool true)) pb bb fresh ∧ BR (wr.setCell ⟨gb, k, none⟩ (.bool true)) gb n (fun i => decide (i < k + 1)) ∧ Below w1.heap.size w1 (wr.setCell ⟨gb, k, none⟩ (.bool true))) := by
        refine ⟨hR.out.1.keep (S := fun b => b = gb) ((Keep.refl _ _).set1 _ _) (fun b hb => Or.inr hb), hR.out.2.1.set k true hlt (by simp) (fun i hi => ?_), hR.out.2.2.setCell HGB.out _⟩
        exact decide_eq_decide.2 (by omega)
      clear hR
      go_wp2
      exact ⟨⟨k + 1, by omega, by go_num, HR.out⟩, by simp [intOf]; omega⟩
    · obtain rfl : k = n := by omega
      have HL : Hid (LS k sp w1.heap.size gb pb bb w1 wr 0 fresh) := ⟨hR.out.1, hR.out.2.1.congr (fun i hi => by simp [fresh, hi]), hR.out.2.2, fun _ => Nat.le_refl _⟩
      clear hR
      go_wp2
      go_loopw [12] (fun j wq => ∃ (i : Nat) (s : St), i ≤ n2 ∧ j = .int .i64 i ∧ Hid (LS k sp w1.heap.size gb pb bb w1 wq i s)) (fun j _ => n2 - (intOf j).toNat)
      case atStart => exact ⟨0, fresh, Nat.zero_le _, rfl, HL.out⟩
      case round =>
        obtain ⟨i, s, hi, rfl, hR⟩ := hrel
        obtain ⟨wo, hwo⟩ : ∃ wo, wo = wr := ⟨_, rfl⟩
        clear HL
        by_cases hlt2 : i < n2
        · obtain ⟨sb, so, ha2, o, hO⟩ := HS1.out.slice hlt2
          have hB := hR.out.bel
          have hOr := hO.below hB (Nat.le_refl _)
          have k0 := hOr.k0
          have k1 := hOr.k1
          clear hO hOr hB
          rw [ha2]
          generalize o.kind = kd at k0
          generalize o.block = bl at k1
          have HN : Hid (LS k sp w1.heap.size gb pb bb w1 (wr.alloc (.cells #[.int .i64 kd, .int .i64 bl] 37)) i s ∧ PA k sp (RN w1.heap.size gb wr.heap.size) (wr.alloc (.cells #[.int .i64 kd, .int .i64 bl] 37)) pb bb s ∧ (wr.alloc (.cells #[.int .i64 kd, .int .i64 bl] 37)).cell? ⟨wr.heap.size, 1, none⟩ = some (.int .i64 bl) ∧ (wr.alloc (.cells #[.int .i64 kd, .int .i64 bl] 37)).cell? ⟨wr.heap.size, 0, none⟩ = some (.int .i64 kd) ∧ w1.heap.size ≤ wr.heap.size) := by
            have hb : Below wr.heap.size wr (wr.alloc (.cells #[.int .i64 kd, .int .i64 bl] 37)) := (Below.refl _ _).alloc (Nat.le_refl _) _
            have hs := hR.out.bel.size
            refine ⟨⟨hR.out.pa.below hb, hR.out.br.keep h1 (S := fun _ => False) (Keep.of_below hb) id, hR.out.bel.trans (hb.mono hs), hR.out.le⟩, hR.out.pa.more hb (fun b hb' => ?_), by simp, by simp, hs⟩
            rcases hb' with e | e | e
            · exact Or.inl (Or.inl e)
            · exact Or.inl (Or.inr e)
            · exact Or.inr ⟨by omega, by rw [e]; simp⟩
          clear hR hwo
          by_cases hk2 : kd = 2
          · subst hk2
            go_wp2_with fail
            generalize wr.alloc (.cells #[.int .i64 2, .int .i64 bl] 37) = wa at HN ⊢
            generalize wr.heap.size = nb at *
            clear k0 k1
            have hG := give_any HN.out.2.1 bl (fun x => by have := HN.out.1.le x; omega)
            have HW := putF_wn k sp s bl 0 i HN.out.1.le
            have HC := putF_cases k sp s bl 0
            generalize hq : putF k sp s bl 0 = q at *
            obtain ⟨ec, s5⟩ := q
            have HWH : Hid (∀ x, s5.wn x ≤ i + 1) := HW
            have HG : Hid (Calls Try.prog 9 #[.pointer (some ⟨pb, 0, none⟩), .int .i64 bl] wa fun e w' => e = .returned (errI ec) ∧ PA k sp (RN w1.heap.size gb nb) w' pb bb s5 ∧ Keep (fun b => ¬ RN w1.heap.size gb nb b) wa w') := hG
            clear hG HW hq
            rcases HC with ⟨h0, hs⟩ | ⟨_, m, rfl, hm, hst, hs⟩
            · have h0' : ec ≠ 0 := h0
              have hs' : s5 = s := hs
              clear h0 hs
              rw [errI_ne h0'] at HG
              clear h0'
              refine HG.out.mono ?_
              rintro e w5 ⟨rfl, h5, hk5⟩
              have HF : Hid (LS k sp w1.heap.size gb pb bb w1 w5 (i + 1) s5) := by
                obtain ⟨g1, g2, g3⟩ := HN.out.1.after h1 HN.out.1.bel.size hk5 HN.out.2.2.1
                exact ⟨h5.less (fun b hb => hb.imp id Or.inl), by rw [hs']; exact g1, g2, HWH.out⟩
              clear h5 hk5 HG HN hs'
              go_wp2
              exact ⟨⟨i + 1, s5, by omega, by go_num, HF.out⟩, by simp [intOf]; omega⟩
            · obtain ⟨rfl, rfl⟩ : ec = 0 ∧ s5 = { st := upd s.st m 0, wn := upd s.wn m (s.wn m + 1) } := by
                simp only [if_true, Prod.mk.injEq] at hs
                exact hs
              clear hs
              rw [errI0] at HG
              refine HG.out.mono ?_
              rintro e w5 ⟨rfl, h5, hk5⟩
              obtain ⟨g1, g2, g3⟩ := HN.out.1.after h1 HN.out.1.bel.size hk5 HN.out.2.2.1
              have cm := g1.cell m hm
              have fm := g1.free m
              have HF : Hid (LS k sp w1.heap.size gb pb bb w1 (w5.setCell ⟨gb, m, none⟩ (.bool true)) (i + 1) { st := upd s.st m 0, wn := upd s.wn m (s.wn m + 1) }) := by
                refine ⟨(h5.less (T := fun b => b < w1.heap.size ∨ b = gb) (fun b hb => hb.imp id Or.inl)).keep (S := fun b => b = gb) ((Keep.refl _ _).set1 _ _) (fun b hb => Or.inr hb), g1.set m true hm (by simp [upd_same]) (fun x hx => by simp [upd_ne _ _ _ _ hx]), g2.setCell HGB.out _, HWH.out⟩
              clear h5 hk5 HG HN g1 g2 hst
              generalize decide (s.st m = 0) = bm at cm
              go_wp2
              exact ⟨⟨i + 1, _, by omega, by go_num, HF.out⟩, by simp [intOf]; omega⟩
          have t2 : (kd == 2) = false := by rw [beq_eq_false_iff_ne]; exact hk2
          by_cases hk3 : kd = 3
          · subst hk3
            go_wp2_with fail
            generalize wr.alloc (.cells #[.int .i64 3, .int .i64 bl] 37) = wa at HN ⊢
            generalize wr.heap.size = nb at *
            clear k0 k1
            have hG := retire_any HN.out.2.1 bl
            have HW : Hid (∀ x, (putF k sp s bl 2).2.wn x ≤ i + 1) := putF_wn k sp s bl 2 i HN.out.1.le
            have HP2 : Hid (∀ x, decide ((putF k sp s bl 2).2.st x = 0) = decide (s.st x = 0)) := fun x => put_free x
            generalize putF k sp s bl 2 = q at *
            obtain ⟨ec, s5⟩ := q
            have HG : Hid (Calls Try.prog 11 #[.pointer (some ⟨pb, 0, none⟩), .int .i64 bl] wa fun e w' => e = .returned (errI ec) ∧ PA k sp (RN w1.heap.size gb nb) w' pb bb s5 ∧ Keep (fun b => ¬ RN w1.heap.size gb nb b) wa w') := hG
            clear hG
            refine HG.out.mono ?_
            rintro e w5 ⟨rfl, h5, hk5⟩
            have HF : Hid (LS k sp w1.heap.size gb pb bb w1 w5 (i + 1) s5) := by
              obtain ⟨g1, g2, g3⟩ := HN.out.1.after h1 HN.out.1.bel.size hk5 HN.out.2.2.1
              exact ⟨h5.less (fun b hb => hb.imp id Or.inl), g1.congr (fun x _ => HP2.out x), g2, HW.out⟩
            clear h5 hk5 HG HN HW HP2
            go_wp2
            exact ⟨⟨i + 1, s5, by omega, by go_num, HF.out⟩, by simp [intOf]; omega⟩
          have t3 : (kd == 3) = false := by rw [beq_eq_false_iff_ne]; exact hk3
          clear hk2 hk3
          go_wp2_with fail
          generalize wr.alloc (.cells #[.int .i64 kd, .int .i64 bl] 37) = wa at HN ⊢
          generalize wr.heap.size = nb at *
          clear k0 k1
          have hT := take_any HN.out.2.1
          have HW : Hid ((takeF k sp s).2.wn = s.wn) := takeF_wn k sp s
          have HC := takeF_cases k sp s
          have HLF : Hid (∀ b s', takeF k sp s = ((b, 0), s') → b < k ∧ s.st b = 0 ∧ s' = { s with st := upd s.st b 1 } ∧ ∀ x, x < k → s.st x = 0 → ¬ Lts s.wn x b) := fun b s' e => least_free e
          generalize takeF k sp s = q at *
          obtain ⟨⟨b, ec⟩, s5⟩ := q
          have HT : Hid (Calls Try.prog 8 #[.pointer (some ⟨pb, 0, none⟩)] wa fun e w' => e = .returned (.tuple #[.int .i64 (b : Nat), errI ec]) ∧ PA k sp (RN w1.heap.size gb nb) w' pb bb s5 ∧ Keep (fun b => ¬ RN w1.heap.size gb nb b) wa w') := hT
          clear hT
          rcases HC with ⟨h0, hs, hb0⟩ | ⟨_, m, _, hs⟩
          · have h0' : ec ≠ 0 := h0
            have hs' : s5 = s := hs
            clear h0 hs hb0
            rw [errI_ne h0'] at HT
            clear h0'
            refine HT.out.mono ?_
            rintro e w5 ⟨rfl, h5, hk5⟩
            have HF : Hid (LS k sp w1.heap.size gb pb bb w1 w5 (i + 1) s5) := by
              obtain ⟨g1, g2, g3⟩ := HN.out.1.after h1 HN.out.1.bel.size hk5 HN.out.2.2.1
              exact ⟨h5.less (fun b hb => hb.imp id Or.inl), by rw [hs']; exact g1, g2, fun x => by rw [hs']; exact Nat.le_succ_of_le (HN.out.1.le x)⟩
            clear h5 hk5 HT HN hs' HLF HW
            go_wp2
            exact ⟨⟨i + 1, s5, by omega, by go_num, HF.out⟩, by simp [intOf]; omega⟩
          · obtain rfl : ec = 0 := by
              simp only [Prod.mk.injEq] at hs
              exact hs.1.2
            obtain ⟨hbn, hb0, hs5, hmin⟩ := HLF.out b s5 rfl
            have HM : Hid (∀ x, x < k → s.st x = 0 → ¬ Lts s.wn x b) := hmin
            have HB0 : Hid (s.st b = 0 ∧ s5 = { s with st := upd s.st b 1 }) := ⟨hb0, hs5⟩
            clear hs hmin HLF hb0 hs5
            rw [errI0] at HT
            refine HT.out.mono ?_
            rintro e w5 ⟨rfl, h5, hk5⟩
            obtain ⟨g1, g2, g3⟩ := HN.out.1.after h1 HN.out.1.bel.size hk5 HN.out.2.2.1
            have cb := g1.cell b hbn
            have fb := g1.free b
            rw [decide_eq_true HB0.out.1] at cb
            have HBR : Hid (BR w5 gb k (fun x => decide (s.st x = 0))) := g1
            have HWO : Hid (∀ j : Nat, j < k → Calls Try.prog 10 #[.pointer (some ⟨pb, 0, none⟩), .int .i64 (j : Int)] w5 fun e w' => e = .returned (.tuple #[.int .i64 (s.wn j : Int), .nilIface]) ∧ w' = w5) := fun j hj => by
              have := pa_worn h5 j hj
              rw [HW.out] at this
              exact this
            have HF : Hid (LS k sp w1.heap.size gb pb bb w1 (w5.setCell ⟨gb, b, none⟩ (.bool false)) (i + 1) s5) := by
              refine ⟨(h5.less (T := fun b => b < w1.heap.size ∨ b = gb) (fun b hb => hb.imp id Or.inl)).keep (S := fun b => b = gb) ((Keep.refl _ _).set1 _ _) (fun b hb => Or.inr hb), g1.set b false hbn (by rw [HB0.out.2]; simp [upd_same]) (fun x hx => by rw [HB0.out.2]; simp [upd_ne _ _ _ _ hx]), g2.setCell HGB.out _, fun x => ?_⟩
              have e : s5.wn = s.wn := HW.out
              rw [e]
              exact Nat.le_succ_of_le (HN.out.1.le x)
            have u1 : ¬ ((b : Int) < 0) := by omega
            have u2 : ¬ ((k : Int) ≤ (b : Int)) := by omega
            clear h5 hk5 HT HN g1 g2 g3 HW HB0
            go_wp2_with fail
            refine (HWO.out b hbn).mono ?_
            rintro e w6 ⟨rfl, rfl⟩
            go_wp2
            go_loopw [19] (fun j wq => ∃ q : Nat, q ≤ k ∧ j = .int .i64 q ∧ wq = w6) (fun j _ => k - (intOf j).toNat)
            case atStart => exact ⟨0, Nat.zero_le _, rfl, rfl⟩
            case round =>
              obtain ⟨q, hq, rfl, rfl⟩ := hrel
              by_cases hlq : q < k
              · have cq := HBR.out.cell q hlq
                have hM := HM.out q hlq
                by_cases hf : s.st q = 0
                · have hM2 := hM hf
                  rw [decide_eq_true hf] at cq
                  unfold Lts at hM2
                  have v1 : ¬ ((s.wn q : Int) < (s.wn b : Int)) := by omega
                  have HWQ := HWO.out q hlq
                  clear hM hf
                  by_cases he : s.wn q = s.wn b
                  · have v2 : ((s.wn q : Int) == (s.wn b : Int)) = true := by rw [beq_iff_eq, he]
                    have v3 : ¬ ((q : Int) < (b : Int)) := by omega
                    clear hM2 he
                    generalize s.wn q = X at *
                    generalize s.wn b = Y at *
                    go_wp2_with fail
                    refine HWQ.mono ?_
                    rintro e w7 ⟨rfl, rfl⟩
                    go_wp2
                    exact ⟨⟨q + 1, by omega, by go_num, trivial⟩, by simp [intOf]; omega⟩
                  · have v2 : ((s.wn q : Int) == (s.wn b : Int)) = false := by rw [beq_eq_false_iff_ne]; omega
                    clear hM2 he
                    generalize s.wn q = X at *
                    generalize s.wn b = Y at *
                    go_wp2_with fail
                    refine HWQ.mono ?_
                    rintro e w7 ⟨rfl, rfl⟩
                    go_wp2
                    exact ⟨⟨q + 1, by omega, by go_num, trivial⟩, by simp [intOf]; omega⟩
                · rw [decide_eq_false hf] at cq
                  have HWQ := HWO.out q hlq
                  clear hM hf
                  generalize s.wn q = X at *
                  go_wp2_with fail
                  refine HWQ.mono ?_
                  rintro e w7 ⟨rfl, rfl⟩
                  go_wp2
                  exact ⟨⟨q + 1, by omega, by go_num, trivial⟩, by simp [intOf]; omega⟩
              · obtain rfl : q = k := by omega
                clear HBR HM HWO
                go_wp2
                exact ⟨⟨i + 1, s5, by omega, by go_num, HF.out⟩, by simp [intOf]; omega⟩
        · obtain rfl : i = n2 := by omega
          have HF : Hid (Below w.heap.size w wr) := HB1.out.trans (hR.out.bel.mono HB1.out.size)
          clear hR
          go_wp2
          go_ret
          exact ⟨rfl, HF.out⟩
theorem least_any (n sp : Int) (a2 : Option Addr) (n2 cap2 : Nat) (w : World) (hS : Script w a2 n2) (hl2 : n2 ≤ 9223372036854775807) : Calls Try.prog 4 #[.int .i64 n, .int .i64 sp, .slice a2 n2 cap2] w fun e w' => e = .returned (.bool true) ∧ Below w.heap.size w w' := by
  by_cases h : GoodN n sp
  · obtain ⟨N, S, rfl, rfl, h1, h2, h3⟩ := goodN_nat h
    exact least_yes N S a2 n2 cap2 w h1 h2 h3 hS hl2
  · exact least_no n sp a2 n2 cap2 w h
end Go.Proofs.Ytebnjoammfidnad
