/-
  The walk of granarylaw1.BookMoves: it returns true, and nothing that was there has turned.
-/
import Derived.Test.YtcppokafgohkgadDoorLaw
namespace Go.Proofs.YtcppokafgohkgadDoor
open Go.RowKit
set_option linter.unusedVariables false

set_option maxRecDepth 100000 in
set_option maxHeartbeats 1600000 in
theorem moves_no (n p : Int) (a2 : Option Addr) (n2 cap2 : Nat) (x y : Int) (w : World) (h : ¬ GoodN n p) : Calls Tryd.prog 6 #[.int .i64 n, .int .i64 p, .slice a2 n2 cap2, .int .i64 x, .int .i64 y] w fun e w' => e = .returned (.bool true) ∧ Below w.heap.size w w' := by
  have HF : Hid (∀ w, Calls Tryd.prog 15 #[.int .i64 n, .int .i64 p] w fun e w' => e = .returned (.tuple #[.pointer none, .iface 37 (.int .i64 1)]) ∧ w' = w) := fun w => new_no n p w h
  unfold GoodN at h
  by_cases h1 : n < 1
  · have t1 : decide (n < 1) = true := decide_eq_true h1
    clear h h1
    go_enter Tryd.func6, Tryd.ntmps6
    go_wp2_with fail
    refine (HF.out _).mono ?_
    rintro e w1 ⟨rfl, rfl⟩
    go_wp2
    go_ret
    exact ⟨rfl, Below.refl _ _⟩
  have t1 : decide (n < 1) = false := decide_eq_false h1
  by_cases h2 : 256 < n
  · have t2 : decide (256 < n) = true := decide_eq_true h2
    clear h h1 h2
    go_enter Tryd.func6, Tryd.ntmps6
    go_wp2_with fail
    refine (HF.out _).mono ?_
    rintro e w1 ⟨rfl, rfl⟩
    go_wp2
    go_ret
    exact ⟨rfl, Below.refl _ _⟩
  have t2 : decide (256 < n) = false := decide_eq_false h2
  by_cases h3 : p < 1
  · have t3 : decide (p < 1) = true := decide_eq_true h3
    clear h h1 h2 h3
    go_enter Tryd.func6, Tryd.ntmps6
    go_wp2_with fail
    refine (HF.out _).mono ?_
    rintro e w1 ⟨rfl, rfl⟩
    go_wp2
    go_ret
    exact ⟨rfl, Below.refl _ _⟩
  have t3 : decide (p < 1) = false := decide_eq_false h3
  have t4 : decide (4096 < p) = true := decide_eq_true (by omega)
  clear h h1 h2 h3
  go_enter Tryd.func6, Tryd.ntmps6
  go_wp2_with fail
  refine (HF.out _).mono ?_
  rintro e w1 ⟨rfl, rfl⟩
  go_wp2
  go_ret
  exact ⟨rfl, Below.refl _ _⟩
/-- What lies there while what was is written down. -/
structure MS (L P B bb ab ob W0 : Nat) (w wr : World) (s : Bk) (a : Option Addr) (cap k : Nat) : Prop where
  bs : BS L P B bb ab ob w wr s
  own : OwnI wr W0 a cap s.pa k
  lt : bb < W0 ∧ ab < W0 ∧ ob < W0
  sz : W0 ≤ wr.heap.size
theorem MS.app {L P B bb ab ob W0 cap cap1 k g : Nat} {w wr w' : World} {s : Bk} {a : Option Addr} (h : MS L P B bb ab ob W0 w wr s a cap k) (ho : OwnI w' W0 (some ⟨g, 0, none⟩) cap1 s.pa (k + 1)) (hk : Keep (blk a) wr w') : MS L P B bb ab ob W0 w w' s (some ⟨g, 0, none⟩) cap1 (k + 1) := by
  have hl := h.lt
  have hg := h.bs.ge
  refine ⟨h.bs.keep hk (fun b e => ?_), ho, hl, Nat.le_trans h.sz hk.size⟩
  have := (h.own.blk e).1
  refine ⟨by omega, fun e2 => ?_⟩
  rcases e2 with e2 | e2 | e2 <;> omega
set_option maxRecDepth 100000 in
set_option maxHeartbeats 8000000 in
theorem moves_yes (L P : Nat) (a2 : Option Addr) (n2 cap2 : Nat) (x y : Int) (w : World) (h1 : 1 ≤ L) (h2 : L ≤ 256) (h3 : 1 ≤ P) (h4 : P ≤ 4096) (hE : EType w) (hS : Script w a2 n2) (hl2 : n2 ≤ 9223372036854775807) : Calls Tryd.prog 6 #[.int .i64 (L : Int), .int .i64 (P : Int), .slice a2 n2 cap2, .int .i64 x, .int .i64 y] w fun e w' => e = .returned (.bool true) ∧ Below w.heap.size w w' := by
  have HSC : Hid (Script w a2 n2) := hS
  have HE1 : Hid (∀ w', Below w.heap.size w w' → EType w') := fun w' hb => hE.below hb hE.pos
  clear hS hE
  go_enter Tryd.func6, Tryd.ntmps6
  go_wp2_with fail
  refine (new_yes L P _ h1 h2 h3 h4).mono ?_
  rintro e w2 ⟨bb, ab, ob, rfl, hp2, hb2, g1, g2, g3⟩
  have H2 : Hid (BS L P w.heap.size bb ab ob w w2 fresh) := ⟨hp2, hb2, ⟨g1, g2, g3⟩, hb2.size⟩
  clear hp2 hb2 g1 g2 g3
  go_wp2
  go_loopw [13] (fun j wq => ∃ (i : Nat) (s : Bk), i ≤ n2 ∧ j = .int .i64 i ∧ Hid (BS L P w.heap.size bb ab ob w wq s)) (fun j _ => n2 - (intOf j).toNat)
  case atStart => exact ⟨0, fresh, Nat.zero_le _, rfl, H2.out⟩
  case round =>
    obtain ⟨i, s, hi, rfl, hR⟩ := hrel
    clear H2
    by_cases hlt2 : i < n2
    · obtain ⟨so, oo, ha2, o, hO⟩ := HSC.out.slice hlt2
      have hOr := hO.below hR.out.bel (Nat.le_refl _)
      have k1 := hOr.k1
      have k2 := hOr.k2
      clear hO hOr
      rw [ha2]
      generalize o.a = x1 at k1
      generalize o.b = y1 at k2
      have HD : Hid (BS L P w.heap.size bb ab ob w wr.drew s) := hR.out.below ((Below.refl _ _).drew)
      have HS2 : Hid (Calls Tryd.prog 19 #[.pointer (some ⟨bb, 0, none⟩), .int .i64 x1, .int .i64 y1] wr.drew fun e w' => e = .returned (errI (setF L P s x1 y1).1) ∧ BO L P w' bb ab ob (setF L P s x1 y1).2 ∧ Keep (BT ab ob) wr.drew w') := set_any HD.out.bo x1 y1
      generalize setF L P s x1 y1 = r at *
      generalize errI r.1 = ev at *
      clear hR
      go_wp2
      go_region_with (go_at_call 19; refine HS2.out.mono ?_; rintro e w3 ⟨rfl, h3', hk3⟩)
      all_goals
        have HF : Hid (BS L P w.heap.size bb ab ob w w3 r.2) := HD.out.step h3' hk3
        clear h3' hk3 HS2 HD k1 k2
        go_wp2
        exact ⟨⟨i + 1, r.2, by omega, by go_num, HF.out⟩, by simp [intOf]; omega⟩
    · obtain rfl : i = n2 := by omega
      have HM : Hid (MS L P w.heap.size bb ab ob wr.heap.size w wr s none 0 0) := ⟨hR.out, OwnI.nil _ _ _, hR.out.bo.bw.lt, Nat.le_refl _⟩
      clear hR HSC
      generalize wr.heap.size = W0 at HM
      go_wp2
      go_loopw [14, 15] (fun v j wq => ∃ (k cap : Nat) (a : Option Addr), k ≤ L ∧ j = .int .i64 k ∧ v = .slice a k cap ∧ Hid (MS L P w.heap.size bb ab ob W0 w wq s a cap k)) (fun _ j _ => L - (intOf j).toNat)
      case atStart => exact ⟨0, 0, none, Nat.zero_le _, rfl, rfl, HM.out⟩
      case round =>
        obtain ⟨k, cap, a, hk, rfl, rfl, hR⟩ := hrel
        obtain ⟨wo, hwo⟩ : ∃ wo, wo = wr := ⟨_, rfl⟩
        clear HM hwo
        by_cases hlt : k < L
        · have HA := at_any hR.out.bs.bo (k : Int)
          by_cases hv : s.pa k = -1
          · rw [tellF_none hlt hv] at HA
            have HV : Hid (s.pa k = -1) := hv
            have HA2 : Hid (Calls Tryd.prog 20 #[.pointer (some ⟨bb, 0, none⟩), .int .i64 (k : Int)] wr fun e w' => e = .returned (.tuple #[.int .i64 0, .iface 37 (.int .i64 4)]) ∧ w' = wr) := HA
            clear HA hv
            go_wp2_with fail
            refine HA2.out.mono ?_
            rintro e w4 ⟨rfl, rfl⟩
            clear HA2
            go_wp2_with (at_builtin; refine app_stepI rfl (.tmp 77) (.tmp 79) rfl w4 W0 cap k a s.pa (-1) (by rfl) (by rfl) hR.out.own HV.out (by omega) hR.out.sz ?_; intro g cap1 w5 ho5 hk5; have HF : Hid (MS L P w.heap.size bb ab ob W0 w w5 s (some ⟨g, 0, none⟩) cap1 (k + 1)) := hR.out.app ho5 hk5; clear ho5 hk5 hR HV)
            exact ⟨⟨k + 1, cap1, _, by omega, by go_num, rfl, HF.out⟩, by simp [intOf]; omega⟩
          · rw [tellF_some hlt hv] at HA
            have HA2 : Hid (Calls Tryd.prog 20 #[.pointer (some ⟨bb, 0, none⟩), .int .i64 (k : Int)] wr fun e w' => e = .returned (.tuple #[.int .i64 (s.pa k), .nilIface]) ∧ w' = wr) := HA
            clear HA hv
            obtain ⟨v, hv⟩ : ∃ v, s.pa k = v := ⟨_, rfl⟩
            rw [hv] at HA2
            have HV : Hid (s.pa k = v) := hv
            clear hv
            go_wp2_with fail
            refine HA2.out.mono ?_
            rintro e w4 ⟨rfl, rfl⟩
            clear HA2
            go_wp2_with (at_builtin; refine app_stepI rfl (.tmp 77) (.tmp 79) rfl w4 W0 cap k a s.pa v (by rfl) (by rfl) hR.out.own HV.out (by omega) hR.out.sz ?_; intro g cap1 w5 ho5 hk5; have HF : Hid (MS L P w.heap.size bb ab ob W0 w w5 s (some ⟨g, 0, none⟩) cap1 (k + 1)) := hR.out.app ho5 hk5; clear ho5 hk5 hR HV)
            exact ⟨⟨k + 1, cap1, _, by omega, by go_num, rfl, HF.out⟩, by simp [intOf]; omega⟩
        · obtain rfl : k = L := by omega
          obtain ⟨g, cur, ha, _⟩ := hR.out.own.parts h1
          subst ha
          have HS3 := set_any hR.out.bs.bo x y
          have HC := setF_cases k P s x y
          have HP : Hid (Inv k P s) := hR.out.bs.bo.inv
          have HAF : Hid (∀ w6 s6, BO k P w6 bb ab ob s6 → Keep (BT ab ob) wr w6 → BS k P w.heap.size bb ab ob w w6 s6 ∧ ∀ i, i < k → w6.cell? ⟨g, i, none⟩ = some (.int .i64 (s.pa i))) := by
            intro w6 s6 hb6 hk6
            have hl := hR.out.lt
            have hbl := hR.out.own.blk (b := g) ⟨_, rfl, rfl⟩
            refine ⟨hR.out.bs.step hb6 hk6, fun i hi => ?_⟩
            have ho6 := hR.out.own.keep hk6 (fun b hb e => by
              have hb := blk_some hb
              rcases e with e | e <;> omega)
            exact ho6.cell hi
          clear hR
          rcases HC with ⟨_, h5⟩ | ⟨l0, p0, rfl, rfl, hl0, hp0, ⟨_, _, h5⟩ | ⟨hf, h5⟩⟩
          · rw [h5] at HS3
            have HS4 : Hid (Calls Tryd.prog 19 #[.pointer (some ⟨bb, 0, none⟩), .int .i64 x, .int .i64 y] wr fun e w' => e = .returned (.iface 37 (.int .i64 1)) ∧ BO k P w' bb ab ob s ∧ Keep (BT ab ob) wr w') := HS3
            clear HS3 h5
            go_wp2_with fail
            refine HS4.out.mono ?_
            rintro e w6 ⟨rfl, h6, hk6⟩
            have H6 : Hid (BS k P w.heap.size bb ab ob w w6 s ∧ ∀ i, i < k → w6.cell? ⟨g, i, none⟩ = some (.int .i64 (s.pa i))) := HAF.out w6 s h6 hk6
            clear h6 hk6 HS4 HAF
            go_wp2
            go_loopw [18] (fun j wq => ∃ m : Nat, m ≤ k ∧ j = .int .i64 m ∧ wq = w6) (fun j _ => k - (intOf j).toNat)
            case atStart => exact ⟨0, Nat.zero_le _, rfl, rfl⟩
            case round =>
              obtain ⟨m, hm, rfl, rfl⟩ := hrel
              by_cases hlm : m < k
              · have HA := at_any H6.out.1.bo (m : Int)
                have q := H6.out.2 m hlm
                obtain ⟨tb, htb⟩ : ∃ tb, ((m : Int) == x) = tb := ⟨_, rfl⟩
                by_cases hv : s.pa m = -1
                · rw [tellF_none hlm hv] at HA
                  rw [hv] at q
                  have HA2 : Hid (Calls Tryd.prog 20 #[.pointer (some ⟨bb, 0, none⟩), .int .i64 (m : Int)] wr fun e w' => e = .returned (.tuple #[.int .i64 0, .iface 37 (.int .i64 4)]) ∧ w' = wr) := HA
                  clear HA hv
                  cases tb
                  all_goals
                    go_wp2_with fail
                    refine HA2.out.mono ?_
                    rintro e w7 ⟨rfl, rfl⟩
                    go_wp2
                    exact ⟨⟨m + 1, by omega, by go_num, trivial⟩, by simp [intOf]; omega⟩
                · rw [tellF_some hlm hv] at HA
                  have HA2 : Hid (Calls Tryd.prog 20 #[.pointer (some ⟨bb, 0, none⟩), .int .i64 (m : Int)] wr fun e w' => e = .returned (.tuple #[.int .i64 (s.pa m), .nilIface]) ∧ w' = wr) := HA
                  clear HA hv
                  generalize s.pa m = v at *
                  cases tb
                  all_goals
                    go_wp2_with fail
                    refine HA2.out.mono ?_
                    rintro e w7 ⟨rfl, rfl⟩
                    go_wp2
                    exact ⟨⟨m + 1, by omega, by go_num, trivial⟩, by simp [intOf]; omega⟩
              · obtain rfl : m = k := by omega
                have HB : Hid (Below w.heap.size w wr) := H6.out.1.bel
                clear H6
                go_wp2
                go_ret
                exact ⟨rfl, HB.out⟩
          · rw [h5] at HS3
            have HS4 : Hid (Calls Tryd.prog 19 #[.pointer (some ⟨bb, 0, none⟩), .int .i64 (l0 : Int), .int .i64 (p0 : Int)] wr fun e w' => e = .returned (.iface 37 (.int .i64 10)) ∧ BO k P w' bb ab ob s ∧ Keep (BT ab ob) wr w') := HS3
            clear HS3 h5
            go_wp2_with fail
            refine HS4.out.mono ?_
            rintro e w6 ⟨rfl, h6, hk6⟩
            have H6 : Hid (BS k P w.heap.size bb ab ob w w6 s ∧ ∀ i, i < k → w6.cell? ⟨g, i, none⟩ = some (.int .i64 (s.pa i))) := HAF.out w6 s h6 hk6
            clear h6 hk6 HS4 HAF
            go_wp2
            go_loopw [18] (fun j wq => ∃ m : Nat, m ≤ k ∧ j = .int .i64 m ∧ wq = w6) (fun j _ => k - (intOf j).toNat)
            case atStart => exact ⟨0, Nat.zero_le _, rfl, rfl⟩
            case round =>
              obtain ⟨m, hm, rfl, rfl⟩ := hrel
              by_cases hlm : m < k
              · have HA := at_any H6.out.1.bo (m : Int)
                have q := H6.out.2 m hlm
                obtain ⟨tb, htb⟩ : ∃ tb, ((m : Int) == (l0 : Int)) = tb := ⟨_, rfl⟩
                by_cases hv : s.pa m = -1
                · rw [tellF_none hlm hv] at HA
                  rw [hv] at q
                  have HA2 : Hid (Calls Tryd.prog 20 #[.pointer (some ⟨bb, 0, none⟩), .int .i64 (m : Int)] wr fun e w' => e = .returned (.tuple #[.int .i64 0, .iface 37 (.int .i64 4)]) ∧ w' = wr) := HA
                  clear HA hv
                  cases tb
                  all_goals
                    go_wp2_with fail
                    refine HA2.out.mono ?_
                    rintro e w7 ⟨rfl, rfl⟩
                    go_wp2
                    exact ⟨⟨m + 1, by omega, by go_num, trivial⟩, by simp [intOf]; omega⟩
                · rw [tellF_some hlm hv] at HA
                  have HA2 : Hid (Calls Tryd.prog 20 #[.pointer (some ⟨bb, 0, none⟩), .int .i64 (m : Int)] wr fun e w' => e = .returned (.tuple #[.int .i64 (s.pa m), .nilIface]) ∧ w' = wr) := HA
                  clear HA hv
                  generalize s.pa m = v at *
                  cases tb
                  all_goals
                    go_wp2_with fail
                    refine HA2.out.mono ?_
                    rintro e w7 ⟨rfl, rfl⟩
                    go_wp2
                    exact ⟨⟨m + 1, by omega, by go_num, trivial⟩, by simp [intOf]; omega⟩
              · obtain rfl : m = k := by omega
                have HB : Hid (Below w.heap.size w wr) := H6.out.1.bel
                clear H6
                go_wp2
                go_ret
                exact ⟨rfl, HB.out⟩
          · rw [h5] at HS3
            have HS4 : Hid (Calls Tryd.prog 19 #[.pointer (some ⟨bb, 0, none⟩), .int .i64 (l0 : Int), .int .i64 (p0 : Int)] wr fun e w' => e = .returned .nilIface ∧ BO k P w' bb ab ob (putF s l0 p0) ∧ Keep (BT ab ob) wr w') := HS3
            clear HS3 h5 hf
            go_wp2_with fail
            refine HS4.out.mono ?_
            rintro e w6 ⟨rfl, h6, hk6⟩
            have H6 : Hid (BS k P w.heap.size bb ab ob w w6 (putF s l0 p0) ∧ ∀ i, i < k → w6.cell? ⟨g, i, none⟩ = some (.int .i64 (s.pa i))) := HAF.out w6 _ h6 hk6
            clear h6 hk6 HS4 HAF
            go_wp2
            go_loopw [18] (fun j wq => ∃ m : Nat, m ≤ k ∧ j = .int .i64 m ∧ wq = w6) (fun j _ => k - (intOf j).toNat)
            case atStart => exact ⟨0, Nat.zero_le _, rfl, rfl⟩
            case round =>
              obtain ⟨m, hm, rfl, rfl⟩ := hrel
              by_cases hlm : m < k
              · have HA := at_any H6.out.1.bo (m : Int)
                have q := H6.out.2 m hlm
                by_cases hml : m = l0
                · subst hml
                  have hv : (putF s m p0).pa m = (p0 : Int) := by rw [putF_pa, upd_same]
                  rw [tellF_some hlm (by rw [hv]; omega), hv] at HA
                  have HA2 : Hid (Calls Tryd.prog 20 #[.pointer (some ⟨bb, 0, none⟩), .int .i64 (m : Int)] wr fun e w' => e = .returned (.tuple #[.int .i64 (p0 : Int), .nilIface]) ∧ w' = wr) := HA
                  clear HA hv
                  generalize s.pa m = v at q
                  go_wp2_with fail
                  refine HA2.out.mono ?_
                  rintro e w7 ⟨rfl, rfl⟩
                  go_wp2
                  exact ⟨⟨m + 1, by omega, by go_num, trivial⟩, by simp [intOf]; omega⟩
                · have hv0 : (putF s l0 p0).pa m = s.pa m := by rw [putF_pa, upd_ne _ _ _ _ hml]
                  have tb : ((m : Int) == (l0 : Int)) = false := by rw [beq_eq_false_iff_ne]; omega
                  clear hml
                  by_cases hv : s.pa m = -1
                  · rw [tellF_none hlm (by rw [hv0]; exact hv)] at HA
                    rw [hv] at q
                    have HA2 : Hid (Calls Tryd.prog 20 #[.pointer (some ⟨bb, 0, none⟩), .int .i64 (m : Int)] wr fun e w' => e = .returned (.tuple #[.int .i64 0, .iface 37 (.int .i64 4)]) ∧ w' = wr) := HA
                    clear HA hv hv0
                    go_wp2_with fail
                    refine HA2.out.mono ?_
                    rintro e w7 ⟨rfl, rfl⟩
                    go_wp2
                    exact ⟨⟨m + 1, by omega, by go_num, trivial⟩, by simp [intOf]; omega⟩
                  · rw [tellF_some hlm (by rw [hv0]; exact hv), hv0] at HA
                    have HA2 : Hid (Calls Tryd.prog 20 #[.pointer (some ⟨bb, 0, none⟩), .int .i64 (m : Int)] wr fun e w' => e = .returned (.tuple #[.int .i64 (s.pa m), .nilIface]) ∧ w' = wr) := HA
                    clear HA hv hv0
                    generalize s.pa m = v at *
                    go_wp2_with fail
                    refine HA2.out.mono ?_
                    rintro e w7 ⟨rfl, rfl⟩
                    go_wp2
                    exact ⟨⟨m + 1, by omega, by go_num, trivial⟩, by simp [intOf]; omega⟩
              · obtain rfl : m = k := by omega
                have HB : Hid (Below w.heap.size w wr) := H6.out.1.bel
                have q := H6.out.2 l0 hl0
                rcases HP.out.a l0 hl0 with e | ⟨q0, hq0, e1, e2⟩
                · rw [e] at q
                  clear H6 e HP
                  go_wp2
                  go_ret
                  exact ⟨rfl, HB.out⟩
                · by_cases hqp : q0 = p0
                  · subst hqp
                    rw [e1] at q
                    clear H6 e1 e2 HP
                    go_wp2
                    go_ret
                    exact ⟨rfl, HB.out⟩
                  · have HO := of_any H6.out.1.bo (q0 : Int)
                    rw [tellF_none hq0 (putF_left HP.out hl0 e1 hqp)] at HO
                    have HO2 : Hid (Calls Tryd.prog 22 #[.pointer (some ⟨bb, 0, none⟩), .int .i64 (q0 : Int)] wr fun e w' => e = .returned (.tuple #[.int .i64 0, .iface 37 (.int .i64 4)]) ∧ w' = wr) := HO
                    have HER : Hid (Calls Tryd.prog 14 #[.iface 37 (.int .i64 4), .int .i64 4] wr fun ev w' => ev = .returned (.bool true) ∧ Below wr.heap.size wr w') := error_same 4 wr (HE1.out _ HB.out)
                    have HSZ : Hid (w.heap.size ≤ wr.heap.size) := H6.out.1.sz
                    have tq : ((q0 : Int) == (p0 : Int)) = false := by rw [beq_eq_false_iff_ne]; omega
                    have tn : ¬ ((q0 : Int) < 0) := by omega
                    rw [e1] at q
                    clear H6 e1 e2 HP HO hqp
                    go_wp2_with fail
                    refine HO2.out.mono ?_
                    rintro e w8 ⟨rfl, rfl⟩
                    go_wp2_with fail
                    refine HER.out.mono ?_
                    rintro e w9 ⟨rfl, hb9⟩
                    have HB9 : Hid (Below w.heap.size w w9) := HB.out.trans (hb9.mono HSZ.out)
                    clear hb9 HER HO2
                    go_wp2
                    go_ret
                    exact ⟨rfl, HB9.out⟩
theorem moves_any (n p : Int) (a2 : Option Addr) (n2 cap2 : Nat) (x y : Int) (w : World) (hE : EType w) (hS : Script w a2 n2) (hl2 : n2 ≤ 9223372036854775807) : Calls Tryd.prog 6 #[.int .i64 n, .int .i64 p, .slice a2 n2 cap2, .int .i64 x, .int .i64 y] w fun e w' => e = .returned (.bool true) ∧ Below w.heap.size w w' := by
  by_cases h : GoodN n p
  · obtain ⟨L, P, rfl, rfl, h1, h2, h3, h4⟩ := goodN_nat h
    exact moves_yes L P a2 n2 cap2 x y w h1 h2 h3 h4 hE hS hl2
  · exact moves_no n p a2 n2 cap2 x y w h
end Go.Proofs.YtcppokafgohkgadDoor
