/-
  The walk of granarylaw3.RingSees: it returns true, and nothing that was there has turned.
-/
import Derived.Test.YtnfjfffchhiooaaDoorSeesWalk
namespace Go.Proofs.YtnfjfffchhiooaaDoor
open Go.RowKit
set_option linter.unusedVariables false

set_option maxRecDepth 100000 in
set_option maxHeartbeats 8000000 in
theorem sees_yes (n : Nat) (a2 : Option Addr) (n2 cap2 : Nat) (w : World) (h1 : 2 ≤ n) (h2 : n ≤ 16) (hE : EType w) (hS : RDs w a2 n2) (hl2 : n2 ≤ 140737488355328) : Calls Tryd.prog 5 #[.int .i64 (n : Nat), .slice a2 n2 cap2] w fun e w' => e = .returned (.bool true) ∧ Below w.heap.size w w' := by
  have HSC : Hid (RDs w a2 n2) := hS
  have HE : Hid (∀ w', Below w.heap.size w w' → EType w') := fun w' hb => hE.below hb hE.pos
  have hn0 : ¬ ((n : Int) = 0) := by omega
  clear hS hE
  go_enter Tryd.func5, Tryd.ntmps5
  go_wp2_with fail
  refine (seer_yes n _ h1 h2).mono ?_
  rintro e w2 ⟨pb, sb, rfl, hp2, hb2, g1⟩
  have H0 : Hid (SS w w2 75 n pb sb 0) := ⟨by rw [Nat.zero_mod]; exact hp2, hb2, g1⟩
  clear hp2 hb2 g1
  go_wp2
  go_loopw [7, 8] (fun vq vi wq => ∃ (q i : Nat), i ≤ n2 ∧ q ≤ 15 * i ∧ vq = .int .i64 q ∧ vi = .int .i64 i ∧ Hid (SS w wq 75 n pb sb q)) (fun _ j _ => n2 - (intOf j).toNat)
  case atStart => exact ⟨0, 0, Nat.zero_le _, Nat.le_refl _, rfl, rfl, H0.out⟩
  case round =>
    obtain ⟨q, i, hi, hqi, rfl, rfl, hR⟩ := hrel
    clear H0
    by_cases hlt : i < n2
    · obtain ⟨so, oo, ha2, hS2⟩ : ∃ b off, a2 = some ⟨b, off, none⟩ ∧ ∀ i, i < n2 → ∃ a1 L c ph, w.cell? ⟨b, off + i, none⟩ = some (.slice a1 L c) ∧ L ≤ 9223372036854775807 ∧ PhAt w a1 L ph := by
        rcases HSC.out with h | h
        · omega
        · exact h
      obtain ⟨a1, L, c, ph, hc, hL, hph⟩ := hS2 i hlt
      subst ha2
      have hso := World.block_lt_of_cell? w _ hc
      have HCE : Hid (∀ w', Below w.heap.size w w' → w'.cell? ⟨so, oo + i, none⟩ = some (.slice a1 L c)) := fun w' hb => (hb.cell (p := ⟨so, oo + i, none⟩) hso).trans hc
      have c0 := HCE.out _ hR.out.bel
      clear hS2 hc hso
      by_cases hLn : L = n
      · subst hLn
        obtain ⟨g, o, rfl, hbr⟩ : ∃ g o, a1 = some ⟨g, o, none⟩ ∧ BR w g o L ph := by
          rcases hph.at_ with h | h
          · omega
          · exact h
        have hgl : g < w.heap.size := World.block_lt_of_cell? w _ (hbr 0 (by omega))
        have HBR : Hid (∀ w', Below w.heap.size w w' → BR w' g o L ph) := fun w' hb => fun i hi => (hb.cell (p := ⟨g, o + i, none⟩) hgl).trans (hbr i hi)
        have HC := take_yes (c := c) hR.out.pv (HBR.out _ hR.out.bel) (fun e => by have := hR.out.ge; omega)
        have hd : (((L : Nat) : Int) != ((L : Nat) : Int)) = false := by simp
        clear hbr hph hgl
        go_wp2_with fail
        refine HC.mono ?_
        rintro e w3 ⟨k, a, cap, hTk, rfl, ho3, hp3, hk3⟩
        have H3 : Hid (SW w w3 75 L pb sb q k 0 w3.heap.size a none cap 0 ph) := ⟨hR.out.step hp3 hk3, ho3.il, fun b hb => (ho3.blk hb).2, OwnI.nil _ _, fun i hi => by omega, heap_lt hp3.st, Nat.le_refl _, (hR.out.step hp3 hk3).bel.size⟩
        have HTk : Hid (Tk L ph q k) := hTk
        have c3 := HCE.out _ H3.out.ss.bel
        generalize w3.heap.size = B at H3
        clear HC hTk ho3 hp3 hk3 hR c0
        go_wp2
        go_loopw [12, 7] (fun vw vq wq => ∃ (m cap' : Nat) (a' : Option Addr), m ≤ L - 1 ∧ vw = .slice a' m cap' ∧ vq = .int .i64 ((q + m : Nat) : Int) ∧ Hid (SW w wq 75 L pb sb q k m B a a' cap cap' ph)) (fun v _ _ => L - slN v)
        case atStart => exact ⟨0, 0, none, Nat.zero_le _, rfl, rfl, H3.out⟩
        case round =>
          obtain ⟨m, cap', a', hm, rfl, rfl, hR⟩ := hrel
          clear H3 c3
          have c4 := HCE.out _ hR.out.ss.bel
          obtain ⟨Q, HQ⟩ : ∃ Q : Nat, Hid (q + m = Q) := ⟨_, rfl⟩
          have hQb : Q ≤ 4222124650659840 := by have := HQ.out; omega
          obtain ⟨t, d, x, HT, ht, e4, e5, e6, e7, e12, e13, e8, e9, HM⟩ := ph_facts L Q h1 (by have := HQ.out; omega)
          have cp : wr.cell? ⟨g, o + t, none⟩ = some (.bool (ph t)) := HBR.out _ hR.out.ss.bel t ht
          rw [HQ.out]
          by_cases hmL : m < L - 1
          · rcases HM with ⟨hx, hph⟩ | ⟨hx, hph⟩
            · subst hx
              by_cases hb : ph t = true
              · have hcp : ph t = true := hb
                rw [hcp] at cp
                have HMt : Hid (ph ((q + m) % L) = phs L (q + m)) := by show _ = _; rw [HQ.out, HT, hph, hcp]
                have HF : Hid (m + 1 ≤ L - 1) := by show _ ≤ _; omega
                have hg : decide ((m : Int) < (L : Int) - 1) = true := decide_eq_true (by omega)
                have HX : Hid (∀ z, SW w (wr.drewN z) 75 L pb sb q k m B a a' cap cap' ph) := fun z => hR.out.drewN z
                have HTT : Hid (q % 1 = q % 1 ∧ (q + m) % L = t) := ⟨rfl, by rw [HQ.out]; exact HT⟩
                clear hR hb hcp hph HT hm
                go_wp2
                go_quiet (fail)
                have HX1 := HX.out nq
                clear HX
                generalize wr.drewN nq = W5 at *
                have HO : Hid (∀ o, OwnI (W5.alloc o) B a' cap' (tkL L q m) ∧ B ≤ (W5.alloc o).heap.size) := fun o => HX1.own1 o
                have HMo : Hid (∀ (o : Obj) (a1 : Option Addr) (c1 : Nat) (w2 : World), OwnI w2 B a1 c1 (tkL L q (m + 1)) → Keep (blk a') (W5.alloc o) w2 → SW w w2 75 L pb sb q k (m + 1) B a a1 cap c1 ph) := fun o a1 c1 w2 ho2 hk2 => HX1.more HMt.out o ho2 hk2
                have HTk2 : Hid (tkL L q (m + 1) = tkL L q m ++ [(t : Int)]) := by show _ = _; rw [tkL_succ, HTT.out.2]
                have HLk : Hid ((tkL L q m).length = m ∧ (tkL L q (m + 1)).length = m + 1) := ⟨tkL_len, tkL_len⟩
                clear HX1 c4 cp HMt HTT
                generalize tkL L q m = ys at *
                generalize tkL L q (m + 1) = zs at *
                go_wp2_with (at_builtin; refine app_stepI rfl (.tmp 86) (.tmp 90) rfl B a' cap' ys (by rw [HLk.out.1]; rfl) (HO.out _).1 (some ⟨W5.heap.size, 0, none⟩) 1 1 [(t : Int)] rfl (by rfl) (fun e => by cases e) (il_one W5 _) zs HTk2.out (by rw [HLk.out.2]; omega) (HO.out _).2 ?_; intro a1 c1 w6 ho hk2; have HF2 : Hid (SW w w6 75 L pb sb q k (m + 1) B a a1 cap c1 ph) := HMo.out _ a1 c1 w6 ho hk2; clear ho hk2 HMo HO)
                have e1 := HLk.out.2
                rw [e1]
                have e2 := HQ.out
                exact ⟨⟨m + 1, c1, a1, HF.out, rfl, by rw [show q + (m + 1) = Q + 1 by omega]; go_num, HF2.out⟩, by simp [slN]; omega⟩
              · have hb : ph t = false := by simpa using hb
                have hcp : ph t = false := hb
                rw [hcp] at cp
                obtain rfl : k = m := HTk.out.same ⟨by omega, hR.out.all, Or.inr (by rw [HQ.out, HT, hph, hcp]; simp)⟩
                have HX : Hid (∀ z, SW w (wr.drewN z) 75 L pb sb q k k B a a' cap cap' ph) := fun z => hR.out.drewN z
                have HQ2 : Hid (q + k = Q ∧ k ≤ 15) := ⟨HQ.out, by omega⟩
                have hg : decide ((k : Int) < (L : Int) - 1) = true := decide_eq_true (by omega)
                clear hR HTk HT hcp hph hb hm hmL
                go_wp2
                go_quiet (fail)
                have HX1 := HX.out nq
                clear HX
                generalize wr.drewN nq = W5 at *
                have HI := ints_same a a' cap cap' k (tkL L q k) W5 tkL_len (Nat.le_trans HQ2.out.2 (by decide)) HX1.il HX1.own.il
                have H5 : Hid (SS w W5 75 L pb sb (q + k)) := HX1.ss
                clear HX1 c4 cp
                go_wp2_with fail
                refine HI.mono ?_
                rintro e w6 ⟨rfl, hb6⟩
                have H6 : Hid (SS w w6 75 L pb sb Q) := by rw [← HQ2.out.1]; exact H5.out.below hb6
                clear hb6 H5 HI
                go_wp2
                have hq3 := HQ2.out
                exact ⟨⟨Q, i + 1, by omega, by omega, rfl, by go_num, H6.out⟩, by simp [intOf]; omega⟩
            · have hx2 : ((x : Int) == 0) = false := by simp; omega
              have hx3 : ¬ ((x : Int) = 0) := by omega
              clear hx
              by_cases hb : ph t = false
              · have hcp : ph t = false := hb
                rw [hcp] at cp
                have HMt : Hid (ph ((q + m) % L) = phs L (q + m)) := by show _ = _; rw [HQ.out, HT, hph, hcp]
                have HF : Hid (m + 1 ≤ L - 1) := by show _ ≤ _; omega
                have hg : decide ((m : Int) < (L : Int) - 1) = true := decide_eq_true (by omega)
                have HX : Hid (∀ z, SW w (wr.drewN z) 75 L pb sb q k m B a a' cap cap' ph) := fun z => hR.out.drewN z
                have HTT : Hid (q % 1 = q % 1 ∧ (q + m) % L = t) := ⟨rfl, by rw [HQ.out]; exact HT⟩
                clear hR hb hcp hph HT hm
                go_wp2
                go_quiet (fail)
                have HX1 := HX.out nq
                clear HX
                generalize wr.drewN nq = W5 at *
                have HO : Hid (∀ o, OwnI (W5.alloc o) B a' cap' (tkL L q m) ∧ B ≤ (W5.alloc o).heap.size) := fun o => HX1.own1 o
                have HMo : Hid (∀ (o : Obj) (a1 : Option Addr) (c1 : Nat) (w2 : World), OwnI w2 B a1 c1 (tkL L q (m + 1)) → Keep (blk a') (W5.alloc o) w2 → SW w w2 75 L pb sb q k (m + 1) B a a1 cap c1 ph) := fun o a1 c1 w2 ho2 hk2 => HX1.more HMt.out o ho2 hk2
                have HTk2 : Hid (tkL L q (m + 1) = tkL L q m ++ [(t : Int)]) := by show _ = _; rw [tkL_succ, HTT.out.2]
                have HLk : Hid ((tkL L q m).length = m ∧ (tkL L q (m + 1)).length = m + 1) := ⟨tkL_len, tkL_len⟩
                clear HX1 c4 cp HMt HTT
                generalize tkL L q m = ys at *
                generalize tkL L q (m + 1) = zs at *
                go_wp2_with (at_builtin; refine app_stepI rfl (.tmp 86) (.tmp 90) rfl B a' cap' ys (by rw [HLk.out.1]; rfl) (HO.out _).1 (some ⟨W5.heap.size, 0, none⟩) 1 1 [(t : Int)] rfl (by rfl) (fun e => by cases e) (il_one W5 _) zs HTk2.out (by rw [HLk.out.2]; omega) (HO.out _).2 ?_; intro a1 c1 w6 ho hk2; have HF2 : Hid (SW w w6 75 L pb sb q k (m + 1) B a a1 cap c1 ph) := HMo.out _ a1 c1 w6 ho hk2; clear ho hk2 HMo HO)
                have e1 := HLk.out.2
                rw [e1]
                have e2 := HQ.out
                exact ⟨⟨m + 1, c1, a1, HF.out, rfl, by rw [show q + (m + 1) = Q + 1 by omega]; go_num, HF2.out⟩, by simp [slN]; omega⟩
              · have hb : ph t = true := by simpa using hb
                have hcp : ph t = true := hb
                rw [hcp] at cp
                obtain rfl : k = m := HTk.out.same ⟨by omega, hR.out.all, Or.inr (by rw [HQ.out, HT, hph, hcp]; simp)⟩
                have HX : Hid (∀ z, SW w (wr.drewN z) 75 L pb sb q k k B a a' cap cap' ph) := fun z => hR.out.drewN z
                have HQ2 : Hid (q + k = Q ∧ k ≤ 15) := ⟨HQ.out, by omega⟩
                have hg : decide ((k : Int) < (L : Int) - 1) = true := decide_eq_true (by omega)
                clear hR HTk HT hcp hph hb hm hmL
                go_wp2
                go_quiet (fail)
                have HX1 := HX.out nq
                clear HX
                generalize wr.drewN nq = W5 at *
                have HI := ints_same a a' cap cap' k (tkL L q k) W5 tkL_len (Nat.le_trans HQ2.out.2 (by decide)) HX1.il HX1.own.il
                have H5 : Hid (SS w W5 75 L pb sb (q + k)) := HX1.ss
                clear HX1 c4 cp
                go_wp2_with fail
                refine HI.mono ?_
                rintro e w6 ⟨rfl, hb6⟩
                have H6 : Hid (SS w w6 75 L pb sb Q) := by rw [← HQ2.out.1]; exact H5.out.below hb6
                clear hb6 H5 HI
                go_wp2
                have hq3 := HQ2.out
                exact ⟨⟨Q, i + 1, by omega, by omega, rfl, by go_num, H6.out⟩, by simp [intOf]; omega⟩
          · have hmL2 : m = L - 1 := by omega
            obtain rfl : k = m := HTk.out.same ⟨by omega, hR.out.all, Or.inl hmL2⟩
            have HX : Hid (∀ z, SW w (wr.drewN z) 75 L pb sb q k k B a a' cap cap' ph) := fun z => hR.out.drewN z
            have HQ2 : Hid (q + k = Q ∧ k ≤ 15) := ⟨HQ.out, by omega⟩
            have hg : decide ((k : Int) < (L : Int) - 1) = false := decide_eq_false (by omega)
            clear hR HTk HT hm hmL hmL2 HM
            go_wp2
            go_quiet (fail)
            have HX1 := HX.out nq
            clear HX
            generalize wr.drewN nq = W5 at *
            have HI := ints_same a a' cap cap' k (tkL L q k) W5 tkL_len (Nat.le_trans HQ2.out.2 (by decide)) HX1.il HX1.own.il
            have H5 : Hid (SS w W5 75 L pb sb (q + k)) := HX1.ss
            clear HX1 c4 cp
            go_wp2_with fail
            refine HI.mono ?_
            rintro e w6 ⟨rfl, hb6⟩
            have H6 : Hid (SS w w6 75 L pb sb Q) := by rw [← HQ2.out.1]; exact H5.out.below hb6
            clear hb6 H5 HI
            go_wp2
            have hq3 := HQ2.out
            exact ⟨⟨Q, i + 1, by omega, by omega, rfl, by go_num, H6.out⟩, by simp [intOf]; omega⟩
      · have HC := take_no hR.out.pv a1 L c hL hLn
        have HB := error_same 2 wr (HE.out _ hR.out.bel)
        have hd : (((L : Nat) : Int) != ((n : Nat) : Int)) = true := by simp; omega
        clear hph
        go_wp2_with fail
        refine HC.mono ?_
        rintro e w3 ⟨rfl, rfl⟩
        clear HC
        go_wp2_with fail
        refine HB.mono ?_
        rintro e w4 ⟨rfl, hb4⟩
        have H4 : Hid (SS w w4 75 n pb sb q) := hR.out.below hb4
        clear HB hb4 hR
        go_wp2
        exact ⟨⟨q, i + 1, by omega, by omega, rfl, by go_num, H4.out⟩, by simp [intOf]; omega⟩
    · obtain rfl : i = n2 := by omega
      clear HSC
      go_wp2
      go_ret
      exact ⟨rfl, hR.out.bel⟩
theorem sees_any (n : Int) (a2 : Option Addr) (n2 cap2 : Nat) (w : World) (hE : EType w) (hS : RDs w a2 n2) (hl2 : n2 ≤ 140737488355328) : Calls Tryd.prog 5 #[.int .i64 n, .slice a2 n2 cap2] w fun e w' => e = .returned (.bool true) ∧ Below w.heap.size w w' := by
  by_cases h : GoodP n
  · obtain ⟨N, rfl, h1, h2⟩ := h.nat
    exact sees_yes N a2 n2 cap2 w h1 h2 hE hS hl2
  · exact sees_no n a2 n2 cap2 w h hE
end Go.Proofs.YtnfjfffchhiooaaDoor
