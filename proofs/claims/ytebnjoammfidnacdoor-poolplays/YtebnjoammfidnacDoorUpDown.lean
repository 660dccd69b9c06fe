/-
  What the calls of container/heap's up, down, Push and Pop give of a heap of a pool's free blocks.
-/
import Derived.Test.YtebnjoammfidnacDoorPush
namespace Go.Proofs.YtebnjoammfidnacDoor
open Go.RowKit
set_option linter.unusedVariables false

/-- A heap as it is handed on. -/
def hv (pb : Nat) : Value := .iface 56 (.pointer (some ⟨pb, 2, none⟩))
set_option maxRecDepth 100000 in
set_option maxHeartbeats 2000000 in
theorem up_any {w : World} {pb bb cap g : Nat} {wn : Nat → Nat} {L : List Nat} (h : HP w pb bb (some ⟨g, 0, none⟩) cap wn L) (hL : L.length ≤ 64) (j : Nat) (hj : j < L.length) (hu : UpOk wn L j) :
    Calls Tryd.prog 24 #[.iface 56 (.pointer (some ⟨pb, 2, none⟩)), .int .i64 j] w fun e w' => e = .returned (.tuple #[]) ∧ ∃ M, HP w' pb bb (some ⟨g, 0, none⟩) cap wn M ∧ M.Perm L ∧ Heap wn M M.length ∧ Keep (fun b => b = g) w w' := by
  have H0 : Hid (HP w pb bb (some ⟨g, 0, none⟩) cap wn L ∧ UpOk wn L j) := ⟨h, hu⟩
  clear h hu
  go_enter Tryd.func24, Tryd.ntmps24
  go_wp2_with fail
  go_loopw [1] (fun i wr => ∃ (k : Nat) (M : List Nat), k < M.length ∧ M.length ≤ 64 ∧ i = .int .i64 k ∧ Hid (HP wr pb bb (some ⟨g, 0, none⟩) cap wn M ∧ UpOk wn M k ∧ M.Perm L ∧ Keep (fun b => b = g) w wr)) (fun i _ => (intOf i).toNat)
  case atStart => exact ⟨j, L, hj, hL, rfl, H0.out.1, H0.out.2, List.Perm.refl _, Keep.refl _ _⟩
  case round =>
    obtain ⟨k, M, hk, hM, rfl, hR⟩ := hrel
    clear H0 hj hL
    by_cases h0 : k = 0
    · subst h0
      go_wp2
      go_end0
      exact ⟨rfl, M, hR.out.1, hR.out.2.2.1, up_done hR.out.2.1 (Or.inl rfl), hR.out.2.2.2⟩
    · have e1 : (((k : Int) - 1) / 2 == (k : Int)) = false := by rw [beq_eq_false_iff_ne]; omega
      have h1 : 1 ≤ k := by omega
      have hp : par k < M.length := by unfold par; omega
      have ep : ((k : Int) - 1) / 2 = ((par k : Nat) : Int) := by unfold par; omega
      have EP : Hid (((k : Int) - 1) / 2 = ((par k : Nat) : Int)) := ep
      have hpl : par k < k := by unfold par; omega
      rw [ep] at e1
      clear h0
      have m1 := method_less ⟨pb, 2, none⟩ wr (some ⟨g, 0, none⟩) M.length cap hR.out.1.c2
      have HL := less_any hR.out.1 hM k (par k) hk hp
      have HL2 : Hid (Calls Tryd.prog 53 #[.slice (some ⟨g, 0, none⟩) M.length cap, .int .i64 (k : Int), .int .i64 (par k : Nat)] wr fun e w' => e = .returned (.bool (ltsB wn (nth M k) (nth M (par k)))) ∧ Below wr.heap.size wr w') := HL
      clear HL
      have HB : Hid (∀ b, ltsB wn (nth M k) (nth M (par k)) = b → (b = true → Lts wn (nth M k) (nth M (par k))) ∧ (b = false → ¬ Lts wn (nth M k) (nth M (par k)))) := by
        rintro b rfl; exact ⟨fun e => (ltsB_iff _ _ _).1 e, fun e => (ltsB_not _ _ _).1 e⟩
      generalize hb : ltsB wn (nth M k) (nth M (par k)) = b at HL2
      have HB2 := HB.out b hb
      have HB3 : Hid ((b = true → Lts wn (nth M k) (nth M (par k))) ∧ (b = false → ¬ Lts wn (nth M k) (nth M (par k)))) := HB2
      clear HB HB2 hb
      generalize hpk : par k = p at *
      have HPK : Hid (par k = p) := hpk
      clear hpk
      go_wp2_with fail
      refine HL2.out.mono ?_
      rintro e w1 ⟨rfl, hb1⟩
      have H1 : Hid (HP w1 pb bb (some ⟨g, 0, none⟩) cap wn M ∧ Keep (fun b => b = g) w w1) := ⟨hR.out.1.below hb1, hR.out.2.2.2.trans (Keep.of_below hb1)⟩
      clear hb1 m1 HL2
      cases b
      case false =>
        have HF : Hid (¬ Lts wn (nth M k) (nth M p)) := HB3.out.2 rfl
        clear HB3
        go_wp2
        go_end0
        exact ⟨rfl, M, H1.out.1, hR.out.2.2.1, up_done hR.out.2.1 (Or.inr (by rw [HPK.out]; exact HF.out)), H1.out.2⟩
      case true =>
        have HF : Hid (Lts wn (nth M k) (nth M p)) := HB3.out.1 rfl
        clear HB3
        have m2 := method_swap ⟨pb, 2, none⟩ w1 (some ⟨g, 0, none⟩) M.length cap H1.out.1.c2
        have HS : Hid (Calls Tryd.prog 54 #[.slice (some ⟨g, 0, none⟩) M.length cap, .int .i64 (p : Int), .int .i64 (k : Int)] w1 fun e w' => e = .returned (.tuple #[]) ∧ HP w' pb bb (some ⟨g, 0, none⟩) cap wn (sw M p k) ∧ Keep (fun b => b = g) w1 w') := swap_any H1.out.1 hM p k hp hk
        go_wp2_with fail
        refine HS.out.mono ?_
        rintro e w2 ⟨rfl, h2, hk2⟩
        have H2 : Hid (HP w2 pb bb (some ⟨g, 0, none⟩) cap wn (sw M p k) ∧ UpOk wn (sw M p k) p ∧ (sw M p k).Perm L ∧ Keep (fun b => b = g) w w2) := by
          refine ⟨h2, ?_, (sw_perm hp hk).trans hR.out.2.2.1, H1.out.2.trans hk2⟩
          have := up_step hR.out.2.1 (by omega) hk (by rw [HPK.out]; exact HF.out)
          rw [HPK.out] at this
          exact this
        clear h2 hk2 m2 HS
        go_wp2
        exact ⟨⟨p, sw M p k, by rw [sw_len]; exact hp, by rw [sw_len]; exact hM, by go_num, H2.out⟩, by simp [intOf]; omega⟩
/-- WHAT IS LESS, as a hidden contract. -/
def LessC (g cap n i j : Nat) (w : World) (b : Bool) : Prop := Calls Tryd.prog 53 #[.slice (some ⟨g, 0, none⟩) n cap, .int .i64 (i : Int), .int .i64 (j : Int)] w fun e w' => e = .returned (.bool b) ∧ Below w.heap.size w w'
theorem less_c {w : World} {pb bb cap g : Nat} {wn : Nat → Nat} {L : List Nat} (h : HP w pb bb (some ⟨g, 0, none⟩) cap wn L) (hL : L.length ≤ 64) (i j : Nat) (hi : i < L.length) (hj : j < L.length) : ∃ b, LessC g cap L.length i j w b ∧ ((b = true ∧ Lts wn (nth L i) (nth L j)) ∨ (b = false ∧ ¬ Lts wn (nth L i) (nth L j))) := by
  refine ⟨_, less_any h hL i j hi hj, ?_⟩
  cases e : ltsB wn (nth L i) (nth L j)
  · exact Or.inr ⟨rfl, (ltsB_not _ _ _).1 e⟩
  · exact Or.inl ⟨rfl, (ltsB_iff _ _ _).1 e⟩
def DnR (pb bb g cap : Nat) (wn : Nat → Nat) (L : List Nat) (m : Nat) (w : World) (k : Nat) (M : List Nat) (wr : World) : Prop :=
  HP wr pb bb (some ⟨g, 0, none⟩) cap wn M ∧ DnOk wn M m k ∧ M.Perm L ∧ M.length = L.length ∧ nth M m = nth L m ∧ Keep (fun b => b = g) w wr
theorem DnR.below {pb bb g cap : Nat} {wn : Nat → Nat} {L : List Nat} {m : Nat} {w : World} {k : Nat} {M : List Nat} {wr w' : World} (h : DnR pb bb g cap wn L m w k M wr) (hb : Below wr.heap.size wr w') : DnR pb bb g cap wn L m w k M w' :=
  ⟨h.1.below hb, h.2.1, h.2.2.1, h.2.2.2.1, h.2.2.2.2.1, h.2.2.2.2.2.trans (Keep.of_below hb)⟩
theorem DnR.step {pb bb g cap : Nat} {wn : Nat → Nat} {L : List Nat} {m : Nat} {w : World} {k j : Nat} {M : List Nat} {wr w' : World} (h : DnR pb bb g cap wn L m w k M wr) (hm : m < L.length) (hj : j < m) (hjk : par j = k) (h0 : 0 < j) (hl : Lts wn (nth M j) (nth M k)) (hb : ∀ c, 0 < c → c < m → par c = k → ¬ Lts wn (nth M c) (nth M j))
    (h1 : HP w' pb bb (some ⟨g, 0, none⟩) cap wn (sw M k j)) (h2 : Keep (fun b => b = g) wr w') : DnR pb bb g cap wn L m w j (sw M k j) w' := by
  have hlen := h.2.2.2.1
  have hkj : k < j := by unfold par at hjk; omega
  have hk1 : k < M.length := by omega
  have hj1 : j < M.length := by omega
  exact ⟨h1, dn_step h.2.1 (by omega) h0 hj hjk hl hb, (sw_perm hk1 hj1).trans h.2.2.1, by rw [sw_len]; exact hlen, by rw [sw_at hk1 hj1, if_neg (by omega), if_neg (by omega)]; exact h.2.2.2.2.1, h.2.2.2.2.2.trans h2⟩
/-- What down leaves. -/
def DnE (pb bb g cap : Nat) (wn : Nat → Nat) (L : List Nat) (m : Nat) (w w' : World) : Prop :=
  ∃ M, HP w' pb bb (some ⟨g, 0, none⟩) cap wn M ∧ M.Perm L ∧ M.length = L.length ∧ nth M m = nth L m ∧ Heap wn M m ∧ Keep (fun b => b = g) w w'
theorem DnR.done {pb bb g cap : Nat} {wn : Nat → Nat} {L : List Nat} {m : Nat} {w : World} {k : Nat} {M : List Nat} {wr : World} (h : DnR pb bb g cap wn L m w k M wr) (hb : ∀ c, 0 < c → c < m → par c = k → ¬ Lts wn (nth M c) (nth M k)) : DnE pb bb g cap wn L m w wr :=
  ⟨M, h.1, h.2.2.1, h.2.2.2.1, h.2.2.2.2.1, dn_done h.2.1 hb, h.2.2.2.2.2⟩
theorem kid {c k : Nat} (h0 : 0 < c) (h : par c = k) : c = 2 * k + 1 ∨ c = 2 * k + 2 := by unfold par at h; omega
set_option maxRecDepth 100000 in
set_option maxHeartbeats 4000000 in
theorem down_any {w : World} {pb bb cap g m : Nat} {wn : Nat → Nat} {L : List Nat} (h : HP w pb bb (some ⟨g, 0, none⟩) cap wn L) (hL : L.length ≤ 64) (hm : m < L.length) (hd : DnOk wn L m 0) :
    Calls Tryd.prog 26 #[.iface 56 (.pointer (some ⟨pb, 2, none⟩)), .int .i64 0, .int .i64 m] w fun e w' => (∃ b, e = .returned (.bool b)) ∧ DnE pb bb g cap wn L m w w' := by
  have H0 : Hid (DnR pb bb g cap wn L m w 0 L w) := ⟨h, hd, List.Perm.refl _, rfl, rfl, Keep.refl _ _⟩
  clear h hd
  go_enter Tryd.func26, Tryd.ntmps26
  go_wp2_with fail
  go_loopw [7] (fun i wr => ∃ (k : Nat) (M : List Nat), k ≤ m ∧ i = .int .i64 k ∧ Hid (DnR pb bb g cap wn L m w k M wr)) (fun i _ => m - (intOf i).toNat)
  case atStart => exact ⟨0, L, Nat.zero_le _, rfl, H0.out⟩
  case round =>
    obtain ⟨k, M, hk, rfl, hR⟩ := hrel
    clear H0
    have HLEN : Hid (M.length = L.length) := hR.out.2.2.2.1
    obtain ⟨p, hp⟩ : ∃ p, p = 2 * k + 1 := ⟨_, rfl⟩
    have HP1 : Hid (p = 2 * k + 1) := hp
    have ep : 2 * (k : Int) + 1 = (p : Int) := by omega
    have hkp : k < p := by omega
    have hp63 : p ≤ 129 := by omega
    clear hp
    by_cases hpm : p < m
    · have t2 : ¬ ((m : Int) ≤ (p : Int)) := by omega
      obtain ⟨q, hq⟩ : ∃ q, q = p + 1 := ⟨_, rfl⟩
      have HQ1 : Hid (q = p + 1) := hq
      have eq : (p : Int) + 1 = (q : Int) := by omega
      have hpq : p < q := by omega
      clear hq
      by_cases hqm : q < m
      · have m1 := method_less ⟨pb, 2, none⟩ wr (some ⟨g, 0, none⟩) M.length cap hR.out.1.c2
        obtain ⟨b, HL1, HB1⟩ := less_c hR.out.1 (by rw [HLEN.out]; omega) q p (by rw [HLEN.out]; omega) (by rw [HLEN.out]; omega)
        have HLH : Hid (LessC g cap M.length q p wr b) := HL1
        have HBH : Hid ((b = true ∧ Lts wn (nth M q) (nth M p)) ∨ (b = false ∧ ¬ Lts wn (nth M q) (nth M p))) := HB1
        clear HL1 HB1
        go_wp2_with fail
        refine Calls.mono HLH.out ?_
        rintro e w1 ⟨rfl, hb1⟩
        have hR1 : Hid (DnR pb bb g cap wn L m w k M w1) := hR.out.below hb1
        clear hb1 hR m1 HLH
        rcases HBH.out with ⟨rfl, hl⟩ | ⟨rfl, hl⟩
        · have HJ : Hid (∀ c, 0 < c → c < m → par c = k → ¬ Lts wn (nth M c) (nth M q)) := fun c h0 h1 h2 => by
            rcases kid h0 h2 with e | e
            · rw [e, ← HP1.out]; exact hl.asym
            · rw [e, show 2 * k + 2 = q by rw [HQ1.out, HP1.out]]; unfold Lts; omega
          have HPAR : Hid (par q = k) := by show par q = k; rw [HQ1.out, HP1.out]; unfold par; omega
          clear hl HBH
          have m2 := method_less ⟨pb, 2, none⟩ w1 (some ⟨g, 0, none⟩) M.length cap hR1.out.1.c2
          obtain ⟨b2, HL2, HB2⟩ := less_c hR1.out.1 (by rw [HLEN.out]; omega) q k (by rw [HLEN.out]; omega) (by rw [HLEN.out]; omega)
          have HLH2 : Hid (LessC g cap M.length q k w1 b2) := HL2
          have HBH2 : Hid ((b2 = true ∧ Lts wn (nth M q) (nth M k)) ∨ (b2 = false ∧ ¬ Lts wn (nth M q) (nth M k))) := HB2
          clear HL2 HB2
          go_wp2_with fail
          refine Calls.mono HLH2.out ?_
          rintro e w2 ⟨rfl, hb2⟩
          have hR2 : Hid (DnR pb bb g cap wn L m w k M w2) := hR1.out.below hb2
          clear hb2 hR1 m2 HLH2
          rcases HBH2.out with ⟨rfl, hl⟩ | ⟨rfl, hl⟩
          · have m3 := method_swap ⟨pb, 2, none⟩ w2 (some ⟨g, 0, none⟩) M.length cap hR2.out.1.c2
            have HS : Hid (Calls Tryd.prog 54 #[.slice (some ⟨g, 0, none⟩) M.length cap, .int .i64 (k : Int), .int .i64 (q : Int)] w2 fun e w' => e = .returned (.tuple #[]) ∧ HP w' pb bb (some ⟨g, 0, none⟩) cap wn (sw M k q) ∧ Keep (fun b => b = g) w2 w') := swap_any hR2.out.1 (by rw [HLEN.out]; omega) k q (by rw [HLEN.out]; omega) (by rw [HLEN.out]; omega)
            have HLT : Hid (Lts wn (nth M q) (nth M k)) := hl
            clear hl HBH2
            go_wp2_with fail
            refine HS.out.mono ?_
            rintro e w3 ⟨rfl, h3, hk3⟩
            have HR3 : Hid (DnR pb bb g cap wn L m w q (sw M k q) w3) := hR2.out.step hm (by omega) HPAR.out (by omega) HLT.out HJ.out h3 hk3
            clear h3 hk3 m3 HS
            go_wp2
            exact ⟨⟨q, sw M k q, by omega, by go_num, HR3.out⟩, by simp [intOf]; omega⟩
          · have HE : Hid (DnE pb bb g cap wn L m w w2) := hR2.out.done (fun c h0 h1 h2 => lts_tr2 (HJ.out c h0 h1 h2) hl)
            clear hl HBH2 hR2
            go_wp2
            go_ret
            exact ⟨⟨_, rfl⟩, HE.out⟩
        · have HJ : Hid (∀ c, 0 < c → c < m → par c = k → ¬ Lts wn (nth M c) (nth M p)) := fun c h0 h1 h2 => by
            rcases kid h0 h2 with e | e
            · rw [e, ← HP1.out]; unfold Lts; omega
            · rw [e, show 2 * k + 2 = q by rw [HQ1.out, HP1.out]]; exact hl
          have HPAR : Hid (par p = k) := by show par p = k; rw [HP1.out]; unfold par; omega
          clear hl HBH
          have m2 := method_less ⟨pb, 2, none⟩ w1 (some ⟨g, 0, none⟩) M.length cap hR1.out.1.c2
          obtain ⟨b2, HL2, HB2⟩ := less_c hR1.out.1 (by rw [HLEN.out]; omega) p k (by rw [HLEN.out]; omega) (by rw [HLEN.out]; omega)
          have HLH2 : Hid (LessC g cap M.length p k w1 b2) := HL2
          have HBH2 : Hid ((b2 = true ∧ Lts wn (nth M p) (nth M k)) ∨ (b2 = false ∧ ¬ Lts wn (nth M p) (nth M k))) := HB2
          clear HL2 HB2
          go_wp2_with fail
          refine Calls.mono HLH2.out ?_
          rintro e w2 ⟨rfl, hb2⟩
          have hR2 : Hid (DnR pb bb g cap wn L m w k M w2) := hR1.out.below hb2
          clear hb2 hR1 m2 HLH2
          rcases HBH2.out with ⟨rfl, hl⟩ | ⟨rfl, hl⟩
          · have m3 := method_swap ⟨pb, 2, none⟩ w2 (some ⟨g, 0, none⟩) M.length cap hR2.out.1.c2
            have HS : Hid (Calls Tryd.prog 54 #[.slice (some ⟨g, 0, none⟩) M.length cap, .int .i64 (k : Int), .int .i64 (p : Int)] w2 fun e w' => e = .returned (.tuple #[]) ∧ HP w' pb bb (some ⟨g, 0, none⟩) cap wn (sw M k p) ∧ Keep (fun b => b = g) w2 w') := swap_any hR2.out.1 (by rw [HLEN.out]; omega) k p (by rw [HLEN.out]; omega) (by rw [HLEN.out]; omega)
            have HLT : Hid (Lts wn (nth M p) (nth M k)) := hl
            clear hl HBH2
            go_wp2_with fail
            refine HS.out.mono ?_
            rintro e w3 ⟨rfl, h3, hk3⟩
            have HR3 : Hid (DnR pb bb g cap wn L m w p (sw M k p) w3) := hR2.out.step hm (by omega) HPAR.out (by omega) HLT.out HJ.out h3 hk3
            clear h3 hk3 m3 HS
            go_wp2
            exact ⟨⟨p, sw M k p, by omega, by go_num, HR3.out⟩, by simp [intOf]; omega⟩
          · have HE : Hid (DnE pb bb g cap wn L m w w2) := hR2.out.done (fun c h0 h1 h2 => lts_tr2 (HJ.out c h0 h1 h2) hl)
            clear hl HBH2 hR2
            go_wp2
            go_ret
            exact ⟨⟨_, rfl⟩, HE.out⟩
      · have t3 : ¬ ((q : Int) < (m : Int)) := by omega
        have HJ : Hid (∀ c, 0 < c → c < m → par c = k → ¬ Lts wn (nth M c) (nth M p)) := fun c h0 h1 h2 => by
          rcases kid h0 h2 with e | e
          · rw [e, ← HP1.out]; unfold Lts; omega
          · have := HQ1.out; have := HP1.out; omega
        have HPAR : Hid (par p = k) := by show par p = k; rw [HP1.out]; unfold par; omega
        have hR1 : Hid (DnR pb bb g cap wn L m w k M wr) := hR.out
        obtain ⟨w1, hw1⟩ : ∃ w1, w1 = wr := ⟨_, rfl⟩
        rw [← hw1] at hR1 ⊢
        clear hw1 hR
        have m2 := method_less ⟨pb, 2, none⟩ w1 (some ⟨g, 0, none⟩) M.length cap hR1.out.1.c2
        obtain ⟨b2, HL2, HB2⟩ := less_c hR1.out.1 (by rw [HLEN.out]; omega) p k (by rw [HLEN.out]; omega) (by rw [HLEN.out]; omega)
        have HLH2 : Hid (LessC g cap M.length p k w1 b2) := HL2
        have HBH2 : Hid ((b2 = true ∧ Lts wn (nth M p) (nth M k)) ∨ (b2 = false ∧ ¬ Lts wn (nth M p) (nth M k))) := HB2
        clear HL2 HB2
        go_wp2_with fail
        refine Calls.mono HLH2.out ?_
        rintro e w2 ⟨rfl, hb2⟩
        have hR2 : Hid (DnR pb bb g cap wn L m w k M w2) := hR1.out.below hb2
        clear hb2 hR1 m2 HLH2
        rcases HBH2.out with ⟨rfl, hl⟩ | ⟨rfl, hl⟩
        · have m3 := method_swap ⟨pb, 2, none⟩ w2 (some ⟨g, 0, none⟩) M.length cap hR2.out.1.c2
          have HS : Hid (Calls Tryd.prog 54 #[.slice (some ⟨g, 0, none⟩) M.length cap, .int .i64 (k : Int), .int .i64 (p : Int)] w2 fun e w' => e = .returned (.tuple #[]) ∧ HP w' pb bb (some ⟨g, 0, none⟩) cap wn (sw M k p) ∧ Keep (fun b => b = g) w2 w') := swap_any hR2.out.1 (by rw [HLEN.out]; omega) k p (by rw [HLEN.out]; omega) (by rw [HLEN.out]; omega)
          have HLT : Hid (Lts wn (nth M p) (nth M k)) := hl
          clear hl HBH2
          go_wp2_with fail
          refine HS.out.mono ?_
          rintro e w3 ⟨rfl, h3, hk3⟩
          have HR3 : Hid (DnR pb bb g cap wn L m w p (sw M k p) w3) := hR2.out.step hm (by omega) HPAR.out (by omega) HLT.out HJ.out h3 hk3
          clear h3 hk3 m3 HS
          go_wp2
          exact ⟨⟨p, sw M k p, by omega, by go_num, HR3.out⟩, by simp [intOf]; omega⟩
        · have HE : Hid (DnE pb bb g cap wn L m w w2) := hR2.out.done (fun c h0 h1 h2 => lts_tr2 (HJ.out c h0 h1 h2) hl)
          clear hl HBH2 hR2
          go_wp2
          go_ret
          exact ⟨⟨_, rfl⟩, HE.out⟩
    · have t2 : (m : Int) ≤ (p : Int) := by omega
      have HE : Hid (DnE pb bb g cap wn L m w wr) := hR.out.done (fun c h0 h1 h2 => by have := HP1.out; rcases kid h0 h2 with e | e <;> omega)
      clear hR
      go_wp2
      go_ret
      exact ⟨⟨_, rfl⟩, HE.out⟩
end Go.Proofs.YtebnjoammfidnacDoor
