/-
  The walk of granarylaw3.PickShares: it returns true, and nothing that was there has turned.
-/
import Derived.Test.YthkcgbbfnbnheaaPLaw
namespace Go.Proofs.Ythkcgbbfnbnheaa
open Go.RowKit
set_option linter.unusedVariables false

/-- A picker of the call's own, and numbers of the call's own. -/
structure SH (w wq : World) (B pb cap : Nat) (wa : Option Addr) (W : List Int) (a c : Nat) (a1 : Option Addr) (c1 : Nat) (l : List Int) : Prop where
  ps : PS w wq pb cap wa W a c
  own : OwnI wq B a1 c1 l
  lt : pb < B
  wl : ∀ b, blk wa b → b < B
  B0 : w.heap.size ≤ B
  B2 : B ≤ wq.heap.size
theorem SH.own1 {w wq : World} {B pb cap a c c1 : Nat} {wa a1 : Option Addr} {W l : List Int} (h : SH w wq B pb cap wa W a c a1 c1 l) (o : Obj) : OwnI (wq.alloc o) B a1 c1 l ∧ B ≤ (wq.alloc o).heap.size :=
  ⟨h.own.below (alloc_below' _ _), Nat.le_trans h.B2 (alloc_below' _ _).size⟩
theorem SH.more {w wq w2 : World} {B pb cap a c c1 c2 : Nat} {wa a1 a2 : Option Addr} {W l l2 : List Int} (h : SH w wq B pb cap wa W a c a1 c1 l) (o : Obj) (ho : OwnI w2 B a2 c2 l2) (hk : Keep (blk a1) (wq.alloc o) w2) : SH w w2 B pb cap wa W a c a2 c2 l2 := by
  have k1 : Keep (blk a1) wq w2 := ((Keep.refl _ wq).alloc o).trans hk
  have hB0 := h.B0
  have hlt := h.lt
  have hnb : ∀ b, blk a1 b → B ≤ b := fun b hb => (h.own.blk hb).1
  refine ⟨⟨h.ps.pk.keep k1 (fun e => by have := hnb _ e; omega) (fun b hb _ e => by have := hnb _ e; have := h.wl _ hb; omega), h.ps.bel.trans (k1.below h.ps.bel.size (fun b e => by have := hnb _ e; omega)), h.ps.ge⟩, ho, hlt, h.wl, hB0, Nat.le_trans h.B2 k1.size⟩
theorem SH.turn {w wq w2 : World} {B pb cap a c a' c' c1 : Nat} {wa a1 : Option Addr} {W l : List Int} (h : SH w wq B pb cap wa W a c a1 c1 l) (hp : PK 41 w2 pb wa cap W a' c') (hk : Keep (fun b => b = pb) wq w2) : SH w w2 B pb cap wa W a' c' a1 c1 l :=
  ⟨h.ps.step hp hk, h.own.keep hk (fun b hb e => by have := (h.own.blk hb).1; have := h.lt; omega), h.lt, h.wl, h.B0, Nat.le_trans h.B2 hk.size⟩
/-- As many ones. -/
def ones (n : Nat) : List Int := List.replicate n 1
theorem ones_len {n : Nat} : (ones n).length = n := by simp [ones]
theorem ones_succ {n : Nat} : ones (n + 1) = ones n ++ [1] := by unfold ones; rw [List.replicate_succ']
theorem gI_ones {n i : Nat} (h : i < n) : gI (ones n) i = 1 := by unfold gI ones; rw [List.getElem?_replicate, if_pos h]; rfl
set_option maxRecDepth 100000 in
set_option maxHeartbeats 1600000 in
theorem shares_no (a0 : Option Addr) (cap0 L e0 : Nat) (l : List Int) (t : Int) (w : World) (hl : l.length = L) (hf : FaultW l e0) (h0 : ¬ e0 = 0) (h1 : IL w a0 l) (hM : L ≤ 9223372036854775807) :
    Calls Try.prog 4 #[.slice a0 L cap0, .int .i64 t] w fun e w' => e = .returned (.bool true) ∧ Below w.heap.size w w' := by
  have HF := fact_any w
  have HN : Hid (∀ w', Below w.heap.size w w' → Calls Try.prog 7 #[.slice a0 L cap0] w' fun e w'' => e = .returned (.tuple #[.pointer none, .iface 36 (.int .i64 e0)]) ∧ Below w'.heap.size w' w'') := fun w' hb => new_no a0 cap0 L e0 l w' hl hf h0 (h1.below hb) hM
  clear hl hf h0 h1
  go_enter Try.func4, Try.ntmps4
  go_wp2_with fail
  refine HF.mono ?_
  rintro e w1 ⟨rfl, hb⟩
  have HA := HN.out w1 hb
  have H1 : Hid (Below w.heap.size w w1) := hb
  clear HF HN hb
  go_wp2_with fail
  refine HA.mono ?_
  rintro e w2 ⟨rfl, hb⟩
  have H2 : Hid (Below w.heap.size w w2) := H1.out.trans (hb.mono H1.out.size)
  clear HA hb H1
  go_wp2
  go_ret
  exact ⟨rfl, H2.out⟩
set_option maxRecDepth 100000 in
set_option maxHeartbeats 8000000 in
theorem shares_yes (g o cap0 n : Nat) (W : List Int) (t : Int) (w : World) (hl : W.length = n) (hf : GoodW W) (h1 : IL w (some ⟨g, o, none⟩) W) (ht : -9223372036854775808 ≤ t ∧ t ≤ 9223372036854775807) :
    Calls Try.prog 4 #[.slice (some ⟨g, o, none⟩) n cap0, .int .i64 t] w fun e w' => e = .returned (.bool true) ∧ Below w.heap.size w w' := by
  have HF := fact_any w
  have HN : Hid (∀ w', Below w.heap.size w w' → Calls Try.prog 7 #[.slice (some ⟨g, o, none⟩) n cap0] w' fun e w'' => ∃ pb wa cap1 c, e = .returned (.tuple #[.pointer (some ⟨pb, 0, none⟩), .nilIface]) ∧ PK 41 w'' pb wa cap1 W 0 c ∧ (c : Int) = gI W 0 ∧ Below w'.heap.size w' w'' ∧ w'.heap.size ≤ pb ∧ (∀ b, blk wa b → w'.heap.size ≤ b ∧ b < w''.heap.size)) := fun w' hb => new_yes ⟨g, o, none⟩ cap0 n W w' hl hf (h1.below hb)
  have HP : Hid (∀ w, Calls Try.prog 8 #[.int .i64 t, .int .i64 4] w fun e w' => e = .returned (.int .i64 (pkN t 4 : Nat)) ∧ w = w') := fun w => pick_is t 4 w (by omega) (by omega) ht
  have hT : pkN t 4 < 4 := pkN_lt t (by omega)
  have HC : Hid (∀ w', Below w.heap.size w w' → ∀ i, i < n → w'.cell? ⟨g, o + i, none⟩ = some (.int .i64 (gI W i))) := fun w' hb i hi => by
    obtain ⟨g', o', e, hc⟩ := (h1.below hb).some_of (i := i) (by omega)
    cases e
    exact hc i (by omega)
  have HG : Hid (W.length = n ∧ GoodW W) := ⟨hl, hf⟩
  have hn8 : n ≤ 8 := by have := hf.2.1; omega
  have hn1 : 1 ≤ n := by have := hf.1; omega
  generalize pkN t 4 = T at *
  clear hl hf h1 ht
  go_enter Try.func4, Try.ntmps4
  go_wp2_with fail
  refine HF.mono ?_
  rintro e w1 ⟨rfl, hb⟩
  have HA := HN.out w1 hb
  have H1 : Hid (Below w.heap.size w w1) := hb
  clear HF HN hb
  go_wp2_with fail
  refine HA.mono ?_
  rintro e w2 ⟨pb, wa, cap, c0, rfl, hp, hc0, hb, hge, hwb⟩
  have H2 : Hid (SH w w2 w2.heap.size pb cap wa W 0 c0 none 0 (ones 0) ∧ SI W 0 0 0 c0) := by
    have hb1 := H1.out
    have hs := hb1.size
    have hs2 := hb.size
    exact ⟨⟨⟨hp, hb1.trans (hb.mono hs), by omega⟩, OwnI.nil _ _, heap_lt hp.st, fun b e => (hwb b e).2, by omega, Nat.le_refl _⟩, Or.inl ⟨rfl, by rw [hc0]; omega⟩⟩
  generalize w2.heap.size = B at *
  clear HA hp hc0 hb hge hwb H1
  go_wp2
  go_loopw [9, 10] (fun v j wq => ∃ (i : Nat) (a1 : Option Addr) (c1 : Nat), i ≤ n ∧ v = .slice a1 i c1 ∧ j = .int .i64 i ∧ Hid (SH w wq B pb cap wa W 0 c0 a1 c1 (ones i) ∧ SI W 0 0 0 c0)) (fun _ j _ => n - (intOf j).toNat)
  case atStart => exact ⟨0, none, 0, Nat.zero_le _, rfl, rfl, H2.out⟩
  case round =>
    obtain ⟨i, a1, c1, hi, rfl, rfl, hR⟩ := hrel
    clear H2
    by_cases hlt : i < n
    · have HO := fun o => hR.out.1.own1 o
      go_wp2_with (at_builtin; refine app_stepI rfl (.tmp 33) (.tmp 34) rfl B a1 c1 (ones i) (by rw [ones_len]; rfl) (HO _).1 (some ⟨wr.heap.size, 0, none⟩) 1 1 [1] rfl (by rfl) (fun e => by cases e) (il_one wr 1) (ones (i + 1)) ones_succ (by rw [ones_len]; omega) (HO _).2 ?_)
      intro a2 c2 w3 hO hK
      rw [ones_len]
      have H3 : Hid (SH w w3 B pb cap wa W 0 c0 a2 c2 (ones (i + 1)) ∧ SI W 0 0 0 c0) := ⟨hR.out.1.more _ hO hK, hR.out.2⟩
      clear HO hO hK hR
      go_wp2
      exact ⟨⟨i + 1, a2, c2, by omega, rfl, by go_num, H3.out⟩, by simp [intOf]; omega⟩
    · obtain rfl : i = n := by omega
      obtain ⟨wo, rfl⟩ : ∃ wo, wo = wr := ⟨_, rfl⟩
      clear hi hlt
      have HNN : Hid (NonN (ones i) ∧ ¬ NoneW (ones i) ∧ ∀ j, j < W.length → 0 < gI (ones i) j) := by
        refine ⟨fun j hj => ?_, fun hN => ?_, fun j hj => ?_⟩
        · rw [ones_len] at hj; rw [gI_ones hj]; omega
        · have := hN 0 (by rw [ones_len]; omega)
          rw [gI_ones (by omega)] at this
          omega
        · rw [gI_ones (by have := HG.out.1; omega)]; omega
      go_wp2
      go_loopw [11] (fun j wq => ∃ (s a c : Nat), s ≤ 1 + T ∧ j = .int .i64 s ∧ Hid (SH w wq B pb cap wa W a c a1 c1 (ones i) ∧ SI W 0 0 a c)) (fun j _ => 1 + T - (intOf j).toNat)
      case atStart => exact ⟨0, 0, c0, Nat.zero_le _, rfl, hR.out⟩
      case round =>
        obtain ⟨s, a, c, hs, rfl, hS⟩ := hrel
        clear hR
        obtain ⟨w4, rfl⟩ : ∃ w4, w4 = wr := ⟨_, rfl⟩
        go_wp2_with fail
        refine (HP.out _).mono ?_
        rintro e w5 ⟨rfl, rfl⟩
        by_cases hlt : s < 1 + T
        · have hd1 : decide ((s : Int) < 1 + (T : Int)) = true := decide_eq_true (by omega)
          go_wp2
          go_loopw [12] (fun j wq => ∃ (k a c : Nat), k ≤ i ∧ j = .int .i64 k ∧ Hid (SH w wq B pb cap wa W a c a1 c1 (ones i) ∧ SI W k 0 a c)) (fun j _ => i - (intOf j).toNat)
          case atStart => exact ⟨0, a, c, Nat.zero_le _, rfl, hS.out⟩
          case round =>
            obtain ⟨k, a, c, hk, rfl, hK⟩ := hrel
            clear hS
            obtain ⟨w6, rfl⟩ : ∃ w6, w6 = wr := ⟨_, rfl⟩
            by_cases hlk : k < i
            · have hGk := HG.out.2.2.2 k (by have := HG.out.1; omega)
              obtain ⟨V, hV⟩ : ∃ V : Nat, gI W k = (V : Int) := ⟨(gI W k).toNat, by omega⟩
              have hV16 : V ≤ 16 := by omega
              have HV : Hid (gI W k = (V : Int) ∧ 1 ≤ gI W k) := ⟨hV, hGk.1⟩
              clear hV hGk
              go_wp2
              go_loopw [13] (fun j wq => ∃ (m a c : Nat), m ≤ V ∧ j = .int .i64 m ∧ Hid (SH w wq B pb cap wa W a c a1 c1 (ones i) ∧ SI W k m a c)) (fun j _ => V - (intOf j).toNat)
              case atStart => exact ⟨0, a, c, Nat.zero_le _, rfl, hK.out⟩
              case round =>
                obtain ⟨m, a, c, hm, rfl, hM⟩ := hrel
                clear hK
                have cV : wr.cell? ⟨g, o + k, none⟩ = some (.int .i64 (V : Int)) := by rw [← HV.out.1]; exact HC.out wr hM.out.1.ps.bel k hlk
                by_cases hlm : m < V
                · have HX := next_any pb cap a c i c1 wa a1 W (ones i) wr hM.out.1.ps.pk HG.out.1 ones_len hM.out.1.own.il HNN.out.1
                  go_wp2_with fail
                  refine HX.mono ?_
                  rintro e w7 (⟨hN, _⟩ | ⟨q, d, ht, _, rfl, hp, hk7⟩)
                  · exact (HNN.out.2.1 hN).elim
                  · have hst := SI.step HG.out.2 HNN.out.2.2 (by have := HG.out.1; omega) hM.out.1.ps.pk.lt (by rw [HV.out.1]; omega) hM.out.2 ht
                    obtain ⟨hqk, hsi⟩ := hst
                    obtain rfl : k = q := hqk.symm
                    have H7 : Hid (SH w w7 B pb cap wa W k d a1 c1 (ones i) ∧ SI W k (m + 1) k d) := ⟨hM.out.1.turn hp hk7, hsi⟩
                    clear HX ht hp hk7 hsi hM cV hqk
                    go_wp2
                    exact ⟨⟨m + 1, k, d, by omega, by go_num, H7.out⟩, by simp [intOf]; omega⟩
                · obtain rfl : m = V := by omega
                  have H7 : Hid (SH w wr B pb cap wa W a c a1 c1 (ones i) ∧ SI W (k + 1) 0 a c) := ⟨hM.out.1, hM.out.2.next (by have := HG.out.1; omega) hM.out.1.ps.pk.lt HV.out.1 HV.out.2⟩
                  clear hM
                  go_wp2
                  exact ⟨⟨k + 1, a, c, by omega, by go_num, H7.out⟩, by simp [intOf]; omega⟩
            · obtain rfl : k = i := by omega
              have H7 : Hid (SH w w6 B pb cap wa W a c a1 c1 (ones k) ∧ SI W 0 0 a c) := ⟨hK.out.1, SI.round HG.out.2 hK.out.1.ps.pk.lt (by rw [HG.out.1]; exact hK.out.2)⟩
              clear hK
              go_wp2
              exact ⟨⟨s + 1, a, c, by omega, by go_num, H7.out⟩, by simp [intOf]; omega⟩
        · obtain rfl : s = 1 + T := by omega
          have H7 : Hid (Below w.heap.size w w4) := hS.out.1.ps.bel
          clear hS
          go_wp2
          go_ret
          exact ⟨rfl, H7.out⟩
theorem shares_any (a0 : Option Addr) (cap0 : Nat) (l : List Int) (t : Int) (w : World) (h1 : IL w a0 l) (hM : l.length ≤ 140737488351232) (ht : -9223372036854775808 ≤ t ∧ t ≤ 9223372036854775807) :
    Calls Try.prog 4 #[.slice a0 l.length cap0, .int .i64 t] w fun e w' => e = .returned (.bool true) ∧ Below w.heap.size w w' := by
  obtain ⟨e0, hf⟩ := faultW_ex l
  by_cases h0 : e0 = 0
  · have hg : GoodW l := by
      rcases hf with ⟨_, h⟩ | ⟨_, h⟩ | ⟨_, _, _, h⟩ | ⟨h, _⟩
      · omega
      · omega
      · omega
      · exact h
    obtain ⟨g, o, rfl, _⟩ := h1.some_of (i := 0) hg.1
    exact shares_yes g o cap0 l.length l t w rfl hg h1 ht
  · exact shares_no a0 cap0 l.length e0 l t w rfl hf h0 h1 (by omega)
end Go.Proofs.Ythkcgbbfnbnheaa
