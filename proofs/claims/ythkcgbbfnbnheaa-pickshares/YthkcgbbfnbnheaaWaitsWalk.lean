/-
  The walk of granarylaw3.PickWaits: it returns true, and nothing that was there has turned.
-/
import Derived.Test.YthkcgbbfnbnheaaSharesWalk
namespace Go.Proofs.Ythkcgbbfnbnheaa
open Go.RowKit
set_option linter.unusedVariables false

/-- Lists of numbers that came in. -/
def SCs (w : World) (a : Option Addr) (N : Nat) : Prop := N = 0 ∨ ∃ b off, a = some ⟨b, off, none⟩ ∧ ∀ i, i < N → ∃ (a1 : Option Addr) (c : Nat) (ps : List Int), w.cell? ⟨b, off + i, none⟩ = some (.slice a1 ps.length c) ∧ IL w a1 ps ∧ ps.length ≤ 9223372036854775807 ∧ ∀ j, -9223372036854775808 ≤ gI ps j ∧ gI ps j ≤ 9223372036854775807
theorem SCs.at {w w' : World} {a : Option Addr} {N : Nat} (h : SCs w a N) (hb : Below w.heap.size w w') {i : Nat} (hi : i < N) : ∃ b off a1 c ps, a = some ⟨b, off, none⟩ ∧ (∀ w'', Below w.heap.size w w'' → w''.cell? ⟨b, off + i, none⟩ = some (.slice a1 ps.length c) ∧ IL w'' a1 ps) ∧ ps.length ≤ 9223372036854775807 ∧ ∀ j, -9223372036854775808 ≤ gI ps j ∧ gI ps j ≤ 9223372036854775807 := by
  rcases h with h | ⟨b, off, e, h⟩
  · omega
  · obtain ⟨a1, c, ps, h1, h2, h3, h4⟩ := h i hi
    exact ⟨b, off, a1, c, ps, e, fun w'' hb => ⟨(hb.cell (World.block_lt_of_cell? w _ h1)).trans h1, h2.below hb⟩, h3, h4⟩
def mkI (n : Nat) : Array Value := ((List.replicate n (0 : Int)).map ivI).toArray
theorem made_ints (n : Nat) (hn : n ≤ 1048576) (w : World) : (Instr.makeSlice 22 (.int .i64 (n : Int)) (.int .i64 (n : Int))).run Try.prog w = .ok (.slice (some ⟨w.heap.size, 0, none⟩) n n) (w.alloc (.cells (mkI n) 3)) := by
  obtain ⟨i0, hi, hz0, hz1, hz2⟩ := info_parts infoInt
  have h := run_make (P := Try.prog) w 22 3 i0 (.int .i64 0) Try.underlying22 hi hz0 .i64 .i64 n n (by omega) (by omega) (by rw [hz2]; omega) (by omega)
  rw [h]
  have e : madeCells (Value.int .i64 0).cells ((n : Int).toNat * i0.size) = mkI n := by
    unfold mkI
    apply Array.toList_inj.1
    rw [hz1, Int.toNat_natCast, Nat.mul_one]
    have := toList_madeCells_one (Value.int .i64 0) n
    simp only [List.map_replicate]
    exact this
  rw [e]
  simp
theorem stc_mk (w : World) (n : Nat) : Stc (w.alloc (.cells (mkI n) 3)) w.heap.size 3 ((List.replicate n (0 : Int)).map ivI) := stc_new _ _ _ _ rfl
theorem il_stc {w : World} {g : Nat} {l : List Int} (h : Stc w g 3 (l.map ivI)) : IL w (some ⟨g, 0, none⟩) l := Or.inr ⟨g, 0, rfl, fun i hi => by rw [Nat.zero_add]; exact stc_int h hi⟩
/-- A picker of the call's own, and a row of numbers. -/
structure WS (w wq : World) (pb cap : Nat) (wa : Option Addr) (W : List Int) (a c wb : Nat) (l : List Int) : Prop where
  ps : PS w wq pb cap wa W a c
  st : Stc wq wb 3 (l.map ivI)
  ne : ¬ wb = pb
  nw : ∀ b, blk wa b → b < wq.heap.size → ¬ b = wb
  ge : w.heap.size ≤ wb
theorem WS.turn {w wq w2 : World} {pb cap a c a' c' wb : Nat} {wa : Option Addr} {W l : List Int} (h : WS w wq pb cap wa W a c wb l) (hp : PK 41 w2 pb wa cap W a' c') (hk : Keep (fun b => b = pb) wq w2) : WS w w2 pb cap wa W a' c' wb l :=
  ⟨h.ps.step hp hk, h.st.keep hk (fun e => h.ne e), h.ne, fun b hb _ e => by
    subst e
    exact h.nw _ hb (heap_lt h.st) rfl, h.ge⟩
theorem WS.set {w wq : World} {pb cap a c wb : Nat} {wa : Option Addr} {W l : List Int} (h : WS w wq pb cap wa W a c wb l) (i : Nat) (x : Int) : WS w (wq.setCell ⟨wb, i, none⟩ (.int .i64 x)) pb cap wa W a c wb (l.set i x) := by
  have k : Keep (fun b => b = wb) wq (wq.setCell ⟨wb, i, none⟩ (.int .i64 x)) := (Keep.refl _ wq).set1 i _
  have hge := h.ge
  refine ⟨⟨h.ps.pk.keep k (fun e => h.ne e.symm) (fun b hb hlt e => h.nw b hb hlt e), h.ps.bel.trans (k.below h.ps.bel.size (fun b e => by omega)), h.ps.ge⟩, stc_int_set h.st i x, h.ne, fun b hb _ e => ?_, hge⟩
  subst e
  exact h.nw _ hb (heap_lt h.st) rfl
/-- .. a row that is made. -/
theorem WS.made {w wq : World} {pb cap a c : Nat} {wa : Option Addr} {W : List Int} (h : PS w wq pb cap wa W a c) (hw : ∀ b, blk wa b → b < wq.heap.size) (n : Nat) : WS w (wq.alloc (.cells (mkI n) 3)) pb cap wa W a c wq.heap.size (List.replicate n 0) := by
  have hlt := heap_lt h.pk.st
  have hs := h.bel.size
  exact ⟨h.below (alloc_below' _ _), stc_mk wq n, by omega, fun b hb _ e => by have := hw b hb; omega, by omega⟩
theorem gI_rep {n i : Nat} : gI (List.replicate n 0) i = 0 := by
  unfold gI
  rw [List.getElem?_replicate]
  split <;> rfl
/-- Something waits in q alone. -/
def onlyQ (n q : Nat) : List Int := (List.replicate n (0 : Int)).set q 1
theorem onlyQ_len {n q : Nat} : (onlyQ n q).length = n := by simp [onlyQ]
theorem gI_onlyQ {n q i : Nat} (hq : q < n) : gI (onlyQ n q) i = if i = q then 1 else 0 := by
  unfold onlyQ
  rw [gI_set (by simpa using hq)]
  split
  · rfl
  · exact gI_rep
set_option maxRecDepth 100000 in
set_option maxHeartbeats 1600000 in
theorem waits_no (a0 a2 : Option Addr) (cap0 n2 cap2 L e0 : Nat) (l : List Int) (t : Int) (w : World) (hl : l.length = L) (hf : FaultW l e0) (h0 : ¬ e0 = 0) (h1 : IL w a0 l) (hM : L ≤ 9223372036854775807) :
    Calls Try.prog 5 #[.slice a0 L cap0, .slice a2 n2 cap2, .int .i64 t] w fun e w' => e = .returned (.bool true) ∧ Below w.heap.size w w' := by
  have HF := fact_any w
  have HN : Hid (∀ w', Below w.heap.size w w' → Calls Try.prog 7 #[.slice a0 L cap0] w' fun e w'' => e = .returned (.tuple #[.pointer none, .iface 36 (.int .i64 e0)]) ∧ Below w'.heap.size w' w'') := fun w' hb => new_no a0 cap0 L e0 l w' hl hf h0 (h1.below hb) hM
  clear hl hf h0 h1
  go_enter Try.func5, Try.ntmps5
  go_wp2_with fail
  refine HF.mono ?_
  rintro e w1 ⟨rfl, hb⟩
  have HA := HN.out w1 hb
  have H1 : Hid (Below w.heap.size w w1) := hb
  clear HF HN hb
  go_wp2_with fail
  refine HA.mono ?_
  rintro e w2 ⟨rfl, hb⟩
  have H2 : Hid (Below w.heap.size w w2) := H1.out.trans (hb.mono H1.out.size)
  clear HA hb H1
  go_wp2
  go_ret
  exact ⟨rfl, H2.out⟩
theorem nonN_or (L : List Int) : SomeNeg L ∨ NonN L := by
  rcases Classical.em (SomeNeg L) with h | h
  · exact Or.inl h
  · exact Or.inr fun i hi => by
      rcases Int.lt_or_le (gI L i) 0 with h2 | h2
      · exact (h ⟨i, hi, h2⟩).elim
      · exact h2
set_option maxRecDepth 100000 in
set_option maxHeartbeats 8000000 in
theorem waits_yes (g o cap0 n N cap2 : Nat) (a2 : Option Addr) (W : List Int) (t : Int) (w : World) (hl : W.length = n) (hf : GoodW W) (h1 : IL w (some ⟨g, o, none⟩) W) (hS : SCs w a2 N) (hN : N ≤ 140737488355328) (ht : -9223372036854775808 ≤ t ∧ t ≤ 9223372036854775807) :
    Calls Try.prog 5 #[.slice (some ⟨g, o, none⟩) n cap0, .slice a2 N cap2, .int .i64 t] w fun e w' => e = .returned (.bool true) ∧ Below w.heap.size w w' := by
  have HF := fact_any w
  have HN : Hid (∀ w', Below w.heap.size w w' → Calls Try.prog 7 #[.slice (some ⟨g, o, none⟩) n cap0] w' fun e w'' => ∃ pb wa cap1 c, e = .returned (.tuple #[.pointer (some ⟨pb, 0, none⟩), .nilIface]) ∧ PK 41 w'' pb wa cap1 W 0 c ∧ (c : Int) = gI W 0 ∧ Below w'.heap.size w' w'' ∧ w'.heap.size ≤ pb ∧ (∀ b, blk wa b → w'.heap.size ≤ b ∧ b < w''.heap.size)) := fun w' hb => new_yes ⟨g, o, none⟩ cap0 n W w' hl hf (h1.below hb)
  have hn8 : n ≤ 8 := by have := hf.2.1; omega
  have hn1 : 1 ≤ n := by have := hf.1; omega
  have HP : Hid (∀ w, Calls Try.prog 8 #[.int .i64 t, .int .i64 (n : Nat)] w fun e w' => e = .returned (.int .i64 (pkN t n : Nat)) ∧ w = w') := fun w => pick_is t n w (by omega) (by omega) ht
  have hT : pkN t n < n := pkN_lt t (by omega)
  have HG : Hid (W.length = n ∧ GoodW W) := ⟨hl, hf⟩
  have HSc : Hid (SCs w a2 N) := hS
  generalize pkN t n = T at *
  clear hl hf h1 ht hS
  go_enter Try.func5, Try.ntmps5
  go_wp2_with fail
  refine HF.mono ?_
  rintro e w1 ⟨rfl, hb⟩
  have HA := HN.out w1 hb
  have H1 : Hid (Below w.heap.size w w1) := hb
  clear HF HN hb
  go_wp2_with fail
  refine HA.mono ?_
  rintro e w2 ⟨pb, wa, cap, c0, rfl, hp, hc0, hb, hge, hwb⟩
  have H2 : Hid (PS w w2 pb cap wa W 0 c0 ∧ ∀ b, blk wa b → b < w2.heap.size) := by
    have hb1 := H1.out
    have hs := hb1.size
    exact ⟨⟨hp, hb1.trans (hb.mono hs), by omega⟩, fun b e => (hwb b e).2⟩
  clear HA hp hc0 hb hge hwb H1
  go_wp2
  go_loopw [10] (fun j wq => ∃ (i a c : Nat), i ≤ N ∧ j = .int .i64 i ∧ Hid (PS w wq pb cap wa W a c ∧ ∀ b, blk wa b → b < wq.heap.size)) (fun j _ => N - (intOf j).toNat)
  case atStart => exact ⟨0, 0, c0, Nat.zero_le _, rfl, H2.out⟩
  case round =>
    obtain ⟨i, a, c, hi, rfl, hR⟩ := hrel
    clear H2
    obtain ⟨w3, rfl⟩ : ∃ w3, w3 = wr := ⟨_, rfl⟩
    by_cases hlt : i < N
    · obtain ⟨b2, o2, a1, c1, ps, rfl, hcell, hlen, hbd⟩ := HSc.out.at hR.out.1.bel hlt
      have cS := (hcell w3 hR.out.1.bel).1
      have hIL := (hcell w3 hR.out.1.bel).2
      have HC : Hid (∀ w'', Below w.heap.size w w'' → w''.cell? ⟨b2, o2 + i, none⟩ = some (.slice a1 ps.length c1) ∧ IL w'' a1 ps) := hcell
      clear hcell hbd
      by_cases hsh : ps.length = n
      · rcases nonN_or ps with hneg | hnn
        · have HX := next_range pb cap a c n c1 wa a1 W ps w3 hR.out.1.pk HG.out.1 hsh hIL hneg
          rw [hsh] at cS
          clear hIL hlen hneg hsh
          go_wp2_with fail
          refine HX.mono ?_
          rintro e w4 ⟨rfl, rfl⟩
          clear HX
          go_wp2
          exact ⟨⟨i + 1, a, c, by omega, by go_num, hR.out⟩, by simp [intOf]; omega⟩
        · have HX := next_any pb cap a c n c1 wa a1 W ps w3 hR.out.1.pk HG.out.1 hsh hIL hnn
          rw [hsh] at cS
          have HL : Hid (ps.length = n ∧ NonN ps) := ⟨hsh, hnn⟩
          clear hIL hlen hnn hsh
          go_wp2_with fail
          refine HX.mono ?_
          rintro e w4 (⟨hN, rfl, hb⟩ | ⟨q, d, ht, _, rfl, hp, hk4⟩)
          · have H4 : Hid (PS w w4 pb cap wa W a c ∧ ∀ b, blk wa b → b < w4.heap.size) := ⟨hR.out.1.below hb, fun b e => Nat.lt_of_lt_of_le (hR.out.2 b e) hb.size⟩
            have cS4 := (HC.out w4 H4.out.1.bel).1
            rw [HL.out.1] at cS4
            clear HX hN hb hR cS HC
            go_wp2
            exact ⟨⟨i + 1, a, c, by omega, by go_num, H4.out⟩, by simp [intOf]; omega⟩
          · have H4 : Hid (PS w w4 pb cap wa W q d ∧ ∀ b, blk wa b → b < w4.heap.size) := ⟨hR.out.1.step hp hk4, fun b e => Nat.lt_of_lt_of_le (hR.out.2 b e) hk4.size⟩
            obtain ⟨cS4, hI4⟩ := HC.out w4 H4.out.1.bel
            have hqt := ht.lt hR.out.1.pk.lt (by rw [HL.out.1, HG.out.1]) HL.out.2
            obtain ⟨g1, o1, e1, hc1⟩ := hI4.some_of (i := q) (by rw [HL.out.1, ← HG.out.1]; exact hqt.1)
            subst e1
            have cq := hc1 q (by rw [HL.out.1, ← HG.out.1]; exact hqt.1)
            have hq0 := hqt.2
            have hqn : q < n := by rw [← HG.out.1]; exact hqt.1
            generalize gI ps q = V at *
            rw [HL.out.1] at cS4
            have hV : ¬ V ≤ 0 := by omega
            clear HX ht hp hk4 hR cS HC hI4 hc1 hqt
            go_wp2
            exact ⟨⟨i + 1, q, d, by omega, by go_num, H4.out⟩, by simp [intOf]; omega⟩
      · have HX := next_shape pb cap a c ps.length c1 wa a1 W w3 hR.out.1.pk (by rw [HG.out.1]; exact hsh) hlen
        clear hIL hsh
        generalize ps.length = m at *
        go_wp2_with fail
        refine HX.mono ?_
        rintro e w4 ⟨rfl, rfl⟩
        clear HX
        go_wp2
        exact ⟨⟨i + 1, a, c, by omega, by go_num, hR.out⟩, by simp [intOf]; omega⟩
    · obtain rfl : i = N := by omega
      clear hi hlt
      have hmk := made_ints n (by omega)
      have H4 : Hid (WS w (w3.alloc (.cells (mkI n) 3)) pb cap wa W a c w3.heap.size (List.replicate n 0)) := WS.made hR.out.1 hR.out.2 n
      have H5 : Hid (WS w ((w3.alloc (.cells (mkI n) 3)).setCell ⟨w3.heap.size, T, none⟩ (.int .i64 1)) pb cap wa W a c w3.heap.size (onlyQ n T)) := H4.out.set T 1
      have cT : (w3.alloc (.cells (mkI n) 3)).cell? ⟨w3.heap.size, T, none⟩ = some (.int .i64 (gI (List.replicate n 0) T)) := stc_int H4.out.st (by simpa using hT)
      have fT : (w3.alloc (.cells (mkI n) 3)).frozen? ⟨w3.heap.size, T, none⟩ = false := H4.out.st.free T
      rw [gI_rep] at cT
      have HNN : Hid (NonN (onlyQ n T) ∧ ¬ NoneW (onlyQ n T) ∧ ∀ j, j < W.length → ¬ j = T → gI (onlyQ n T) j = 0) := by
        refine ⟨fun j hj => ?_, fun hN => ?_, fun j hj he => ?_⟩
        · rw [gI_onlyQ hT]; split <;> omega
        · have := hN T (by rw [onlyQ_len]; exact hT)
          rw [gI_onlyQ hT, if_pos rfl] at this
          omega
        · rw [gI_onlyQ hT, if_neg he]
      clear hR H4
      go_wp2_with fail
      refine (HP.out _).mono ?_
      rintro e w5 ⟨rfl, rfl⟩
      go_wp2
      have hEq : (w3.alloc (.cells (mkI n) 3)).setCell ⟨w3.heap.size, T, none⟩ (.int .i64 1) = w3.alloc (.cells ((mkI n).setIfInBounds T (.int .i64 1)) 3) := by simp [go_sem]
      rw [hEq] at H5
      clear hEq
      generalize w3.alloc (.cells ((mkI n).setIfInBounds T (.int .i64 1)) 3) = w6 at *
      generalize w3.heap.size = wb at *
      clear cT fT hmk
      go_loopw [15] (fun j wq => ∃ (k a c : Nat), k ≤ 40 ∧ j = .int .i64 k ∧ Hid (WS w wq pb cap wa W a c wb (onlyQ n T))) (fun j _ => 40 - (intOf j).toNat)
      case atStart => exact ⟨0, a, c, Nat.zero_le _, rfl, H5.out⟩
      case round =>
        obtain ⟨k, a, c, hk, rfl, hR⟩ := hrel
        clear H5
        by_cases hlt : k < 40
        · have HX := next_any pb cap a c n n wa (some ⟨wb, 0, none⟩) W (onlyQ n T) wr hR.out.ps.pk HG.out.1 onlyQ_len (il_stc hR.out.st) HNN.out.1
          go_wp2_with fail
          refine HX.mono ?_
          rintro e w7 (⟨hN, _⟩ | ⟨q, d, ht, _, rfl, hp, hk7⟩)
          · exact (HNN.out.2.1 hN).elim
          · have hqT := turn_alone hR.out.ps.pk.lt HNN.out.2.2 ht
            obtain rfl : T = q := hqT.symm
            have H7 : Hid (WS w w7 pb cap wa W T d wb (onlyQ n T)) := hR.out.turn hp hk7
            clear HX ht hp hk7 hR hqT
            go_wp2
            exact ⟨⟨k + 1, T, d, by omega, by go_num, H7.out⟩, by simp [intOf]; omega⟩
        · obtain rfl : k = 40 := by omega
          have H7 : Hid (Below w.heap.size w wr) := hR.out.ps.bel
          clear hR
          go_wp2
          go_ret
          exact ⟨rfl, H7.out⟩
theorem waits_any (a0 a2 : Option Addr) (cap0 N cap2 : Nat) (l : List Int) (t : Int) (w : World) (h1 : IL w a0 l) (hM : l.length ≤ 140737488351232) (hS : SCs w a2 N) (hN : N ≤ 140737488355328) (ht : -9223372036854775808 ≤ t ∧ t ≤ 9223372036854775807) :
    Calls Try.prog 5 #[.slice a0 l.length cap0, .slice a2 N cap2, .int .i64 t] w fun e w' => e = .returned (.bool true) ∧ Below w.heap.size w w' := by
  obtain ⟨e0, hf⟩ := faultW_ex l
  by_cases h0 : e0 = 0
  · have hg : GoodW l := by
      rcases hf with ⟨_, h⟩ | ⟨_, h⟩ | ⟨_, _, _, h⟩ | ⟨h, _⟩
      · omega
      · omega
      · omega
      · exact h
    obtain ⟨g, o, rfl, _⟩ := h1.some_of (i := 0) hg.1
    exact waits_yes g o cap0 l.length N cap2 a2 l t w rfl hg h1 hS hN ht
  · exact waits_no a0 a2 cap0 N cap2 l.length e0 l t w rfl hf h0 h1 (by omega)
end Go.Proofs.Ythkcgbbfnbnheaa
