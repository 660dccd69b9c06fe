/-
  The walk of granarylaw3.PickPlays: it returns true, and nothing that was there has turned.
-/
import Derived.Test.YthkcgbbfnbnheaaDoorPRefN
import Derived.Test.YthkcgbbfnbnheaaDoorWaitsWalk
import Derived.Test.YthkcgbbfnbnheaaDoorTold
namespace Go.Proofs.YthkcgbbfnbnheaaDoor
open Go.RowKit
set_option linter.unusedVariables false

theorem nonN_or2 (L : List Int) : SomeNeg L ∨ NonN L := by
  rcases Classical.em (SomeNeg L) with h | h
  · exact Or.inl h
  · exact Or.inr fun i hi => by
      rcases Int.lt_or_le (gI L i) 0 with h2 | h2
      · exact (h ⟨i, hi, h2⟩).elim
      · exact h2
theorem neg_not {L : List Int} (h : SomeNeg L) (h2 : NonN L) : False := by
  obtain ⟨i, hi, hx⟩ := h
  have := h2 i hi
  omega
set_option maxRecDepth 100000 in
set_option maxHeartbeats 3200000 in
theorem plays_no (a0 a2 : Option Addr) (cap0 n2 cap2 L e0 : Nat) (l : List Int) (w : World) (hE : EType w) (hl : l.length = L) (hf : FaultW l e0) (h0 : ¬ e0 = 0) (h1 : IL w a0 l) (hnil : a0 = none → cap0 = 0) (hM : L ≤ 140737488351232) (hM2 : L * 8 ≤ 140737488355328) :
    Calls Tryd.prog 3 #[.slice a0 L cap0, .slice a2 n2 cap2] w fun e w' => e = .returned (.bool true) ∧ Below w.heap.size w w' := by
  have HE : Hid (∀ w', Below w.heap.size w w' → EType w') := fun w' hb => hE.below hb hE.pos
  have HA : Hid (Below w.heap.size w (w.alloc (.cells #[] 3)) ∧ IL (w.alloc (.cells #[] 3)) a0 l) := ⟨alloc_below' w _, h1.below (alloc_below' w _)⟩
  have HL : Hid (l.length = L ∧ L * 8 ≤ 140737488355328) := ⟨hl, hM2⟩
  have HN : Hid (∀ w' a1 c1, OwnI w' w.heap.size a1 c1 l → Calls Tryd.prog 4 #[.slice a1 L c1] w' fun e w'' => e = .returned (.tuple #[.pointer none, .iface 29 (.int .i64 e0)]) ∧ Below w'.heap.size w' w'') := fun w' a1 c1 hO => new_no a1 c1 L e0 l w' hl hf h0 hO.il (by omega)
  have HR : Hid (∀ w', Below w.heap.size w w' → Calls Tryd.prog 5 #[.slice a0 L cap0] w' fun e w'' => e = .returned (.int .i64 (e0 : Nat)) ∧ w' = w'') := fun w' hb => rfault_any a0 cap0 L e0 l w' hl hf (h1.below hb) (by omega)
  have t1 : ((e0 : Int) != 0) = true := by rw [bne_iff_ne]; omega
  clear hE hl hf h0 h1 hM2
  go_enter Tryd.func3, Tryd.ntmps3
  go_wp2_with (at_builtin; refine app_stepI rfl (.tmp 17) (.tmp 18) rfl w.heap.size (some ⟨w.heap.size, 0, none⟩) 0 [] (by rfl) (ownI_empty w) a0 L cap0 l HL.out.1 (by rfl) hnil HA.out.2 l rfl (by rw [HL.out.1]; exact HL.out.2) HA.out.1.size ?_)
  intro a1 c1 w1 hO hK
  have H1 : Hid (OwnI w1 w.heap.size a1 c1 l ∧ Below w.heap.size w w1) := ⟨hO, HA.out.1.trans (hK.below HA.out.1.size (fun b hb => by obtain ⟨x, e, rfl⟩ := hb; cases e; exact Nat.le_refl _))⟩
  rw [HL.out.1]
  clear hO hK HA
  have HX := HN.out w1 a1 c1 H1.out.1
  go_wp2_with fail
  refine HX.mono ?_
  rintro e w2 ⟨rfl, hb⟩
  have H2 : Hid (Below w.heap.size w w2) := H1.out.2.trans (hb.mono H1.out.2.size)
  clear HX HN hb H1
  have HX := HR.out w2 H2.out
  go_wp2_with fail
  refine HX.mono ?_
  rintro e w3 ⟨rfl, rfl⟩
  clear HX HR
  have HX := error_same e0 w2 (HE.out _ H2.out)
  go_wp2_with fail
  refine HX.mono ?_
  rintro e w4 ⟨rfl, hb⟩
  have H4 : Hid (Below w.heap.size w w4) := H2.out.trans (hb.mono H2.out.size)
  clear HX hb H2
  go_wp2
  go_ret
  exact ⟨rfl, H4.out⟩
/-- BOTH PICKERS, OF THE CALL's OWN. -/
structure BP (w wq : World) (pb cap : Nat) (wa : Option Addr) (rb capR : Nat) (ra : Option Addr) (W : List Int) (a c : Nat) : Prop where
  ps : PS w wq pb cap wa W a c
  rk : PK 34 wq rb ra capR W a c
  ge : w.heap.size ≤ rb
  ne : ¬ pb = rb
  nw : ∀ b, blk wa b → b < wq.heap.size → ¬ b = rb
  rw' : ∀ b, blk ra b → b < w.heap.size
theorem BP.below {w wq w' : World} {pb cap rb capR a c : Nat} {wa ra : Option Addr} {W : List Int} (h : BP w wq pb cap wa rb capR ra W a c) (hb : Below wq.heap.size wq w') : BP w w' pb cap wa rb capR ra W a c :=
  ⟨h.ps.below hb, h.rk.below hb, h.ge, h.ne, fun b hx _ e => by
    subst e
    exact h.nw _ hx (heap_lt h.rk.st) rfl, h.rw'⟩
theorem BP.turn {w wq w1 w2 : World} {pb cap rb capR a c a' c' : Nat} {wa ra : Option Addr} {W : List Int} (h : BP w wq pb cap wa rb capR ra W a c) (hp : PK 44 w1 pb wa cap W a' c') (hk : Keep (fun b => b = pb) wq w1) (hr : PK 34 w2 rb ra capR W a' c') (hk2 : Keep (fun b => b = rb) w1 w2) : BP w w2 pb cap wa rb capR ra W a' c' := by
  have hp2 : PK 44 w2 pb wa cap W a' c' := hp.keep hk2 (fun e => h.ne e) (fun b hb _ e => by
    subst e
    exact h.nw _ hb (heap_lt h.rk.st) rfl)
  have h1 := h.ps.step hp hk
  have hge := h.ge
  exact ⟨⟨hp2, h1.bel.trans (hk2.below h1.bel.size (fun b e => by omega)), h.ps.ge⟩, hr, hge, h.ne, fun b hx _ e => by
    subst e
    exact h.nw _ hx (heap_lt h.rk.st) rfl, h.rw'⟩
/-- A row of so many cells at least. -/
def RowN (w : World) (g n : Nat) : Prop := ∃ cur, w.heap[g]? = some (.cells cur 3 (0, 0)) ∧ n ≤ cur.size
theorem RowN.cell {w : World} {g n i : Nat} (h : RowN w g n) (hi : i < n) : ∃ v, w.cell? ⟨g, i, none⟩ = some v := by
  obtain ⟨cur, h1, h2⟩ := h
  exact ⟨cur[i]'(by omega), by simp [World.cell?, h1]⟩
theorem RowN.free {w : World} {g n : Nat} (h : RowN w g n) (i : Nat) : w.frozen? ⟨g, i, none⟩ = false := by
  obtain ⟨cur, h1, _⟩ := h
  exact row_free h1 i
theorem RowN.set {w : World} {g n : Nat} (h : RowN w g n) (i : Nat) (u : Value) : RowN (w.setCell ⟨g, i, none⟩ u) g n := by
  obtain ⟨cur, h1, h2⟩ := h
  refine ⟨cur.setIfInBounds i u, ?_, by simpa using h2⟩
  simp [World.setCell, Array.getElem?_modify, h1]
theorem RowN.lt {w : World} {g n : Nat} (h : RowN w g n) : g < w.heap.size := by
  obtain ⟨cur, h1, _⟩ := h
  exact heap_lt h1
/-- A picker of the call's own, beside a row of the call's own. -/
structure PR (w wq : World) (pb cap : Nat) (wa : Option Addr) (W : List Int) (a c g1 n : Nat) : Prop where
  ps : PS w wq pb cap wa W a c
  row : RowN wq g1 n
  ge : w.heap.size ≤ g1
  ne : ¬ pb = g1
  nw : ∀ b, blk wa b → ¬ b = g1
  lt : ∀ b, blk wa b → b < wq.heap.size
theorem PR.set {w wq : World} {pb cap a c g1 n : Nat} {wa : Option Addr} {W : List Int} (h : PR w wq pb cap wa W a c g1 n) (i : Nat) (u : Value) : PR w (wq.setCell ⟨g1, i, none⟩ u) pb cap wa W a c g1 n := by
  have k : Keep (fun b => b = g1) wq (wq.setCell ⟨g1, i, none⟩ u) := (Keep.refl _ wq).set1 i u
  have hge := h.ge
  exact ⟨⟨h.ps.pk.keep k (fun e => h.ne e) (fun b hb _ e => h.nw b hb e), h.ps.bel.trans (k.below h.ps.bel.size (fun b e => by omega)), h.ps.ge⟩, h.row.set i u, hge, h.ne, h.nw, fun b hb => Nat.lt_of_lt_of_le (h.lt b hb) k.size⟩
theorem PR.both {w wq : World} {pb cap c g1 n cap0 g o : Nat} {wa : Option Addr} {W : List Int} (h : PR w wq pb cap wa W 0 c g1 n) (h1 : IL w (some ⟨g, o, none⟩) W) (hc : (c : Int) = gI W 0) (L : Nat) (hl : W.length = L) : BP w (wq.alloc (.cells #[.slice (some ⟨g, o, none⟩) L cap0, .int .i64 0, .int .i64 (c : Int)] 34)) pb cap wa wq.heap.size cap0 (some ⟨g, o, none⟩) W 0 c := by
  have hg := h.ps.pk.good
  have hb := alloc_below' wq (.cells #[.slice (some ⟨g, o, none⟩) L cap0, .int .i64 0, .int .i64 (c : Int)] 34)
  have hst : Stc (wq.alloc (.cells #[.slice (some ⟨g, o, none⟩) L cap0, .int .i64 0, .int .i64 (c : Int)] 34)) wq.heap.size 34 [.slice (some ⟨g, o, none⟩) L cap0, .int .i64 0, .int .i64 (c : Int)] := stc_new _ _ _ _ rfl
  have hs := h.ps.bel.size
  obtain ⟨g', o', e, hc1⟩ := h1.some_of (i := 0) hg.1
  cases e
  have hgl : g < w.heap.size := World.block_lt_of_cell? w _ (hc1 0 hg.1)
  have hpl := heap_lt h.ps.pk.st
  refine ⟨h.ps.below hb, ⟨by rw [hl]; exact hst, (h1.below h.ps.bel).below hb, fun b hx _ e => ?_, hg.1, hg, h.ps.pk.cr⟩, hs, by omega, fun b hx _ e => by have := h.lt b hx; omega, fun b hx => ?_⟩
  · obtain ⟨y, ey, rfl⟩ := hx
    cases ey
    simp at e
    omega
  · obtain ⟨y, ey, rfl⟩ := hx
    cases ey
    exact hgl
set_option maxRecDepth 100000 in
set_option maxHeartbeats 8000000 in
theorem plays_yes (g o cap0 n N cap2 : Nat) (a2 : Option Addr) (W : List Int) (w : World) (hE : EType w) (hl : W.length = n) (hf : GoodW W) (h1 : IL w (some ⟨g, o, none⟩) W) (hS : SCs w a2 N) (hN : N ≤ 140737488355328) :
    Calls Tryd.prog 3 #[.slice (some ⟨g, o, none⟩) n cap0, .slice a2 N cap2] w fun e w' => e = .returned (.bool true) ∧ Below w.heap.size w w' := by
  have hn8 : n ≤ 8 := by have := hf.2.1; omega
  have hn1 : 1 ≤ n := by have := hf.1; omega
  have HE : Hid (∀ w', Below w.heap.size w w' → EType w') := fun w' hb => hE.below hb hE.pos
  have HA : Hid (Below w.heap.size w (w.alloc (.cells #[] 3)) ∧ IL (w.alloc (.cells #[] 3)) (some ⟨g, o, none⟩) W) := ⟨alloc_below' w _, h1.below (alloc_below' w _)⟩
  have HL : Hid (W.length = n ∧ W.length * 8 ≤ 140737488355328) := ⟨hl, by omega⟩
  have HR : Hid (∀ w', Below w.heap.size w w' → Calls Tryd.prog 5 #[.slice (some ⟨g, o, none⟩) n cap0] w' fun e w'' => e = .returned (.int .i64 ((0 : Nat) : Int)) ∧ w' = w'') := fun w' hb => rfault_any (some ⟨g, o, none⟩) cap0 n 0 W w' hl (Or.inr (Or.inr (Or.inr ⟨hf, rfl⟩))) (h1.below hb) (by omega)
  have HG : Hid (W.length = n ∧ GoodW W ∧ IL w (some ⟨g, o, none⟩) W ∧ ∀ w', Below w.heap.size w w' → w'.cell? ⟨g, o, none⟩ = some (.int .i64 (gI W 0))) := ⟨hl, hf, h1, fun w' hb => by
    obtain ⟨g', o', e, hc⟩ := (h1.below hb).some_of (i := 0) (by omega)
    cases e
    exact hc 0 (by omega)⟩
  have HSc : Hid (SCs w a2 N) := hS
  clear hE hl hf h1 hS
  go_enter Tryd.func3, Tryd.ntmps3
  go_wp2_with (at_builtin; refine app_stepI rfl (.tmp 17) (.tmp 18) rfl w.heap.size (some ⟨w.heap.size, 0, none⟩) 0 [] (by rfl) (ownI_empty w) (some ⟨g, o, none⟩) n cap0 W HL.out.1 (by rfl) (fun e => by cases e) HA.out.2 W rfl HL.out.2 HA.out.1.size ?_)
  intro a1 c1 w1 hO hK
  have hparts : ∃ g1 cur, a1 = some ⟨g1, 0, none⟩ ∧ w.heap.size ≤ g1 ∧ w1.heap[g1]? = some (.cells cur 3 (0, 0)) ∧ n ≤ cur.size := by
    rcases hO.parts with ⟨_, _, e⟩ | ⟨g1, cur, e, q1, q2, q3, q4, q5, q6⟩
    · have := HG.out.1; rw [e] at this; simp at this; omega
    · exact ⟨g1, cur, e, q1, q2, by rw [q5, ← HG.out.1]; exact q3⟩
  have hBel : Below w.heap.size w w1 := HA.out.1.trans (hK.below HA.out.1.size (fun b hb => by obtain ⟨x, e, rfl⟩ := hb; cases e; exact Nat.le_refl _))
  obtain ⟨g1, cur, hga, hgge, hrow, hcur⟩ := hparts
  subst hga
  have HN := new_yes ⟨g1, 0, none⟩ c1 n W w1 HG.out.1 HG.out.2.1 hO.il
  have H1 : Hid (Below w.heap.size w w1 ∧ w.heap.size ≤ g1 ∧ RowN w1 g1 n) := ⟨hBel, hgge, ⟨cur, hrow, hcur⟩⟩
  rw [HL.out.1]
  clear hO hK HA hBel hgge hrow hcur
  go_wp2_with fail
  refine HN.mono ?_
  rintro e w2 ⟨pb, wa, cap, c0, rfl, hp, hc0, hb, hge, hwb⟩
  have H2 : Hid (PR w w2 pb cap wa W 0 c0 g1 n ∧ (c0 : Int) = gI W 0) := by
    obtain ⟨q1, q2, cur, q3, q4⟩ := H1.out
    have hs := q1.size
    have hg1 := heap_lt q3
    exact ⟨⟨⟨hp, q1.trans (hb.mono hs), by omega⟩, ⟨cur, (hb.block g1 hg1).trans q3, q4⟩, q2, by omega, fun b hx e => by have := (hwb b hx).1; omega, fun b hx => (hwb b hx).2⟩, hc0⟩
  clear HN hp hc0 hb hge hwb H1
  have HX := HR.out w2 H2.out.1.ps.bel
  go_wp2_with fail
  refine HX.mono ?_
  rintro e w3 ⟨rfl, rfl⟩
  clear HX HR
  have HX := error_nil 0 w2
  go_wp2_with fail
  refine HX.mono ?_
  rintro e w3 ⟨rfl, rfl⟩
  clear HX
  go_wp2
  go_loopw [10] (fun j wq => ∃ (i : Nat), i ≤ n ∧ j = .int .i64 i ∧ Hid (PR w wq pb cap wa W 0 c0 g1 n ∧ (c0 : Int) = gI W 0)) (fun j _ => n - (intOf j).toNat)
  case atStart => exact ⟨0, Nat.zero_le _, rfl, H2.out⟩
  case round =>
    obtain ⟨i, hi, rfl, hR⟩ := hrel
    clear H2
    obtain ⟨w3, rfl⟩ : ∃ w3, w3 = wr := ⟨_, rfl⟩
    by_cases hlt : i < n
    · obtain ⟨v, cv⟩ := hR.out.1.row.cell hlt
      have fv := hR.out.1.row.free i
      have H3 : Hid (PR w (w3.setCell ⟨g1, i, none⟩ (.int .i64 1)) pb cap wa W 0 c0 g1 n ∧ (c0 : Int) = gI W 0) := ⟨hR.out.1.set i _, hR.out.2⟩
      clear hR
      go_wp2
      exact ⟨⟨i + 1, by omega, by go_num, H3.out⟩, by simp [intOf]; omega⟩
    · obtain rfl : i = n := by omega
      have cz := HG.out.2.2.2 w3 hR.out.1.ps.bel
      rw [← hR.out.2] at cz
      have H3 : Hid (BP w (w3.alloc (.cells #[.slice (some ⟨g, o, none⟩) i cap0, .int .i64 0, .int .i64 (c0 : Int)] 34)) pb cap wa w3.heap.size cap0 (some ⟨g, o, none⟩) W 0 c0) := hR.out.1.both HG.out.2.2.1 hR.out.2 i HG.out.1
      clear hR hi hlt
      go_wp2
      generalize w3.alloc (.cells #[.slice (some ⟨g, o, none⟩) i cap0, .int .i64 0, .int .i64 (c0 : Int)] 34) = w4 at *
      generalize w3.heap.size = rb at *
      clear cz
      go_loopw [9, 12] (fun tl j wq => tl = .bool true ∧ ∃ (k a c : Nat), k ≤ N ∧ j = .int .i64 k ∧ Hid (BP w wq pb cap wa rb cap0 (some ⟨g, o, none⟩) W a c)) (fun _ j _ => N - (intOf j).toNat)
      case atStart => exact ⟨rfl, 0, 0, c0, Nat.zero_le _, rfl, H3.out⟩
      case round =>
        obtain ⟨rfl, k, a, c, hk, rfl, hR⟩ := hrel
        clear H3
        obtain ⟨w5, rfl⟩ : ∃ w5, w5 = wr := ⟨_, rfl⟩
        by_cases hlt : k < N
        · obtain ⟨b2, o2, a1, c2, ps, rfl, hcell, hlen, hbd⟩ := HSc.out.at hR.out.ps.bel hlt
          have HC : Hid (∀ w'', Below w.heap.size w w'' → w''.cell? ⟨b2, o2 + k, none⟩ = some (.slice a1 ps.length c2) ∧ IL w'' a1 ps) := hcell
          have cS := (HC.out w5 hR.out.ps.bel).1
          have hIL := (HC.out w5 hR.out.ps.bel).2
          clear hcell hbd
          by_cases hsh : ps.length = i
          · have HB : Hid (∀ b, blk a1 b → ¬ b = rb) := fun b hb e => by
              obtain ⟨g', o', e', hc'⟩ := ((HC.out w (Below.refl _ _)).2).some_of (i := 0) (by omega)
              obtain ⟨y, ey, rfl⟩ := hb
              rw [e'] at ey
              cases ey
              have h1 : g' < w.heap.size := World.block_lt_of_cell? w _ (hc' 0 (by omega))
              have h2 := hR.out.ge
              simp at e
              omega
            have HRN : Hid (∀ w'' cap' , Below w.heap.size w w'' → PK 34 w'' rb (some ⟨g, o, none⟩) cap0 W a c → Calls Tryd.prog 8 #[.pointer (some ⟨rb, 0, none⟩), .slice a1 i cap'] w'' fun e w3 => RxP w'' w3 e rb cap0 a c (some ⟨g, o, none⟩) W ps) := fun w'' cap' hb hp => rnext_any rb cap0 a c i cap' (some ⟨g, o, none⟩) a1 W ps w'' hp HG.out.1 hsh (HC.out w'' hb).2 HB.out
            rw [hsh] at cS
            have HLn : Hid (ps.length = i) := hsh
            rcases nonN_or2 ps with hneg | hnn
            · have HX := next_range pb cap a c i c2 wa a1 W ps w5 hR.out.ps.pk HG.out.1 hsh hIL hneg
              have HNg : Hid (SomeNeg ps) := hneg
              clear hIL hlen hneg hsh
              go_wp2_with fail
              refine HX.mono ?_
              rintro e w6 ⟨rfl, rfl⟩
              clear HX
              have HX := HRN.out w5 c2 hR.out.ps.bel hR.out.rk
              clear HRN
              go_wp2_with fail
              refine HX.mono ?_
              rintro e w7 (⟨_, rfl, hb⟩ | ⟨hNN, _⟩ | ⟨q, d, _, _, hNN, _⟩)
              · have H7 : Hid (BP w w7 pb cap wa rb cap0 (some ⟨g, o, none⟩) W a c) := hR.out.below hb
                clear HX hb hR cS HC
                have HX := error_same 1 w7 (HE.out _ H7.out.ps.bel)
                go_wp2_with fail
                refine HX.mono ?_
                rintro e w8 ⟨rfl, hb⟩
                have H8 : Hid (BP w w8 pb cap wa rb cap0 (some ⟨g, o, none⟩) W a c) := H7.out.below hb
                clear HX hb H7
                go_wp2
                exact ⟨⟨rfl, k + 1, a, c, by omega, by go_num, H8.out⟩, by simp [intOf]; omega⟩
              · exact (neg_not HNg.out hNN).elim
              · exact (neg_not HNg.out hNN).elim
            · have HX := next_any pb cap a c i c2 wa a1 W ps w5 hR.out.ps.pk HG.out.1 hsh hIL hnn
              have HNn : Hid (NonN ps) := hnn
              clear hIL hlen hnn hsh
              go_wp2_with fail
              refine HX.mono ?_
              rintro e w6 (⟨hN6, rfl, hb6⟩ | ⟨q, d, ht, hS6, rfl, hp6, hk6⟩)
              · have H6 : Hid (BP w w6 pb cap wa rb cap0 (some ⟨g, o, none⟩) W a c) := hR.out.below hb6
                have cS6 := (HC.out w6 H6.out.ps.bel).1
                rw [HLn.out] at cS6
                have HN6 : Hid (NoneW ps) := hN6
                clear HX hb6 hR cS hN6
                have HX := HRN.out w6 c2 H6.out.ps.bel H6.out.rk
                clear HRN
                go_wp2_with fail
                refine HX.mono ?_
                rintro e w7 (⟨hNg, _⟩ | ⟨_, _, rfl, hb⟩ | ⟨q, d, _, hS7, _⟩)
                · exact (neg_not hNg HNn.out).elim
                · have H7 : Hid (BP w w7 pb cap wa rb cap0 (some ⟨g, o, none⟩) W a c) := H6.out.below hb
                  clear HX hb H6 cS6 HC
                  have HX := error_same 4 w7 (HE.out _ H7.out.ps.bel)
                  go_wp2_with fail
                  refine HX.mono ?_
                  rintro e w8 ⟨rfl, hb⟩
                  have H8 : Hid (BP w w8 pb cap wa rb cap0 (some ⟨g, o, none⟩) W a c) := H7.out.below hb
                  clear HX hb H7
                  go_wp2
                  exact ⟨⟨rfl, k + 1, a, c, by omega, by go_num, H8.out⟩, by simp [intOf]; omega⟩
                · exact (hS7 HN6.out).elim
              · have HP6 : Hid (Below w.heap.size w w6 ∧ PK 34 w6 rb (some ⟨g, o, none⟩) cap0 W a c) := by
                  have h1 := hR.out.ps.step hp6 hk6
                  refine ⟨h1.bel, hR.out.rk.keep hk6 (fun e => hR.out.ne e.symm) (fun b hb _ e => ?_)⟩
                  have := hR.out.rw' b hb
                  have := hR.out.ps.ge
                  omega
                have cS6 := (HC.out w6 HP6.out.1).1
                rw [HLn.out] at cS6
                have HX6 : Hid (Turn W ps a c q d ∧ ¬ NoneW ps ∧ PK 44 w6 pb wa cap W q d ∧ Keep (fun b => b = pb) w5 w6) := ⟨ht, hS6, hp6, hk6⟩
                clear HX cS ht hS6 hp6 hk6
                have HX := HRN.out w6 c2 HP6.out.1 HP6.out.2
                clear HRN
                go_wp2_with fail
                refine HX.mono ?_
                rintro e w7 (⟨hNg, _⟩ | ⟨_, hN7, _⟩ | ⟨q2, d2, ht2, _, _, rfl, hp7, hk7⟩)
                · exact (neg_not hNg HNn.out).elim
                · exact (HX6.out.2.1 hN7).elim
                · have hu := HX6.out.1.uniq ht2
                  obtain ⟨hq, hd⟩ := hu
                  subst hq hd
                  have H7 : Hid (BP w w7 pb cap wa rb cap0 (some ⟨g, o, none⟩) W q d) := hR.out.turn HX6.out.2.2.1 HX6.out.2.2.2 hp7 hk7
                  clear HX hp7 hk7 HX6 HP6 hR cS6 HC ht2
                  have HX := error_nil 0 w7
                  go_wp2_with fail
                  refine HX.mono ?_
                  rintro e w8 ⟨rfl, rfl⟩
                  clear HX
                  go_wp2
                  exact ⟨⟨rfl, k + 1, q, d, by omega, by go_num, H7.out⟩, by simp [intOf]; omega⟩
          · have hsW : ¬ ps.length = W.length := by rw [HG.out.1]; exact hsh
            have HX := next_shape pb cap a c ps.length c2 wa a1 W w5 hR.out.ps.pk hsW hlen
            have HY := rnext_shape rb cap0 a c ps.length c2 (some ⟨g, o, none⟩) a1 W w5 hR.out.rk hsW hlen
            clear hIL hsh hsW
            generalize ps.length = m at *
            go_wp2_with fail
            refine HX.mono ?_
            rintro e w6 ⟨rfl, rfl⟩
            clear HX
            go_wp2_with fail
            refine HY.mono ?_
            rintro e w6 ⟨rfl, rfl⟩
            clear HY
            have HX := error_same 2 w5 (HE.out _ hR.out.ps.bel)
            go_wp2_with fail
            refine HX.mono ?_
            rintro e w8 ⟨rfl, hb⟩
            have H8 : Hid (BP w w8 pb cap wa rb cap0 (some ⟨g, o, none⟩) W a c) := hR.out.below hb
            clear HX hb hR
            go_wp2
            exact ⟨⟨rfl, k + 1, a, c, by omega, by go_num, H8.out⟩, by simp [intOf]; omega⟩
        · obtain rfl : k = N := by omega
          have H7 : Hid (Below w.heap.size w w5) := hR.out.ps.bel
          clear hR
          go_wp2
          go_ret
          exact ⟨rfl, H7.out⟩
theorem plays_any (a0 a2 : Option Addr) (cap0 N cap2 : Nat) (l : List Int) (w : World) (hE : EType w) (h1 : IL w a0 l) (hnil : a0 = none → cap0 = 0) (hM : l.length ≤ 140737488351232) (hM2 : l.length * 8 ≤ 140737488355328) (hS : SCs w a2 N) (hN : N ≤ 140737488355328) :
    Calls Tryd.prog 3 #[.slice a0 l.length cap0, .slice a2 N cap2] w fun e w' => e = .returned (.bool true) ∧ Below w.heap.size w w' := by
  obtain ⟨e0, hf⟩ := faultW_ex l
  by_cases h0 : e0 = 0
  · have hg : GoodW l := by
      rcases hf with ⟨_, h⟩ | ⟨_, h⟩ | ⟨_, _, _, h⟩ | ⟨h, _⟩
      · omega
      · omega
      · omega
      · exact h
    obtain ⟨g, o, rfl, _⟩ := h1.some_of (i := 0) hg.1
    exact plays_yes g o cap0 l.length N cap2 a2 l w hE rfl hg h1 hS hN
  · exact plays_no a0 a2 cap0 N cap2 l.length e0 l w hE rfl hf h0 h1 hnil hM hM2
end Go.Proofs.YthkcgbbfnbnheaaDoor
