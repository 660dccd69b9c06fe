/-
  What the call of Next gives.
-/
import Derived.Test.YthkcgbbfnbnheaaDoorPOn
namespace Go.Proofs.YthkcgbbfnbnheaaDoor
open Go.RowKit
set_option linter.unusedVariables false

set_option maxHeartbeats 800000 in
theorem next_shape (pb cap0 a c m cap : Nat) (wa a2 : Option Addr) (W : List Int) (w : World) (h : PK 44 w pb wa cap0 W a c) (hm : ¬ m = W.length) (hM : m ≤ 9223372036854775807) :
    Calls Tryd.prog 7 #[.pointer (some ⟨pb, 0, none⟩), .slice a2 m cap] w fun e w' => e = .returned (.tuple #[.int .i64 0, .iface 29 (.int .i64 2)]) ∧ w = w' := by
  have c0 : w.cell? ⟨pb, 0, none⟩ = some (.slice wa W.length cap0) := h.st.cell 0
  have t1 : ((m : Int) != (W.length : Int)) = true := by rw [bne_iff_ne]; omega
  clear h hm
  generalize W.length = n at *
  go_enter Tryd.func7, Tryd.ntmps7
  go_wp2
  go_ret2
  exact ⟨rfl, rfl⟩
/-- Some number is below 0. -/
def SomeNeg (L : List Int) : Prop := ∃ i, i < L.length ∧ gI L i < 0
set_option maxHeartbeats 800000 in
theorem next_range (pb cap0 a c n cap : Nat) (wa a2 : Option Addr) (W L : List Int) (w : World) (h : PK 44 w pb wa cap0 W a c) (hn : W.length = n) (hL : L.length = n) (h1 : IL w a2 L) (hs : SomeNeg L) :
    Calls Tryd.prog 7 #[.pointer (some ⟨pb, 0, none⟩), .slice a2 n cap] w fun e w' => e = .returned (.tuple #[.int .i64 0, .iface 29 (.int .i64 1)]) ∧ w = w' := by
  have c0 : w.cell? ⟨pb, 0, none⟩ = some (.slice wa n cap0) := by rw [← hn]; exact h.st.cell 0
  have hg := h.good
  have h8 := hg.2.1
  have hn1 := hg.1
  obtain ⟨g, o, rfl, hc⟩ := h1.some_of (i := 0) (by omega)
  have HM := min_any g o cap n L w hL (by omega) (by omega) h1
  have HS : Hid (∀ m, LeastK L n m → m < 0) := fun m hm => by
    obtain ⟨i, hi, hneg⟩ := hs
    have := hm.2 i (by omega)
    omega
  have t1 : ((n : Int) != (n : Int)) = false := by simp
  clear h hn hL h1 hs hc h8 hn1 hg
  go_enter Tryd.func7, Tryd.ntmps7
  go_wp2_with fail
  refine HM.mono ?_
  rintro e w2 ⟨⟨m, rfl, hm⟩, rfl⟩
  have hneg := HS.out m hm
  clear hm HM HS
  go_wp2
  go_ret2
  exact ⟨rfl, rfl⟩
/-- WHAT A TURN GIVES. -/
def NxP (w w' : World) (e : Ending) (pb cap0 a c : Nat) (wa : Option Addr) (W L : List Int) : Prop :=
  (NoneW L ∧ e = .returned (.tuple #[.int .i64 0, .iface 29 (.int .i64 4)]) ∧ Below w.heap.size w w') ∨
  (∃ q c' : Nat, Turn W L a c q c' ∧ ¬ NoneW L ∧ e = .returned (.tuple #[.int .i64 (q : Nat), .nilIface]) ∧ PK 44 w' pb wa cap0 W q c' ∧ Keep (fun b => b = pb) w w')
theorem PK.credit {T : TypeId} {w : World} {pb cap a c c' : Nat} {wa : Option Addr} {W : List Int} (h : PK T w pb wa cap W a c) (hc : c' ≤ 16) : PK T (w.setCell ⟨pb, 2, none⟩ (.int .i64 (c' : Nat))) pb wa cap W a c' := by
  have k : Keep (fun b => b = pb) w (w.setCell ⟨pb, 2, none⟩ (.int .i64 (c' : Nat))) := (Keep.refl _ w).set1 2 _
  exact ⟨h.st.set 2 _, h.il.keep k (fun b hb hlt e => h.ab b hb hlt e), fun b hb _ e => by
    subst e
    exact h.ab _ hb (heap_lt h.st) rfl, h.lt, h.good, hc⟩
set_option maxHeartbeats 1600000 in
/-- From where it goes on: the credit is taken, the queue is told. -/
theorem next_any (pb cap0 a c n cap : Nat) (wa a2 : Option Addr) (W L : List Int) (w : World) (h : PK 44 w pb wa cap0 W a c) (hn : W.length = n) (hL : L.length = n) (h1 : IL w a2 L) (hs : NonN L) :
    Calls Tryd.prog 7 #[.pointer (some ⟨pb, 0, none⟩), .slice a2 n cap] w fun e w' => NxP w w' e pb cap0 a c wa W L := by
  have c0 : w.cell? ⟨pb, 0, none⟩ = some (.slice wa n cap0) := by rw [← hn]; exact h.st.cell 0
  have c1 : w.cell? ⟨pb, 1, none⟩ = some (.int .i64 (a : Nat)) := h.st.cell 1
  have c2 : w.cell? ⟨pb, 2, none⟩ = some (.int .i64 (c : Nat)) := h.st.cell 2
  have hg := h.good
  have h8 := hg.2.1
  have hn1 := hg.1
  have ha : a < n := by have := h.lt; omega
  have hcr := h.cr
  obtain ⟨g, o, rfl, hc⟩ := h1.some_of (i := 0) (by omega)
  have ca : w.cell? ⟨g, o + a, none⟩ = some (.int .i64 (gI L a)) := hc a (by omega)
  have hpa : 0 ≤ gI L a := hs a (by omega)
  have HM := min_any g o cap n L w hL (by omega) (by omega) h1
  have HS : Hid (∀ m, LeastK L n m → ¬ m < 0) := fun m hm => by
    obtain ⟨⟨i, hi, e⟩, _⟩ := hm
    have := hs i (by omega)
    omega
  have t1 : ((n : Int) != (n : Int)) = false := by simp
  obtain ⟨V, hV⟩ : ∃ V, gI L a = V := ⟨_, rfl⟩
  rw [hV] at ca hpa
  by_cases hst : ¬ c = 0 ∧ ¬ V = 0
  · obtain ⟨hc0, hv0⟩ := hst
    obtain ⟨d, rfl⟩ : ∃ d, c = d + 1 := ⟨c - 1, by omega⟩
    have t2 : (((d + 1 : Nat) : Int) == 0) = false := by rw [beq_eq_false_iff_ne]; omega
    have t3 : (V == 0) = false := by rw [beq_eq_false_iff_ne]; exact hv0
    have f2 : w.frozen? ⟨pb, 2, none⟩ = false := h.st.free 2
    have e1 : ((d + 1 : Nat) : Int) - 1 = (d : Int) := by omega
    have HF : Hid (NxP w (w.setCell ⟨pb, 2, none⟩ (.int .i64 (d : Nat))) (.returned (.tuple #[.int .i64 (a : Nat), .nilIface])) pb cap0 a (d + 1) wa W L ∧ (w.setCell ⟨pb, 2, none⟩ (.int .i64 (d : Nat))).cell? ⟨pb, 1, none⟩ = some (.int .i64 (a : Nat))) := by
      refine ⟨Or.inr ⟨a, d, Or.inl ⟨hc0, by rw [hV]; exact hv0, rfl, rfl⟩, fun hN => hv0 (by rw [← hV]; exact hN a (by omega)), rfl, h.credit (by omega), (Keep.refl _ w).set1 2 _⟩, ?_⟩
      exact (far _ (by omega)).trans c1
    clear h hn hL h1 hs hc hg hV hc0 hv0
    go_enter Tryd.func7, Tryd.ntmps7
    go_wp2_with fail
    refine HM.mono ?_
    rintro e w2 ⟨⟨m, rfl, hm⟩, rfl⟩
    have hneg := HS.out m hm
    clear hm HM HS
    go_wp2
    go_ret2
    exact HF.out.1
  · have hst2 : c = 0 ∨ V = 0 := by
      rcases Classical.em (c = 0) with e | e
      · exact Or.inl e
      · rcases Classical.em (V = 0) with e' | e'
        · exact Or.inr e'
        · exact (hst ⟨e, e'⟩).elim
    have HG := goOn_any pb cap cap0 a c n g o wa W L w hn hL h hs h1
    have HT : Hid (∀ (q C : Nat) (w' : World), IsOn n L a q → (C : Int) = gI W q → PK 44 w' pb wa cap0 W q C → Keep (fun b => b = pb) w w' → ∃ d : Nat, C = d + 1 ∧ NxP w (w'.setCell ⟨pb, 2, none⟩ (.int .i64 (d : Nat))) (.returned (.tuple #[.int .i64 (q : Nat), .nilIface])) pb cap0 a c wa W L) := by
      intro q C w' hon hC hPK hk
      have hq := hg.2.2 q (by have := hon.lt; omega)
      obtain ⟨d, rfl⟩ : ∃ d, C = d + 1 := ⟨C - 1, by omega⟩
      refine ⟨d, rfl, Or.inr ⟨q, d, Or.inr ⟨by rw [hV]; exact hst2, by rw [hn]; exact hon, by omega⟩, fun hN => ?_, rfl, hPK.credit (by omega), hk.set1 2 _⟩⟩
      have := hon.lt
      have := hN q (by omega)
      omega
    clear h hn hL h1 hs hc hg hV hst
    rcases hst2 with e0 | e0
    · subst e0
      go_enter Tryd.func7, Tryd.ntmps7
      go_wp2_with fail
      refine HM.mono ?_
      rintro e w2 ⟨⟨m, rfl, hm⟩, rfl⟩
      have hneg := HS.out m hm
      clear hm HM HS
      go_wp2_with fail
      refine HG.mono ?_
      rintro e w3 (⟨hN, rfl, hb⟩ | ⟨q, C, hon, hC, rfl, hPK, hk⟩)
      · have HX : Hid (NoneW L ∧ Below w.heap.size w w3) := ⟨hN, hb⟩
        clear hN hb HG HT
        go_wp2
        go_ret2
        exact Or.inl ⟨HX.out.1, rfl, HX.out.2⟩
      · obtain ⟨d, rfl, hF⟩ := HT.out q C w3 hon hC hPK hk
        have k1 : w3.cell? ⟨pb, 1, none⟩ = some (.int .i64 (q : Nat)) := hPK.st.cell 1
        have k2 : w3.cell? ⟨pb, 2, none⟩ = some (.int .i64 ((d + 1 : Nat) : Int)) := hPK.st.cell 2
        have f2 : w3.frozen? ⟨pb, 2, none⟩ = false := hPK.st.free 2
        have hd16 : d + 1 ≤ 16 := hPK.cr
        have e1 : ((d + 1 : Nat) : Int) - 1 = (d : Int) := by omega
        have HF : Hid (NxP w (w3.setCell ⟨pb, 2, none⟩ (.int .i64 (d : Nat))) (.returned (.tuple #[.int .i64 (q : Nat), .nilIface])) pb cap0 a 0 wa W L) := hF
        clear hon hC hPK hk HG HT hF
        go_wp2
        go_ret2
        exact HF.out
    · subst e0
      by_cases hc0 : c = 0
      · subst hc0
        go_enter Tryd.func7, Tryd.ntmps7
        go_wp2_with fail
        refine HM.mono ?_
        rintro e w2 ⟨⟨m, rfl, hm⟩, rfl⟩
        have hneg := HS.out m hm
        clear hm HM HS
        go_wp2_with fail
        refine HG.mono ?_
        rintro e w3 (⟨hN, rfl, hb⟩ | ⟨q, C, hon, hC, rfl, hPK, hk⟩)
        · have HX : Hid (NoneW L ∧ Below w.heap.size w w3) := ⟨hN, hb⟩
          clear hN hb HG HT
          go_wp2
          go_ret2
          exact Or.inl ⟨HX.out.1, rfl, HX.out.2⟩
        · obtain ⟨d, rfl, hF⟩ := HT.out q C w3 hon hC hPK hk
          have k1 : w3.cell? ⟨pb, 1, none⟩ = some (.int .i64 (q : Nat)) := hPK.st.cell 1
          have k2 : w3.cell? ⟨pb, 2, none⟩ = some (.int .i64 ((d + 1 : Nat) : Int)) := hPK.st.cell 2
          have f2 : w3.frozen? ⟨pb, 2, none⟩ = false := hPK.st.free 2
          have hd16 : d + 1 ≤ 16 := hPK.cr
          have e1 : ((d + 1 : Nat) : Int) - 1 = (d : Int) := by omega
          have HF : Hid (NxP w (w3.setCell ⟨pb, 2, none⟩ (.int .i64 (d : Nat))) (.returned (.tuple #[.int .i64 (q : Nat), .nilIface])) pb cap0 a 0 wa W L) := hF
          clear hon hC hPK hk HG HT hF
          go_wp2
          go_ret2
          exact HF.out
      · have t2 : ((c : Int) == 0) = false := by rw [beq_eq_false_iff_ne]; omega
        clear hc0
        go_enter Tryd.func7, Tryd.ntmps7
        go_wp2_with fail
        refine HM.mono ?_
        rintro e w2 ⟨⟨m, rfl, hm⟩, rfl⟩
        have hneg := HS.out m hm
        clear hm HM HS
        go_wp2_with fail
        refine HG.mono ?_
        rintro e w3 (⟨hN, rfl, hb⟩ | ⟨q, C, hon, hC, rfl, hPK, hk⟩)
        · have HX : Hid (NoneW L ∧ Below w.heap.size w w3) := ⟨hN, hb⟩
          clear hN hb HG HT
          go_wp2
          go_ret2
          exact Or.inl ⟨HX.out.1, rfl, HX.out.2⟩
        · obtain ⟨d, rfl, hF⟩ := HT.out q C w3 hon hC hPK hk
          have k1 : w3.cell? ⟨pb, 1, none⟩ = some (.int .i64 (q : Nat)) := hPK.st.cell 1
          have k2 : w3.cell? ⟨pb, 2, none⟩ = some (.int .i64 ((d + 1 : Nat) : Int)) := hPK.st.cell 2
          have f2 : w3.frozen? ⟨pb, 2, none⟩ = false := hPK.st.free 2
          have hd16 : d + 1 ≤ 16 := hPK.cr
          have e1 : ((d + 1 : Nat) : Int) - 1 = (d : Int) := by omega
          have HF : Hid (NxP w (w3.setCell ⟨pb, 2, none⟩ (.int .i64 (d : Nat))) (.returned (.tuple #[.int .i64 (q : Nat), .nilIface])) pb cap0 a c wa W L) := hF
          clear hon hC hPK hk HG HT hF
          go_wp2
          go_ret2
          exact HF.out
end Go.Proofs.YthkcgbbfnbnheaaDoor
