/-
  What the document's picker's turn gives.
-/
import Derived.Test.YthkcgbbfnbnheaaDoorPRef
namespace Go.Proofs.YthkcgbbfnbnheaaDoor
open Go.RowKit
set_option linter.unusedVariables false

set_option maxHeartbeats 800000 in
theorem rnext_shape (pb cap0 a c m cap : Nat) (wa a2 : Option Addr) (W : List Int) (w : World) (h : PK 34 w pb wa cap0 W a c) (hm : ¬ m = W.length) (hM : m ≤ 9223372036854775807) :
    Calls Tryd.prog 8 #[.pointer (some ⟨pb, 0, none⟩), .slice a2 m cap] w fun e w' => e = .returned (.tuple #[.int .i64 0, .int .i64 2]) ∧ w = w' := by
  have c0 : w.cell? ⟨pb, 0, none⟩ = some (.slice wa W.length cap0) := h.st.cell 0
  have t1 : ((m : Int) != (W.length : Int)) = true := by rw [bne_iff_ne]; omega
  clear h hm
  generalize W.length = n at *
  go_enter Tryd.func8, Tryd.ntmps8
  go_wp2
  go_ret2
  exact ⟨rfl, rfl⟩
/-- What was seen of the first i numbers. -/
def SeenN (L : List Int) (i : Nat) (b : Bool) : Prop := (∀ k, k < i → 0 ≤ gI L k) ∧ (b = true → ¬ NoneW L) ∧ (b = false → ∀ k, k < i → gI L k = 0)
theorem SeenN.more {L : List Int} {i : Nat} {b : Bool} {x : Int} (h : SeenN L i b) (hx : gI L i = x) (hi : i < L.length) (h0 : 0 ≤ x) : SeenN L (i + 1) (b || decide (0 < x)) := by
  obtain ⟨h1, h2, h3⟩ := h
  refine ⟨fun k hk => ?_, fun hb hN => ?_, fun hb k hk => ?_⟩
  · by_cases e : k = i
    · rw [e, hx]; exact h0
    · exact h1 k (by omega)
  · cases b with
    | true => exact h2 rfl hN
    | false =>
      have hp : 0 < x := by simpa using hb
      have := hN i hi
      omega
  · cases b with
    | true => simp at hb
    | false =>
      have hp : ¬ 0 < x := by simpa using hb
      by_cases e : k = i
      · rw [e, hx]; omega
      · exact h3 rfl k (by omega)
def atOf (v : Option Value) : Nat := match v with | some (.int _ z) => z.toNat | _ => 0
def muQ (rb q n : Nat) (w : World) : Nat := (q + n - atOf (w.cell? ⟨rb, 1, none⟩)) % n
theorem dist_eq {n a i j : Nat} (hij : i ≤ j) (hj : j < n) : ((a + 1 + j) % n + n - (a + 1 + i) % n) % n = j - i := by
  have hx : (a + 1 + i) % n < n := Nat.mod_lt _ (by omega)
  have e : (a + 1 + j) % n = ((a + 1 + i) % n + (j - i)) % n := by
    rw [Nat.mod_add_mod]; congr 1; omega
  rw [e]
  clear e
  generalize (a + 1 + i) % n = x at *
  have hd : j - i < n := by omega
  generalize j - i = d at *
  by_cases h : x + d < n
  · rw [Nat.mod_eq_of_lt h, show x + d + n - x = d + n by omega, Nat.add_mod_right, Nat.mod_eq_of_lt hd]
  · have e : (x + d) % n = x + d - n := by rw [Nat.mod_eq_sub_mod (by omega), Nat.mod_eq_of_lt (show x + d - n < n by omega)]
    rw [e, show x + d - n + n - x = d by omega, Nat.mod_eq_of_lt hd]
/-- It has to go on. -/
def GoesOn (L : List Int) (a c : Nat) : Prop := c = 0 ∨ gI L a = 0
/-- WHAT A TURN OF THE DOCUMENT's PICKER GIVES. -/
def RxP (w w' : World) (e : Ending) (pb cap0 a c : Nat) (wa : Option Addr) (W L : List Int) : Prop :=
  (SomeNeg L ∧ e = .returned (.tuple #[.int .i64 0, .int .i64 1]) ∧ Below w.heap.size w w') ∨
  (NonN L ∧ NoneW L ∧ e = .returned (.tuple #[.int .i64 0, .int .i64 4]) ∧ Below w.heap.size w w') ∨
  (∃ q c' : Nat, Turn W L a c q c' ∧ ¬ NoneW L ∧ NonN L ∧ e = .returned (.tuple #[.int .i64 (q : Nat), .int .i64 0]) ∧ PK 34 w' pb wa cap0 W q c' ∧ Keep (fun b => b = pb) w w')
theorem PK.stand {T : TypeId} {w : World} {pb cap a c a' : Nat} {wa : Option Addr} {W : List Int} (h : PK T w pb wa cap W a c) (hc : a' < W.length) : PK T (w.setCell ⟨pb, 1, none⟩ (.int .i64 (a' : Nat))) pb wa cap W a' c := by
  have k : Keep (fun b => b = pb) w (w.setCell ⟨pb, 1, none⟩ (.int .i64 (a' : Nat))) := (Keep.refl _ w).set1 1 _
  exact ⟨h.st.set 1 _, h.il.keep k (fun b hb hlt e => h.ab b hb hlt e), fun b hb _ e => by
    subst e
    exact h.ab _ hb (heap_lt h.st) rfl, hc, h.good, h.cr⟩
set_option maxRecDepth 100000 in
set_option maxHeartbeats 4000000 in
theorem rnext_any (pb cap0 a c n cap : Nat) (wa a2 : Option Addr) (W L : List Int) (w : World) (h : PK 34 w pb wa cap0 W a c) (hn : W.length = n) (hL : L.length = n) (h1 : IL w a2 L) (hne : ∀ b, blk a2 b → ¬ b = pb) :
    Calls Tryd.prog 8 #[.pointer (some ⟨pb, 0, none⟩), .slice a2 n cap] w fun e w' => RxP w w' e pb cap0 a c wa W L := by
  have c0 : w.cell? ⟨pb, 0, none⟩ = some (.slice wa n cap0) := by rw [← hn]; exact h.st.cell 0
  have hg := h.good
  have h8 : n ≤ 8 := by have := hg.2.1; omega
  have hn1 : 1 ≤ n := by have := hg.1; omega
  have ha : a < n := by have := h.lt; omega
  obtain ⟨g, o, rfl, hc⟩ := h1.some_of (i := 0) (by omega)
  have HC : Hid (∀ i, i < n → w.cell? ⟨g, o + i, none⟩ = some (.int .i64 (gI L i))) := fun i hi => hc i (by omega)
  have hgp : ¬ g = pb := hne g ⟨_, rfl, rfl⟩
  have HL : Hid (L.length = n ∧ W.length = n ∧ GoodW W) := ⟨hL, hn, hg⟩
  have HK : Hid (PK 34 w pb wa cap0 W a c) := h
  have t1 : ((n : Int) != (n : Int)) = false := by simp
  have hnz : ¬ ((n : Int) = 0) := by omega
  clear h hn hL h1 hc hne hg
  go_enter Tryd.func8, Tryd.ntmps8
  go_wp2
  go_loopw [6, 7] (fun v j wq => ∃ (i : Nat) (b : Bool), i ≤ n ∧ v = .bool b ∧ j = .int .i64 i ∧ Hid (w = wq ∧ SeenN L i b)) (fun _ j _ => n - (intOf j).toNat)
  case atStart => exact ⟨0, false, Nat.zero_le _, rfl, rfl, ⟨rfl, fun k hk => by omega, fun e => (by cases e), fun _ k hk => by omega⟩⟩
  case round =>
    obtain ⟨i, b, hi, rfl, rfl, hR⟩ := hrel
    obtain ⟨w3, rfl⟩ : ∃ w3, w3 = wr := ⟨_, rfl⟩
    obtain ⟨hw, hS⟩ := hR.out
    have HS : Hid (SeenN L i b) := hS
    subst hw
    clear hR hS
    by_cases hlt : i < n
    · have ci := HC.out i hlt
      obtain ⟨x, hx⟩ : ∃ x, gI L i = x := ⟨_, rfl⟩
      rw [hx] at ci
      by_cases hneg : x < 0
      · have HF : Hid (RxP w w (.returned (.tuple #[.int .i64 0, .int .i64 1])) pb cap0 a c wa W L) := Or.inl ⟨⟨i, by rw [HL.out.1]; exact hlt, by rw [hx]; exact hneg⟩, rfl, Below.refl _ _⟩
        clear hx
        go_wp2
        go_ret2
        exact HF.out
      · have HM : Hid (SeenN L (i + 1) (b || decide (0 < x))) := HS.out.more hx (by rw [HL.out.1]; exact hlt) (by omega)
        clear hx HS
        cases b with
        | true =>
          have HM2 : Hid (SeenN L (i + 1) true) := HM.out
          clear HM
          go_wp2
          exact ⟨⟨i + 1, true, by omega, rfl, by go_num, ⟨trivial, HM2.out⟩⟩, by simp [intOf]; omega⟩
        | false =>
          by_cases hp : 0 < x
          · have HM2 : Hid (SeenN L (i + 1) true) := by
              have e : (false || decide (0 < x)) = true := by simp [hp]
              rw [← e]; exact HM
            clear HM
            go_wp2
            exact ⟨⟨i + 1, true, by omega, rfl, by go_num, ⟨trivial, HM2.out⟩⟩, by simp [intOf]; omega⟩
          · have HM2 : Hid (SeenN L (i + 1) false) := by
              have e : (false || decide (0 < x)) = false := by simp [hp]
              rw [← e]; exact HM
            clear HM
            go_wp2
            exact ⟨⟨i + 1, false, by omega, rfl, by go_num, ⟨trivial, HM2.out⟩⟩, by simp [intOf]; omega⟩
    · obtain rfl : i = n := by omega
      clear hi hlt
      have HNN : Hid (NonN L) := fun k hk => HS.out.1 k (by rw [← HL.out.1]; exact hk)
      cases b with
      | false =>
        have HF : Hid (RxP w w (.returned (.tuple #[.int .i64 0, .int .i64 4])) pb cap0 a c wa W L) := Or.inr (Or.inl ⟨HNN.out, fun k hk => HS.out.2.2 rfl k (by rw [← HL.out.1]; exact hk), rfl, Below.refl _ _⟩)
        clear HS
        go_wp2
        go_ret2
        exact HF.out
      | true =>
        have HSm : Hid (¬ NoneW L) := HS.out.2.1 rfl
        clear HS
        have c1 : w.cell? ⟨pb, 1, none⟩ = some (.int .i64 (a : Nat)) := HK.out.st.cell 1
        have c2 : w.cell? ⟨pb, 2, none⟩ = some (.int .i64 (c : Nat)) := HK.out.st.cell 2
        have f1 : w.frozen? ⟨pb, 1, none⟩ = false := HK.out.st.free 1
        have f2 : w.frozen? ⟨pb, 2, none⟩ = false := HK.out.st.free 2
        have ca := HC.out a ha
        obtain ⟨V, hV⟩ : ∃ V, gI L a = V := ⟨_, rfl⟩
        rw [hV] at ca
        have hcr : c ≤ 16 := HK.out.cr
        by_cases hst : ¬ c = 0 ∧ ¬ V = 0
        · obtain ⟨hc0, hv0⟩ := hst
          obtain ⟨d, rfl⟩ : ∃ d, c = d + 1 := ⟨c - 1, by omega⟩
          have t2 : (((d + 1 : Nat) : Int) == 0) = false := by rw [beq_eq_false_iff_ne]; omega
          have t3 : (V == 0) = false := by rw [beq_eq_false_iff_ne]; exact hv0
          have HF : Hid (RxP w (w.setCell ⟨pb, 2, none⟩ (.int .i64 (d : Nat))) (.returned (.tuple #[.int .i64 (a : Nat), .int .i64 0])) pb cap0 a (d + 1) wa W L) :=
            Or.inr (Or.inr ⟨a, d, Or.inl ⟨hc0, by rw [hV]; exact hv0, rfl, rfl⟩, HSm.out, HNN.out, rfl, HK.out.credit (by omega), (Keep.refl _ w).set1 2 _⟩)
          clear hV hc0 hv0 HC HK HL
          go_wp2
          go_ret2
          exact HF.out
        · have hst2 : c = 0 ∨ V = 0 := by
            rcases Classical.em (c = 0) with e | e
            · exact Or.inl e
            · rcases Classical.em (V = 0) with e' | e'
              · exact Or.inr e'
              · exact (hst ⟨e, e'⟩).elim
          obtain ⟨q, hon⟩ := on_ex HL.out.1 ha HNN.out HSm.out
          have HQ : Hid (IsOn i L a q) := hon
          obtain ⟨j, hj, hqj, hqp, hz⟩ := hon
          have HJ : Hid (q = (a + 1 + j) % i ∧ 0 < gI L q ∧ ∀ k, k < j → gI L ((a + 1 + k) % i) = 0) := ⟨hqj, hqp, hz⟩
          have hqn : q < i := HQ.out.lt.1
          have HT : Hid (GoesOn L a c) := by
            show c = 0 ∨ gI L a = 0
            rw [hV]; exact hst2
          clear hqj hqp hz hV hst
          have HN0 : Hid (∀ k, ∃ x : Nat, (a + 1 + k) % i = x ∧ x < i ∧ ((x : Int) + 1) % (i : Int) = (((a + 1 + (k + 1)) % i : Nat) : Int) ∧ Int.tmod ((x : Int) + 1) (i : Int) = (((a + 1 + (k + 1)) % i : Nat) : Int)) := fun k => by
            have e1 : (((a + 1 + k) % i + 1) % i : Nat) = (a + 1 + (k + 1)) % i := by rw [Nat.mod_add_mod]; congr 1
            refine ⟨_, rfl, Nat.mod_lt _ (by omega), ?_, ?_⟩
            · rw [← e1, Int.natCast_emod]; rfl
            · rw [← e1, ← rem_facts]; rfl
          obtain ⟨x0, hx0⟩ : ∃ x0, (a + 1 + 0) % i = x0 := ⟨_, rfl⟩
          have ea : ((a : Int) + 1) % (i : Int) = (x0 : Int) := by rw [← hx0, Nat.add_zero, Int.natCast_emod]; rfl
          have ea2 : Int.tmod ((a : Int) + 1) (i : Int) = (x0 : Int) := by rw [← hx0, Nat.add_zero, ← rem_facts]; rfl
          have HX0 : Hid (PK 34 (w.setCell ⟨pb, 1, none⟩ (.int .i64 (x0 : Int))) pb wa cap0 W ((a + 1 + 0) % i) c ∧ Keep (fun b => b = pb) w (w.setCell ⟨pb, 1, none⟩ (.int .i64 (x0 : Int)))) := by
            rw [hx0]
            exact ⟨HK.out.stand (by rw [HL.out.2.1, ← hx0]; exact Nat.mod_lt _ (by omega)), (Keep.refl _ w).set1 1 _⟩
          clear hx0
          rcases hst2 with e0 | e0
          · subst e0
            go_wp2
            go_loopw [70] (fun v wq => ∃ k : Nat, k ≤ j ∧ Hid (PK 34 wq pb wa cap0 W ((a + 1 + k) % i) 0 ∧ Keep (fun b => b = pb) w wq)) (fun _ wq => muQ pb q i wq)
            case atStart => exact ⟨0, Nat.zero_le _, HX0.out⟩
            case round =>
              obtain ⟨k, hk, hE⟩ := hrel
              clear HX0 ea ea2
              obtain ⟨w4, rfl⟩ : ∃ w4, w4 = wr := ⟨_, rfl⟩
              obtain ⟨x, hx, hxn, ex1, ex2⟩ := HN0.out k
              rw [hx] at hE
              have k1 : w4.cell? ⟨pb, 1, none⟩ = some (.int .i64 (x : Nat)) := hE.out.1.st.cell 1
              have kf : w4.frozen? ⟨pb, 1, none⟩ = false := hE.out.1.st.free 1
              have cx : w4.cell? ⟨g, o + x, none⟩ = some (.int .i64 (gI L x)) := (hE.out.2.cell (p := ⟨g, o + x, none⟩) (World.block_lt_of_cell? w _ (HC.out x hxn)) hgp).trans (HC.out x hxn)
              have HJ2 := HJ
              by_cases hkj : k < j
              · have hx0 : gI L x = 0 := by rw [← hx]; exact HJ.out.2.2 k hkj
                rw [hx0] at cx
                have HE2 : Hid ((PK 34 (w4.setCell ⟨pb, 1, none⟩ (.int .i64 (((a + 1 + (k + 1)) % i : Nat) : Int))) pb wa cap0 W ((a + 1 + (k + 1)) % i) 0 ∧ Keep (fun b => b = pb) w (w4.setCell ⟨pb, 1, none⟩ (.int .i64 (((a + 1 + (k + 1)) % i : Nat) : Int)))) ∧ muQ pb q i (w4.setCell ⟨pb, 1, none⟩ (.int .i64 (((a + 1 + (k + 1)) % i : Nat) : Int))) < muQ pb q i w4) := by
                  refine ⟨⟨hE.out.1.stand (by rw [HL.out.2.1]; exact Nat.mod_lt _ (by omega)), hE.out.2.set1 1 _⟩, ?_⟩
                  have m1 : muQ pb q i w4 = j - k := by
                    unfold muQ
                    rw [k1, HJ.out.1, ← hx]
                    exact dist_eq (by omega) hj
                  have m2 : muQ pb q i (w4.setCell ⟨pb, 1, none⟩ (.int .i64 (((a + 1 + (k + 1)) % i : Nat) : Int))) = j - (k + 1) := by
                    unfold muQ
                    rw [World.cell?_setCell_same _ _ _ k1, HJ.out.1]
                    exact dist_eq (by omega) hj
                  omega
                have HY : Hid (∀ y, (a + 1 + (k + 1)) % i = y → PK 34 (w4.setCell ⟨pb, 1, none⟩ (.int .i64 (y : Nat))) pb wa cap0 W ((a + 1 + (k + 1)) % i) 0 ∧ Keep (fun b => b = pb) w (w4.setCell ⟨pb, 1, none⟩ (.int .i64 (y : Nat))) ∧ muQ pb q i (w4.setCell ⟨pb, 1, none⟩ (.int .i64 (y : Nat))) < muQ pb q i w4) := by
                  intro y hy
                  subst hy
                  exact ⟨HE2.out.1.1, HE2.out.1.2, HE2.out.2⟩
                obtain ⟨y, hy⟩ : ∃ y, (a + 1 + (k + 1)) % i = y := ⟨_, rfl⟩
                rw [hy] at ex1 ex2
                have HZ : Hid (PK 34 (w4.setCell ⟨pb, 1, none⟩ (.int .i64 (y : Nat))) pb wa cap0 W ((a + 1 + (k + 1)) % i) 0 ∧ Keep (fun b => b = pb) w (w4.setCell ⟨pb, 1, none⟩ (.int .i64 (y : Nat))) ∧ muQ pb q i (w4.setCell ⟨pb, 1, none⟩ (.int .i64 (y : Nat))) < muQ pb q i w4) := HY.out y hy
                clear hE hx hx0 HE2 HY hy
                go_wp2
                exact ⟨⟨k + 1, by omega, ⟨HZ.out.1, HZ.out.2.1⟩⟩, HZ.out.2.2⟩
              · obtain rfl : k = j := by omega
                have hxq : x = q := by rw [← hx]; exact HJ.out.1.symm
                have HP4 : Hid (PK 34 w4 pb wa cap0 W x 0 ∧ Keep (fun b => b = pb) w w4) := hE.out
                rw [← hxq] at HQ HJ2
                have hne0 : (gI L x == 0) = false := by rw [beq_eq_false_iff_ne]; have := HJ2.out.2.1; omega
                obtain ⟨wg, wo, hwa, hwc⟩ := HP4.out.1.il.some_of (i := x) (by rw [HL.out.2.1]; exact hxn)
                have hWx := HL.out.2.2.2.2 x (by rw [HL.out.2.1]; exact hxn)
                obtain ⟨d, hd⟩ : ∃ d : Nat, gI W x = ((d + 1 : Nat) : Int) := ⟨(gI W x).toNat - 1, by omega⟩
                have cw : w4.cell? ⟨wg, wo + x, none⟩ = some (.int .i64 ((d + 1 : Nat) : Int)) := by rw [← hd]; exact hwc x (by rw [HL.out.2.1]; exact hxn)
                have k0 : w4.cell? ⟨pb, 0, none⟩ = some (.slice (some ⟨wg, wo, none⟩) i cap0) := by rw [← hwa, ← HL.out.2.1]; exact HP4.out.1.st.cell 0
                have k2 : w4.cell? ⟨pb, 2, none⟩ = some (.int .i64 (0 : Nat)) := HP4.out.1.st.cell 2
                have f4 : w4.frozen? ⟨pb, 2, none⟩ = false := HP4.out.1.st.free 2
                have hd16 : d + 1 ≤ 16 := by omega
                have e1 : ((d + 1 : Nat) : Int) - 1 = (d : Int) := by omega
                obtain ⟨w5, hw5⟩ : ∃ w5, (w4.setCell ⟨pb, 2, none⟩ (.int .i64 ((d : Int) + 1))).drew = w5 := ⟨_, rfl⟩
                have p5 : PK 34 w5 pb wa cap0 W x (d + 1) := by
                  rw [← hw5]
                  exact (HP4.out.1.credit (c' := d + 1) hd16).below ((Below.refl _ _).drew)
                have m1 : w5.cell? ⟨pb, 1, none⟩ = some (.int .i64 (x : Nat)) := p5.st.cell 1
                have m2 : w5.cell? ⟨pb, 2, none⟩ = some (.int .i64 ((d : Int) + 1)) := p5.st.cell 2
                have m3 : w5.frozen? ⟨pb, 2, none⟩ = false := p5.st.free 2
                have HF : Hid (RxP w (w5.setCell ⟨pb, 2, none⟩ (.int .i64 (d : Nat))) (.returned (.tuple #[.int .i64 (x : Nat), .int .i64 0])) pb cap0 a 0 wa W L ∧ (w4.setCell ⟨pb, 2, none⟩ (.int .i64 ((d : Int) + 1))).drew = w5) := by
                  refine ⟨Or.inr (Or.inr ⟨x, d, Or.inr ⟨HT.out, by rw [HL.out.2.1]; exact HQ.out, by rw [hd]; omega⟩, HSm.out, HNN.out, rfl, ?_, ?_⟩), hw5⟩
                  · exact p5.credit (by omega)
                  · have k5 : Keep (fun b => b = pb) w w5 := by
                      rw [← hw5]
                      exact (HP4.out.2.set1 2 _).drew
                    exact k5.set1 2 _
                clear hw5 p5
                clear hE hx HK HP4 HC HJ HJ2 HQ HL HT hwc hd hWx c0 c1 c2 f1 f2 hxq
                generalize gI L x = v at *
                go_wp2
                go_region
                rw [HF.out.2]
                go_wp2
                go_ret2
                exact HF.out.1
          · subst e0
            by_cases hc0 : c = 0
            · subst hc0
              go_wp2
              go_loopw [70] (fun v wq => ∃ k : Nat, k ≤ j ∧ Hid (PK 34 wq pb wa cap0 W ((a + 1 + k) % i) 0 ∧ Keep (fun b => b = pb) w wq)) (fun _ wq => muQ pb q i wq)
              case atStart => exact ⟨0, Nat.zero_le _, HX0.out⟩
              case round =>
                obtain ⟨k, hk, hE⟩ := hrel
                clear HX0 ea ea2
                obtain ⟨w4, rfl⟩ : ∃ w4, w4 = wr := ⟨_, rfl⟩
                obtain ⟨x, hx, hxn, ex1, ex2⟩ := HN0.out k
                rw [hx] at hE
                have k1 : w4.cell? ⟨pb, 1, none⟩ = some (.int .i64 (x : Nat)) := hE.out.1.st.cell 1
                have kf : w4.frozen? ⟨pb, 1, none⟩ = false := hE.out.1.st.free 1
                have cx : w4.cell? ⟨g, o + x, none⟩ = some (.int .i64 (gI L x)) := (hE.out.2.cell (p := ⟨g, o + x, none⟩) (World.block_lt_of_cell? w _ (HC.out x hxn)) hgp).trans (HC.out x hxn)
                have HJ2 := HJ
                by_cases hkj : k < j
                · have hx0 : gI L x = 0 := by rw [← hx]; exact HJ.out.2.2 k hkj
                  rw [hx0] at cx
                  have HE2 : Hid ((PK 34 (w4.setCell ⟨pb, 1, none⟩ (.int .i64 (((a + 1 + (k + 1)) % i : Nat) : Int))) pb wa cap0 W ((a + 1 + (k + 1)) % i) 0 ∧ Keep (fun b => b = pb) w (w4.setCell ⟨pb, 1, none⟩ (.int .i64 (((a + 1 + (k + 1)) % i : Nat) : Int)))) ∧ muQ pb q i (w4.setCell ⟨pb, 1, none⟩ (.int .i64 (((a + 1 + (k + 1)) % i : Nat) : Int))) < muQ pb q i w4) := by
                    refine ⟨⟨hE.out.1.stand (by rw [HL.out.2.1]; exact Nat.mod_lt _ (by omega)), hE.out.2.set1 1 _⟩, ?_⟩
                    have m1 : muQ pb q i w4 = j - k := by
                      unfold muQ
                      rw [k1, HJ.out.1, ← hx]
                      exact dist_eq (by omega) hj
                    have m2 : muQ pb q i (w4.setCell ⟨pb, 1, none⟩ (.int .i64 (((a + 1 + (k + 1)) % i : Nat) : Int))) = j - (k + 1) := by
                      unfold muQ
                      rw [World.cell?_setCell_same _ _ _ k1, HJ.out.1]
                      exact dist_eq (by omega) hj
                    omega
                  have HY : Hid (∀ y, (a + 1 + (k + 1)) % i = y → PK 34 (w4.setCell ⟨pb, 1, none⟩ (.int .i64 (y : Nat))) pb wa cap0 W ((a + 1 + (k + 1)) % i) 0 ∧ Keep (fun b => b = pb) w (w4.setCell ⟨pb, 1, none⟩ (.int .i64 (y : Nat))) ∧ muQ pb q i (w4.setCell ⟨pb, 1, none⟩ (.int .i64 (y : Nat))) < muQ pb q i w4) := by
                    intro y hy
                    subst hy
                    exact ⟨HE2.out.1.1, HE2.out.1.2, HE2.out.2⟩
                  obtain ⟨y, hy⟩ : ∃ y, (a + 1 + (k + 1)) % i = y := ⟨_, rfl⟩
                  rw [hy] at ex1 ex2
                  have HZ : Hid (PK 34 (w4.setCell ⟨pb, 1, none⟩ (.int .i64 (y : Nat))) pb wa cap0 W ((a + 1 + (k + 1)) % i) 0 ∧ Keep (fun b => b = pb) w (w4.setCell ⟨pb, 1, none⟩ (.int .i64 (y : Nat))) ∧ muQ pb q i (w4.setCell ⟨pb, 1, none⟩ (.int .i64 (y : Nat))) < muQ pb q i w4) := HY.out y hy
                  clear hE hx hx0 HE2 HY hy
                  go_wp2
                  exact ⟨⟨k + 1, by omega, ⟨HZ.out.1, HZ.out.2.1⟩⟩, HZ.out.2.2⟩
                · obtain rfl : k = j := by omega
                  have hxq : x = q := by rw [← hx]; exact HJ.out.1.symm
                  have HP4 : Hid (PK 34 w4 pb wa cap0 W x 0 ∧ Keep (fun b => b = pb) w w4) := hE.out
                  rw [← hxq] at HQ HJ2
                  have hne0 : (gI L x == 0) = false := by rw [beq_eq_false_iff_ne]; have := HJ2.out.2.1; omega
                  obtain ⟨wg, wo, hwa, hwc⟩ := HP4.out.1.il.some_of (i := x) (by rw [HL.out.2.1]; exact hxn)
                  have hWx := HL.out.2.2.2.2 x (by rw [HL.out.2.1]; exact hxn)
                  obtain ⟨d, hd⟩ : ∃ d : Nat, gI W x = ((d + 1 : Nat) : Int) := ⟨(gI W x).toNat - 1, by omega⟩
                  have cw : w4.cell? ⟨wg, wo + x, none⟩ = some (.int .i64 ((d + 1 : Nat) : Int)) := by rw [← hd]; exact hwc x (by rw [HL.out.2.1]; exact hxn)
                  have k0 : w4.cell? ⟨pb, 0, none⟩ = some (.slice (some ⟨wg, wo, none⟩) i cap0) := by rw [← hwa, ← HL.out.2.1]; exact HP4.out.1.st.cell 0
                  have k2 : w4.cell? ⟨pb, 2, none⟩ = some (.int .i64 (0 : Nat)) := HP4.out.1.st.cell 2
                  have f4 : w4.frozen? ⟨pb, 2, none⟩ = false := HP4.out.1.st.free 2
                  have hd16 : d + 1 ≤ 16 := by omega
                  have e1 : ((d + 1 : Nat) : Int) - 1 = (d : Int) := by omega
                  obtain ⟨w5, hw5⟩ : ∃ w5, (w4.setCell ⟨pb, 2, none⟩ (.int .i64 ((d : Int) + 1))).drew = w5 := ⟨_, rfl⟩
                  have p5 : PK 34 w5 pb wa cap0 W x (d + 1) := by
                    rw [← hw5]
                    exact (HP4.out.1.credit (c' := d + 1) hd16).below ((Below.refl _ _).drew)
                  have m1 : w5.cell? ⟨pb, 1, none⟩ = some (.int .i64 (x : Nat)) := p5.st.cell 1
                  have m2 : w5.cell? ⟨pb, 2, none⟩ = some (.int .i64 ((d : Int) + 1)) := p5.st.cell 2
                  have m3 : w5.frozen? ⟨pb, 2, none⟩ = false := p5.st.free 2
                  have HF : Hid (RxP w (w5.setCell ⟨pb, 2, none⟩ (.int .i64 (d : Nat))) (.returned (.tuple #[.int .i64 (x : Nat), .int .i64 0])) pb cap0 a 0 wa W L ∧ (w4.setCell ⟨pb, 2, none⟩ (.int .i64 ((d : Int) + 1))).drew = w5) := by
                    refine ⟨Or.inr (Or.inr ⟨x, d, Or.inr ⟨HT.out, by rw [HL.out.2.1]; exact HQ.out, by rw [hd]; omega⟩, HSm.out, HNN.out, rfl, ?_, ?_⟩), hw5⟩
                    · exact p5.credit (by omega)
                    · have k5 : Keep (fun b => b = pb) w w5 := by
                        rw [← hw5]
                        exact (HP4.out.2.set1 2 _).drew
                      exact k5.set1 2 _
                  clear hw5 p5
                  clear hE hx HK HP4 HC HJ HJ2 HQ HL HT hwc hd hWx c0 c1 c2 f1 f2 hxq
                  generalize gI L x = v at *
                  go_wp2
                  go_region
                  rw [HF.out.2]
                  go_wp2
                  go_ret2
                  exact HF.out.1
            · have t2 : ((c : Int) == 0) = false := by rw [beq_eq_false_iff_ne]; omega
              clear hc0
              go_wp2
              go_loopw [70] (fun v wq => ∃ k : Nat, k ≤ j ∧ Hid (PK 34 wq pb wa cap0 W ((a + 1 + k) % i) c ∧ Keep (fun b => b = pb) w wq)) (fun _ wq => muQ pb q i wq)
              case atStart => exact ⟨0, Nat.zero_le _, HX0.out⟩
              case round =>
                obtain ⟨k, hk, hE⟩ := hrel
                clear HX0 ea ea2
                obtain ⟨w4, rfl⟩ : ∃ w4, w4 = wr := ⟨_, rfl⟩
                obtain ⟨x, hx, hxn, ex1, ex2⟩ := HN0.out k
                rw [hx] at hE
                have k1 : w4.cell? ⟨pb, 1, none⟩ = some (.int .i64 (x : Nat)) := hE.out.1.st.cell 1
                have kf : w4.frozen? ⟨pb, 1, none⟩ = false := hE.out.1.st.free 1
                have cx : w4.cell? ⟨g, o + x, none⟩ = some (.int .i64 (gI L x)) := (hE.out.2.cell (p := ⟨g, o + x, none⟩) (World.block_lt_of_cell? w _ (HC.out x hxn)) hgp).trans (HC.out x hxn)
                have HJ2 := HJ
                by_cases hkj : k < j
                · have hx0 : gI L x = 0 := by rw [← hx]; exact HJ.out.2.2 k hkj
                  rw [hx0] at cx
                  have HE2 : Hid ((PK 34 (w4.setCell ⟨pb, 1, none⟩ (.int .i64 (((a + 1 + (k + 1)) % i : Nat) : Int))) pb wa cap0 W ((a + 1 + (k + 1)) % i) c ∧ Keep (fun b => b = pb) w (w4.setCell ⟨pb, 1, none⟩ (.int .i64 (((a + 1 + (k + 1)) % i : Nat) : Int)))) ∧ muQ pb q i (w4.setCell ⟨pb, 1, none⟩ (.int .i64 (((a + 1 + (k + 1)) % i : Nat) : Int))) < muQ pb q i w4) := by
                    refine ⟨⟨hE.out.1.stand (by rw [HL.out.2.1]; exact Nat.mod_lt _ (by omega)), hE.out.2.set1 1 _⟩, ?_⟩
                    have m1 : muQ pb q i w4 = j - k := by
                      unfold muQ
                      rw [k1, HJ.out.1, ← hx]
                      exact dist_eq (by omega) hj
                    have m2 : muQ pb q i (w4.setCell ⟨pb, 1, none⟩ (.int .i64 (((a + 1 + (k + 1)) % i : Nat) : Int))) = j - (k + 1) := by
                      unfold muQ
                      rw [World.cell?_setCell_same _ _ _ k1, HJ.out.1]
                      exact dist_eq (by omega) hj
                    omega
                  have HY : Hid (∀ y, (a + 1 + (k + 1)) % i = y → PK 34 (w4.setCell ⟨pb, 1, none⟩ (.int .i64 (y : Nat))) pb wa cap0 W ((a + 1 + (k + 1)) % i) c ∧ Keep (fun b => b = pb) w (w4.setCell ⟨pb, 1, none⟩ (.int .i64 (y : Nat))) ∧ muQ pb q i (w4.setCell ⟨pb, 1, none⟩ (.int .i64 (y : Nat))) < muQ pb q i w4) := by
                    intro y hy
                    subst hy
                    exact ⟨HE2.out.1.1, HE2.out.1.2, HE2.out.2⟩
                  obtain ⟨y, hy⟩ : ∃ y, (a + 1 + (k + 1)) % i = y := ⟨_, rfl⟩
                  rw [hy] at ex1 ex2
                  have HZ : Hid (PK 34 (w4.setCell ⟨pb, 1, none⟩ (.int .i64 (y : Nat))) pb wa cap0 W ((a + 1 + (k + 1)) % i) c ∧ Keep (fun b => b = pb) w (w4.setCell ⟨pb, 1, none⟩ (.int .i64 (y : Nat))) ∧ muQ pb q i (w4.setCell ⟨pb, 1, none⟩ (.int .i64 (y : Nat))) < muQ pb q i w4) := HY.out y hy
                  clear hE hx hx0 HE2 HY hy
                  go_wp2
                  exact ⟨⟨k + 1, by omega, ⟨HZ.out.1, HZ.out.2.1⟩⟩, HZ.out.2.2⟩
                · obtain rfl : k = j := by omega
                  have hxq : x = q := by rw [← hx]; exact HJ.out.1.symm
                  have HP4 : Hid (PK 34 w4 pb wa cap0 W x c ∧ Keep (fun b => b = pb) w w4) := hE.out
                  rw [← hxq] at HQ HJ2
                  have hne0 : (gI L x == 0) = false := by rw [beq_eq_false_iff_ne]; have := HJ2.out.2.1; omega
                  obtain ⟨wg, wo, hwa, hwc⟩ := HP4.out.1.il.some_of (i := x) (by rw [HL.out.2.1]; exact hxn)
                  have hWx := HL.out.2.2.2.2 x (by rw [HL.out.2.1]; exact hxn)
                  obtain ⟨d, hd⟩ : ∃ d : Nat, gI W x = ((d + 1 : Nat) : Int) := ⟨(gI W x).toNat - 1, by omega⟩
                  have cw : w4.cell? ⟨wg, wo + x, none⟩ = some (.int .i64 ((d + 1 : Nat) : Int)) := by rw [← hd]; exact hwc x (by rw [HL.out.2.1]; exact hxn)
                  have k0 : w4.cell? ⟨pb, 0, none⟩ = some (.slice (some ⟨wg, wo, none⟩) i cap0) := by rw [← hwa, ← HL.out.2.1]; exact HP4.out.1.st.cell 0
                  have k2 : w4.cell? ⟨pb, 2, none⟩ = some (.int .i64 (c : Nat)) := HP4.out.1.st.cell 2
                  have f4 : w4.frozen? ⟨pb, 2, none⟩ = false := HP4.out.1.st.free 2
                  have hd16 : d + 1 ≤ 16 := by omega
                  have e1 : ((d + 1 : Nat) : Int) - 1 = (d : Int) := by omega
                  obtain ⟨w5, hw5⟩ : ∃ w5, (w4.setCell ⟨pb, 2, none⟩ (.int .i64 ((d : Int) + 1))).drew = w5 := ⟨_, rfl⟩
                  have p5 : PK 34 w5 pb wa cap0 W x (d + 1) := by
                    rw [← hw5]
                    exact (HP4.out.1.credit (c' := d + 1) hd16).below ((Below.refl _ _).drew)
                  have m1 : w5.cell? ⟨pb, 1, none⟩ = some (.int .i64 (x : Nat)) := p5.st.cell 1
                  have m2 : w5.cell? ⟨pb, 2, none⟩ = some (.int .i64 ((d : Int) + 1)) := p5.st.cell 2
                  have m3 : w5.frozen? ⟨pb, 2, none⟩ = false := p5.st.free 2
                  have HF : Hid (RxP w (w5.setCell ⟨pb, 2, none⟩ (.int .i64 (d : Nat))) (.returned (.tuple #[.int .i64 (x : Nat), .int .i64 0])) pb cap0 a c wa W L ∧ (w4.setCell ⟨pb, 2, none⟩ (.int .i64 ((d : Int) + 1))).drew = w5) := by
                    refine ⟨Or.inr (Or.inr ⟨x, d, Or.inr ⟨HT.out, by rw [HL.out.2.1]; exact HQ.out, by rw [hd]; omega⟩, HSm.out, HNN.out, rfl, ?_, ?_⟩), hw5⟩
                    · exact p5.credit (by omega)
                    · have k5 : Keep (fun b => b = pb) w w5 := by
                        rw [← hw5]
                        exact (HP4.out.2.set1 2 _).drew
                      exact k5.set1 2 _
                  clear hw5 p5
                  clear hE hx HK HP4 HC HJ HJ2 HQ HL HT hwc hd hWx c0 c1 c2 f1 f2 hxq
                  generalize gI L x = v at *
                  go_wp2
                  go_region
                  rw [HF.out.2]
                  go_wp2
                  go_ret2
                  exact HF.out.1
end Go.Proofs.YthkcgbbfnbnheaaDoor
