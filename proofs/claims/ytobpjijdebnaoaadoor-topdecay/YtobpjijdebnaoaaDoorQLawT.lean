/- Part of the proof. -/
import Derived.Test.YtobpjijdebnaoaaDoorQ2
import Derived.Test.YtobpjijdebnaoaaDoorQFacts3
import Derived.Test.YtobpjijdebnaoaaDoorQ3
import Derived.Test.YtobpjijdebnaoaaDoorQ6
import Derived.Laws.AppendOwnNone
namespace Go.Proofs.YtobpjijdebnaoaaDoorQ
open Go.Proofs.YtobpjijdebnaoaaDoorM
open Go.RowKit
set_option maxHeartbeats 800000 in
theorem bytes_any (a a2 : Option Addr) (xs bs : List Nat) (cap cap2 : Nat) (w : World) (hm : xs.length ≤ 140737488355328) (hm2 : bs.length ≤ 140737488355328) (hc : Lies w a xs) (hc2 : Lies w a2 bs) :
    Calls (Al.progOf Tryd.prog) 24 #[.slice a xs.length cap, .slice a2 bs.length cap2] w fun e w' => e = .returned (.bool (decide (xs = bs))) ∧ Below w.heap.size w w' := by
  by_cases hl : xs.length = bs.length
  · have HL : Hid (xs.length = bs.length) := hl
    have ht : (((xs.length : Nat) : Int) != ((bs.length : Nat) : Int)) = false := by simp; omega
    have hle : xs.length ≤ bs.length := by omega
    by_cases h0 : xs.length = 0
    · have h1 : bs.length = 0 := by omega
      obtain rfl := List.eq_nil_of_length_eq_zero h0
      obtain rfl := List.eq_nil_of_length_eq_zero h1
      clear hl HL ht h0 h1 hle
      go_enter Al.func24, Tryd.ntmps24
      go_wp2
      go_loop [5] (fun j => j = .int .i64 0) (fun _ => 0)
      case atStart => rfl
      case round =>
        subst hrel
        go_wp2
        go_ret
        exact ⟨rfl, Below.refl _ _⟩
    · rcases hc with h | ⟨b, off, rfl, hc⟩
      · rw [h] at h0; exact absurd rfl h0
      rcases hc2 with h | ⟨b2, off2, rfl, hc2⟩
      · rw [h] at hl; exact absurd hl h0
      have hc' : ∀ wr, Below w.heap.size w wr → Lies wr (some ⟨b, off, none⟩) xs := fun wr hb => Lies.below (Or.inr ⟨b, off, rfl, hc⟩) hb
      have hc2' : ∀ wr, Below w.heap.size w wr → Lies wr (some ⟨b2, off2, none⟩) bs := fun wr hb => Lies.below (Or.inr ⟨b2, off2, rfl, hc2⟩) hb
      have HC : Hid (∀ wr, Below w.heap.size w wr → Lies wr (some ⟨b, off, none⟩) xs) := hc'
      have HC2 : Hid (∀ wr, Below w.heap.size w wr → Lies wr (some ⟨b2, off2, none⟩) bs) := hc2'
      clear hl h0 hc hc2 hc' hc2'
      go_enter Al.func24, Tryd.ntmps24
      go_wp2
      go_loopw [5] (fun j wr => ∃ k : Nat, k ≤ xs.length ∧ j = .int .i64 k ∧ Hid (∀ i, i < k → xs[i]?.getD 0 = bs[i]?.getD 0) ∧ Below w.heap.size w wr) (fun j _ => xs.length - (intOf j).toNat)
      case atStart => exact ⟨0, by omega, rfl, (fun i h => by omega), Below.refl _ _⟩
      case round =>
        obtain ⟨k, hk, rfl, hsame, hbr⟩ := hrel
        by_cases hlt : k < xs.length
        · have hlt2 : k < bs.length := by omega
          obtain hno | ⟨b3, off3, hbo, hc⟩ := HC.out wr hbr
          · rw [hno] at hlt; exact absurd hlt (Nat.not_lt_zero _)
          cases hbo
          obtain hno | ⟨b3, off3, hbo, hc2⟩ := HC2.out wr hbr
          · rw [hno] at hlt2; exact absurd hlt2 (Nat.not_lt_zero _)
          cases hbo
          have hck := hc k hlt
          have hck2 := hc2 k hlt2
          have HX : Hid (∀ X Y : Nat, xs[k]?.getD 0 = X → bs[k]?.getD 0 = Y → (X = Y → ∀ i, i < k + 1 → xs[i]?.getD 0 = bs[i]?.getD 0) ∧ (X ≠ Y → xs ≠ bs)) := by
            rintro X Y rfl rfl
            refine ⟨fun h i hi => ?_, fun h e => h (by rw [e])⟩
            by_cases h2 : i < k
            · exact hsame.out i h2
            · have : i = k := by omega
              subst this; exact h
          have HX2 : Hid (((xs[k]?.getD 0 : Nat) = (bs[k]?.getD 0) → ∀ i, i < k + 1 → xs[i]?.getD 0 = bs[i]?.getD 0) ∧ (xs[k]?.getD 0 ≠ bs[k]?.getD 0 → xs ≠ bs)) := HX.out _ _ rfl rfl
          clear HX hc hc2
          generalize xs[k]?.getD 0 = X at hck HX2
          generalize bs[k]?.getD 0 = Y at hck2 HX2
          go_wp2
          go_quiet (fail)
          go_wp2
          · have hne : (X != Y) = true := by
              have h : ((X : Int) != (Y : Int)) = true := by assumption
              simp at h ⊢; omega
            have hb2 := below_drewN hbr nq
            go_ret
            refine ⟨?_, hb2⟩
            rw [decide_eq_false (HX2.out.2 (by simpa using hne))]
            rfl
          · have heq : X = Y := by
              have h : ((X : Int) != (Y : Int)) = false := by assumption
              simp at h; omega
            have hb2 := below_drewN hbr nq
            have hall := HX2.out.1 heq
            go_roundw
            case rel => exact ⟨k + 1, by omega, by go_num, hall, hb2⟩
            case measure => simp [intOf]; omega
        · obtain rfl : k = xs.length := by omega
          go_wp2
          go_ret
          refine ⟨?_, hbr⟩
          have : xs = bs := ext_getD HL.out hsame.out
          rw [decide_eq_true this]
          rfl
  · have ht : (((xs.length : Nat) : Int) != ((bs.length : Nat) : Int)) = true := by simp; omega
    have hne : xs ≠ bs := fun e => hl (by rw [e])
    rw [decide_eq_false hne]
    clear hne hl
    go_enter Al.func24, Tryd.ntmps24
    go_wp2
    go_ret
    exact ⟨rfl, Below.refl _ _⟩
end Go.Proofs.YtobpjijdebnaoaaDoorQ
namespace Go.Proofs.YtobpjijdebnaoaaDoorQ
open Go.Proofs.YtobpjijdebnaoaaDoorM
open Go.RowKit
set_option linter.unusedVariables false
theorem beq_yes {a b : Int} (h : a = b) : (a == b) = true := by subst h; simp
theorem beq_no {a b : Int} (h : a ≠ b) : (a == b) = false := beq_eq_false_iff_ne.2 h
set_option maxHeartbeats 1600000 in
theorem frames_any (k l s k' l' s' : Int) (a a' : Option Addr) (c c' : Nat) (xs ys : List Nat) (w : World) (hm : xs.length ≤ 140737488355328) (hm' : ys.length ≤ 140737488355328) (hL : Lies w a xs) (hL' : Lies w a' ys) :
    Calls (Al.progOf Tryd.prog) 10 #[FV k l s a xs.length c, FV k' l' s' a' ys.length c'] w fun e w' => e = .returned (.bool (decide (k = k' ∧ l = l' ∧ s = s' ∧ xs = ys))) ∧ Below w.heap.size w w' := by
  obtain ⟨wB, HWB⟩ : ∃ wB, Hid (wB = (w.alloc (boxF k l s a xs.length c)).alloc (boxF k' l' s' a' ys.length c')) := ⟨_, rfl⟩
  have hb1 := alloc_below' w (boxF k l s a xs.length c)
  have hb2 := alloc_below' (w.alloc (boxF k l s a xs.length c)) (boxF k' l' s' a' ys.length c')
  have HB : Hid (Below w.heap.size w ((w.alloc (boxF k l s a xs.length c)).alloc (boxF k' l' s' a' ys.length c'))) := hb1.trans (hb2.mono hb1.size)
  have hby := bytes_any a a' xs ys c c' ((w.alloc (boxF k l s a xs.length c)).alloc (boxF k' l' s' a' ys.length c')) hm hm' (hL.below HB.out) (hL'.below HB.out)
  have HX : Hid (BoxAt ((w.alloc (boxF k l s a xs.length c)).alloc (boxF k' l' s' a' ys.length c')) w.heap.size k l s a xs.length c ∧ BoxAt ((w.alloc (boxF k l s a xs.length c)).alloc (boxF k' l' s' a' ys.length c')) (w.heap.size + 1) k' l' s' a' ys.length c') := by
    refine ⟨(box_new w k l s a xs.length c).below hb2, ?_⟩
    have e := box_new (w.alloc (boxF k l s a xs.length c)) k' l' s' a' ys.length c'
    rw [show (w.alloc (boxF k l s a xs.length c)).heap.size = w.heap.size + 1 by simp] at e
    exact e
  have fin : ∀ r : Bool, (decide (xs = ys) = r) → Calls (Al.progOf Tryd.prog) 10 #[FV k l s a xs.length c, FV k' l' s' a' ys.length c'] w fun e w' => e = .returned (.bool (decide (k = k' ∧ l = l' ∧ s = s') && r)) ∧ Below w.heap.size w w' := by
    intro r hr
    rw [hr] at hby
    clear hr hb1 hb2 hL hL' HWB
    by_cases e1 : k = k'
    case neg =>
      have t1 := beq_no e1
      have t0 : decide (k = k' ∧ l = l' ∧ s = s') = false := decide_eq_false (fun h => e1 h.1)
      rw [t0]
      clear e1 t0
      go_enter Al.func10, Tryd.ntmps10
      go_wp2_with fail
      refine hby.mono ?_
      rintro e w1 ⟨rfl, hb⟩
      have H1 : Hid (BoxAt w1 w.heap.size k l s a xs.length c ∧ BoxAt w1 (w.heap.size + 1) k' l' s' a' ys.length c' ∧ Below w.heap.size w w1) := ⟨HX.out.1.below hb, HX.out.2.below hb, HB.out.trans (hb.mono HB.out.size)⟩
      clear hb hby
      have x0 := H1.out.1.c0
      have y0 := H1.out.2.1.c0
      go_wp2
      go_ret
      exact ⟨rfl, H1.out.2.2⟩
    have t1 := beq_yes e1
    by_cases e2 : l = l'
    case neg =>
      have t2 := beq_no e2
      have t0 : decide (k = k' ∧ l = l' ∧ s = s') = false := decide_eq_false (fun h => e2 h.2.1)
      rw [t0]
      clear e1 e2 t0
      go_enter Al.func10, Tryd.ntmps10
      go_wp2_with fail
      refine hby.mono ?_
      rintro e w1 ⟨rfl, hb⟩
      have H1 : Hid (BoxAt w1 w.heap.size k l s a xs.length c ∧ BoxAt w1 (w.heap.size + 1) k' l' s' a' ys.length c' ∧ Below w.heap.size w w1) := ⟨HX.out.1.below hb, HX.out.2.below hb, HB.out.trans (hb.mono HB.out.size)⟩
      clear hb hby
      have x0 := H1.out.1.c0
      have y0 := H1.out.2.1.c0
      have x1 := H1.out.1.c1
      have y1 := H1.out.2.1.c1
      go_wp2
      go_ret
      exact ⟨rfl, H1.out.2.2⟩
    have t2 := beq_yes e2
    by_cases e3 : s = s'
    case neg =>
      have t3 := beq_no e3
      have t0 : decide (k = k' ∧ l = l' ∧ s = s') = false := decide_eq_false (fun h => e3 h.2.2)
      rw [t0]
      clear e1 e2 e3 t0
      go_enter Al.func10, Tryd.ntmps10
      go_wp2_with fail
      refine hby.mono ?_
      rintro e w1 ⟨rfl, hb⟩
      have H1 : Hid (BoxAt w1 w.heap.size k l s a xs.length c ∧ BoxAt w1 (w.heap.size + 1) k' l' s' a' ys.length c' ∧ Below w.heap.size w w1) := ⟨HX.out.1.below hb, HX.out.2.below hb, HB.out.trans (hb.mono HB.out.size)⟩
      clear hb hby
      have x0 := H1.out.1.c0
      have y0 := H1.out.2.1.c0
      have x1 := H1.out.1.c1
      have y1 := H1.out.2.1.c1
      have x2 := H1.out.1.c2
      have y2 := H1.out.2.1.c2
      go_wp2
      go_ret
      exact ⟨rfl, H1.out.2.2⟩
    have t3 := beq_yes e3
    have t0 : decide (k = k' ∧ l = l' ∧ s = s') = true := decide_eq_true ⟨e1, e2, e3⟩
    rw [t0, Bool.true_and]
    clear e1 e2 e3 t0
    go_enter Al.func10, Tryd.ntmps10
    go_wp2_with fail
    refine hby.mono ?_
    rintro e w1 ⟨rfl, hb⟩
    have H1 : Hid (BoxAt w1 w.heap.size k l s a xs.length c ∧ BoxAt w1 (w.heap.size + 1) k' l' s' a' ys.length c' ∧ Below w.heap.size w w1) := ⟨HX.out.1.below hb, HX.out.2.below hb, HB.out.trans (hb.mono HB.out.size)⟩
    clear hb hby
    have x0 := H1.out.1.c0
    have y0 := H1.out.2.1.c0
    have x1 := H1.out.1.c1
    have y1 := H1.out.2.1.c1
    have x2 := H1.out.1.c2
    have y2 := H1.out.2.1.c2
    go_wp2
    go_ret
    exact ⟨rfl, H1.out.2.2⟩
  have e := fin _ rfl
  have t : (decide (k = k' ∧ l = l' ∧ s = s') && decide (xs = ys)) = decide (k = k' ∧ l = l' ∧ s = s' ∧ xs = ys) := by
    rw [← Bool.decide_and]
    congr 1
    apply propext
    constructor
    · rintro ⟨⟨h1, h2, h3⟩, h4⟩; exact ⟨h1, h2, h3, h4⟩
    · rintro ⟨h1, h2, h3, h4⟩; exact ⟨⟨h1, h2, h3⟩, h4⟩
  rw [t] at e
  exact e
theorem pack_data {n k l s : Nat} {data : List Nat} (i : Nat) (h : i < data.length) : (packL n k l s data)[20 + i]?.getD 0 = data[i]?.getD 0 := by
  have e : (packL n k l s data).drop 20 = restL n data := body_rest ..
  rw [← List.getElem?_drop, e]
  unfold restL
  rw [List.getElem?_append_left h]
/-- Pack has nothing to tell. -/
def OkI (n k l s : Int) (m : Nat) : Prop := (24 ≤ n ∧ n ≤ 4096) ∧ Named k l s ∧ ¬ n - 21 < (m : Int)
theorem OkI.nat {n k l s : Int} {m : Nat} (h : OkI n k l s m) : ∃ N K L S : Nat, n = N ∧ k = K ∧ l = L ∧ s = S ∧ FOk N K L S m := by
  obtain ⟨⟨h1, h2⟩, ⟨⟨q1, q2⟩, ⟨q3, q4⟩, q5, q6⟩, h3⟩ := h
  obtain ⟨N, rfl⟩ := Int.eq_ofNat_of_zero_le (show 0 ≤ n by omega)
  obtain ⟨K, rfl⟩ := Int.eq_ofNat_of_zero_le (show 0 ≤ k by omega)
  obtain ⟨L, rfl⟩ := Int.eq_ofNat_of_zero_le q3
  obtain ⟨S, rfl⟩ := Int.eq_ofNat_of_zero_le q5
  exact ⟨N, K, L, S, rfl, rfl, rfl, rfl, ⟨by omega, by omega, by omega, by omega, by omega, by omega, by omega⟩⟩
theorem pack_err (n k l s : Int) (a : Option Addr) (m c : Nat) (hm : m < 9223372036854775808) (h : ¬ OkI n k l s m) :
    ∃ q : Nat, ∀ wx, Calls (Al.progOf Tryd.prog) 5 #[.int .i64 n, FV k l s a m c] wx fun e w' => e = .returned (.tuple #[.slice none 0 0, .iface 47 (.int .i64 (q : Int))]) ∧ Below wx.heap.size wx w' := by
  by_cases h1 : 24 ≤ n ∧ n ≤ 4096
  · by_cases h2 : Named k l s
    · by_cases h3 : n - 21 < (m : Int)
      · exact ⟨3, fun wx => pack_full n k l s a m c wx h1 h2 h3 hm⟩
      · exact absurd ⟨h1, h2, h3⟩ h
    · exact ⟨1, fun wx => pack_name n k l s a m c wx h1 h2⟩
  · exact ⟨1, fun wx => pack_size n k l s a m c wx h1⟩
/-- WHAT IS PACKED OPENS. -/
theorem open_packed (n k l s : Nat) (data : List Nat) (g : Nat) (w : World) (h : FOk n k l s data.length) (hA : AllB data) (hg : Row w g (packL n k l s data)) :
    Calls (Al.progOf Tryd.prog) 9 #[.slice (some ⟨g, 0, none⟩) n n] w fun e w' => ∃ a c, e = .returned (.tuple #[FV k l s a data.length c, .int .i64 2]) ∧ OwnA w' w.heap.size a c data ∧ Below w.heap.size w w' := by
  have hl := packL_len n k l s data h.d1
  have := open_any (some ⟨g, 0, none⟩) (packL n k l s data) n w (packL_all n k l s data (by have := h.k1; omega) hA) (row_lies hg) (by omega) (by have := h.n1; omega)
  rw [hl] at this
  refine this.mono fun e w' hh => ?_
  rcases hh with ⟨h1, _⟩ | ⟨_, _, h1⟩ | ⟨_, h1, _⟩
  · exact absurd h1 (not_erased (pack_first n k l s data))
  · obtain ⟨a, c, e1, e2, e3⟩ := h1
    obtain ⟨f1, f2, f3, f4, f5⟩ := pack_fields h
    rw [f1, f2, f3, f4] at e1
    rw [f5] at e2
    exact ⟨a, c, e1, e2, e3⟩
  · exact absurd (valid_pack h) h1
/-- A page that is no frame. -/
theorem open_none (a : Option Addr) (p : List Nat) (cap : Nat) (w : World) (hA : AllB p) (hL : Lies w a p) (hcap : p.length ≤ cap) (hm : p.length ≤ 9223372036854775807) (hE : ¬ ErasedP p) (hV : ¬ ValidP p) :
    Calls (Al.progOf Tryd.prog) 9 #[.slice a p.length cap] w fun e w' => e = .returned (.tuple #[F0, .int .i64 3]) ∧ Below w.heap.size w w' := by
  refine (open_any a p cap w hA hL hcap hm).mono fun e w' hh => ?_
  rcases hh with ⟨h1, _⟩ | ⟨_, h1, _⟩ | ⟨_, _, h1⟩
  · exact absurd h1 hE
  · exact absurd h1 hV
  · exact h1
def Owns (w : World) (base g cap : Nat) (ys : List Nat) : Prop := w.ownsRow base 5 1 (.slice (some ⟨g, 0, none⟩) ys.length cap) ys.length (ys.map bv)
theorem Owns.cell {w : World} {base g cap : Nat} {ys : List Nat} (h : Owns w base g cap ys) (j : Nat) (hj : j < ys.length) : w.cell? ⟨g, j, none⟩ = some (.int .u8 ((ys[j]?.getD 0 : Nat) : Int)) := by
  have := World.ownsRow.cellAt h j (by omega)
  rw [this, List.getElem?_map, List.getElem?_eq_getElem hj]
  rfl
theorem Owns.free {w : World} {base g cap : Nat} {ys : List Nat} (h : Owns w base g cap ys) (j : Nat) : w.frozen? ⟨g, j, none⟩ = false := World.ownsRow.frozenAt h j
theorem Owns.le {w : World} {base g cap : Nat} {ys : List Nat} (h : Owns w base g cap ys) : base ≤ g ∧ g < w.heap.size := World.ownsRow.lt h g rfl
theorem Owns.set {w : World} {base g cap : Nat} {ys : List Nat} (h : Owns w base g cap ys) (j y : Nat) : Owns (w.setCell ⟨g, j, none⟩ (.int .u8 (y : Int))) base g cap (ys.set j y) := by
  have := (World.ownsRow.stored h j (bv y)).1
  unfold Owns
  rw [List.map_set, List.length_set]
  exact this
theorem Owns.below {w w' : World} {base g cap B : Nat} {ys : List Nat} (h : Owns w base g cap ys) (hb : Below B w w') (hg : g < B) : Owns w' base g cap ys := by
  obtain ⟨h1, h2⟩ := h
  refine ⟨h1, ?_⟩
  rcases h2 with ⟨h2, _⟩ | ⟨g', cap', cur, hv, hb', hh, r⟩
  · simp at h2
  · have e : g = g' := by simp at hv; exact hv.1
    subst e
    exact Or.inr ⟨g, cap', cur, hv, hb', by rw [hb.block g hg]; exact hh, r⟩
theorem Owns.lies {w : World} {base g cap : Nat} {ys : List Nat} (h : Owns w base g cap ys) : Lies w (some ⟨g, 0, none⟩) ys :=
  Or.inr ⟨g, 0, rfl, fun i hi => by rw [Nat.zero_add]; exact h.cell i hi⟩
theorem owns_form {w : World} {base n : Nat} {v : Value} {ys : List Nat} (h : w.ownsRow base 5 1 v n (ys.map bv)) (hv : ¬ v = .slice none 0 0) : ∃ g cap, v = .slice (some ⟨g, 0, none⟩) ys.length cap ∧ Owns w base g cap ys := by
  have hn : ys.length = n := by have := h.1; simpa using this
  subst hn
  rcases h.2 with ⟨h2, _⟩ | ⟨g, cap, cur, h2, r⟩
  · exact absurd h2 hv
  · refine ⟨g, cap, h2, ?_⟩
    unfold Owns
    rw [← h2]
    exact h
theorem owns_empty (w : World) (base : Nat) (hb : base ≤ w.heap.size) : (w.alloc (.cells #[] 5)).ownsRow base 5 1 (.slice (some ⟨w.heap.size, 0, none⟩) 0 0) 0 [] :=
  World.ownsRow_lit w #[] 0 hb (by decide) rfl
theorem lies_alloc {w : World} {a : Option Addr} {bs : List Nat} (h : Lies w a bs) (o : Obj) : Lies (w.alloc o) a bs := h.below ((Below.refl _ _).alloc (Nat.le_refl _) o)
def TurnPost (w w' : World) (e : Ending) (xs ys : List Nat) : Prop :=
  ∃ g1 c1 g2 c2, e = .returned (.tuple #[.slice (some ⟨g1, 0, none⟩) xs.length c1, .slice (some ⟨g2, 0, none⟩) ys.length c2]) ∧ Owns w' w.heap.size g1 c1 xs ∧ Owns w' w.heap.size g2 c2 ys ∧ Below w.heap.size w w'
theorem Owns.base {w : World} {base base' g cap : Nat} {ys : List Nat} (h : Owns w base g cap ys) (hb : base' ≤ base) : Owns w base' g cap ys := by
  obtain ⟨h1, h2⟩ := h
  refine ⟨h1, ?_⟩
  rcases h2 with h2 | ⟨g', cap', cur, hv, hb', r⟩
  · exact Or.inl h2
  · exact Or.inr ⟨g', cap', cur, hv, by omega, r⟩
theorem below_copy {w w1 : World} {v : Value} (hv : v.ownBlock = some w.heap.size) (h : (w.alloc (.cells #[] 5)).grownBy w1 v.ownBlock) : Below w.heap.size w w1 :=
  ((Below.refl _ _).alloc (Nat.le_refl _) _).grown h (by simp) (fun k e => by rw [hv] at e; cases e; exact Nat.le_refl _)
theorem size_copy {w w1 : World} {v : Option Nat} (h : (w.alloc (.cells #[] 5)).grownBy w1 v) : w.heap.size < w1.heap.size := by
  have := h.size
  simp at this
  omega
theorem xor_bit8 (B r : Nat) (hB : B < 256) (hr : r < 8) : bits .xor .u8 (B : Int) (2 ^ r % 256) = ((B ^^^ 2 ^ r : Nat) : Int) := by
  have hp : 2 ^ r < 256 := Nat.pow_lt_pow_of_lt (a := 2) (m := 8) (by decide) hr
  have e : (2 : Int) ^ r % 256 = ((2 ^ r : Nat) : Int) := by
    rw [show (2 : Int) ^ r = ((2 ^ r : Nat) : Int) by simp]; generalize 2 ^ r = P at hp ⊢; omega
  rw [e, u8_xor_nat B _ hB hp]
theorem Owns.other {w : World} {base g cap g' o : Nat} {ys : List Nat} (h : Owns w base g cap ys) (hne : ¬ g = g') (u : Value) : Owns (w.setCell ⟨g', o, none⟩ u) base g cap ys := by
  obtain ⟨h1, h2⟩ := h
  refine ⟨h1, ?_⟩
  rcases h2 with ⟨h2, _⟩ | ⟨g2, cap', cur, hv, hb', hh, r⟩
  · simp at h2
  · have e : g = g2 := by simp at hv; exact hv.1
    subst e
    exact Or.inr ⟨g, cap', cur, hv, hb', by rw [Below.heap_setCell _ _ _ _ hne]; exact hh, r⟩
theorem Owns.drew {w : World} {base g cap : Nat} {ys : List Nat} (h : Owns w base g cap ys) : Owns w.drew base g cap ys := World.ownsRow.drew h
end Go.Proofs.YtobpjijdebnaoaaDoorQ
