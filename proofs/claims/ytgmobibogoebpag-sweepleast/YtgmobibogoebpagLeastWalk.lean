/-
  What the call of SweepLeast gives: true.
-/
import Derived.Test.YtgmobibogoebpagFore
import Derived.Test.YtgmobibogoebpagPlan
namespace Go.Proofs.Ytgmobibogoebpag
open Go.RowKit
set_option linter.unusedVariables false

/-- WHAT A PLAN IS. -/
structure PT (l : List Bl) (p need : Int) (t : List Nat) : Prop where
  h64 : l.length ≤ 64
  p1 : 1 ≤ p
  p2 : p ≤ 4096
  gd : allG l p
  tm : ∀ x ∈ t, can l p x
  tl : t.length ≤ 64
  ts : need ≤ sumG l p t
  few : ∀ s : List Nat, s.Nodup → (∀ i ∈ s, i < l.length ∧ (gB l i).used = true) → s.length < t.length → sumG l p s < need
theorem plan_two {w w' : World} {e : Ending} {l : List Bl} {p need : Int} (h : PlanPost w w' e l p need) : (∃ f : Nat, e = .returned (.tuple #[.slice none 0 0, .iface 40 (.int .i64 (f : Int))])) ∨ ∃ (t : List Nat) (a : Option Addr) (cap : Nat), PT l p need t ∧ e = .returned (.tuple #[.slice a t.length cap, .nilIface]) ∧ OwnI w' w.heap.size a cap t := by
  rcases h with ⟨f, _, h2, h3⟩ | ⟨h1, o, ho, ⟨_, h3⟩ | ⟨h2, a, cap, h3, h4⟩⟩
  · exact Or.inl ⟨f, by rw [h3, errI_ne h2]⟩
  · exact Or.inl ⟨4, by rw [h3, errI_ne (by decide)]⟩
  · obtain ⟨q1, q2, q3, _, q5⟩ := fault_zero h1
    refine Or.inr ⟨_, a, cap, ⟨q1, q2, q3, q5, fun x hx => (ho.1 x).1 (takeP_mem hx), ?_, h2, fun s hs hu hl => ?_⟩, h3, h4⟩
    · have := takeP_len l p need 0 o
      have := ho.len
      omega
    · have g1 := greedy p o l ho (fun i hi => (q5 i hi).2.1) s hs hu
      have g2 := takeP_few l p need o 0 s.length hl
      omega
/-- NUMBERS LIE AT a. -/
def IL (w : World) (a : Option Addr) (xs : List Int) : Prop := xs = [] ∨ ∃ g off, a = some ⟨g, off, none⟩ ∧ ∀ i, i < xs.length → w.cell? ⟨g, off + i, none⟩ = some (.int .i64 (xs[i]?.getD 0)) ∧ -9223372036854775808 ≤ xs[i]?.getD 0 ∧ xs[i]?.getD 0 ≤ 9223372036854775807
/-- Where the first look stands. -/
def FS (w wr : World) (l : List Bl) (p : Int) (t : List Nat) (i : Nat) (won : Int) : Prop := wr = w ∧ won = sumG l p (t.take i) ∧ 0 ≤ won ∧ won ≤ i * 4096
/-- Where another choice stands. -/
structure KS (w wr : World) (base : Nat) (l : List Bl) (p : Int) (t : List Nat) (ta : Option Addr) (ca : Nat) (tk : List Nat) (ot : Int) : Prop where
  bel : Below w.heap.size w wr
  ge : w.heap.size ≤ base
  sz : base ≤ wr.heap.size
  own : OwnI wr base ta ca tk
  nd : tk.Nodup
  us : ∀ i ∈ tk, i < l.length ∧ (gB l i).used = true
  wn : ot = sumG l p tk
  ln : t.length = 0 ∨ tk.length < t.length
  o0 : 0 ≤ ot
  o1 : ot ≤ tk.length * 4096
theorem KS.turn {w wr w' : World} {base : Nat} {l : List Bl} {p need : Int} {t : List Nat} {ta ta' : Option Addr} {ca ca' k : Nat} {tk : List Nat} {ot : Int} (h : KS w wr base l p t ta ca tk ot) (hP : PT l p need t) (hK : Keep (blk ta) wr w') (hO : OwnI w' base ta' ca' (tk ++ [k])) (hk : k < l.length) (hu : (gB l k).used = true) (hn : ¬ k ∈ tk) (hl : ¬ t.length ≤ tk.length + 1) : KS w w' base l p t ta' ca' (tk ++ [k]) (ot + (p - (gB l k).live)) := by
  have hg := hP.gd k hk
  have hp1 := hP.p1
  have hp2 := hP.p2
  refine ⟨h.bel.trans (hK.below h.bel.size (fun b hb => by have := (h.own.blk hb).1; have := h.ge; omega)), h.ge, Nat.le_trans h.sz hK.size, hO, ?_, ?_, ?_, ?_, ?_, ?_⟩
  · rw [List.nodup_append]
    refine ⟨h.nd, by simp, fun a ha b hb e => ?_⟩
    simp at hb
    subst hb
    subst e
    exact hn ha
  · intro i hi
    rcases List.mem_append.1 hi with hi | hi
    · exact h.us i hi
    · simp at hi
      subst hi
      exact ⟨hk, hu⟩
  · rw [sumG_app, ← h.wn]
    simp [sumG, gain]
  · rw [List.length_append, List.length_singleton]
    omega
  · have := h.o0
    have := hg.2.1
    omega
  · have := h.o1
    have := hg.1
    rw [List.length_append, List.length_singleton]
    omega
theorem KS.few {w wr : World} {base : Nat} {l : List Bl} {p need : Int} {t : List Nat} {ta : Option Addr} {ca : Nat} {tk : List Nat} {ot : Int} (h : KS w wr base l p t ta ca tk ot) (hP : PT l p need t) (ht : ¬ t.length = 0) : ot < need := by
  rw [h.wn]
  exact hP.few tk h.nd h.us (h.ln.resolve_left ht)
theorem KS.len {w wr : World} {base : Nat} {l : List Bl} {p need : Int} {t : List Nat} {ta : Option Addr} {ca : Nat} {tk : List Nat} {ot : Int} (h : KS w wr base l p t ta ca tk ot) (hP : PT l p need t) : tk.length ≤ 64 := Nat.le_trans (nodup_len _ tk h.nd (fun i hi => (h.us i hi).1)) hP.h64
/-- Whether it is there already. -/
def ZS (w wr : World) (tk : List Nat) (k q : Nat) (tw : Bool) : Prop := wr = w ∧ (tw = true ↔ ∃ j, j < q ∧ tk[j]?.getD 0 = k)
theorem ZS.zero (w : World) (tk : List Nat) (k : Nat) : ZS w w tk k 0 false := ⟨rfl, ⟨fun h => (by cases h), fun ⟨j, hj, _⟩ => absurd hj (Nat.not_lt_zero _)⟩⟩
theorem mem_at {tk : List Nat} {k : Nat} : k ∈ tk ↔ ∃ j, j < tk.length ∧ tk[j]?.getD 0 = k := by
  constructor
  · intro h
    obtain ⟨j, hj, e⟩ := List.getElem_of_mem h
    exact ⟨j, hj, by rw [List.getElem?_eq_getElem hj]; exact e⟩
  · rintro ⟨j, hj, e⟩
    rw [List.getElem?_eq_getElem hj] at e
    exact e ▸ List.getElem_mem hj
theorem take_snoc' {o : List Nat} {k : Nat} (h : k < o.length) : o.take (k + 1) = o.take k ++ [o[k]?.getD 0] := by
  rw [List.take_add_one, List.getElem?_eq_getElem h]
  rfl
set_option maxRecDepth 100000 in
set_option maxHeartbeats 16000000 in
theorem least_nosome (g off cap : Nat) (l : List Bl) (p need : Int) (sa : Option Addr) (cs : Nat) (w : World) (h0 : 0 < l.length) (h24 : l.length * 24 ≤ 140737488355328) (hat : ∀ i, i < l.length → BlAt w g off i (gB l i)) :
    Calls Try.prog 3 #[.slice (some ⟨g, off, none⟩) l.length cap, .int .i64 p, .int .i64 need, .slice sa 0 cs] w fun e w' => e = .returned (.bool true) ∧ Below w.heap.size w w' := by
  have HA : Hid (∀ wr, Below w.heap.size w wr → ∀ i, i < l.length → BlAt wr g off i (gB l i)) := fun wr hb i hi => (hat i hi).keep (S := fun _ => False) (Keep.of_below hb) (fun e => e)
  have HF : Hid (Calls Try.prog 5 #[.slice (some ⟨w.heap.size, 0, none⟩) 2 2, .int .i64 4] (w.alloc (.cells #[.bool true, .int .i64 2, .int .i64 0, .bool true, .int .i64 1, .int .i64 0] 29)) fun e w' => e = .returned (.tuple #[.int .i64 1, .nilIface]) ∧ Below w.heap.size w w') := fore_any w
  have HBo : Hid (∀ wr, Below w.heap.size w wr → Calls Try.prog 6 #[.slice (some ⟨g, off, none⟩) l.length cap] wr fun e w' => BothPost wr w' e l) := fun wr hb => both_some g off cap l wr h24 (HA.out wr hb)
  have hl0 : (0 : Int) < (l.length : Int) := by omega
  clear hat h24
  go_enter Try.func3, Try.ntmps3
  go_wp2_with fail
  refine HF.out.mono ?_
  rintro e w1 ⟨rfl, hb1⟩
  have HB1 : Hid (Below w.heap.size w w1) := hb1
  have H1 := HBo.out w1 hb1
  clear hb1 HF HBo
  go_wp2_with fail
  refine H1.mono ?_
  rintro e w2 ⟨am, cm, rfl, hm, hb2⟩
  have HB2 : Hid (Below w.heap.size w w2) := HB1.out.trans (hb2.mono HB1.out.size)
  have H2 := plan_any am cm l p need w2 hm.bl
  clear hb2 hm H1 HB1
  go_wp2_with fail
  refine H2.mono ?_
  rintro e w3 ⟨hpl, hb3⟩
  have HB3 : Hid (Below w.heap.size w w3) := HB2.out.trans (hb3.mono HB2.out.size)
  have hpl2 := plan_two hpl
  clear H2 hpl hb3
  rcases hpl2 with ⟨f, rfl⟩ | ⟨t, pa, cp, hPT, rfl, hOP⟩
  · go_wp2
    go_ret
    exact ⟨rfl, HB3.out⟩
  · have HPT : Hid (PT l p need t) := hPT
    have HOP : Hid (OwnI w3 w2.heap.size pa cp t) := hOP
    have htl64 : t.length ≤ 64 := hPT.tl
    have hp1 := hPT.p1
    have hp2 := hPT.p2
    have hl64 := hPT.h64
    obtain ⟨B, hBB⟩ : ∃ B, Hid (B = w3.heap.size) := ⟨_, rfl⟩
    have HK0 : Hid (KS w w3 B l p t none 0 [] 0) := ⟨HB3.out, by rw [hBB.out]; exact HB3.out.size, by rw [hBB.out]; exact Nat.le_refl _, OwnI.nil _ _, List.nodup_nil, fun i hi => absurd hi (by simp), rfl, by by_cases h : t.length = 0; (exact Or.inl h); exact Or.inr (by simp; omega), Int.le_refl _, by simp⟩
    clear hPT hOP HB2
    by_cases ht0 : t.length = 0
    · have hts : need ≤ 0 := by
        have e : t = [] := List.length_eq_zero_iff.1 ht0
        have := HPT.out.ts
        rw [e] at this
        exact this
      have hns : ¬ (0 : Int) < need := by omega
      clear HOP
      go_wp2
      go_loopw [13, 14] (fun s13 j wr => s13 = .int .i64 0 ∧ j = .int .i64 0 ∧ wr = w3) (fun _ _ _ => 0)
      case atStart => exact ⟨rfl, rfl, rfl⟩
      case round =>
        obtain ⟨rfl, rfl, rfl⟩ := hrel
        have hti0 : (t.length : Int) = 0 := by omega
        obtain ⟨wp, rfl⟩ : ∃ wp, wp = wr := ⟨_, rfl⟩
        go_wp2
        go_loopw [15, 16, 17] (fun s15 s16 j wr => s15 = .slice none 0 0 ∧ s16 = .int .i64 0 ∧ j = .int .i64 0 ∧ wr = wp) (fun _ _ _ _ => 0)
        case atStart => exact ⟨rfl, rfl, rfl, rfl⟩
        case round =>
          obtain ⟨rfl, rfl, rfl, rfl⟩ := hrel
          have hK : Hid (KS w wr B l p t none 0 [] 0) := HK0
          clear HK0
          by_cases ht : t.length = 0
          · have hti : (t.length : Int) = 0 := by omega
            have HB : Hid (Below w.heap.size w wr) := hK.out.bel
            clear hK ht
            go_wp2
            go_ret
            exact ⟨rfl, HB.out⟩
          · have hti : ¬ (t.length : Int) = 0 := by omega
            have hot := hK.out.few HPT.out ht
            have HB : Hid (Below w.heap.size w wr) := hK.out.bel
            clear hK ht
            go_wp2
            go_ret
            exact ⟨rfl, HB.out⟩
    · obtain ⟨gp, rfl⟩ := HOP.out.some_of (i := 0) (by omega)
      go_wp2
      go_loopw [13, 14] (fun s13 j wr => ∃ (i : Nat) (won : Int), i ≤ t.length ∧ j = .int .i64 i ∧ s13 = .int .i64 won ∧ Hid (FS w3 wr l p t i won)) (fun _ j _ => t.length - (intOf j).toNat)
      case atStart => exact ⟨0, 0, Nat.zero_le _, rfl, rfl, (⟨rfl, by simp [sumG], Int.le_refl _, by simp⟩ : FS w3 w3 l p t 0 0)⟩
      case round =>
        obtain ⟨i, won, hi, rfl, rfl, hS⟩ := hrel
        obtain ⟨rfl, hs1, hs2, hs3⟩ := hS.out
        clear hS
        by_cases hlt : i < t.length
        · have d0 := HOP.out.cell hlt
          have hmem := HPT.out.tm _ (at_mem hlt)
          have HX : Hid (∀ y, t[i]?.getD 0 = y → 0 ≤ p - (gB l y).live → p - (gB l y).live ≤ 4096 → FS wr wr l p t (i + 1) (won + (p - (gB l y).live))) := fun y hy h1 h2 => ⟨rfl, by rw [take_snoc hlt, sumG_app, ← hs1, hy]; simp [sumG, gain], by omega, by omega⟩
          obtain ⟨y, hy⟩ : ∃ y, Hid (t[i]?.getD 0 = y) := ⟨_, rfl⟩
          rw [hy.out] at d0 hmem
          have HX2 := HX.out y hy.out
          obtain ⟨m1, m2, m3⟩ := hmem
          have hbl := HPT.out.gd y m1
          have hb1 := hbl.1
          obtain ⟨c0, c1, _⟩ := HA.out wr HB3.out y m1
          rw [m2] at c0
          have HX3 : Hid (FS wr wr l p t (i + 1) (won + (p - (gB l y).live))) := HX2 (by omega) (by omega)
          have i0 : (0 : Int) ≤ (i : Int) := by omega
          have i1 : (i : Int) < (t.length : Int) := by omega
          have y0 : (0 : Int) ≤ (y : Int) := by omega
          have y1 : (y : Int) < (l.length : Int) := by omega
          have y2 : ¬ (y : Int) < 0 := by omega
          have y3 : ¬ (l.length : Int) ≤ (y : Int) := by omega
          have hwb : won ≤ 262144 := by omega
          have hwe : won + p - (gB l y).live = won + (p - (gB l y).live) := by omega
          clear HX HX2 hy hs1 m2 hbl hs3
          go_wp2
          exact ⟨⟨i + 1, won + (p - (gB l y).live), by omega, by go_num, by rw [← hwe]; try go_num, HX3.out⟩, by simp [intOf]; omega⟩
        · obtain rfl : i = t.length := by omega
          clear hlt
          have hns : ¬ won < need := by
            have := HPT.out.ts
            rw [List.take_length] at hs1
            omega
          clear hs1 hs2 hs3 HOP
          obtain ⟨wp, rfl⟩ : ∃ wp, wp = wr := ⟨_, rfl⟩
          go_wp2
          go_loopw [15, 16, 17] (fun s15 s16 j wr => s15 = .slice none 0 0 ∧ s16 = .int .i64 0 ∧ j = .int .i64 0 ∧ wr = wp) (fun _ _ _ _ => 0)
          case atStart => exact ⟨rfl, rfl, rfl, rfl⟩
          case round =>
            obtain ⟨rfl, rfl, rfl, rfl⟩ := hrel
            have hK : Hid (KS w wr B l p t none 0 [] 0) := HK0
            clear HK0
            by_cases ht : t.length = 0
            · have hti : (t.length : Int) = 0 := by omega
              have HB : Hid (Below w.heap.size w wr) := hK.out.bel
              clear hK ht
              go_wp2
              go_ret
              exact ⟨rfl, HB.out⟩
            · have hti : ¬ (t.length : Int) = 0 := by omega
              have hot := hK.out.few HPT.out ht
              have HB : Hid (Below w.heap.size w wr) := hK.out.bel
              clear hK ht
              go_wp2
              go_ret
              exact ⟨rfl, HB.out⟩
end Go.Proofs.Ytgmobibogoebpag
