/-
  What the call of sweep.Plan gives: which blocks are emptied till it is enough; what is wrong.
-/
import Derived.Test.YtgmobibogoebpagDoorChoose
namespace Go.Proofs.YtgmobibogoebpagDoor
open Go.RowKit
set_option linter.unusedVariables false

theorem drop_cons {o : List Nat} {k : Nat} (h : k < o.length) : o.drop k = (o[k]?.getD 0) :: o.drop (k + 1) := by
  rw [List.drop_eq_getElem_cons h, List.getElem?_eq_getElem h]
  rfl
theorem take_snoc {o : List Nat} {k : Nat} (h : k < o.length) : o.take (k + 1) = o.take k ++ [o[k]?.getD 0] := by
  rw [List.take_add_one, List.getElem?_eq_getElem h]
  rfl
theorem at_mem {o : List Nat} {k : Nat} (h : k < o.length) : o[k]?.getD 0 ∈ o := by
  rw [List.getElem?_eq_getElem h]
  exact List.getElem_mem h
/-- Where a plan stands. -/
structure PS (w wr : World) (base g2 cap2 : Nat) (l : List Bl) (p need : Int) (o : List Nat) (k : Nat) (a : Option Addr) (ca : Nat) (t : List Nat) (won : Int) : Prop where
  bel : Below w.heap.size w wr
  ge : w.heap.size ≤ base
  sz : base ≤ wr.heap.size
  ord : OwnI wr w.heap.size (some ⟨g2, 0, none⟩) cap2 o
  lt : g2 < base
  own : OwnI wr base a ca t
  tk : t = o.take k
  tp : takeP l p need 0 o = t ++ takeP l p need won (o.drop k)
  wn : won = sumG l p t
  w0 : 0 ≤ won
  w1 : won ≤ k * 4096
theorem PS.turn {w wr w' : World} {base g2 cap2 : Nat} {l : List Bl} {p need : Int} {o : List Nat} {k : Nat} {a a' : Option Addr} {ca ca' : Nat} {t : List Nat} {won : Int} (h : PS w wr base g2 cap2 l p need o k a ca t won) (hk : k < o.length) (hn : won < need) (hK : Keep (blk a) wr w') (hO : OwnI w' base a' ca' (t ++ [o[k]?.getD 0])) (hg : 0 ≤ gain l p (o[k]?.getD 0) ∧ gain l p (o[k]?.getD 0) ≤ 4096) : PS w w' base g2 cap2 l p need o (k + 1) a' ca' (t ++ [o[k]?.getD 0]) (won + gain l p (o[k]?.getD 0)) := by
  refine ⟨h.bel.trans (hK.below h.bel.size (fun b hb => by have := (h.own.blk hb).1; have := h.ge; omega)), h.ge, Nat.le_trans h.sz hK.size, h.ord.keep hK (fun b hb hb2 => ?_), h.lt, hO, ?_, ?_, ?_, ?_, ?_⟩
  · obtain ⟨x, e, rfl⟩ := hb
    cases e
    have hz : base ≤ g2 := (h.own.blk hb2).1
    have := h.lt
    omega
  · rw [take_snoc hk, ← h.tk]
  · rw [h.tp, drop_cons hk, takeP_more _ _ hn, List.append_assoc]
    rfl
  · rw [sumG_app, ← h.wn]
    simp [sumG]
  · have := h.w0; omega
  · have := h.w1; omega
/-- What comes of it. -/
def PlanEnd (w w' : World) (e : Ending) (l : List Bl) (p need : Int) (o : List Nat) : Prop :=
  (sumG l p (takeP l p need 0 o) < need ∧ e = .returned (.tuple #[.slice none 0 0, errI 4])) ∨ (need ≤ sumG l p (takeP l p need 0 o) ∧ ∃ a cap, e = .returned (.tuple #[.slice a (takeP l p need 0 o).length cap, .nilIface]) ∧ OwnI w' w.heap.size a cap (takeP l p need 0 o))
theorem PS.enough {w wr : World} {base g2 cap2 : Nat} {l : List Bl} {p need : Int} {o : List Nat} {k : Nat} {a : Option Addr} {ca : Nat} {t : List Nat} {won : Int} (h : PS w wr base g2 cap2 l p need o k a ca t won) (hn : need ≤ won) : PlanEnd w wr (.returned (.tuple #[.slice a t.length ca, .nilIface])) l p need o := by
  have e : takeP l p need 0 o = t := by rw [h.tp, takeP_stop _ hn, List.append_nil]
  refine Or.inr ⟨by rw [e, ← h.wn]; exact hn, a, ca, by rw [e], by rw [e]; exact h.own.base h.ge⟩
theorem PS.short {w wr : World} {base g2 cap2 : Nat} {l : List Bl} {p need : Int} {o : List Nat} {a : Option Addr} {ca : Nat} {t : List Nat} {won : Int} (h : PS w wr base g2 cap2 l p need o o.length a ca t won) (hn : won < need) : PlanEnd w wr (.returned (.tuple #[.slice none 0 0, errI 4])) l p need o := by
  have e : takeP l p need 0 o = t := by rw [h.tp, List.drop_length, takeP, List.append_nil]
  exact Or.inl ⟨by rw [e, ← h.wn]; exact hn, rfl⟩
set_option maxRecDepth 20000 in
set_option maxHeartbeats 4000000 in
theorem plan_some (g off cap : Nat) (l : List Bl) (p need : Int) (w : World) (h64 : l.length ≤ 64) (hp1 : 1 ≤ p) (hp2 : p ≤ 4096) (hG : allG l p) (hat : ∀ i, i < l.length → BlAt w g off i (gB l i))
    (hC : Calls Tryd.prog 10 #[.slice (some ⟨g, off, none⟩) l.length cap, .int .i64 p, .int .i64 need] w fun e w' => e = .returned .nilIface ∧ Below w.heap.size w w') :
    Calls Tryd.prog 5 #[.slice (some ⟨g, off, none⟩) l.length cap, .int .i64 p, .int .i64 need] w fun e w' => (∃ o, IsOrd l p o ∧ PlanEnd w w' e l p need o) ∧ Below w.heap.size w w' := by
  have HA : Hid (∀ wr, Below w.heap.size w wr → ∀ i, i < l.length → BlAt wr g off i (gB l i)) := fun wr hb i hi => (hat i hi).keep (S := fun _ => False) (Keep.of_below hb) (fun e => e)
  have HT : Hid (∀ wr, Below w.heap.size w wr → Calls Tryd.prog 11 #[.slice (some ⟨g, off, none⟩) l.length cap, .int .i64 p] wr fun e w' => TurnPost wr w' e l p) := fun wr hb => inTurn_any _ cap l p wr h64 (Or.inr ⟨g, off, rfl, HA.out wr hb⟩)
  have HG : Hid (∀ o, IsOrd l p o → o.length ≤ 64 ∧ ∀ i ∈ o, i < l.length ∧ 0 ≤ (gB l i).live ∧ (gB l i).live < p) := fun o ho => ⟨Nat.le_trans ho.len h64, fun i hi => by
    have h1 := (ho.1 i).1 hi
    exact ⟨h1.1, (hG i h1.1).1, h1.2.2⟩⟩
  have HH : Hid (l.length ≤ 64) := h64
  clear hat hG h64
  go_enter Tryd.func5, Tryd.ntmps5
  go_wp2_with fail
  refine hC.mono ?_
  rintro e w1 ⟨rfl, hb1⟩
  have HT1 := HT.out w1 hb1
  have HB1 : Hid (Below w.heap.size w w1) := hb1
  clear hb1 HT hC
  go_wp2_with fail
  refine HT1.mono ?_
  rintro e w2 ⟨a2, cap2, o, rfl, hO, hown, hb2⟩
  have HO : Hid (IsOrd l p o) := hO
  have HOL := (HG.out o hO).1
  have HOM : Hid (∀ i ∈ o, i < l.length ∧ 0 ≤ (gB l i).live ∧ (gB l i).live < p) := (HG.out o hO).2
  have HB2 : Hid (Below w.heap.size w w2) := HB1.out.trans (hb2.mono HB1.out.size)
  have HOw : Hid (OwnI w2 w1.heap.size a2 cap2 o) := hown
  have HS1 : Hid (w.heap.size ≤ w1.heap.size) := HB1.out.size
  clear hO hb2 HB1 HT1 HG hown
  by_cases hol : o.length = 0
  · obtain rfl : o = [] := List.length_eq_zero_iff.1 hol
    have HE1 : Hid (0 < need → PlanEnd w w2 (.returned (.tuple #[.slice none 0 0, errI 4])) l p need []) := fun h => Or.inl ⟨h, rfl⟩
    have HE2 : Hid (¬ 0 < need → PlanEnd w w2 (.returned (.tuple #[.slice none 0 0, .nilIface])) l p need []) := fun h => Or.inr ⟨by show need ≤ 0; omega, none, 0, rfl, OwnI.nil _ _⟩
    rw [errI_ne (by decide)] at HE1
    clear hol HOM HOL HOw
    go_wp2
    go_loopw [9, 10, 24] (fun s9 s10 j wr => s9 = .slice none 0 0 ∧ s10 = .int .i64 0 ∧ j = .int .i64 0 ∧ wr = w2) (fun _ _ _ _ => 0)
    case atStart => exact ⟨rfl, rfl, rfl, rfl⟩
    case round =>
      obtain ⟨rfl, rfl, rfl, rfl⟩ := hrel
      by_cases hn : 0 < need
      · go_wp2
        go_ret2
        exact ⟨⟨[], HO.out, HE1.out hn⟩, HB2.out⟩
      · go_wp2
        go_ret2
        exact ⟨⟨[], HO.out, HE2.out hn⟩, HB2.out⟩
  · obtain ⟨g2, rfl⟩ := HOw.out.some_of (i := 0) (by omega)
    have H0 : Hid (PS w w2 w2.heap.size g2 cap2 l p need o 0 none 0 [] 0) := ⟨HB2.out, HB2.out.size, Nat.le_refl _, HOw.out.base HS1.out, (HOw.out.blk ⟨_, rfl, rfl⟩).2, OwnI.nil _ _, by simp, by simp, rfl, Int.le_refl _, by simp⟩
    clear HOw HS1 HB2 hol
    go_wp2
    go_loopw [9, 10, 24] (fun s9 s10 j wr => ∃ (k : Nat) (a : Option Addr) (ca : Nat) (t : List Nat) (won : Int), k ≤ o.length ∧ j = .int .i64 k ∧ s9 = .slice a t.length ca ∧ s10 = .int .i64 won ∧ Hid (PS w wr w2.heap.size g2 cap2 l p need o k a ca t won)) (fun _ _ j _ => o.length - (intOf j).toNat)
    case atStart => exact ⟨0, none, 0, [], 0, Nat.zero_le _, rfl, rfl, rfl, H0.out⟩
    case round =>
      obtain ⟨k, a, ca, t, won, hk, rfl, rfl, rfl, hR⟩ := hrel
      clear H0
      by_cases hlt : k < o.length
      · have c0 := hR.out.ord.cell hlt
        obtain ⟨m1, m2, m3⟩ := HOM.out _ (at_mem hlt)
        by_cases hn : need ≤ won
        · have HE := hR.out.enough hn
          have HF : Hid (PlanEnd w wr (.returned (.tuple #[.slice a t.length ca, .nilIface])) l p need o ∧ Below w.heap.size w wr) := ⟨HE, hR.out.bel⟩
          have hnn : ¬ won < need := by omega
          clear HE hR m1 m2 m3
          go_wp2
          go_ret2
          exact ⟨⟨o, HO.out, HF.out.1⟩, HF.out.2⟩
        · have hn2 : won < need := by omega
          obtain ⟨x, hx⟩ : ∃ x, Hid (o[k]?.getD 0 = x) := ⟨_, rfl⟩
          rw [hx.out] at c0 m1 m2 m3
          have hw0 := hR.out.w0
          have hw1 : won ≤ 262144 := by have := hR.out.w1; omega
          have HTn : Hid (∀ w' a' ca', Keep (blk a) wr w' → OwnI w' w2.heap.size a' ca' (t ++ [x]) → PS w w' w2.heap.size g2 cap2 l p need o (k + 1) a' ca' (t ++ [x]) (won + (p - (gB l x).live)) ∧ BlAt w' g off x (gB l x)) := fun w' a' ca' h1 h2 => by
            have hz := hR.out.turn hlt hn2 h1 (by rw [hx.out]; exact h2) (by rw [hx.out]; unfold gain; omega)
            rw [hx.out] at hz
            exact ⟨hz, HA.out w' hz.bel x m1⟩
          have HOn : Hid (OwnI wr w2.heap.size a ca t ∧ w2.heap.size ≤ wr.heap.size ∧ t.length ≤ 4096) := ⟨hR.out.own, hR.out.sz, by rw [hR.out.tk, List.length_take]; omega⟩
          have x0 : (0 : Int) ≤ (x : Int) := by omega
          have x1 : (x : Int) < (l.length : Int) := by omega
          clear hR hx
          go_wp2_with (at_builtin; refine app_stepI rfl (.tmp 31) (.tmp 33) rfl wr w2.heap.size ca a t x (by rfl) (by simp [Act.eval]) HOn.out.1 HOn.out.2.2 HOn.out.2.1 ?_; intro g3 ca3 w3 ho3 hk3; obtain ⟨hps, ⟨_, d1, _⟩⟩ := HTn.out w3 _ _ hk3 ho3; have HF : Hid (PS w w3 w2.heap.size g2 cap2 l p need o (k + 1) (some ⟨g3, 0, none⟩) ca3 (t ++ [x]) (won + (p - (gB l x).live))) := hps; clear ho3 hk3 HTn hps HOn)
          exact ⟨⟨k + 1, some ⟨g3, 0, none⟩, ca3, t ++ [x], won + (p - (gB l x).live), by omega, by go_num, by simp, by go_num, HF.out⟩, by simp [intOf]; omega⟩
      · obtain rfl : k = o.length := by omega
        clear hlt
        by_cases hn : won < need
        · have HE := hR.out.short hn
          rw [errI_ne (by decide)] at HE
          have HF : Hid (PlanEnd w wr (.returned (.tuple #[.slice none 0 0, .iface 30 (.int .i64 ((4 : Nat) : Int))])) l p need o ∧ Below w.heap.size w wr) := ⟨HE, hR.out.bel⟩
          clear HE hR
          go_wp2
          go_ret2
          exact ⟨⟨o, HO.out, HF.out.1⟩, HF.out.2⟩
        · have HE := hR.out.enough (by omega)
          have HF : Hid (PlanEnd w wr (.returned (.tuple #[.slice a t.length ca, .nilIface])) l p need o ∧ Below w.heap.size w wr) := ⟨HE, hR.out.bel⟩
          clear HE hR
          go_wp2
          go_ret2
          exact ⟨⟨o, HO.out, HF.out.1⟩, HF.out.2⟩
set_option maxHeartbeats 1600000 in
theorem plan_none (a : Option Addr) (cap : Nat) (p need : Int) (w : World)
    (hC : Calls Tryd.prog 10 #[.slice a 0 cap, .int .i64 p, .int .i64 need] w fun e w' => e = .returned .nilIface ∧ Below w.heap.size w w') :
    Calls Tryd.prog 5 #[.slice a 0 cap, .int .i64 p, .int .i64 need] w fun e w' => (∃ o, IsOrd [] p o ∧ PlanEnd w w' e [] p need o) ∧ Below w.heap.size w w' := by
  have HT : Hid (∀ wr, Calls Tryd.prog 11 #[.slice a 0 cap, .int .i64 p] wr fun e w' => TurnPost wr w' e [] p) := fun wr => inTurn_none a cap p wr
  go_enter Tryd.func5, Tryd.ntmps5
  go_wp2_with fail
  refine hC.mono ?_
  rintro e w1 ⟨rfl, hb1⟩
  have HT1 := HT.out w1
  have HB1 : Hid (Below w.heap.size w w1) := hb1
  clear hb1 HT hC
  go_wp2_with fail
  refine HT1.mono ?_
  rintro e w2 ⟨a2, cap2, o, rfl, hO, hown, hb2⟩
  have hoe : o = [] := by
    cases o with
    | nil => rfl
    | cons x r => exact absurd ((hO.1 x).1 List.mem_cons_self).1 (Nat.not_lt_zero _)
  subst hoe
  have HO : Hid (IsOrd [] p []) := hO
  have HB2 : Hid (Below w.heap.size w w2) := HB1.out.trans (hb2.mono HB1.out.size)
  have HE1 : Hid (0 < need → PlanEnd w w2 (.returned (.tuple #[.slice none 0 0, errI 4])) [] p need []) := fun h => Or.inl ⟨h, rfl⟩
  have HE2 : Hid (¬ 0 < need → PlanEnd w w2 (.returned (.tuple #[.slice none 0 0, .nilIface])) [] p need []) := fun h => Or.inr ⟨by show need ≤ 0; omega, none, 0, rfl, OwnI.nil _ _⟩
  rw [errI_ne (by decide)] at HE1
  clear hO hb2 HB1 HT1 hown
  go_wp2
  go_loopw [9, 10, 24] (fun s9 s10 j wr => s9 = .slice none 0 0 ∧ s10 = .int .i64 0 ∧ j = .int .i64 0 ∧ wr = w2) (fun _ _ _ _ => 0)
  case atStart => exact ⟨rfl, rfl, rfl, rfl⟩
  case round =>
    obtain ⟨rfl, rfl, rfl, rfl⟩ := hrel
    by_cases hn : 0 < need
    · go_wp2
      go_ret2
      exact ⟨⟨[], HO.out, HE1.out hn⟩, HB2.out⟩
    · go_wp2
      go_ret2
      exact ⟨⟨[], HO.out, HE2.out hn⟩, HB2.out⟩
set_option maxHeartbeats 1600000 in
theorem plan_fault (a : Option Addr) (n cap f : Nat) (p need : Int) (w : World) (h0 : f ≠ 0)
    (hC : Calls Tryd.prog 10 #[.slice a n cap, .int .i64 p, .int .i64 need] w fun e w' => e = .returned (errI f) ∧ Below w.heap.size w w') :
    Calls Tryd.prog 5 #[.slice a n cap, .int .i64 p, .int .i64 need] w fun e w' => e = .returned (.tuple #[.slice none 0 0, errI f]) ∧ Below w.heap.size w w' := by
  rw [errI_ne h0] at hC ⊢
  go_enter Tryd.func5, Tryd.ntmps5
  go_wp2_with fail
  refine hC.mono ?_
  rintro e w1 ⟨rfl, hb1⟩
  have HB1 : Hid (Below w.heap.size w w1) := hb1
  clear hb1 hC
  go_wp2
  go_ret2
  exact ⟨rfl, HB1.out⟩
/-- What Plan tells. -/
def PlanPost (w w' : World) (e : Ending) (l : List Bl) (p need : Int) : Prop :=
  (∃ f, f = faultF l p (decide (need < 0)) ∧ f ≠ 0 ∧ e = .returned (.tuple #[.slice none 0 0, errI f])) ∨ (faultF l p (decide (need < 0)) = 0 ∧ ∃ o, IsOrd l p o ∧ PlanEnd w w' e l p need o)
theorem plan_any (a : Option Addr) (cap : Nat) (l : List Bl) (p need : Int) (w : World) (hB : BL w a l) :
    Calls Tryd.prog 5 #[.slice a l.length cap, .int .i64 p, .int .i64 need] w fun e w' => PlanPost w w' e l p need ∧ Below w.heap.size w w' := by
  have hC := check_any a cap l p need w hB
  by_cases h0 : faultF l p (decide (need < 0)) = 0
  · obtain ⟨h64, hp1, hp2, _, hG⟩ := fault_zero h0
    rw [h0, errI_zero] at hC
    rcases hB with rfl | ⟨g, off, rfl, hat⟩
    · exact (plan_none a cap p need w hC).mono fun e w' ⟨e1, e2⟩ => ⟨Or.inr ⟨h0, e1⟩, e2⟩
    · exact (plan_some g off cap l p need w h64 hp1 hp2 hG hat hC).mono fun e w' ⟨e1, e2⟩ => ⟨Or.inr ⟨h0, e1⟩, e2⟩
  · exact (plan_fault a l.length cap _ p need w h0 hC).mono fun e w' ⟨e1, e2⟩ => ⟨Or.inl ⟨_, rfl, h0, e1⟩, e2⟩
end Go.Proofs.YtgmobibogoebpagDoor
