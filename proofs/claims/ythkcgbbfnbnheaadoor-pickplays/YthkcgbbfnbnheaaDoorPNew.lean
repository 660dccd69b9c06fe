/-
  What the call of pick.New gives: a picker, in memory.
-/
import Derived.Test.YthkcgbbfnbnheaaDoorInts
namespace Go.Proofs.YthkcgbbfnbnheaaDoor
open Go.RowKit
set_option linter.unusedVariables false

/-- No weight. -/
def BadX (x : Int) : Prop := x < 1 ∨ 16 < x
set_option maxHeartbeats 800000 in
theorem weight_bad (x : Int) (w : World) (h : BadX x) : Calls Tryd.prog 10 #[.int .i64 x] w fun e w' => e = .returned (.bool true) ∧ w = w' := by
  unfold BadX at h
  by_cases h1 : x < 1
  · go_enter Tryd.func10, Tryd.ntmps10
    go_wp2
    go_ret
    exact ⟨rfl, rfl⟩
  · have h2 : 16 < x := by omega
    clear h
    go_enter Tryd.func10, Tryd.ntmps10
    go_wp2
    go_ret
    exact ⟨rfl, rfl⟩
set_option maxHeartbeats 800000 in
theorem weight_good (x : Int) (w : World) (h : ¬ BadX x) : Calls Tryd.prog 10 #[.int .i64 x] w fun e w' => e = .returned (.bool false) ∧ w = w' := by
  unfold BadX at h
  have h1 : ¬ x < 1 := by omega
  have h2 : ¬ 16 < x := by omega
  clear h
  go_enter Tryd.func10, Tryd.ntmps10
  go_wp2
  go_ret
  exact ⟨rfl, rfl⟩
/-- Some weight is none. -/
def SomeBad (l : List Int) : Prop := ∃ i, i < l.length ∧ BadX (gI l i)
set_option maxHeartbeats 1600000 in
theorem index_any (a : Option Addr) (cap L : Nat) (l : List Int) (w : World) (hl : l.length = L) (hL : L ≤ 8) (h1 : IL w a l) :
    Calls Tryd.prog 15 #[.slice a L cap, .func (.func 10) #[] #[]] w fun e w' => (∃ r : Int, e = .returned (.int .i64 r) ∧ (0 ≤ r ↔ SomeBad l)) ∧ w = w' := by
  have HA : Hid (∀ i, i < L → ∃ g o, a = some ⟨g, o, none⟩ ∧ w.cell? ⟨g, o + i, none⟩ = some (.int .i64 (gI l i))) := fun i hi => by
    obtain ⟨g, o, ha, hc⟩ := h1.some_of (i := i) (by omega)
    exact ⟨g, o, ha, hc i (by omega)⟩
  have HL : Hid (l.length = L) := hl
  clear h1 hl
  go_enter Tryd.func15, Tryd.ntmps15
  go_wp2
  go_loopw [8] (fun j wq => ∃ (i : Nat), i ≤ L ∧ j = .int .i64 i ∧ Hid (w = wq ∧ ∀ k, k < i → ¬ BadX (gI l k))) (fun j _ => L - (intOf j).toNat)
  case atStart => exact ⟨0, Nat.zero_le _, rfl, ⟨rfl, fun k hk => by omega⟩⟩
  case round =>
    obtain ⟨i, hi, rfl, hR⟩ := hrel
    by_cases hlt : i < L
    · obtain ⟨g, o, rfl, c1⟩ := HA.out i hlt
      obtain ⟨hw, hz⟩ := hR.out
      rw [hw] at c1
      have HZ : Hid (∀ k, k < i → ¬ BadX (gI l k)) := hz
      clear hz
      by_cases hb : BadX (gI l i)
      · have HC := weight_bad (gI l i) wr hb
        have HF : Hid (SomeBad l ∧ w = wr) := ⟨⟨i, by rw [HL.out]; exact hlt, hb⟩, hw⟩
        clear hb hw hR
        generalize gI l i = x at *
        go_wp2_with fail
        refine HC.mono ?_
        rintro e w2 ⟨rfl, rfl⟩
        go_wp2
        go_ret
        exact ⟨⟨_, rfl, ⟨fun _ => HF.out.1, fun _ => by omega⟩⟩, HF.out.2⟩
      · have HC := weight_good (gI l i) wr hb
        have HF : Hid (w = wr ∧ ∀ k, k < i + 1 → ¬ BadX (gI l k)) := ⟨hw, fun k hk => by
          by_cases e : k = i
          · rw [e]; exact hb
          · exact HZ.out k (by omega)⟩
        clear hb hw hR
        generalize gI l i = x at *
        go_wp2_with fail
        refine HC.mono ?_
        rintro e w2 ⟨rfl, rfl⟩
        go_wp2
        exact ⟨⟨i + 1, by omega, by go_num, HF.out⟩, by simp [intOf]; omega⟩
    · obtain rfl : i = L := by omega
      go_wp2
      go_ret
      refine ⟨⟨_, rfl, ⟨fun h => absurd h (by decide), fun ⟨k, hk, hb⟩ => ?_⟩⟩, hR.out.1⟩
      exact (hR.out.2 k (by rw [← HL.out]; exact hk) hb).elim
set_option maxHeartbeats 800000 in
theorem contains_any (a : Option Addr) (cap L : Nat) (l : List Int) (w : World) (hl : l.length = L) (hL : L ≤ 8) (h1 : IL w a l) :
    Calls Tryd.prog 9 #[.slice a L cap, .func (.func 10) #[] #[]] w fun e w' => (∃ b : Bool, e = .returned (.bool b) ∧ (b = true ↔ SomeBad l)) ∧ w = w' := by
  have HF := index_any a cap L l w hl hL h1
  clear h1 hl
  go_enter Tryd.func9, Tryd.ntmps9
  go_wp2_with fail
  refine HF.mono ?_
  rintro e w2 ⟨⟨r, rfl, hr⟩, rfl⟩
  have HR : Hid (0 ≤ r ↔ SomeBad l) := hr
  clear hr
  go_wp2
  go_ret
  refine ⟨⟨_, rfl, ?_⟩, rfl⟩
  rw [← HR.out]
  simp
theorem ownI_empty (w : World) : OwnI (w.alloc (.cells #[] 3)) w.heap.size (some ⟨w.heap.size, 0, none⟩) 0 [] := by
  refine ⟨rfl, Or.inr ⟨w.heap.size, 0, #[], rfl, Nat.le_refl _, heap_alloc_new w _, by simp, by unfold maxLen; omega, by simp, by simp⟩⟩
set_option maxRecDepth 20000 in
set_option maxHeartbeats 800000 in
theorem cloneI_any (x : Addr) (cap L : Nat) (l : List Int) (w : World) (hl : l.length = L) (hL : L ≤ 8) (h1 : IL w (some x) l) :
    Calls Tryd.prog 11 #[.slice (some x) L cap] w fun e w' => (∃ a1 cap1, e = .returned (.slice a1 L cap1) ∧ OwnI w' w.heap.size a1 cap1 l) ∧ Below w.heap.size w w' := by
  have he : ∀ w : World, (binOp .eql 22 (.slice (some x) L cap) (.slice none 0 0)).run Tryd.prog w = .ok (.bool false) w := fun _ => rfl
  have HA : Hid (Below w.heap.size w (w.alloc (.cells #[] 3)) ∧ IL (w.alloc (.cells #[] 3)) (some x) l) := ⟨alloc_below' w _, h1.below (alloc_below' w _)⟩
  have HL : Hid (l.length = L ∧ L ≤ 8) := ⟨hl, hL⟩
  clear h1 hl hL
  go_enter Tryd.func11, Tryd.ntmps11
  go_wp2_with (at_builtin; refine app_stepI rfl (.tmp 5) (.tmp 6) rfl w.heap.size (some ⟨w.heap.size, 0, none⟩) 0 [] (by rfl) (ownI_empty w) (some x) L cap l HL.out.1 (by rfl) (fun e => by cases e) HA.out.2 l rfl (by rw [HL.out.1]; exact Nat.le_trans (Nat.mul_le_mul_right 8 HL.out.2) (by decide)) HA.out.1.size ?_)
  intro a1 c1 w1 hO hK
  have HR : Hid (OwnI w1 w.heap.size a1 c1 l ∧ Below w.heap.size w w1) := ⟨hO, HA.out.1.trans (hK.below HA.out.1.size (fun b hb => by obtain ⟨x, e, rfl⟩ := hb; cases e; exact Nat.le_refl _))⟩
  rw [HL.out.1]
  clear hO hK HA
  go_wp2
  go_ret
  exact ⟨⟨a1, c1, rfl, HR.out.1⟩, HR.out.2⟩
/-- A PICKER IN MEMORY: its weights, where it stands, its credit. -/
structure PK (T : TypeId) (w : World) (pb : Nat) (wa : Option Addr) (cap : Nat) (W : List Int) (a c : Nat) : Prop where
  st : Stc w pb T [.slice wa W.length cap, .int .i64 a, .int .i64 c]
  il : IL w wa W
  ab : ∀ b, blk wa b → b < w.heap.size → ¬ b = pb
  lt : a < W.length
  good : GoodW W
  cr : c ≤ 16
theorem PK.below {T : TypeId} {w w' : World} {pb cap a c : Nat} {wa : Option Addr} {W : List Int} (h : PK T w pb wa cap W a c) (hb : Below w.heap.size w w') : PK T w' pb wa cap W a c :=
  ⟨h.st.below hb, h.il.below hb, fun b hx hlt e => by
    subst e
    exact h.ab _ hx (heap_lt h.st) rfl, h.lt, h.good, h.cr⟩
theorem PK.keep {T : TypeId} {S : Nat → Prop} {w w' : World} {pb cap a c : Nat} {wa : Option Addr} {W : List Int} (h : PK T w pb wa cap W a c) (hk : Keep S w w') (hs : ¬ S pb) (hw : ∀ b, blk wa b → b < w.heap.size → ¬ S b) : PK T w' pb wa cap W a c :=
  ⟨h.st.keep hk hs, h.il.keep hk hw, fun b hx hlt e => by
    subst e
    exact h.ab _ hx (heap_lt h.st) rfl, h.lt, h.good, h.cr⟩
/-- What is wrong with weights: the number of the error (0: nothing). -/
def FaultW (l : List Int) (e : Nat) : Prop := (l.length = 0 ∧ e = 2) ∨ (8 < l.length ∧ e = 3) ∨ (1 ≤ l.length ∧ l.length ≤ 8 ∧ SomeBad l ∧ e = 1) ∨ (GoodW l ∧ e = 0)
theorem faultW_ex (l : List Int) : ∃ e, FaultW l e := by
  by_cases h0 : l.length = 0
  · exact ⟨2, Or.inl ⟨h0, rfl⟩⟩
  · by_cases h8 : 8 < l.length
    · exact ⟨3, Or.inr (Or.inl ⟨h8, rfl⟩)⟩
    · by_cases hb : SomeBad l
      · exact ⟨1, Or.inr (Or.inr (Or.inl ⟨by omega, by omega, hb, rfl⟩))⟩
      · refine ⟨0, Or.inr (Or.inr (Or.inr ⟨⟨by omega, by omega, fun i hi => ?_⟩, rfl⟩))⟩
        have : ¬ BadX (gI l i) := fun e => hb ⟨i, hi, e⟩
        unfold BadX at this
        omega
set_option maxHeartbeats 800000 in
theorem new_no (a : Option Addr) (cap L e0 : Nat) (l : List Int) (w : World) (hl : l.length = L) (hf : FaultW l e0) (h0 : ¬ e0 = 0) (h1 : IL w a l) (hM : L ≤ 9223372036854775807) :
    Calls Tryd.prog 4 #[.slice a L cap] w fun e w' => e = .returned (.tuple #[.pointer none, .iface 29 (.int .i64 e0)]) ∧ Below w.heap.size w w' := by
  have HB : Hid (Below w.heap.size w w) := Below.refl _ _
  rcases hf with ⟨h, rfl⟩ | ⟨h, rfl⟩ | ⟨h, h', hb, rfl⟩ | ⟨_, rfl⟩
  · obtain rfl : L = 0 := by omega
    clear h hl h1
    go_enter Tryd.func4, Tryd.ntmps4
    go_wp2
    go_ret2
    exact ⟨rfl, HB.out⟩
  · have t1 : ((L : Int) == 0) = false := by rw [beq_eq_false_iff_ne]; omega
    have t2 : (8 : Int) < (L : Int) := by omega
    clear h hl h1
    go_enter Tryd.func4, Tryd.ntmps4
    go_wp2
    go_ret2
    exact ⟨rfl, HB.out⟩
  · have t1 : ((L : Int) == 0) = false := by rw [beq_eq_false_iff_ne]; omega
    have t2 : ¬ (8 : Int) < (L : Int) := by omega
    have HC := contains_any a cap L l w hl (by omega) h1
    have HS : Hid (SomeBad l) := hb
    clear h h' hl h1 hb
    go_enter Tryd.func4, Tryd.ntmps4
    go_wp2_with fail
    refine HC.mono ?_
    rintro e w2 ⟨⟨b, rfl, hb⟩, rfl⟩
    obtain rfl : b = true := hb.2 HS.out
    clear hb HC
    go_wp2
    go_ret2
    exact ⟨rfl, HB.out⟩
  · exact (h0 rfl).elim
set_option maxHeartbeats 1600000 in
theorem new_yes (x : Addr) (cap L : Nat) (l : List Int) (w : World) (hl : l.length = L) (hf : GoodW l) (h1 : IL w (some x) l) :
    Calls Tryd.prog 4 #[.slice (some x) L cap] w fun e w' => ∃ pb wa cap1 c, e = .returned (.tuple #[.pointer (some ⟨pb, 0, none⟩), .nilIface]) ∧ PK 44 w' pb wa cap1 l 0 c ∧ (c : Int) = gI l 0 ∧ Below w.heap.size w w' ∧ w.heap.size ≤ pb ∧ (∀ b, blk wa b → w.heap.size ≤ b ∧ b < w'.heap.size) := by
  have hn := hf.1
  have h8 := hf.2.1
  have t1 : ((L : Int) == 0) = false := by rw [beq_eq_false_iff_ne]; omega
  have t2 : ¬ (8 : Int) < (L : Int) := by omega
  have t3 : 0 < L := by omega
  have hns : ¬ SomeBad l := fun ⟨i, hi, hb⟩ => by
    have := hf.2.2 i hi
    unfold BadX at hb
    omega
  obtain ⟨g, o, ex, hc⟩ := h1.some_of (i := 0) (by omega)
  obtain rfl : x = ⟨g, o, none⟩ := Option.some.inj ex
  obtain ⟨C, hC⟩ : ∃ C : Nat, gI l 0 = (C : Int) := ⟨(gI l 0).toNat, by have := hf.2.2 0 (by omega); omega⟩
  have hc0 : w.cell? ⟨g, o, none⟩ = some (.int .i64 (C : Int)) := by rw [← hC]; exact hc 0 (by omega)
  have HC := contains_any (some ⟨g, o, none⟩) cap L l w hl (by omega) h1
  have HD : Hid (∀ x, Calls Tryd.prog 11 #[.slice (some ⟨g, o, none⟩) L cap] (w.drewN x) fun e w' => ∃ a1 cap1, e = .returned (.slice a1 L cap1) ∧ OwnI w' w.heap.size a1 cap1 l ∧ Below w.heap.size w w' ∧ w'.cell? ⟨g, o, none⟩ = some (.int .i64 (C : Int))) := fun x => by
    have hb0 : Below w.heap.size w (w.drewN x) := below_drewN (Below.refl _ _) x
    have hs : (w.drewN x).heap.size = w.heap.size := by simp
    refine (cloneI_any ⟨g, o, none⟩ cap L l (w.drewN x) hl (by omega) (h1.below hb0)).mono ?_
    rintro e w' ⟨⟨a1, cap1, rfl, hO⟩, hb⟩
    rw [hs] at hO hb
    have hb1 : Below w.heap.size w w' := hb0.trans hb
    exact ⟨a1, cap1, rfl, hO, hb1, (hb1.cell (p := ⟨g, o, none⟩) (World.block_lt_of_cell? w _ hc0)).trans hc0⟩
  have HH : Hid (l.length = L ∧ GoodW l ∧ gI l 0 = (C : Int) ∧ ¬ SomeBad l ∧ w.cell? ⟨g, o, none⟩ = some (.int .i64 (C : Int))) := ⟨hl, hf, hC, hns, hc0⟩
  clear hn h8 hl hf h1 hns hc ex hC
  go_enter Tryd.func4, Tryd.ntmps4
  go_wp2_with fail
  refine HC.mono ?_
  rintro e w2 ⟨⟨b, rfl, hb⟩, rfl⟩
  obtain rfl : b = false := by
    cases b with
    | false => rfl
    | true => exact (HH.out.2.2.2.1 (hb.1 rfl)).elim
  clear hb HC
  have hcd : ∀ x, (w.drewN x).cell? ⟨g, o, none⟩ = some (.int .i64 (C : Int)) := fun x => by simpa using hc0
  go_upto_region 7 with fail
  go_region_held3 (fun w' => w'.cell? ⟨g, o, none⟩ = some (.int .i64 (C : Int))) (first | exact hc0 | exact hcd _ | assumption | go_keep) ((go_at_call 11; (first | refine (HD.out _).mono ?_ | refine (HD.out 0).mono ?_); rintro e w2 ⟨a1, cap1, rfl, hO, hb, hcw⟩))
  have HF : Hid (∀ x, PK 44 ((w2.drewN x).alloc (.cells #[.slice a1 L cap1, .int .i64 0, .int .i64 (C : Int)] 44)) w2.heap.size a1 cap1 l 0 C ∧ Below w.heap.size w ((w2.drewN x).alloc (.cells #[.slice a1 L cap1, .int .i64 0, .int .i64 (C : Int)] 44)) ∧ w.heap.size ≤ w2.heap.size ∧ ∀ b, blk a1 b → w.heap.size ≤ b ∧ b < ((w2.drewN x).alloc (.cells #[.slice a1 L cap1, .int .i64 0, .int .i64 (C : Int)] 44)).heap.size) := fun x => by
    obtain ⟨e1, e2, e3, _⟩ := HH.out
    have hs : (w2.drewN x).heap.size = w2.heap.size := by simp
    have hbx : Below w.heap.size w (w2.drewN x) := below_drewN hb x
    have hst : Stc ((w2.drewN x).alloc (.cells #[.slice a1 L cap1, .int .i64 0, .int .i64 (C : Int)] 44)) (w2.drewN x).heap.size 44 [.slice a1 L cap1, .int .i64 0, .int .i64 (C : Int)] := stc_new _ _ _ _ rfl
    rw [hs] at hst
    have hO2 : OwnI (w2.drewN x) w.heap.size a1 cap1 l := hO.below (below_drewN (Below.refl _ _) x)
    have hlt : ∀ b, blk a1 b → w.heap.size ≤ b ∧ b < w2.heap.size := fun b h => hO.blk h
    refine ⟨⟨by rw [e1]; exact hst, (hO2.below (alloc_below' _ _)).il, fun b h _ e => by have := hlt b h; omega, by have := e2.1; omega, e2, by have := e2.2.2 0 (by have := e2.1; omega); omega⟩, hbx.alloc hbx.size _, hb.size, fun b h => ?_⟩
    have := hlt b h
    rw [World.size_alloc, hs]
    omega
  clear hO hb hcw hcd hc0 HD
  go_wp2
  go_ret2
  exact ⟨_, a1, cap1, C, rfl, (HF.out 0).1, HH.out.2.2.1.symm, (HF.out 0).2.1, (HF.out 0).2.2.1, (HF.out 0).2.2.2⟩
end Go.Proofs.YthkcgbbfnbnheaaDoor
