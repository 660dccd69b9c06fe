/-
  What the calls of the document's CommandRead and DoneRead give.
-/
import Derived.Test.YteklankhffebaaaDoorMathCmd
import Derived.Test.YteklankhffebaaaDoorRNumC
namespace Go.Proofs.YteklankhffebaaaDoor
open Go.RowKit
set_option linter.unusedVariables false

theorem num1 {l : List Nat} {a : Nat} (h : a < l.length) : num (cut l a 1) = l[a]?.getD 0 := by
  unfold cut
  rw [List.drop_eq_getElem_cons h, List.getElem?_eq_getElem h]
  show l[a] + 256 * 0 = l[a]
  omega
theorem num2 {l : List Nat} {a : Nat} (h : a + 1 < l.length) : num (cut l a 2) = l[a]?.getD 0 + 256 * l[a + 1]?.getD 0 := by
  unfold cut
  rw [List.drop_eq_getElem_cons (by omega : a < l.length), List.drop_eq_getElem_cons h, List.getElem?_eq_getElem (by omega : a < l.length), List.getElem?_eq_getElem h]
  show l[a] + 256 * (l[a + 1] + 256 * 0) = l[a] + 256 * l[a + 1]
  omega
theorem num4 {l : List Nat} {a : Nat} (h : a + 3 < l.length) : num (cut l a 4) = l[a]?.getD 0 + 256 * l[a + 1]?.getD 0 + 65536 * l[a + 2]?.getD 0 + 16777216 * l[a + 3]?.getD 0 := by
  unfold cut
  rw [List.drop_eq_getElem_cons (by omega : a < l.length), List.drop_eq_getElem_cons (by omega : a + 1 < l.length), List.drop_eq_getElem_cons (by omega : a + 1 + 1 < l.length), List.drop_eq_getElem_cons (by omega : a + 1 + 1 + 1 < l.length), List.getElem?_eq_getElem (by omega : a < l.length), List.getElem?_eq_getElem (by omega : a + 1 < l.length), List.getElem?_eq_getElem (by omega : a + 2 < l.length), List.getElem?_eq_getElem h]
  show l[a] + 256 * (l[a + 1] + 256 * (l[a + 2] + 256 * (l[a + 3] + 256 * 0))) = l[a] + 256 * l[a + 1] + 65536 * l[a + 2] + 16777216 * l[a + 3]
  omega
theorem fitC_iff {l : List Nat} (hA : AllB l) : fitL CF l 6 ↔ num (cut l 8 8) ≤ 4611686018427387904 ∧ num (cut l 24 8) ≤ 4611686018427387904 ∧ num (cut l 32 8) ≤ 4611686018427387904 := by
  have hk : ∀ a k, num (cut l a k) < 2 ^ (8 * k) := fun a k => by
    have h := num_lt (cut l a k) (cut_all hA a k)
    have hl : (cut l a k).length ≤ k := by unfold cut; rw [List.length_take]; omega
    exact Nat.lt_of_lt_of_le h (Nat.pow_le_pow_right (by decide) (by omega))
  constructor
  · intro h
    exact ⟨h 2 (by decide), h 4 (by decide), h 5 (by decide)⟩
  · rintro ⟨h1, h2, h3⟩ j hj
    have : j = 0 ∨ j = 1 ∨ j = 2 ∨ j = 3 ∨ j = 4 ∨ j = 5 := by omega
    rcases this with rfl | rfl | rfl | rfl | rfl | rfl
    · have := hk 0 1
      show num (cut l 0 1) ≤ 255
      omega
    · have := hk 2 2
      show num (cut l 2 2) ≤ 65535
      omega
    · exact h1
    · have := hk 16 4
      show num (cut l 16 4) ≤ 4294967295
      omega
    · exact h2
    · exact h3
/-- What NumberAt's two results say. -/
def AtI (x v : Nat) (t : Bool) : Prop := (t = true → v = x ∧ x ≤ 4611686018427387904) ∧ (t = false → ¬ x ≤ 4611686018427387904)
theorem atI_of (x : Nat) : ∃ (v : Nat) (t : Bool), atV x = .returned (.tuple #[.int .i64 (v : Nat), .bool t]) ∧ AtI x v t := by
  by_cases h : x ≤ 4611686018427387904
  · exact ⟨x, true, by unfold atV; rw [if_pos h], fun _ => ⟨rfl, h⟩, (fun e => by cases e)⟩
  · exact ⟨0, false, by unfold atV; rw [if_neg h]; rfl, (fun e => by cases e), fun _ => h⟩
/-- What CommandRead gives. -/
def RCPost (w w' : World) (e : Ending) (l : List Nat) : Prop :=
  Below w.heap.size w w' ∧ ((l.length ≠ 64 ∧ e = .returned (.tuple #[cmdV 0 0 0 0 0 0, .int .i64 2])) ∨ (l.length = 64 ∧ ¬ fitL CF l 6 ∧ e = .returned (.tuple #[cmdV 0 0 0 0 0 0, .int .i64 1])) ∨
    (l.length = 64 ∧ fitL CF l 6 ∧ e = .returned (.tuple #[cmdV ((rdN CF l 0 : Nat) : Int) ((rdN CF l 1 : Nat) : Int) ((rdN CF l 2 : Nat) : Int) ((rdN CF l 3 : Nat) : Int) ((rdN CF l 4 : Nat) : Int) ((rdN CF l 5 : Nat) : Int), .int .i64 0])))
/-- What DoneRead gives. -/
def RDPost (w w' : World) (e : Ending) (l : List Nat) : Prop :=
  Below w.heap.size w w' ∧ ((l.length ≠ 16 ∧ e = .returned (.tuple #[doneV 0 0 0 0 false, .int .i64 2])) ∨ (l.length = 16 ∧ e = .returned (.tuple #[doneV ((rdN DF l 0 : Nat) : Int) ((rdN DF l 1 : Nat) : Int) ((rdN DF l 2 : Nat) : Int) ((rdN DF l 3 : Nat) : Int) (phB l), .int .i64 0])))
set_option maxRecDepth 20000 in
set_option maxHeartbeats 1600000 in
theorem commandRead_no (a : Option Addr) (L c : Nat) (w : World) (hL : L ≤ 140737488355328) (h : L ≠ 64) : Calls Tryd.prog 14 #[.slice a L c] w fun e w' => e = .returned (.tuple #[cmdV 0 0 0 0 0 0, .int .i64 2]) ∧ Below w.heap.size w w' := by
  have ht : (((L : Nat) : Int) != 64) = true := by simp; omega
  have HB : Hid (∀ o, Below w.heap.size w (w.alloc o)) := fun o => alloc_below' w o
  go_enter Tryd.func14, Tryd.ntmps14
  go_wp2_with fail
  refine bodyPost_ret (v := .tuple #[cmdV 0 0 0 0 0 0, .int .i64 2]) (by simp [results, Tryd.results14, go_sem]) rfl ?_
  exact ⟨rfl, HB.out _⟩
set_option maxRecDepth 20000 in
set_option maxHeartbeats 1600000 in
theorem doneRead_no (a : Option Addr) (L c : Nat) (w : World) (hL : L ≤ 140737488355328) (h : L ≠ 16) : Calls Tryd.prog 16 #[.slice a L c] w fun e w' => e = .returned (.tuple #[doneV 0 0 0 0 false, .int .i64 2]) ∧ Below w.heap.size w w' := by
  have ht : (((L : Nat) : Int) != 16) = true := by simp; omega
  have HB : Hid (∀ o, Below w.heap.size w (w.alloc o)) := fun o => alloc_below' w o
  go_enter Tryd.func16, Tryd.ntmps16
  go_wp2_with fail
  refine bodyPost_ret (v := .tuple #[doneV 0 0 0 0 false, .int .i64 2]) (by simp [results, Tryd.results16, go_sem]) rfl ?_
  exact ⟨rfl, HB.out _⟩
set_option maxRecDepth 20000 in
set_option maxHeartbeats 1600000 in
theorem commandRead_yes (b o c : Nat) (l : List Nat) (w : World) (hln : l.length = 64) (hA : AllB l) (hcap : 64 ≤ c) (hc : ∀ i, i < 64 → w.cell? ⟨b, o + i, none⟩ = some (.int .u8 ((l[i]?.getD 0 : Nat) : Int))) : Calls Tryd.prog 14 #[.slice (some ⟨b, o, none⟩) 64 c] w fun e w' => RCPost w w' e l := by
  have hbl : b < w.heap.size := World.block_lt_of_cell? w _ (hc 0 (by decide))
  have HB : Hid (∀ o1 o2, Below w.heap.size w ((w.alloc o1).alloc o2).drew.drew) := fun o1 o2 => below_drewN ((alloc_below' w _).trans ((alloc_below' _ _).mono (by simp))) 2
  have HN : Hid (∀ k, k + 8 ≤ 64 → ∀ cp wz, Below w.heap.size w wz → Calls Tryd.prog 23 #[.slice (some ⟨b, o + k, none⟩) 8 cp] wz fun e w' => e = atV (num (cut l k 8)) ∧ wz = w') := fun k hk cp wz hwz => by
    refine numberAt_any b (o + k) (cut l k 8) cp _ (cut_len (by omega)) (cut_all hA _ _) (fun j hj => ?_)
    rw [cut_at j hj, Nat.add_assoc]
    exact (hwz.cell (p := ⟨b, o + (k + j), none⟩) hbl).trans (hc (k + j) (by omega))
  have HP0 : Hid (¬ fitL CF l 6 → ∀ w', Below w.heap.size w w' → RCPost w w' (.returned (.tuple #[cmdV 0 0 0 0 0 0, .int .i64 1])) l) := fun h w' hb => ⟨hb, .inr (.inl ⟨hln, h, rfl⟩)⟩
  have HP1 : Hid (fitL CF l 6 → ∀ w', Below w.heap.size w w' → RCPost w w' (.returned (.tuple #[cmdV ((rdN CF l 0 : Nat) : Int) ((rdN CF l 1 : Nat) : Int) ((rdN CF l 2 : Nat) : Int) ((rdN CF l 3 : Nat) : Int) ((rdN CF l 4 : Nat) : Int) ((rdN CF l 5 : Nat) : Int), .int .i64 0])) l) := fun h w' hb => ⟨hb, .inr (.inr ⟨hln, h, rfl⟩)⟩
  have HR0 : Hid (rdN CF l 0 = l[0]?.getD 0) := num1 (l := l) (a := 0) (by omega)
  have HR1 : Hid (rdN CF l 1 = l[2]?.getD 0 + 256 * l[3]?.getD 0) := num2 (l := l) (a := 2) (by omega)
  have HR3 : Hid (rdN CF l 3 = l[16]?.getD 0 + 256 * l[17]?.getD 0 + 65536 * l[18]?.getD 0 + 16777216 * l[19]?.getD 0) := num4 (l := l) (a := 16) (by omega)
  have HR2 : Hid (rdN CF l 2 = num (cut l 8 8)) := (rfl : rdN CF l 2 = _)
  have HR4 : Hid (rdN CF l 4 = num (cut l 24 8)) := (rfl : rdN CF l 4 = _)
  have HR5 : Hid (rdN CF l 5 = num (cut l 32 8)) := (rfl : rdN CF l 5 = _)
  have HFit : Hid (fitL CF l 6 ↔ num (cut l 8 8) ≤ 4611686018427387904 ∧ num (cut l 24 8) ≤ 4611686018427387904 ∧ num (cut l 32 8) ≤ 4611686018427387904) := fitC_iff hA
  have HN8 := HN.out 8 (by decide)
  have HN24 := HN.out 24 (by decide)
  have HN32 := HN.out 32 (by decide)
  have c0 := hc 0 (by decide)
  have b0 := hA.at 0
  have c2 := hc 2 (by decide)
  have b2 := hA.at 2
  have c3 := hc 3 (by decide)
  have b3 := hA.at 3
  have c16 := hc 16 (by decide)
  have b16 := hA.at 16
  have c17 := hc 17 (by decide)
  have b17 := hA.at 17
  have c18 := hc 18 (by decide)
  have b18 := hA.at 18
  have c19 := hc 19 (by decide)
  have b19 := hA.at 19
  obtain ⟨y0, hy0⟩ : ∃ y : Nat, Hid (l[0]?.getD 0 = y) := ⟨l[0]?.getD 0, (rfl : l[0]?.getD 0 = l[0]?.getD 0)⟩
  rw [hy0.out] at c0 b0
  obtain ⟨y2, hy2⟩ : ∃ y : Nat, Hid (l[2]?.getD 0 = y) := ⟨l[2]?.getD 0, (rfl : l[2]?.getD 0 = l[2]?.getD 0)⟩
  rw [hy2.out] at c2 b2
  obtain ⟨y3, hy3⟩ : ∃ y : Nat, Hid (l[3]?.getD 0 = y) := ⟨l[3]?.getD 0, (rfl : l[3]?.getD 0 = l[3]?.getD 0)⟩
  rw [hy3.out] at c3 b3
  obtain ⟨y16, hy16⟩ : ∃ y : Nat, Hid (l[16]?.getD 0 = y) := ⟨l[16]?.getD 0, (rfl : l[16]?.getD 0 = l[16]?.getD 0)⟩
  rw [hy16.out] at c16 b16
  obtain ⟨y17, hy17⟩ : ∃ y : Nat, Hid (l[17]?.getD 0 = y) := ⟨l[17]?.getD 0, (rfl : l[17]?.getD 0 = l[17]?.getD 0)⟩
  rw [hy17.out] at c17 b17
  obtain ⟨y18, hy18⟩ : ∃ y : Nat, Hid (l[18]?.getD 0 = y) := ⟨l[18]?.getD 0, (rfl : l[18]?.getD 0 = l[18]?.getD 0)⟩
  rw [hy18.out] at c18 b18
  obtain ⟨y19, hy19⟩ : ∃ y : Nat, Hid (l[19]?.getD 0 = y) := ⟨l[19]?.getD 0, (rfl : l[19]?.getD 0 = l[19]?.getD 0)⟩
  rw [hy19.out] at c19 b19
  rw [Nat.add_zero] at c0
  rw [hy0.out] at HR0
  rw [hy2.out, hy3.out] at HR1
  rw [hy16.out, hy17.out, hy18.out, hy19.out] at HR3
  obtain ⟨x8, hx8⟩ : ∃ x, Hid (num (cut l 8 8) = x) := ⟨_, rfl⟩
  obtain ⟨x24, hx24⟩ : ∃ x, Hid (num (cut l 24 8) = x) := ⟨_, rfl⟩
  obtain ⟨x32, hx32⟩ : ∃ x, Hid (num (cut l 32 8) = x) := ⟨_, rfl⟩
  rw [hx8.out] at HN8 HR2
  rw [hx24.out] at HN24 HR4
  rw [hx32.out] at HN32 HR5
  rw [hx8.out, hx24.out, hx32.out] at HFit
  rw [HR0.out, HR1.out, HR2.out, HR3.out, HR4.out, HR5.out] at HP1
  have H8 : Hid (∀ cp wz, Below w.heap.size w wz → Calls Tryd.prog 23 #[.slice (some ⟨b, o + 8, none⟩) 8 cp] wz fun e w' => e = atV x8 ∧ wz = w') := HN8
  have H24 : Hid (∀ cp wz, Below w.heap.size w wz → Calls Tryd.prog 23 #[.slice (some ⟨b, o + 24, none⟩) 8 cp] wz fun e w' => e = atV x24 ∧ wz = w') := HN24
  have H32 : Hid (∀ cp wz, Below w.heap.size w wz → Calls Tryd.prog 23 #[.slice (some ⟨b, o + 32, none⟩) 8 cp] wz fun e w' => e = atV x32 ∧ wz = w') := HN32
  clear HN HN8 HN24 HN32 hc hA HR0 HR1 HR2 HR3 HR4 HR5 hx8 hx24 hx32 hln
  clear hy0
  clear hy2
  clear hy3
  clear hy16
  clear hy17
  clear hy18
  clear hy19
  have hc1 : ¬ c = 8 := by omega
  have hc2 : ¬ c = 24 := by omega
  have hc3 : ¬ c = 32 := by omega
  have hc4 : (64 : Int) ≤ (c : Int) := by omega
  have HPa : Hid (∀ (v8 v24 v32 : Nat) (t8 t24 t32 : Bool), AtI x8 v8 t8 → AtI x24 v24 t24 → AtI x32 v32 t32 → ∀ w', Below w.heap.size w w' → ((t8 && t24 && t32) = true → RCPost w w' (.returned (.tuple #[cmdV ((y0 : Nat) : Int) ((y2 + 256 * y3 : Nat) : Int) ((v8 : Nat) : Int) ((y16 + 256 * y17 + 65536 * y18 + 16777216 * y19 : Nat) : Int) ((v24 : Nat) : Int) ((v32 : Nat) : Int), .int .i64 0])) l) ∧ ((t8 && t24 && t32) = false → RCPost w w' (.returned (.tuple #[cmdV 0 0 0 0 0 0, .int .i64 1])) l)) := fun v8 v24 v32 t8 t24 t32 i8 i24 i32 w' hb => by
    refine ⟨fun ht => ?_, fun ht => ?_⟩
    · simp only [Bool.and_eq_true] at ht
      obtain ⟨⟨rfl, rfl⟩, rfl⟩ := ht
      obtain ⟨e8, f8⟩ := i8.1 rfl
      obtain ⟨e24, f24⟩ := i24.1 rfl
      obtain ⟨e32, f32⟩ := i32.1 rfl
      rw [e8, e24, e32]
      exact HP1.out (HFit.out.2 ⟨f8, f24, f32⟩) w' hb
    · refine HP0.out (fun q => ?_) w' hb
      have e := HFit.out.1 q
      cases t8
      · exact i8.2 rfl e.1
      · cases t24
        · exact i24.2 rfl e.2.1
        · cases t32
          · exact i32.2 rfl e.2.2
          · cases ht
  have G8 : Hid (∀ cp wz, Below w.heap.size w wz → Calls Tryd.prog 23 #[.slice (some ⟨b, o + 8, none⟩) 8 cp] wz fun e w' => ∃ (v : Nat) (t : Bool), e = .returned (.tuple #[.int .i64 (v : Nat), .bool t]) ∧ AtI x8 v t ∧ wz = w') := fun cp wz hwz => (H8.out cp wz hwz).mono fun e w' ⟨h1, h2⟩ => (atI_of x8).elim fun v ⟨t, q1, q2⟩ => ⟨v, t, h1.trans q1, q2, h2⟩
  have G24 : Hid (∀ cp wz, Below w.heap.size w wz → Calls Tryd.prog 23 #[.slice (some ⟨b, o + 24, none⟩) 8 cp] wz fun e w' => ∃ (v : Nat) (t : Bool), e = .returned (.tuple #[.int .i64 (v : Nat), .bool t]) ∧ AtI x24 v t ∧ wz = w') := fun cp wz hwz => (H24.out cp wz hwz).mono fun e w' ⟨h1, h2⟩ => (atI_of x24).elim fun v ⟨t, q1, q2⟩ => ⟨v, t, h1.trans q1, q2, h2⟩
  have G32 : Hid (∀ cp wz, Below w.heap.size w wz → Calls Tryd.prog 23 #[.slice (some ⟨b, o + 32, none⟩) 8 cp] wz fun e w' => ∃ (v : Nat) (t : Bool), e = .returned (.tuple #[.int .i64 (v : Nat), .bool t]) ∧ AtI x32 v t ∧ wz = w') := fun cp wz hwz => (H32.out cp wz hwz).mono fun e w' ⟨h1, h2⟩ => (atI_of x32).elim fun v ⟨t, q1, q2⟩ => ⟨v, t, h1.trans q1, q2, h2⟩
  clear H8 H24 H32 HP0 HP1 HFit
  go_enter Tryd.func14, Tryd.ntmps14
  have HB0 : Hid (Below w.heap.size w (((w.alloc (.cells #[.int .i64 0, .int .i64 0, .int .i64 0, .int .i64 0, .int .i64 0, .int .i64 0] 23)).alloc (.cells #[.int .i64 y0, .int .i64 ((y2 : Int) + 256 * (y3 : Int)), .int .i64 0, .int .i64 ((y16 : Int) + 256 * (y17 : Int) + 65536 * (y18 : Int) + 16777216 * (y19 : Int)), .int .i64 0, .int .i64 0] 23)).drew.drew) ∧ Stc (((w.alloc (.cells #[.int .i64 0, .int .i64 0, .int .i64 0, .int .i64 0, .int .i64 0, .int .i64 0] 23)).alloc (.cells #[.int .i64 y0, .int .i64 ((y2 : Int) + 256 * (y3 : Int)), .int .i64 0, .int .i64 ((y16 : Int) + 256 * (y17 : Int) + 65536 * (y18 : Int) + 16777216 * (y19 : Int)), .int .i64 0, .int .i64 0] 23)).drew.drew) w.heap.size 23 [.int .i64 0, .int .i64 0, .int .i64 0, .int .i64 0, .int .i64 0, .int .i64 0] ∧ Stc (((w.alloc (.cells #[.int .i64 0, .int .i64 0, .int .i64 0, .int .i64 0, .int .i64 0, .int .i64 0] 23)).alloc (.cells #[.int .i64 y0, .int .i64 ((y2 : Int) + 256 * (y3 : Int)), .int .i64 0, .int .i64 ((y16 : Int) + 256 * (y17 : Int) + 65536 * (y18 : Int) + 16777216 * (y19 : Int)), .int .i64 0, .int .i64 0] 23)).drew.drew) (w.heap.size + 1) 23 [.int .i64 y0, .int .i64 ((y2 : Int) + 256 * (y3 : Int)), .int .i64 0, .int .i64 ((y16 : Int) + 256 * (y17 : Int) + 65536 * (y18 : Int) + 16777216 * (y19 : Int)), .int .i64 0, .int .i64 0]) := by
    refine ⟨HB.out _ _, ?_, ?_⟩
    · exact Stc.keep (S := fun _ => False) (w := w.alloc (.cells #[.int .i64 0, .int .i64 0, .int .i64 0, .int .i64 0, .int .i64 0, .int .i64 0] 23)) (heap_alloc_new w _) ((Keep.of_below (alloc_below' _ _)).drewN 2) (fun e => e)
    · have := heap_alloc_new (w.alloc (.cells #[.int .i64 0, .int .i64 0, .int .i64 0, .int .i64 0, .int .i64 0, .int .i64 0] 23)) (.cells #[.int .i64 y0, .int .i64 ((y2 : Int) + 256 * (y3 : Int)), .int .i64 0, .int .i64 ((y16 : Int) + 256 * (y17 : Int) + 65536 * (y18 : Int) + 16777216 * (y19 : Int)), .int .i64 0, .int .i64 0] 23)
      rw [show (w.alloc (.cells #[.int .i64 0, .int .i64 0, .int .i64 0, .int .i64 0, .int .i64 0, .int .i64 0] 23)).heap.size = w.heap.size + 1 by simp] at this
      exact this
  go_upto_region 3 with fail
  go_cut [4] (fun v wx => v = .pointer (some ⟨w.heap.size + 1, 0, none⟩) ∧ wx = ((w.alloc (.cells #[.int .i64 0, .int .i64 0, .int .i64 0, .int .i64 0, .int .i64 0, .int .i64 0] 23)).alloc (.cells #[.int .i64 (y0 : Nat), .int .i64 ((y2 : Int) + 256 * (y3 : Int)), .int .i64 0, .int .i64 0, .int .i64 0, .int .i64 0] 23)).drew)
  case first =>
    clear HB0 HPa G8 G24 G32 HB
    go_region
    all_goals (go_wp2_with fail; go_meet; exact ⟨rfl, rfl⟩)
  case rest =>
  obtain ⟨rfl, rfl⟩ := hcut
  go_upto_region 4 with fail
  go_cut [] (fun wx => Hid (Below w.heap.size w wx ∧ Stc wx w.heap.size 23 [.int .i64 0, .int .i64 0, .int .i64 0, .int .i64 0, .int .i64 0, .int .i64 0] ∧ Stc wx (w.heap.size + 1) 23 [.int .i64 y0, .int .i64 ((y2 : Int) + 256 * (y3 : Int)), .int .i64 0, .int .i64 ((y16 : Int) + 256 * (y17 : Int) + 65536 * (y18 : Int) + 16777216 * (y19 : Int)), .int .i64 0, .int .i64 0]))
  case first =>
    clear HPa G8 G24 G32 HB
    go_region
    all_goals (go_wp2_with fail; go_meet; exact HB0.out)
  case rest =>
  obtain ⟨W2, rfl⟩ : ∃ wz, wz = wc := ⟨_, rfl⟩
  have HB2 := hcut
  clear hcut HB0
  obtain ⟨Y1, HY1⟩ : ∃ Y : Int, Hid ((y2 : Int) + 256 * (y3 : Int) = Y) := ⟨_, rfl⟩
  obtain ⟨Y3, HY3⟩ : ∃ Y : Int, Hid ((y16 : Int) + 256 * (y17 : Int) + 65536 * (y18 : Int) + 16777216 * (y19 : Int) = Y) := ⟨_, rfl⟩
  rw [HY1.out, HY3.out] at HB2
  clear c0 c2 c3 c16 c17 c18 c19
  have q0 : W2.cell? ⟨w.heap.size + 1, 0, none⟩ = some (.int .i64 (y0 : Nat)) := HB2.out.2.2.cell 0
  have g0 := HB2.out.2.2.free 0
  have r0 : W2.cell? ⟨w.heap.size, 0, none⟩ = some (.int .i64 0) := HB2.out.2.1.cell 0
  have f0 := HB2.out.2.1.free 0
  have q1 : W2.cell? ⟨w.heap.size + 1, 1, none⟩ = some (.int .i64 Y1) := HB2.out.2.2.cell 1
  have g1 := HB2.out.2.2.free 1
  have r1 : W2.cell? ⟨w.heap.size, 1, none⟩ = some (.int .i64 0) := HB2.out.2.1.cell 1
  have f1 := HB2.out.2.1.free 1
  have q2 : W2.cell? ⟨w.heap.size + 1, 2, none⟩ = some (.int .i64 0) := HB2.out.2.2.cell 2
  have g2 := HB2.out.2.2.free 2
  have r2 : W2.cell? ⟨w.heap.size, 2, none⟩ = some (.int .i64 0) := HB2.out.2.1.cell 2
  have f2 := HB2.out.2.1.free 2
  have q3 : W2.cell? ⟨w.heap.size + 1, 3, none⟩ = some (.int .i64 Y3) := HB2.out.2.2.cell 3
  have g3 := HB2.out.2.2.free 3
  have r3 : W2.cell? ⟨w.heap.size, 3, none⟩ = some (.int .i64 0) := HB2.out.2.1.cell 3
  have f3 := HB2.out.2.1.free 3
  have q4 : W2.cell? ⟨w.heap.size + 1, 4, none⟩ = some (.int .i64 0) := HB2.out.2.2.cell 4
  have g4 := HB2.out.2.2.free 4
  have r4 : W2.cell? ⟨w.heap.size, 4, none⟩ = some (.int .i64 0) := HB2.out.2.1.cell 4
  have f4 := HB2.out.2.1.free 4
  have q5 : W2.cell? ⟨w.heap.size + 1, 5, none⟩ = some (.int .i64 0) := HB2.out.2.2.cell 5
  have g5 := HB2.out.2.2.free 5
  have r5 : W2.cell? ⟨w.heap.size, 5, none⟩ = some (.int .i64 0) := HB2.out.2.1.cell 5
  have f5 := HB2.out.2.1.free 5
  go_wp2_with fail
  refine (G8.out _ _ HB2.out.1).mono ?_
  rintro e w1 ⟨v8, t8, rfl, i8, rfl⟩
  clear G8
  go_wp2_with fail
  refine (G24.out _ _ HB2.out.1).mono ?_
  rintro e w1 ⟨v24, t24, rfl, i24, rfl⟩
  clear G24
  go_wp2_with fail
  refine (G32.out _ _ HB2.out.1).mono ?_
  rintro e w1 ⟨v32, t32, rfl, i32, rfl⟩
  clear G32
  have HP := HPa.out v8 v24 v32 t8 t24 t32 i8 i24 i32
  have HP' : Hid (∀ w', Below w.heap.size w w' → ((t8 && t24 && t32) = true → RCPost w w' (.returned (.tuple #[cmdV ((y0 : Nat) : Int) ((y2 + 256 * y3 : Nat) : Int) ((v8 : Nat) : Int) ((y16 + 256 * y17 + 65536 * y18 + 16777216 * y19 : Nat) : Int) ((v24 : Nat) : Int) ((v32 : Nat) : Int), .int .i64 0])) l) ∧ ((t8 && t24 && t32) = false → RCPost w w' (.returned (.tuple #[cmdV 0 0 0 0 0 0, .int .i64 1])) l)) := HP
  clear HP HPa i8 i24 i32 b0 b2 b3 b16 b17 b18 b19
  cases t8 with
  | false =>
    cases t24 with
    | false =>
      cases t32 with
      | false =>
        go_wp2_with fail
        have hz := six_set HB2.out.2.1 (.int .i64 0) (.int .i64 0) (.int .i64 0) (.int .i64 0) (.int .i64 0) (.int .i64 0)
        refine bodyPost_ret (v := .tuple #[cmdV 0 0 0 0 0 0, .int .i64 1]) (by simp [results, Tryd.results14, go_sem, hz.cell 0, hz.cell 1, hz.cell 2, hz.cell 3, hz.cell 4, hz.cell 5]) rfl ?_
        exact (HP'.out _ (below_six HB2.out.1 (Nat.le_refl _) _ _ _ _ _ _)).2 rfl
      | true =>
        go_wp2_with fail
        have hz := six_set HB2.out.2.1 (.int .i64 0) (.int .i64 0) (.int .i64 0) (.int .i64 0) (.int .i64 0) (.int .i64 0)
        refine bodyPost_ret (v := .tuple #[cmdV 0 0 0 0 0 0, .int .i64 1]) (by simp [results, Tryd.results14, go_sem, hz.cell 0, hz.cell 1, hz.cell 2, hz.cell 3, hz.cell 4, hz.cell 5]) rfl ?_
        exact (HP'.out _ (below_six HB2.out.1 (Nat.le_refl _) _ _ _ _ _ _)).2 rfl
    | true =>
      cases t32 with
      | false =>
        go_wp2_with fail
        have hz := six_set HB2.out.2.1 (.int .i64 0) (.int .i64 0) (.int .i64 0) (.int .i64 0) (.int .i64 0) (.int .i64 0)
        refine bodyPost_ret (v := .tuple #[cmdV 0 0 0 0 0 0, .int .i64 1]) (by simp [results, Tryd.results14, go_sem, hz.cell 0, hz.cell 1, hz.cell 2, hz.cell 3, hz.cell 4, hz.cell 5]) rfl ?_
        exact (HP'.out _ (below_six HB2.out.1 (Nat.le_refl _) _ _ _ _ _ _)).2 rfl
      | true =>
        go_wp2_with fail
        have hz := six_set HB2.out.2.1 (.int .i64 0) (.int .i64 0) (.int .i64 0) (.int .i64 0) (.int .i64 0) (.int .i64 0)
        refine bodyPost_ret (v := .tuple #[cmdV 0 0 0 0 0 0, .int .i64 1]) (by simp [results, Tryd.results14, go_sem, hz.cell 0, hz.cell 1, hz.cell 2, hz.cell 3, hz.cell 4, hz.cell 5]) rfl ?_
        exact (HP'.out _ (below_six HB2.out.1 (Nat.le_refl _) _ _ _ _ _ _)).2 rfl
  | true =>
    cases t24 with
    | false =>
      cases t32 with
      | false =>
        go_wp2_with fail
        have hz := six_set HB2.out.2.1 (.int .i64 0) (.int .i64 0) (.int .i64 0) (.int .i64 0) (.int .i64 0) (.int .i64 0)
        refine bodyPost_ret (v := .tuple #[cmdV 0 0 0 0 0 0, .int .i64 1]) (by simp [results, Tryd.results14, go_sem, hz.cell 0, hz.cell 1, hz.cell 2, hz.cell 3, hz.cell 4, hz.cell 5]) rfl ?_
        exact (HP'.out _ (below_six HB2.out.1 (Nat.le_refl _) _ _ _ _ _ _)).2 rfl
      | true =>
        go_wp2_with fail
        have hz := six_set HB2.out.2.1 (.int .i64 0) (.int .i64 0) (.int .i64 0) (.int .i64 0) (.int .i64 0) (.int .i64 0)
        refine bodyPost_ret (v := .tuple #[cmdV 0 0 0 0 0 0, .int .i64 1]) (by simp [results, Tryd.results14, go_sem, hz.cell 0, hz.cell 1, hz.cell 2, hz.cell 3, hz.cell 4, hz.cell 5]) rfl ?_
        exact (HP'.out _ (below_six HB2.out.1 (Nat.le_refl _) _ _ _ _ _ _)).2 rfl
    | true =>
      cases t32 with
      | false =>
        go_wp2_with fail
        have hz := six_set HB2.out.2.1 (.int .i64 0) (.int .i64 0) (.int .i64 0) (.int .i64 0) (.int .i64 0) (.int .i64 0)
        refine bodyPost_ret (v := .tuple #[cmdV 0 0 0 0 0 0, .int .i64 1]) (by simp [results, Tryd.results14, go_sem, hz.cell 0, hz.cell 1, hz.cell 2, hz.cell 3, hz.cell 4, hz.cell 5]) rfl ?_
        exact (HP'.out _ (below_six HB2.out.1 (Nat.le_refl _) _ _ _ _ _ _)).2 rfl
      | true =>
        go_wp2_with fail
        have hk3 : Keep (fun b => b = w.heap.size + 1) W2 (((W2.setCell ⟨w.heap.size + 1, 2, none⟩ (.int .i64 (v8 : Nat))).setCell ⟨w.heap.size + 1, 4, none⟩ (.int .i64 (v24 : Nat))).setCell ⟨w.heap.size + 1, 5, none⟩ (.int .i64 (v32 : Nat))) := (((Keep.refl _ _).set1 _ _).set1 _ _).set1 _ _
        have hz := six_set (HB2.out.2.1.keep hk3 (by omega)) (.int .i64 (y0 : Nat)) (.int .i64 Y1) (.int .i64 (v8 : Nat)) (.int .i64 Y3) (.int .i64 (v24 : Nat)) (.int .i64 (v32 : Nat))
        refine bodyPost_ret (v := .tuple #[cmdV (y0 : Nat) Y1 (v8 : Nat) Y3 (v24 : Nat) (v32 : Nat), .int .i64 0]) (by simp [results, Tryd.results14, go_sem, hz.cell 0, hz.cell 1, hz.cell 2, hz.cell 3, hz.cell 4, hz.cell 5]) rfl ?_
        have hE := (HP'.out _ (below_six (HB2.out.1.trans (hk3.below HB2.out.1.size (fun b hb => by omega))) (Nat.le_refl _) (.int .i64 (y0 : Nat)) (.int .i64 Y1) (.int .i64 (v8 : Nat)) (.int .i64 Y3) (.int .i64 (v24 : Nat)) (.int .i64 (v32 : Nat)))).1 rfl
        rw [← HY1.out, ← HY3.out]
        rw [← HY1.out, ← HY3.out] at hE
        simpa using hE
end Go.Proofs.YteklankhffebaaaDoor
