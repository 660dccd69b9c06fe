/-
  What the call of ring.New gives.
-/
import Derived.Test.YtnfjfffchhiooaaDoorQueue
import Derived.Test.YtnfjfffchhiooaaDoorInts
namespace Go.Proofs.YtnfjfffchhiooaaDoor
open Go.RowKit
set_option linter.unusedVariables false

def mkI (n : Nat) : Array Value := ((List.replicate n (0 : Int)).map ivI).toArray
theorem made_ints (n : Nat) (hn : n ≤ 1048576) (w : World) : (Instr.makeSlice 22 (.int .i64 (n : Int)) (.int .i64 (n : Int))).run Tryd.prog w = .ok (.slice (some ⟨w.heap.size, 0, none⟩) n n) (w.alloc (.cells (mkI n) 3)) := by
  obtain ⟨i0, hi, hz0, hz1, hz2⟩ := info_parts infoInt
  have h := run_make (P := Tryd.prog) w 22 3 i0 (.int .i64 0) Tryd.underlying22 hi hz0 .i64 .i64 n n (by omega) (by omega) (by rw [hz2]; omega) (by omega)
  rw [h]
  have e : madeCells (Value.int .i64 0).cells ((n : Int).toNat * i0.size) = mkI n := by
    unfold mkI
    apply Array.toList_inj.1
    rw [hz1, Int.toNat_natCast, Nat.mul_one]
    have := toList_madeCells_one (Value.int .i64 0) n
    simp only [List.map_replicate]
    exact this
  rw [e]
  simp
set_option maxHeartbeats 800000 in
theorem round_no (n : Int) (w : World) (h : ¬ GoodN n) : Calls Tryd.prog 20 #[.int .i64 n] w fun e w' => e = .returned (.tuple #[.agg #[.slice none 0 0, .int .i64 0, .int .i64 0], .iface 29 (.int .i64 1)]) ∧ Below w.heap.size w w' := by
  unfold GoodN at h
  have HB : Hid (∀ o, Below w.heap.size w (w.alloc o)) := fun o => alloc_below' w o
  by_cases h1 : n < 2
  · clear h
    go_enter Tryd.func20, Tryd.ntmps20
    go_wp2
    refine bodyPost_ret (v := .tuple #[.agg #[.slice none 0 0, .int .i64 0, .int .i64 0], .iface 29 (.int .i64 1)]) (by simp [results, Tryd.results20, go_sem]) rfl ?_
    exact ⟨rfl, HB.out _⟩
  · have h2 : 16 < n := by omega
    clear h
    go_enter Tryd.func20, Tryd.ntmps20
    go_wp2
    refine bodyPost_ret (v := .tuple #[.agg #[.slice none 0 0, .int .i64 0, .int .i64 0], .iface 29 (.int .i64 1)]) (by simp [results, Tryd.results20, go_sem]) rfl ?_
    exact ⟨rfl, HB.out _⟩
/-- The slots are all nought. -/
def Zs (w : World) (n sb : Nat) : Prop := Stc w sb 3 ((List.replicate n (0 : Int)).map ivI)
set_option maxHeartbeats 1600000 in
theorem round_yes (n : Nat) (w : World) (h1 : 2 ≤ n) (h2 : n ≤ 16) : Calls Tryd.prog 20 #[.int .i64 (n : Nat)] w fun e w' => ∃ sb, e = .returned (.tuple #[.agg #[.slice (some ⟨sb, 0, none⟩) n n, .int .i64 0, .int .i64 0], .nilIface]) ∧ Zs w' n sb ∧ Below w.heap.size w w' ∧ w.heap.size ≤ sb := by
  have t1 : ¬ ((n : Int) < 2) := by omega
  have t2 : ¬ ((16 : Int) < (n : Int)) := by omega
  have hm := made_ints n (by omega)
  have HS : Hid (∀ o, Zs ((w.alloc o).alloc (.cells (mkI n) 3)) n (w.heap.size + 1) ∧ Below w.heap.size w ((w.alloc o).alloc (.cells (mkI n) 3))) := fun o => by
    have e : Stc ((w.alloc o).alloc (.cells (mkI n) 3)) (w.alloc o).heap.size 3 ((List.replicate n (0 : Int)).map ivI) := stc_new _ _ _ _ rfl
    have hs : (w.alloc o).heap.size = w.heap.size + 1 := by simp
    rw [hs] at e
    exact ⟨e, (alloc_below' w o).alloc (by rw [hs]; omega) _⟩
  clear h1 h2
  go_enter Tryd.func20, Tryd.ntmps20
  go_wp2
  refine bodyPost_ret (v := .tuple #[.agg #[.slice (some ⟨w.heap.size + 1, 0, none⟩) n n, .int .i64 0, .int .i64 0], .nilIface]) (by simp [results, Tryd.results20, go_sem]) rfl ?_
  exact ⟨_, rfl, (HS.out _).1, (HS.out _).2, by omega⟩
set_option maxHeartbeats 800000 in
theorem new_no (n : Int) (w : World) (h : ¬ GoodN n) : Calls Tryd.prog 7 #[.int .i64 n] w fun e w' => e = .returned (.tuple #[.pointer none, .iface 29 (.int .i64 1)]) ∧ Below w.heap.size w w' := by
  have H := round_no n w h
  clear h
  go_enter Tryd.func7, Tryd.ntmps7
  go_wp2_with fail
  refine H.mono ?_
  rintro e w1 ⟨rfl, hb⟩
  have HB : Hid (∀ o, Below w.heap.size w (w1.alloc o)) := fun o => hb.alloc hb.size o
  clear hb H
  go_wp2
  go_ret2
  exact ⟨rfl, HB.out _⟩
theorem gI_rep {n i : Nat} : gI (List.replicate n 0) i = 0 := by
  unfold gI
  rw [List.getElem?_replicate]
  split <;> rfl
set_option maxHeartbeats 1600000 in
theorem new_yes (n : Nat) (w : World) (h1 : 2 ≤ n) (h2 : n ≤ 16) : Calls Tryd.prog 7 #[.int .i64 (n : Nat)] w fun e w' => ∃ rb sb, e = .returned (.tuple #[.pointer (some ⟨rb, 0, none⟩), .nilIface]) ∧ RQ w' n rb sb 0 [] ∧ Below w.heap.size w w' ∧ w.heap.size ≤ rb ∧ w.heap.size ≤ sb := by
  have H := round_yes n w h1 h2
  have HN : Hid (2 ≤ n ∧ n ≤ 16) := ⟨h1, h2⟩
  clear h1 h2
  go_enter Tryd.func7, Tryd.ntmps7
  go_wp2_with fail
  refine H.mono ?_
  rintro e w1 ⟨sb, rfl, hz, hb, hs⟩
  have HF : Hid (∀ o, RQ ((w1.alloc o).alloc (.cells #[.slice (some ⟨sb, 0, none⟩) n n, .int .i64 0, .int .i64 0] 62)) n (w1.heap.size + 1) sb 0 [] ∧ Below w.heap.size w ((w1.alloc o).alloc (.cells #[.slice (some ⟨sb, 0, none⟩) n n, .int .i64 0, .int .i64 0] 62)) ∧ w.heap.size ≤ w1.heap.size + 1) := fun o => by
    obtain ⟨h1, h2⟩ := HN.out
    have hsz := hb.size
    have hs1 : (w1.alloc o).heap.size = w1.heap.size + 1 := by simp
    have e : Stc ((w1.alloc o).alloc (.cells #[.slice (some ⟨sb, 0, none⟩) n n, .int .i64 0, .int .i64 0] 62)) (w1.alloc o).heap.size 62 [.slice (some ⟨sb, 0, none⟩) n n, .int .i64 0, .int .i64 0] := stc_new _ _ _ _ rfl
    rw [hs1] at e
    have hlt : sb < w1.heap.size := heap_lt hz
    have hz' : Stc ((w1.alloc o).alloc (.cells #[.slice (some ⟨sb, 0, none⟩) n n, .int .i64 0, .int .i64 0] 62)) sb 3 ((List.replicate n (0 : Int)).map ivI) := (Stc.below hz (alloc_below' w1 o)).below (alloc_below' _ _)
    refine ⟨⟨⟨List.replicate n 0, ⟨?_, hz', by simp, ?_, ?_, h1, h2, by omega⟩, fun i hi => by simp at hi⟩, by simp, h1, h2⟩, (hb.alloc hb.size o).alloc (by rw [hs1]; omega) _, by omega⟩
    · rw [Nat.zero_mod]; simpa using e
    · rw [Nat.zero_mod]; omega
    · show (0 + 0) % n < n
      rw [Nat.zero_mod]; omega
  clear hz hb H
  go_wp2
  go_ret2
  exact ⟨_, _, rfl, (HF.out _).1, (HF.out _).2.1, (HF.out (.cells #[] 0)).2.2, hs⟩
end Go.Proofs.YtnfjfffchhiooaaDoor
