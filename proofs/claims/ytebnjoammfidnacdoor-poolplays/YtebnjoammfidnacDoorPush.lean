/-
  What the call of Push of *pool.freeBlocks gives: one more at the end of the row, which may be laid anew.
-/
import Derived.Test.YtebnjoammfidnacDoorMeth
import Derived.Deep.RegionLaw
import Derived.RegionTactic
namespace Go.Proofs.YtebnjoammfidnacDoor
open Go.RowKit
set_option linter.unusedVariables false

theorem infoPtr : (Tryd.prog.info? 57).map (fun i => (i.zero, i.size, i.bytes)) = some (some (.pointer none), 1, 8) := by kernel_rfl
theorem assert_blk (p : Option Addr) (w : World) : (Instr.typeAssert (.iface 57 (.pointer p)) 20 57 false).run Tryd.prog w = .ok (.pointer p) w := by kernel_rfl
theorem keep_grown {w w' : World} {a : Option Addr} {n c : Nat} (h : w.grownBy w' (Value.slice a n c).ownBlock) : Keep (blk a) w w' :=
  ⟨h.os, h.tape, h.output, h.size, fun k hk hs => h.block k hk (fun e => hs (by
    cases a with
    | none => cases e
    | some x => exact ⟨x, rfl, by simp [Value.ownBlock] at e; exact e.symm⟩))⟩
theorem push_step {ops : Array Oper} {o : Oper} {a : Act} {W : World} {K : Act → World → Prop} {Q : Exit → Act → World → Prop} {E : Prop} (hgd : o.guard = none) (s x : Operand)
    (ho : o.op = .call { callee := .builtin .append, args := #[s, x], argTypes := #[50, 50] }) (a0 : Option Addr) (cap0 bb y : Nat) (L : List Nat) (hs : a.eval s = .slice a0 L.length cap0) (hown : OwnP W a0 cap0 bb L)
    (B : Nat) (hx : a.eval x = .slice (some ⟨B, 0, none⟩) 1 1) (hB : W.heap[B]? = some (.cells #[.pointer (some ⟨bb, y * 3, none⟩)] 57 (0, 0))) (hl : L.length ≤ 63)
    (h : ∀ g cap1 w', OwnP w' (some ⟨g, 0, none⟩) cap1 bb (L ++ [y]) → Keep (blk a0) W w' → (blk a0 g ∨ g = W.heap.size) → K (a.put o.dst (.slice (some ⟨g, 0, none⟩) (L.length + 1) cap1)) w') :
    if Region.wanted o (yielded ops a.tmps) = true then Oper.wp Tryd.prog o a W K Q else E := by
  obtain ⟨i0, hi, hz0, hz1, hz2⟩ := info_parts infoPtr
  refine step_append_lies W hgd s x 50 ho 0 57 i0 (.pointer none) 1 8 Tryd.underlying50 hi hz0 hz1 hz2 rfl (by decide) (.slice a0 L.length cap0) L.length (L.map (pv bb)) hs hown ⟨B, 0, none⟩ 1 1 [pv bb y] hx rfl (World.news_of_block hB) (fun u hu => by simp at hu; subst hu; rfl) (by decide) (by unfold maxLen; omega) (by omega) (Nat.zero_le _) W.heap.size rfl ?_
  intro g cap1 w' h1 h2 h3 h4
  refine h g cap1 w' ?_ (keep_grown h2) ?_
  · unfold OwnP
    rw [List.map_append, List.length_append]
    exact h1
  · rcases h3 with h3 | h3
    · left
      cases a0 with
      | none => cases h3
      | some z => exact ⟨z, rfl, by simp [Value.ownBlock] at h3; exact h3⟩
    · exact Or.inr h3
set_option maxRecDepth 100000 in
set_option maxHeartbeats 1000000 in
theorem push_cells (w : World) (pb cap bb x : Nat) (a : Option Addr) (L : List Nat) (hn : L.length ≤ 63) (c2 : w.cell? ⟨pb, 2, none⟩ = some (.slice a L.length cap)) (fp : w.frozen? ⟨pb, 2, none⟩ = false) (ho : OwnP w a cap bb L) (hne : ∀ b, blk a b → b ≠ pb) :
    Calls Tryd.prog 56 #[.pointer (some ⟨pb, 2, none⟩), .iface 57 (.pointer (some ⟨bb, x * 3, none⟩))] w fun e w' => e = .returned (.tuple #[]) ∧
      ∃ g cap1 w1, OwnP w1 (some ⟨g, 0, none⟩) cap1 bb (L ++ [x]) ∧ Keep (blk a) w w1 ∧ (blk a g ∨ w.heap.size ≤ g) ∧ w' = w1.setCell ⟨pb, 2, none⟩ (.slice (some ⟨g, 0, none⟩) (L.length + 1) cap1) := by
  have hta := assert_blk
  have hlt : pb < w.heap.size := World.block_lt_of_cell? w _ c2
  have HO : Hid (OwnP (w.drew.alloc (.cells #[.pointer (some ⟨bb, x * 3, none⟩)] 57)) a cap bb L) := ho.keep (((Keep.refl (fun _ => False) w).drew).alloc _) (fun _ _ e => e)
  have HN : Hid (∀ b, blk a b → b ≠ pb) := hne
  clear ho hne
  go_enter Tryd.func56, Tryd.ntmps56
  go_wp2
  go_region_law ((refine push_step rfl (.tmp 7) (.tmp 10) (by rfl) a cap bb x L (by simp [Act.eval]) HO.out w.heap.size (by simp [Act.eval]) (heap_alloc_new w.drew _) (by omega) ?_; intro g cap1 w1 ho1 hk1 hat; have hk2 : Keep (blk a) w w1 := (((Keep.refl _ w).drew).alloc _).trans hk1; have c2' := (hk2.cell (p := ⟨pb, 2, none⟩) hlt (fun e => HN.out _ e rfl)).trans c2; have fp' := (hk2.frozen (p := ⟨pb, 2, none⟩) hlt (fun e => HN.out _ e rfl)).trans fp; have HH : Hid (OwnP w1 (some ⟨g, 0, none⟩) cap1 bb (L ++ [x]) ∧ Keep (blk a) w w1 ∧ (blk a g ∨ w.heap.size ≤ g)) := ⟨ho1, hk2, hat.imp id (fun e => by rw [e]; simp)⟩; clear ho1 hk1 hat hk2))
  all_goals (try go_wp2)
  all_goals go_end0
  all_goals exact ⟨rfl, g, cap1, w1, HH.out.1, HH.out.2.1, HH.out.2.2, rfl⟩
end Go.Proofs.YtebnjoammfidnacDoor
