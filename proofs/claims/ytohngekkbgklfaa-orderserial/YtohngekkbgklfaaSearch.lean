/-
  A search in memory while it is made: order.newSearch.
-/
import Derived.Test.YtohngekkbgklfaaFirst
import Derived.Maps.OwnSet
import Derived.DeepKeys5
namespace Go.Proofs.Ytohngekkbgklfaa
open Go.RowKit
set_option linter.unusedVariables false

def blL (l : List Cl) (k : Nat) : List Int := (List.range k).map fun i => ((fsb l i : Nat) : Int)
def ahL (l : List Cl) (k : Nat) : List Int := (List.range k).map fun i => ((ahd l i : Nat) : Int)
theorem blL_len (l : List Cl) (k : Nat) : (blL l k).length = k := by simp [blL]
theorem ahL_len (l : List Cl) (k : Nat) : (ahL l k).length = k := by simp [ahL]
theorem blL_succ (l : List Cl) (k : Nat) : blL l (k + 1) = blL l k ++ [((fsb l k : Nat) : Int)] := by simp [blL, List.range_succ]
theorem ahL_succ (l : List Cl) (k : Nat) : ahL l (k + 1) = ahL l k ++ [((ahd l k : Nat) : Int)] := by simp [ahL, List.range_succ]
theorem gI_blL (l : List Cl) {k i : Nat} (h : i < k) : gI (blL l k) i = ((fsb l i : Nat) : Int) := by
  unfold gI blL
  rw [List.getElem?_map, List.getElem?_range h]
  rfl
theorem gI_ahL (l : List Cl) {k i : Nat} (h : i < k) : gI (ahL l k) i = ((ahd l i : Nat) : Int) := by
  unfold gI ahL
  rw [List.getElem?_map, List.getElem?_range h]
  rfl
theorem blk_of {a : Option Addr} {n c g : Nat} (h : (Value.slice a n c).ownBlock = some g) : blk a g := by
  cases a with
  | none => cases h
  | some z => exact ⟨z, rfl, by simp [Value.ownBlock] at h; exact h⟩
/-- ONE NUMBER MORE IS APPENDED, in a region that draws its order. -/
theorem stepI {ops : Array Oper} {o : Oper} {a : Act} {W : World} {K : Act → World → Prop} {Q : Exit → Act → World → Prop} {E : Prop} (hgd : o.guard = none) (s x : Operand)
    (ho : o.op = .call { callee := .builtin .append, args := #[s, x], argTypes := #[23, 23] }) (base cap0 B : Nat) (a0 : Option Addr) (es : List Int) (e : Int) (n : Nat) (hn : es.length = n)
    (hs : a.eval s = .slice a0 n cap0) (hx : a.eval x = .slice (some ⟨B, 0, none⟩) 1 1) (h : OwnI W base a0 cap0 es) (hB : W.heap[B]? = some (.cells #[.int .i64 e] 3 (0, 0))) (hk : (n + 1) * 8 ≤ 140737488355328) (hb : base ≤ W.heap.size)
    (hc : ∀ g cap1 w', OwnI w' base (some ⟨g, 0, none⟩) cap1 (es ++ [e]) → Keep (blk a0) W w' → (blk a0 g ∨ g = W.heap.size) → K (a.put o.dst (.slice (some ⟨g, 0, none⟩) (n + 1) cap1)) w') :
    if Region.wanted o (yielded ops a.tmps) = true then Oper.wp Try.prog o a W K Q else E := by
  subst hn
  obtain ⟨i0, hi, hz0, hz1, hz2⟩ := info_parts infoInt
  refine step_append_lies W hgd s x 23 ho base 3 i0 _ 1 8 Try.underlying23 hi hz0 hz1 hz2 rfl (by decide) (.slice a0 es.length cap0) es.length (es.map ivI) hs h ⟨B, 0, none⟩ 1 1 [ivI e] hx rfl (World.news_of_block hB) (one_ivI [e]) (by decide) (by unfold maxLen; omega) (by omega) hb W.heap.size rfl ?_
  intro g cap1 w' h1 h2 h3 h4
  refine hc g cap1 w' ?_ (keep_grown h2) (h3.imp blk_of id)
  unfold OwnI
  rw [List.map_append, List.length_append]
  exact h1
/-- A SEARCH IN MEMORY, while it is made. -/
structure NS (w : World) (B sb mb : Nat) (a : Option Addr) (n cap : Nat) (l : List Cl) (ba : Option Addr) (bc kb : Nat) (ha : Option Addr) (hc kh : Nat) : Prop where
  st : Stc w sb 43 [.slice a n cap, .slice ba kb bc, .slice ha kh hc, .map (some mb), .slice none 0 0]
  cl : CL w a l
  len : l.length = n
  lo : 0 < n → ∀ b, blk a b → b < B ∧ b ≠ sb ∧ b ≠ mb
  sz : B ≤ w.heap.size
  lt : sb < B ∧ mb < B
  ne : sb ≠ mb
  bl : OwnI w B ba bc (blL l kb)
  hd : OwnI w B ha hc (ahL l kh)
  ap : ∀ b, blk ba b → ¬ blk ha b
  mp : w.ownsMap Try.prog 39 (unitElem (H := Unit)) mb 0 (.map [])
theorem map_keep {S : Nat → Prop} {w w' : World} {k : TypeId} {R : Value → Option (DataW Unit × List MemPlace)} {b n : Nat} {D : DataW Unit} (h : w.ownsMap Try.prog k R b n D) (hk : Keep S w w') (hs : ¬ S b) : w'.ownsMap Try.prog k R b n D := by
  obtain ⟨es, clock, hb, r⟩ := h
  exact ⟨es, clock, (hk.block b (heap_lt hb) hs).trans hb, r⟩
theorem map_lt {w : World} {k : TypeId} {R : Value → Option (DataW Unit × List MemPlace)} {b n : Nat} {D : DataW Unit} (h : w.ownsMap Try.prog k R b n D) : b < w.heap.size := by
  obtain ⟨es, clock, hb, r⟩ := h
  exact heap_lt hb
theorem NS.below {w w' : World} {B sb mb : Nat} {a : Option Addr} {n cap : Nat} {l : List Cl} {ba : Option Addr} {bc kb : Nat} {ha : Option Addr} {hc kh : Nat} (h : NS w B sb mb a n cap l ba bc kb ha hc kh) (hb : Below w.heap.size w w') : NS w' B sb mb a n cap l ba bc kb ha hc kh :=
  ⟨h.st.below hb, h.cl.below hb, h.len, h.lo, Nat.le_trans h.sz hb.size, h.lt, h.ne, h.bl.below hb, h.hd.below hb, h.ap, map_keep h.mp (S := fun _ => False) (Keep.of_below hb) (fun e => e)⟩
theorem cl_set {w : World} {a : Option Addr} {l : List Cl} (h : CL w a l) (sb j : Nat) (u : Value) (hlo : 0 < l.length → ∀ b, blk a b → b ≠ sb) : CL (w.setCell ⟨sb, j, none⟩ u) a l := by
  by_cases hl : 0 < l.length
  · exact h.keep (S := fun b => b = sb) (Keep.set1 (Keep.refl _ w) j u) (fun b hb _ e => hlo hl b hb e)
  · exact Or.inl (List.length_eq_zero_iff.1 (by omega))
theorem cl_keep0 {S : Nat → Prop} {w w' : World} {a : Option Addr} {l : List Cl} (h : CL w a l) (hk : Keep S w w') (hlo : 0 < l.length → ∀ b, blk a b → ¬ S b) : CL w' a l := by
  by_cases hl : 0 < l.length
  · exact h.keep hk (fun b hb _ => hlo hl b hb)
  · exact Or.inl (List.length_eq_zero_iff.1 (by omega))
/-- The row of blocks has one number more. -/
theorem NS.turnB {w w' : World} {B sb mb : Nat} {a : Option Addr} {n cap : Nat} {l : List Cl} {ba : Option Addr} {bc kb : Nat} {ha : Option Addr} {hc kh : Nat} (h : NS w B sb mb a n cap l ba bc kb ha hc kh) (g cap1 : Nat) (ho : OwnI w' B (some ⟨g, 0, none⟩) cap1 (blL l kb ++ [((fsb l kb : Nat) : Int)])) (hk : Keep (blk ba) w w') (hg : blk ba g ∨ g = w.heap.size) :
    NS (w'.setCell ⟨sb, 1, none⟩ (.slice (some ⟨g, 0, none⟩) (kb + 1) cap1)) B sb mb a n cap l (some ⟨g, 0, none⟩) cap1 (kb + 1) ha hc kh := by
  have nb : ∀ b, blk ba b → B ≤ b := fun b hb => (h.bl.blk hb).1
  have gB : B ≤ g := (ho.blk ⟨_, rfl, rfl⟩).1
  have kS : Keep (fun b => b = sb) w' (w'.setCell ⟨sb, 1, none⟩ (.slice (some ⟨g, 0, none⟩) (kb + 1) cap1)) := Keep.set1 (Keep.refl _ _) 1 _
  have lt := h.lt
  have s1 := h.st.keep hk (fun e => by have := nb _ e; omega)
  refine ⟨s1.set 1 _, ?_, h.len, h.lo, Nat.le_trans h.sz (Nat.le_trans hk.size kS.size), h.lt, h.ne, ?_, ?_, ?_, ?_⟩
  · refine cl_set (cl_keep0 h.cl hk (fun hl b hb e => ?_)) _ _ _ (fun hl b hb => (h.lo (by rw [← h.len]; exact hl) b hb).2.1)
    have := (h.lo (by rw [← h.len]; exact hl) b hb).1
    have := nb b e
    omega
  · rw [blL_succ]
    exact ho.keep kS (fun b hb e => by have := (ho.blk hb).1; omega)
  · exact (h.hd.keep hk (fun b hb e => h.ap b e hb)).keep kS (fun b hb e => by have := (h.hd.blk hb).1; omega)
  · rintro b ⟨x, e, rfl⟩ hb
    cases e
    rcases hg with hg | hg
    · exact h.ap _ hg hb
    · have := (h.hd.blk hb).2
      simp at this
      omega
  · exact map_keep (map_keep h.mp hk (fun e => by have := nb _ e; omega)) kS (fun e => h.ne e.symm)
/-- The row of what has to be ahead has one number more. -/
theorem NS.turnH {w w' : World} {B sb mb : Nat} {a : Option Addr} {n cap : Nat} {l : List Cl} {ba : Option Addr} {bc kb : Nat} {ha : Option Addr} {hc kh : Nat} (h : NS w B sb mb a n cap l ba bc kb ha hc kh) (g cap1 : Nat) (ho : OwnI w' B (some ⟨g, 0, none⟩) cap1 (ahL l kh ++ [((ahd l kh : Nat) : Int)])) (hk : Keep (blk ha) w w') (hg : blk ha g ∨ g = w.heap.size) :
    NS (w'.setCell ⟨sb, 2, none⟩ (.slice (some ⟨g, 0, none⟩) (kh + 1) cap1)) B sb mb a n cap l ba bc kb (some ⟨g, 0, none⟩) cap1 (kh + 1) := by
  have nb : ∀ b, blk ha b → B ≤ b := fun b hb => (h.hd.blk hb).1
  have gB : B ≤ g := (ho.blk ⟨_, rfl, rfl⟩).1
  have kS : Keep (fun b => b = sb) w' (w'.setCell ⟨sb, 2, none⟩ (.slice (some ⟨g, 0, none⟩) (kh + 1) cap1)) := Keep.set1 (Keep.refl _ _) 2 _
  have lt := h.lt
  have s1 := h.st.keep hk (fun e => by have := nb _ e; omega)
  refine ⟨s1.set 2 _, ?_, h.len, h.lo, Nat.le_trans h.sz (Nat.le_trans hk.size kS.size), h.lt, h.ne, ?_, ?_, ?_, ?_⟩
  · refine cl_set (cl_keep0 h.cl hk (fun hl b hb e => ?_)) _ _ _ (fun hl b hb => (h.lo (by rw [← h.len]; exact hl) b hb).2.1)
    have := (h.lo (by rw [← h.len]; exact hl) b hb).1
    have := nb b e
    omega
  · exact (h.bl.keep hk (fun b hb e => h.ap b hb e)).keep kS (fun b hb e => by have := (h.bl.blk hb).1; omega)
  · rw [ahL_succ]
    exact ho.keep kS (fun b hb e => by have := (ho.blk hb).1; omega)
  · rintro b hb ⟨x, e, rfl⟩
    cases e
    rcases hg with hg | hg
    · exact h.ap _ hb hg
    · have := (h.bl.blk hb).2
      simp at this
      omega
  · exact map_keep (map_keep h.mp hk (fun e => by have := nb _ e; omega)) kS (fun e => h.ne e.symm)
end Go.Proofs.Ytohngekkbgklfaa
