/-
  What the laws share: scripts of calls; rows of numbers of the call's own, to which is appended; what lies there between two calls on a book.
-/
import Derived.Test.YtcppokafgohkgadDoorNew
import Derived.Test.YtcppokafgohkgadDoorTold
namespace Go.Proofs.YtcppokafgohkgadDoor
open Go.RowKit
set_option linter.unusedVariables false

/-- One call of a script. -/
structure OpD where
  kind : Int
  a : Int
  b : Int
/-- .. as it lies at the i-th place. -/
structure OpAt (w : World) (b off i : Nat) (o : OpD) : Prop where
  k0 : w.cell? ⟨b, off + i * 3, none⟩ = some (.int .i64 o.kind)
  k1 : w.cell? ⟨b, off + i * 3 + 1, none⟩ = some (.int .i64 o.a)
  k2 : w.cell? ⟨b, off + i * 3 + 2, none⟩ = some (.int .i64 o.b)
theorem OpAt.below {w w' : World} {b off i B : Nat} {o : OpD} (h : OpAt w b off i o) (hb : Below B w w') (hB : w.heap.size ≤ B) : OpAt w' b off i o := by
  have hc : ∀ q, w'.cell? ⟨b, q, none⟩ = w.cell? ⟨b, q, none⟩ := fun q => hb.cell (p := ⟨b, q, none⟩) (Nat.lt_of_lt_of_le (World.block_lt_of_cell? w ⟨b, off + i * 3, none⟩ h.k0) hB)
  exact ⟨by rw [hc]; exact h.k0, by rw [hc]; exact h.k1, by rw [hc]; exact h.k2⟩
/-- A script of n calls. -/
def Script (w : World) (a : Option Addr) (n : Nat) : Prop := n = 0 ∨ ∃ b off, a = some ⟨b, off, none⟩ ∧ ∀ i, i < n → ∃ o, OpAt w b off i o
theorem Script.slice {w : World} {a : Option Addr} {n i : Nat} (h : Script w a n) (hi : i < n) : ∃ b off, a = some ⟨b, off, none⟩ ∧ ∃ o, OpAt w b off i o := by
  rcases h with h | ⟨b, off, e, h⟩
  · omega
  · exact ⟨b, off, e, h i hi⟩
/-- THE NUMBERS f 0 .. f (k - 1) ARE A ROW OF THE CALL's OWN at a (nil: there are none), in blocks from base on. -/
def OwnI (w : World) (base : Nat) (a : Option Addr) (cap : Nat) (f : Nat → Int) (k : Nat) : Prop := w.ownsRow base 3 1 (.slice a k cap) k ((List.range k).map fun i => .int .i64 (f i))
theorem OwnI.nil (w : World) (base : Nat) (f : Nat → Int) : OwnI w base none 0 f 0 := ⟨rfl, Or.inl ⟨rfl, rfl⟩⟩
theorem OwnI.parts {w : World} {base cap k : Nat} {a : Option Addr} {f : Nat → Int} (h : OwnI w base a cap f k) (hk : 1 ≤ k) :
    ∃ g cur, a = some ⟨g, 0, none⟩ ∧ base ≤ g ∧ w.heap[g]? = some (.cells cur 3 (0, 0)) ∧ k ≤ cap ∧ cap ≤ maxLen ∧ cur.toList.take k = (List.range k).map fun i => .int .i64 (f i) := by
  rcases h.2 with ⟨h2, h3⟩ | ⟨g, cap', cur, hv, r1, r2, r3, r4, r5, r6⟩
  · omega
  · simp at hv
    obtain ⟨rfl, rfl⟩ := hv
    exact ⟨g, cur, rfl, r1, r2, r3, r4, by simpa using r6⟩
theorem OwnI.blk {w : World} {base cap k : Nat} {a : Option Addr} {f : Nat → Int} (h : OwnI w base a cap f k) {b : Nat} (hb : blk a b) : base ≤ b ∧ b < w.heap.size := by
  obtain ⟨x, rfl, rfl⟩ := hb
  rcases h.2 with ⟨h2, h3⟩ | ⟨g, cap', cur, hv, r1, r2, r3⟩
  · simp at h2
  · simp at hv
    obtain ⟨rfl, _⟩ := hv
    exact ⟨r1, heap_lt r2⟩
theorem OwnI.cell {w : World} {base cap k g : Nat} {f : Nat → Int} (h : OwnI w base (some ⟨g, 0, none⟩) cap f k) {i : Nat} (hi : i < k) : w.cell? ⟨g, i, none⟩ = some (.int .i64 (f i)) := by
  obtain ⟨g', cur, e, _, h2, h3, h4, h6⟩ := h.parts (by omega)
  cases e
  have e : (cur.toList.take k)[i]? = ((List.range k).map fun i => Value.int .i64 (f i))[i]? := by rw [h6]
  rw [List.getElem?_take, if_pos hi, List.getElem?_map, List.getElem?_range hi] at e
  simp only [World.cell?, h2]
  rw [← Array.getElem?_toList]
  simpa using e
theorem OwnI.free {w : World} {base cap k g : Nat} {f : Nat → Int} (h : OwnI w base (some ⟨g, 0, none⟩) cap f k) (hk : 1 ≤ k) (o : Nat) : w.frozen? ⟨g, o, none⟩ = false := by
  obtain ⟨g', cur, e, _, h2, _⟩ := h.parts hk
  cases e
  simp [World.frozen?, h2]
theorem OwnI.keep {S : Nat → Prop} {w w' : World} {base cap k : Nat} {a : Option Addr} {f : Nat → Int} (h : OwnI w base a cap f k) (hk : Keep S w w') (hs : ∀ b, YtcppokafgohkgadDoor.blk a b → ¬ S b) : OwnI w' base a cap f k := by
  refine ⟨h.1, ?_⟩
  rcases h.2 with h2 | ⟨g, cap', cur, hv, r1, r2, r3⟩
  · exact Or.inl h2
  · have e : a = some ⟨g, 0, none⟩ := by simp at hv; exact hv.1
    exact Or.inr ⟨g, cap', cur, hv, r1, by rw [hk.block g (heap_lt r2) (hs g ⟨_, e, rfl⟩)]; exact r2, r3⟩
theorem keep_grown {w w' : World} {a : Option Addr} {n c : Nat} (h : w.grownBy w' (Value.slice a n c).ownBlock) : Keep (blk a) w w' :=
  ⟨h.os, h.tape, h.output, h.size, fun k hk hs => h.block k hk (fun e => hs (by
    cases a with
    | none => cases e
    | some x => exact ⟨x, rfl, by simp [Value.ownBlock] at e; exact e.symm⟩))⟩
/-- ONE MORE IS APPENDED. -/
theorem app_stepI {ops : Array Oper} {rest : List Oper} {o : Oper} {a : Act} {Q : Exit → Act → World → Prop} (hgd : o.guard = none) (s x : Operand)
    (ho : o.op = .call { callee := .builtin .append, args := #[s, x], argTypes := #[53, 53] }) (w : World) (base cap0 k : Nat) (a0 : Option Addr) (f : Nat → Int) (v : Int)
    (hs : a.eval s = .slice a0 k cap0) (hx : a.eval x = .slice (some ⟨w.heap.size, 0, none⟩) 1 1) (h : OwnI w base a0 cap0 f k) (hv : f k = v) (hk : k ≤ 4096) (hb : base ≤ w.heap.size)
    (hc : ∀ g cap1 w', OwnI w' base (some ⟨g, 0, none⟩) cap1 f (k + 1) → Keep (blk a0) w w' → wpList Tryd.prog ops Q rest (a.put o.dst (.slice (some ⟨g, 0, none⟩) (k + 1) cap1)) w') :
    wpList Tryd.prog ops Q (o :: rest) a (w.alloc (.cells #[.int .i64 v] 3)) := by
  obtain ⟨i0, hi, hz0, hz1, hz2⟩ := info_parts infoInt
  have hbl : Below w.heap.size w (w.alloc (.cells #[.int .i64 v] 3)) := (Below.refl _ _).alloc (Nat.le_refl _) _
  have ho' : OwnI (w.alloc (.cells #[.int .i64 v] 3)) base a0 cap0 f k := h.keep (S := fun _ => False) (Keep.of_below hbl) (fun _ _ e => e)
  refine wpList_append_lies (w.alloc (.cells #[.int .i64 v] 3)) hgd s x 53 ho base 3 i0 (.int .i64 0) 1 8 Tryd.underlying53 hi hz0 hz1 hz2 rfl (by decide) (.slice a0 k cap0) k _ hs ho' ⟨w.heap.size, 0, none⟩ 1 1 [.int .i64 v] hx rfl (World.news_of_block (heap_alloc_new w _)) (fun u hu => by simp at hu; subst hu; rfl) (by decide) (by unfold maxLen; omega) (by omega) (Nat.le_trans hb hbl.size) _ rfl ?_
  intro g cap1 w' h2 h3 _ _
  refine hc g cap1 w' ?_ ((Keep.of_below hbl).trans (keep_grown h3))
  unfold OwnI
  rw [List.range_succ, List.map_append, List.map_cons, List.map_nil, hv]
  exact h2
/-- WHAT LIES THERE BETWEEN TWO CALLS ON A BOOK. -/
structure BS (L P B bb ab ob : Nat) (w wr : World) (s : Bk) : Prop where
  bo : BO L P wr bb ab ob s
  bel : Below B w wr
  ge : B ≤ bb ∧ B ≤ ab ∧ B ≤ ob
  sz : B ≤ wr.heap.size
theorem BS.step {L P B bb ab ob : Nat} {w wr w' : World} {s s' : Bk} (h : BS L P B bb ab ob w wr s) (hb : BO L P w' bb ab ob s') (hk : Keep (BT ab ob) wr w') : BS L P B bb ab ob w w' s' :=
  ⟨hb, h.bel.trans (hk.below h.sz (fun b e => by have g := h.ge; rcases e with e | e <;> omega)), h.ge, Nat.le_trans h.sz hk.size⟩
theorem BS.keep {S : Nat → Prop} {L P B bb ab ob : Nat} {w wr w' : World} {s : Bk} (h : BS L P B bb ab ob w wr s) (hk : Keep S wr w') (hs : ∀ b, S b → B ≤ b ∧ ¬ BM bb ab ob b) : BS L P B bb ab ob w w' s :=
  ⟨h.bo.keep hk (fun b hb e => (hs b e).2 hb), h.bel.trans (hk.below h.sz (fun b e => (hs b e).1)), h.ge, Nat.le_trans h.sz hk.size⟩
theorem BS.below {L P B bb ab ob : Nat} {w wr w' : World} {s : Bk} (h : BS L P B bb ab ob w wr s) (hb : Below wr.heap.size wr w') : BS L P B bb ab ob w w' s := h.keep (S := fun _ => False) (Keep.of_below hb) (fun _ e => e.elim)
theorem same_err (n : Nat) (w : World) (hE : EType w) : Calls Tryd.prog 14 #[errI n, .int .i64 (n : Int)] w fun ev w' => ev = .returned (.bool true) ∧ Below w.heap.size w w' := by
  by_cases h0 : n = 0
  · subst h0
    exact (error_nil 0 w).mono fun e w' ⟨h1, h2⟩ => ⟨h1, h2 ▸ Below.refl _ _⟩
  · rw [errI_ne h0]
    exact error_same n w hE
end Go.Proofs.YtcppokafgohkgadDoor
