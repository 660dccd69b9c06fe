/-
  Words of my own for memory: bytes that lie at an address, worlds of which all but some blocks are as they were, bytes that are a whole block.
-/
import Derived.Test.YtfaphblninmioacProg
import Derived.Test.YtfaphblninmioacMathFrame
import Derived.WalkKit
import Derived.WalkSpells
import Derived.WalkLawsBesides
import Derived.Deep.QuietTactic
import Derived.BigQuiet
import Derived.Laws.CopyOwn
namespace Go.Proofs.Ytfaphblninmioac
open Go.RowKit

theorem val_int {k : IntKind} {a b : Int} (h : a = b) : Value.int k a = Value.int k b := by rw [h]
theorem ret_int {k : IntKind} {a b : Int} (h : a = b) : Ending.returned (.int k a) = .returned (.int k b) := by rw [h]
theorem ext_getD {a b : List Nat} (hl : a.length = b.length) (h : ∀ j, j < a.length → a[j]?.getD 0 = b[j]?.getD 0) : a = b := by
  apply List.ext_getElem hl
  intro i h1 h2
  have := h i h1
  rw [List.getElem?_eq_getElem h1, List.getElem?_eq_getElem h2] at this
  exact this
/-- THE BYTES bs LIE AT a: there are none; or each is a cell. -/
def Lies (w : World) (a : Option Addr) (bs : List Nat) : Prop :=
  bs = [] ∨ ∃ b off, a = some ⟨b, off, none⟩ ∧ ∀ i, i < bs.length → w.cell? ⟨b, off + i, none⟩ = some (.int .u8 ((bs[i]?.getD 0 : Nat) : Int))
theorem Lies.below {w w' : World} {a : Option Addr} {bs : List Nat} (h : Lies w a bs) (hb : Below w.heap.size w w') : Lies w' a bs := by
  rcases h with h | ⟨b, off, rfl, h⟩
  · exact Or.inl h
  · refine Or.inr ⟨b, off, rfl, fun i hi => ?_⟩
    have hc := h i hi
    rw [hb.cell (p := ⟨b, off + i, none⟩) (World.block_lt_of_cell? w _ hc)]
    exact hc
/-- ALL BUT THE BLOCKS OF S IS AS IT WAS. -/
structure Keep (S : Nat → Prop) (w w' : World) : Prop where
  os : w'.os = w.os
  tape : w'.tape = w.tape
  output : w'.output = w.output
  size : w.heap.size ≤ w'.heap.size
  block : ∀ k, k < w.heap.size → ¬ S k → w'.heap[k]? = w.heap[k]?
theorem Keep.refl (S : Nat → Prop) (w : World) : Keep S w w := ⟨rfl, rfl, rfl, Nat.le_refl _, fun _ _ _ => rfl⟩
theorem Keep.trans {S : Nat → Prop} {a b c : World} (h : Keep S a b) (k : Keep S b c) : Keep S a c :=
  ⟨k.os.trans h.os, k.tape.trans h.tape, k.output.trans h.output, Nat.le_trans h.size k.size, fun i hi hs => (k.block i (Nat.lt_of_lt_of_le hi h.size) hs).trans (h.block i hi hs)⟩
theorem Keep.of_below {S : Nat → Prop} {w w' : World} (h : Below w.heap.size w w') : Keep S w w' := ⟨h.os, h.tape, h.output, h.size, fun k hk _ => h.block k hk⟩
theorem Keep.mono {S T : Nat → Prop} {w w' : World} (h : Keep S w w') (hs : ∀ k, S k → T k) : Keep T w w' := ⟨h.os, h.tape, h.output, h.size, fun k hk ht => h.block k hk (fun e => ht (hs k e))⟩
theorem Keep.below {S : Nat → Prop} {w w' : World} {B : Nat} (h : Keep S w w') (hB : B ≤ w.heap.size) (hs : ∀ k, S k → B ≤ k) : Below B w w' :=
  ⟨h.os, h.tape, h.output, h.size, fun k hk => h.block k (by omega) (fun e => by have := hs k e; omega)⟩
theorem Keep.cell {S : Nat → Prop} {w w' : World} (h : Keep S w w') {p : Addr} (hp : p.block < w.heap.size) (hs : ¬ S p.block) : w'.cell? p = w.cell? p := World.cell?_of_block (w := w) (h.block p.block hp hs)
theorem Keep.frozen {S : Nat → Prop} {w w' : World} (h : Keep S w w') {p : Addr} (hp : p.block < w.heap.size) (hs : ¬ S p.block) : w'.frozen? p = w.frozen? p := World.frozen?_of_block (w := w) (h.block p.block hp hs)
theorem Keep.set {S : Nat → Prop} {a w : World} (h : Keep S a w) {p : Addr} (hp : S p.block) (u : Value) : Keep S a (w.setCell p u) := by
  have hb : Below 0 w (w.setCell p u) := (Below.refl _ _).setCell (Nat.zero_le _) u
  exact ⟨hb.os.trans h.os, hb.tape.trans h.tape, hb.output.trans h.output, Nat.le_trans h.size hb.size, fun k hk hs => by
    rw [Below.heap_setCell _ _ _ _ (fun e => hs (by rw [e]; exact hp))]; exact h.block k hk hs⟩
theorem Lies.keep {S : Nat → Prop} {w w' : World} {a : Option Addr} {bs : List Nat} (h : Lies w a bs) (hk : Keep S w w') (hs : ∀ b off, a = some ⟨b, off, none⟩ → ¬ S b) : Lies w' a bs := by
  rcases h with h | ⟨b, off, rfl, h⟩
  · exact Or.inl h
  · refine Or.inr ⟨b, off, rfl, fun i hi => ?_⟩
    have hc := h i hi
    rw [hk.cell (p := ⟨b, off + i, none⟩) (World.block_lt_of_cell? w _ hc) (hs b off rfl)]
    exact hc
def bv (y : Nat) : Value := .int .u8 (y : Int)
theorem heap_lt {w : World} {k : Nat} {o : Obj} (h : w.heap[k]? = some o) : k < w.heap.size := (Array.getElem?_eq_some_iff.1 h).1
theorem row_cell {w : World} {g : Nat} {l : List Nat} {t : TypeId} (h : w.heap[g]? = some (.cells (l.map bv).toArray t (0, 0))) (j : Nat) (hj : j < l.length) : w.cell? ⟨g, j, none⟩ = some (.int .u8 ((l[j]?.getD 0 : Nat) : Int)) := by
  simp [World.cell?, h, List.getElem?_eq_getElem hj, bv]
theorem row_free {w : World} {g : Nat} {cs : Array Value} {t : TypeId} (h : w.heap[g]? = some (.cells cs t (0, 0))) (j : Nat) : w.frozen? ⟨g, j, none⟩ = false := by
  simp [World.frozen?, h]
theorem row_lies {w : World} {g : Nat} {l : List Nat} {t : TypeId} (h : w.heap[g]? = some (.cells (l.map bv).toArray t (0, 0))) : Lies w (some ⟨g, 0, none⟩) l :=
  Or.inr ⟨g, 0, rfl, fun i hi => by rw [Nat.zero_add]; exact row_cell h i hi⟩
theorem row_set {w : World} {g : Nat} {l : List Nat} {t : TypeId} (h : w.heap[g]? = some (.cells (l.map bv).toArray t (0, 0))) (j v : Nat) : (w.setCell ⟨g, j, none⟩ (.int .u8 (v : Int))).heap[g]? = some (.cells ((l.set j v).map bv).toArray t (0, 0)) := by
  simp [World.setCell, Array.getElem?_modify, h, List.map_set, bv]
/-- THE BYTES l ARE THE WHOLE BLOCK g. -/
def Row (w : World) (g : Nat) (l : List Nat) : Prop := w.heap[g]? = some (.cells (l.map bv).toArray 5 (0, 0))
theorem Row.keep {S : Nat → Prop} {w w' : World} {g : Nat} {l : List Nat} (h : Row w g l) (hk : Keep S w w') (hs : ¬ S g) : Row w' g l := (hk.block g (heap_lt h) hs).trans h
theorem Row.below {w w' : World} {g : Nat} {l : List Nat} (h : Row w g l) (hb : Below w.heap.size w w') : Row w' g l := (hb.block g (heap_lt h)).trans h
theorem splice_snoc {l xs : List Nat} {off b : Nat} (h : off + xs.length < l.length) : (splice l off xs).set (off + xs.length) b = splice l off (xs ++ [b]) := by
  unfold splice
  have h1 : (l.take off).length = off := by rw [List.length_take]; omega
  rw [List.set_append_right _ _ (by omega), h1, List.set_append_right _ _ (by omega), show off + xs.length - off - xs.length = 0 by omega, List.drop_eq_getElem_cons h]
  simp [Nat.add_assoc]
theorem splice_nil (l : List Nat) (off : Nat) : splice l off [] = l := by simp [splice]
theorem splice_len {l xs : List Nat} {off : Nat} (h : off + xs.length ≤ l.length) : (splice l off xs).length = l.length := by
  unfold splice
  rw [List.length_append, List.length_append, List.length_take, List.length_drop]
  omega
theorem lies_part {w : World} {g off : Nat} {l : List Nat} (h : Row w g l) (n : Nat) (hn : off + n ≤ l.length) : Lies w (some ⟨g, off, none⟩) (cutL l off n) :=
  Or.inr ⟨g, off, rfl, fun i hi => by
    have hl : (cutL l off n).length = n := by unfold cutL; rw [List.length_take, List.length_drop]; omega
    have e : (cutL l off n)[i]?.getD 0 = l[off + i]?.getD 0 := by unfold cutL; rw [List.getElem?_take, if_pos (by omega), List.getElem?_drop]
    rw [e]
    exact row_cell h (off + i) (by omega)⟩
theorem splice_mid {A B C X : List Nat} {k : Nat} (hk : A.length = k) (h : X.length = B.length) : splice (A ++ (B ++ C)) k X = A ++ (X ++ C) := by
  subst hk
  unfold splice
  rw [List.take_append_of_le_length (Nat.le_refl _), List.take_length, List.drop_append, List.drop_of_length_le (by omega), List.nil_append, show A.length + X.length - A.length = B.length by omega, List.drop_append, List.drop_length, List.nil_append, Nat.sub_self, List.drop_zero]
/-- The page as Pack builds it, without its sum. -/
def pageK (n k l s : Nat) (data : List Nat) : List Nat := splice (splice (splice (splice (((List.replicate n 0).set 0 165).set 1 k) 2 (low 4 l)) 6 (low 8 s)) 14 (low 2 data.length)) 20 data
theorem page_built {n k l s : Nat} {data : List Nat} (h : data.length + 21 ≤ n) : (pageK n k l s data).set (n - 1) 90 = bodyL n 0 k l s data := by
  obtain ⟨d, hd⟩ : ∃ d, data.length = d := ⟨_, rfl⟩
  have e0 : List.replicate n 0 = List.replicate 2 0 ++ (List.replicate 4 0 ++ (List.replicate 8 0 ++ (List.replicate 2 0 ++ (List.replicate 4 0 ++ (List.replicate d 0 ++ (List.replicate (n - 21 - d) 0 ++ List.replicate 1 0)))))) := by
    simp only [List.replicate_append_replicate]
    congr 1
    omega
  unfold pageK
  rw [hd, e0]
  have e1 : ∀ T : List Nat, ((List.replicate 2 0 ++ T).set 0 165).set 1 k = [165, k] ++ T := fun T => rfl
  rw [e1, splice_mid (by rfl) (by rw [low_len, List.length_replicate]), ← List.append_assoc, splice_mid (by simp [low_len]) (by rw [low_len, List.length_replicate]), ← List.append_assoc, splice_mid (by simp [low_len]) (by rw [low_len, List.length_replicate])]
  have e2 : ∀ A B C D T : List Nat, A ++ B ++ C ++ (D ++ (List.replicate 4 0 ++ T)) = (A ++ (B ++ (C ++ D)) ++ List.replicate 4 0) ++ T := fun A B C D T => by simp
  rw [e2, splice_mid (by simp [low_len]) (by rw [List.length_replicate, hd])]
  have e3 : ∀ A X Y : List Nat, A.length + X.length + Y.length = n - 1 → (A ++ (X ++ (Y ++ List.replicate 1 0))).set (n - 1) 90 = A ++ (X ++ (Y ++ [90])) := fun A X Y hl => by
    rw [List.set_append_right _ _ (by omega), List.set_append_right _ _ (by omega), List.set_append_right _ _ (by omega), show n - 1 - A.length - X.length - Y.length = 0 by omega]
    rfl
  rw [e3 _ _ _ (by simp [low_len]; omega)]
  unfold bodyL headL restL
  rw [low_zero, hd]
  simp
theorem page_summed {n k l s c : Nat} {data : List Nat} : splice (bodyL n 0 k l s data) 16 (low 4 c) = bodyL n c k l s data := splice_mid (headL_len ..) (by rw [low_len, low_len])
theorem pageK_len {n k l s : Nat} {data : List Nat} (h : data.length + 21 ≤ n) : (pageK n k l s data).length = n := by
  have := congrArg List.length (page_built (k := k) (l := l) (s := s) h)
  rw [List.length_set, bodyL_len n 0 k l s data h] at this
  exact this
theorem Row.drew {w : World} {g : Nat} {l : List Nat} (h : Row w g l) : Row w.drew g l := h
end Go.Proofs.Ytfaphblninmioac
