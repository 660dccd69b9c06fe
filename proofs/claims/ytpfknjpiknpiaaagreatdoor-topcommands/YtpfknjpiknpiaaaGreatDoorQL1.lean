/- Part of the proof. -/
import Derived.WalkKit
import Derived.Laws.CopyOwn
import Derived.Test.YtpfknjpiknpiaaaGreatDoorQFacts3
import Derived.WalkSpells
import Derived.WalkLawsBesides
import Derived.Deep.QuietTactic
import Derived.BigQuiet
import Derived.Laws.AppendOwnNone
import Derived.Deep.AppendLies
import Derived.Deep.RegionWith
import Derived.Deep.CutRange
import Derived.Deep.DeepCutAuto
import Derived.Deep.RegionHeld3
import Derived.Deep.RegionLaw
import Derived.Deep.Slices
import Derived.RegionTactic
namespace Go.Proofs.YtpfknjpiknpiaaaGreatDoorQL
open Go.RowKit
def AllB (l : List Nat) : Prop := ∀ x ∈ l, x < 256
theorem AllB.take {l : List Nat} (h : AllB l) (k : Nat) : AllB (l.take k) := fun x hx => h x (List.mem_of_mem_take hx)
theorem AllB.at {l : List Nat} (h : AllB l) (k : Nat) : l[k]?.getD 0 < 256 := by
  cases e : l[k]? with
  | none => exact (by decide : 0 < 256)
  | some x => exact h x (List.mem_of_getElem? e)
theorem take_snocN (l : List Nat) (k : Nat) (h : k < l.length) : l.take (k + 1) = l.take k ++ [l[k]?.getD 0] := by
  rw [List.take_succ_eq_append_getElem h, List.getElem?_eq_getElem h]; rfl
def low : Nat → Nat → List Nat
  | 0, _ => []
  | k + 1, x => x % 256 :: low k (x / 256)
def num : List Nat → Nat
  | [] => 0
  | b :: r => b + 256 * num r
theorem low_len : ∀ k x, (low k x).length = k
  | 0, _ => rfl
  | k + 1, x => by simp [low, low_len k]
theorem low_all : ∀ k x, AllB (low k x)
  | 0, _ => fun _ h => by simp [low] at h
  | k + 1, x => fun y h => by
    simp only [low, List.mem_cons] at h
    rcases h with rfl | h
    · omega
    · exact low_all k _ y h
theorem pow8 (k : Nat) : 2 ^ (8 * (k + 1)) = 256 * 2 ^ (8 * k) := by rw [show 8 * (k + 1) = 8 + 8 * k by omega, Nat.pow_add]
theorem num_lt : ∀ l, AllB l → num l < 2 ^ (8 * l.length)
  | [], _ => by decide
  | b :: r, h => by
    have h1 := h b (by simp)
    have h2 := num_lt r (fun x hx => h x (by simp [hx]))
    rw [List.length_cons, pow8]
    show b + 256 * num r < _
    omega
theorem num_low : ∀ k x, x < 2 ^ (8 * k) → num (low k x) = x
  | 0, x, h => by show 0 = x; simp at h; omega
  | k + 1, x, h => by
    rw [pow8] at h
    have e := num_low k (x / 256) (by omega)
    show x % 256 + 256 * num (low k (x / 256)) = x
    rw [e]; omega
theorem num_snoc : ∀ l b, num (l ++ [b]) = num l + b * 2 ^ (8 * l.length)
  | [], b => by simp [num]
  | a :: r, b => by
    show a + 256 * num (r ++ [b]) = a + 256 * num r + _
    rw [num_snoc r b, List.length_cons, pow8, Nat.mul_left_comm]
    omega
theorem num_or (l : List Nat) (b : Nat) (h : AllB l) : num l ||| b * 2 ^ (8 * l.length) = num (l ++ [b]) := by
  rw [num_snoc, Nat.or_comm, Nat.mul_comm b, ← Nat.two_pow_add_eq_or_of_lt (num_lt l h)]
  omega
theorem low_snoc : ∀ k x, low (k + 1) x = low k x ++ [x / 2 ^ (8 * k) % 256]
  | 0, x => by simp [low]
  | k + 1, x => by
    show x % 256 :: low (k + 1) (x / 256) = x % 256 :: (low k (x / 256) ++ _)
    rw [low_snoc k, Nat.div_div_eq_div_mul, pow8]
theorem AllB.app {a b : List Nat} (h : AllB a) (k : AllB b) : AllB (a ++ b) := fun x hx => by
  rcases List.mem_append.1 hx with hx | hx
  · exact h x hx
  · exact k x hx
theorem AllB.drop {l : List Nat} (h : AllB l) (k : Nat) : AllB (l.drop k) := fun x hx => h x (List.mem_of_mem_drop hx)
def cut (l : List Nat) (i n : Nat) : List Nat := (l.drop i).take n
theorem cut_len {l : List Nat} {i n : Nat} (h : i + n ≤ l.length) : (cut l i n).length = n := by
  unfold cut; rw [List.length_take, List.length_drop]; omega
theorem cut_all {l : List Nat} (h : AllB l) (i n : Nat) : AllB (cut l i n) := (h.drop i).take n
theorem cut_at {l : List Nat} {i n : Nat} (k : Nat) (hk : k < n) : (cut l i n)[k]?.getD 0 = l[i + k]?.getD 0 := by
  unfold cut; rw [List.getElem?_take, if_pos hk, List.getElem?_drop]
def lay (l : List Nat) (i : Nat) (xs : List Nat) : List Nat := splice l i xs
theorem lay_len {l : List Nat} {i : Nat} {xs : List Nat} (h : i + xs.length ≤ l.length) : (lay l i xs).length = l.length := length_splice l i xs h
theorem lay_nil (l : List Nat) (i : Nat) : lay l i [] = l := by unfold lay splice; simp
theorem lay_all {l xs : List Nat} (i : Nat) (h : AllB l) (k : AllB xs) : AllB (lay l i xs) := by
  unfold lay splice
  exact (h.take i).app (k.app (h.drop _))
theorem lay_cut {l : List Nat} {i : Nat} {xs : List Nat} (h : i + xs.length ≤ l.length) : cut (lay l i xs) i xs.length = xs := by
  unfold lay cut splice
  rw [List.drop_append_of_le_length (by rw [List.length_take]; omega), List.drop_eq_nil_of_le (by rw [List.length_take]; omega), List.nil_append, List.take_append_of_le_length (Nat.le_refl _), List.take_of_length_le (Nat.le_refl _)]
theorem lay_far {l xs : List Nat} {i j n : Nat} (h : i + xs.length ≤ l.length) (hj : j + n ≤ l.length) (ha : i + xs.length ≤ j ∨ j + n ≤ i) : cut (lay l i xs) j n = cut l j n := by
  apply List.ext_getElem?
  intro k
  by_cases hk : k < n
  · unfold cut lay splice
    rw [List.getElem?_take, if_pos hk, List.getElem?_take, if_pos hk, List.getElem?_drop, List.getElem?_drop]
    rcases ha with ha | ha
    · rw [List.getElem?_append_right (by rw [List.length_take]; omega), List.length_take, List.getElem?_append_right (by omega), List.getElem?_drop]
      congr 1
      omega
    · rw [List.getElem?_append_left (by rw [List.length_take]; omega), List.getElem?_take, if_pos (by omega)]
  · rw [List.getElem?_eq_none (by rw [cut_len (by rw [lay_len h]; exact hj)]; omega), List.getElem?_eq_none (by rw [cut_len hj]; omega)]
theorem lay_set {l xs : List Nat} {i : Nat} (b : Nat) (h : i + xs.length < l.length) : (lay l i xs).set (i + xs.length) b = lay l i (xs ++ [b]) := by
  unfold lay splice
  rw [List.set_append_right _ _ (by rw [List.length_take]; omega), List.length_take, List.set_append_right _ _ (by omega)]
  rw [show i + xs.length - min i l.length - xs.length = 0 by omega, List.length_append, List.length_singleton, List.append_assoc]
  rw [List.drop_eq_getElem_cons h, List.set_cons_zero]
  rfl
end Go.Proofs.YtpfknjpiknpiaaaGreatDoorQL
namespace Go.Proofs.YtpfknjpiknpiaaaGreatDoorQL
open Go.Proofs.YtpfknjpiknpiaaaGreatDoorQ
open Go.RowKit
set_option linter.unusedVariables false
theorem val_int {k : IntKind} {a b : Int} (h : a = b) : Value.int k a = Value.int k b := by rw [h]
theorem ret_int {k : IntKind} {a b : Int} (h : a = b) : Ending.returned (.int k a) = .returned (.int k b) := by rw [h]
def Lies (w : World) (a : Option Addr) (bs : List Nat) : Prop :=
  bs = [] ∨ ∃ b off, a = some ⟨b, off, none⟩ ∧ ∀ i, i < bs.length → w.cell? ⟨b, off + i, none⟩ = some (.int .u8 ((bs[i]?.getD 0 : Nat) : Int))
theorem Lies.below {w w' : World} {a : Option Addr} {bs : List Nat} (h : Lies w a bs) (hb : Below w.heap.size w w') : Lies w' a bs := by
  rcases h with h | ⟨b, off, rfl, h⟩
  · exact Or.inl h
  · refine Or.inr ⟨b, off, rfl, fun i hi => ?_⟩
    have hc := h i hi
    rw [hb.cell (p := ⟨b, off + i, none⟩) (World.block_lt_of_cell? w _ hc)]
    exact hc
structure Keep (S : Nat → Prop) (w w' : World) : Prop where
  os : w'.os = w.os
  tape : w'.tape = w.tape
  output : w'.output = w.output
  size : w.heap.size ≤ w'.heap.size
  block : ∀ k, k < w.heap.size → ¬ S k → w'.heap[k]? = w.heap[k]?
theorem Keep.refl (S : Nat → Prop) (w : World) : Keep S w w := ⟨rfl, rfl, rfl, Nat.le_refl _, fun _ _ _ => rfl⟩
theorem Keep.trans {S : Nat → Prop} {a b c : World} (h : Keep S a b) (k : Keep S b c) : Keep S a c :=
  ⟨k.os.trans h.os, k.tape.trans h.tape, k.output.trans h.output, Nat.le_trans h.size k.size, fun i hi hs => (k.block i (Nat.lt_of_lt_of_le hi h.size) hs).trans (h.block i hi hs)⟩
theorem Keep.of_below {S : Nat → Prop} {w w' : World} (h : Below w.heap.size w w') : Keep S w w' := ⟨h.os, h.tape, h.output, h.size, fun k hk _ => h.block k hk⟩
theorem Keep.mono {S T : Nat → Prop} {w w' : World} (h : Keep S w w') (hs : ∀ k, S k → T k) : Keep T w w' := ⟨h.os, h.tape, h.output, h.size, fun k hk ht => h.block k hk (fun e => ht (hs k e))⟩
theorem Keep.below {S : Nat → Prop} {w w' : World} {B : Nat} (h : Keep S w w') (hB : B ≤ w.heap.size) (hs : ∀ k, S k → B ≤ k) : Below B w w' :=
  ⟨h.os, h.tape, h.output, h.size, fun k hk => h.block k (by omega) (fun e => by have := hs k e; omega)⟩
theorem Keep.cell {S : Nat → Prop} {w w' : World} (h : Keep S w w') {p : Addr} (hp : p.block < w.heap.size) (hs : ¬ S p.block) : w'.cell? p = w.cell? p := World.cell?_of_block (w := w) (h.block p.block hp hs)
theorem Keep.frozen {S : Nat → Prop} {w w' : World} (h : Keep S w w') {p : Addr} (hp : p.block < w.heap.size) (hs : ¬ S p.block) : w'.frozen? p = w.frozen? p := World.frozen?_of_block (w := w) (h.block p.block hp hs)
theorem Keep.set {S : Nat → Prop} {a w : World} (h : Keep S a w) {p : Addr} (hp : S p.block) (u : Value) : Keep S a (w.setCell p u) := by
  have hb : Below 0 w (w.setCell p u) := (Below.refl _ _).setCell (Nat.zero_le _) u
  exact ⟨hb.os.trans h.os, hb.tape.trans h.tape, hb.output.trans h.output, Nat.le_trans h.size hb.size, fun k hk hs => by
    rw [Below.heap_setCell _ _ _ _ (fun e => hs (by rw [e]; exact hp))]; exact h.block k hk hs⟩
theorem Keep.set1 {g : Nat} {a w : World} (h : Keep (fun b => b = g) a w) (o : Nat) (u : Value) : Keep (fun b => b = g) a (w.setCell ⟨g, o, none⟩ u) := Keep.set (p := ⟨g, o, none⟩) h rfl u
theorem Lies.keep {S : Nat → Prop} {w w' : World} {a : Option Addr} {bs : List Nat} (h : Lies w a bs) (hk : Keep S w w') (hs : ∀ b off, bs ≠ [] → a = some ⟨b, off, none⟩ → ¬ S b) : Lies w' a bs := by
  by_cases hb : bs = []
  · exact Or.inl hb
  rcases h with h | ⟨b, off, rfl, h⟩
  · exact Or.inl h
  · refine Or.inr ⟨b, off, rfl, fun i hi => ?_⟩
    have hc := h i hi
    rw [hk.cell (p := ⟨b, off + i, none⟩) (World.block_lt_of_cell? w _ hc) (hs b off hb rfl)]
    exact hc
theorem Lies.lt {w : World} {a : Option Addr} {bs : List Nat} (h : Lies w a bs) (b off : Nat) (hb : bs ≠ []) (ha : a = some ⟨b, off, none⟩) : b < w.heap.size := by
  rcases h with h | ⟨b', off', e, h⟩
  · exact absurd h hb
  · rw [ha] at e
    cases e
    have hl : 0 < bs.length := by cases bs with
      | nil => exact absurd rfl hb
      | cons => simp
    exact World.block_lt_of_cell? w _ (h 0 hl)
def bv (y : Nat) : Value := .int .u8 (y : Int)
theorem heap_lt {w : World} {k : Nat} {o : Obj} (h : w.heap[k]? = some o) : k < w.heap.size := (Array.getElem?_eq_some_iff.1 h).1
theorem row_cell {w : World} {g : Nat} {l : List Nat} {t : TypeId} (h : w.heap[g]? = some (.cells (l.map bv).toArray t (0, 0))) (j : Nat) (hj : j < l.length) : w.cell? ⟨g, j, none⟩ = some (.int .u8 ((l[j]?.getD 0 : Nat) : Int)) := by
  simp [World.cell?, h, List.getElem?_eq_getElem hj, bv]
theorem row_free {w : World} {g : Nat} {cs : Array Value} {t : TypeId} (h : w.heap[g]? = some (.cells cs t (0, 0))) (j : Nat) : w.frozen? ⟨g, j, none⟩ = false := by
  simp [World.frozen?, h]
theorem row_set {w : World} {g : Nat} {l : List Nat} {t : TypeId} (h : w.heap[g]? = some (.cells (l.map bv).toArray t (0, 0))) (j v : Nat) : (w.setCell ⟨g, j, none⟩ (.int .u8 (v : Int))).heap[g]? = some (.cells ((l.set j v).map bv).toArray t (0, 0)) := by
  simp [World.setCell, Array.getElem?_modify, h, List.map_set, bv]
def Row (w : World) (g : Nat) (l : List Nat) : Prop := w.heap[g]? = some (.cells (l.map bv).toArray 5 (0, 0))
theorem Row.keep {S : Nat → Prop} {w w' : World} {g : Nat} {l : List Nat} (h : Row w g l) (hk : Keep S w w') (hs : ¬ S g) : Row w' g l := (hk.block g (heap_lt h) hs).trans h
theorem Row.below {w w' : World} {g : Nat} {l : List Nat} (h : Row w g l) (hb : Below w.heap.size w w') : Row w' g l := (hb.block g (heap_lt h)).trans h
theorem Keep.drewN {S : Nat → Prop} {a w : World} (h : Keep S a w) (q : Nat) : Keep S a (w.drewN q) :=
  h.trans (Keep.of_below (below_drewN (Below.refl _ _) q))
theorem Keep.drew {S : Nat → Prop} {a w : World} (h : Keep S a w) : Keep S a w.drew :=
  h.trans (Keep.of_below ((Below.refl _ _).drew))
theorem Keep.alloc {S : Nat → Prop} {a w : World} (h : Keep S a w) (o : Obj) : Keep S a (w.alloc o) :=
  h.trans (Keep.of_below ((Below.refl _ _).alloc (Nat.le_refl _) _))
theorem far {w : World} {b o b' o' : Nat} (u : Value) (h : ¬ (b = b' ∧ o = o')) : (w.setCell ⟨b, o, none⟩ u).cell? ⟨b', o', none⟩ = w.cell? ⟨b', o', none⟩ :=
  World.cell?_setCell_other w _ _ u (fun e => h (by cases e; exact ⟨rfl, rfl⟩))
theorem info5 : ((Al.progOf Tryz.prog).info? 5).map (fun i => (i.zero, i.size, i.bytes)) = some (some (.int .u8 0), 1, 1) := by kernel_rfl
def OwnA (w : World) (base : Nat) (a : Option Addr) (cap : Nat) (ys : List Nat) : Prop := w.ownsRow base 5 1 (.slice a ys.length cap) ys.length (ys.map bv)
theorem OwnA.parts {w : World} {base cap : Nat} {a : Option Addr} {ys : List Nat} (h : OwnA w base a cap ys) :
    (a = none ∧ cap = 0 ∧ ys = []) ∨ ∃ g cur, a = some ⟨g, 0, none⟩ ∧ base ≤ g ∧ w.heap[g]? = some (.cells cur 5 (0, 0)) ∧ ys.length ≤ cap ∧ cap ≤ maxLen ∧ cur.size = cap ∧ cur.toList.take ys.length = ys.map bv := by
  rcases h.2 with ⟨h2, h3⟩ | ⟨g, cap', cur, hv, r1, r2, r3, r4, r5, r6⟩
  · simp at h2
    exact Or.inl ⟨h2.1, h2.2.2, h2.2.1⟩
  · simp at hv
    obtain ⟨rfl, rfl⟩ := hv
    exact Or.inr ⟨g, cur, rfl, r1, r2, r3, r4, by simpa using r5, by simpa using r6⟩
theorem OwnA.lies {w : World} {base cap : Nat} {a : Option Addr} {ys : List Nat} (h : OwnA w base a cap ys) : Lies w a ys := by
  rcases h.parts with ⟨_, _, h⟩ | ⟨g, cur, rfl, h1, h2, h3, h4, h5, h6⟩
  · exact Or.inl h
  · refine Or.inr ⟨g, 0, rfl, fun i hi => ?_⟩
    have e : (cur.toList.take ys.length)[i]? = (ys.map bv)[i]? := by rw [h6]
    rw [List.getElem?_take, if_pos hi, List.getElem?_map, List.getElem?_eq_getElem hi] at e
    rw [List.getElem?_eq_getElem hi, Nat.zero_add]
    simp only [World.cell?, h2]
    rw [← Array.getElem?_toList]
    simpa [bv] using e
def blk (a : Option Addr) (b : Nat) : Prop := ∃ x, a = some x ∧ x.block = b
theorem OwnA.ge {w : World} {base cap : Nat} {a : Option Addr} {ys : List Nat} (h : OwnA w base a cap ys) {b : Nat} (hb : blk a b) : base ≤ b ∧ b < w.heap.size := by
  obtain ⟨x, rfl, rfl⟩ := hb
  rcases h.parts with ⟨e, _, _⟩ | ⟨g, cur, e, h1, h2, _⟩
  · cases e
  · cases e
    exact ⟨h1, heap_lt h2⟩
theorem OwnA.keep {S : Nat → Prop} {w w' : World} {base cap : Nat} {a : Option Addr} {ys : List Nat} (h : OwnA w base a cap ys) (hk : Keep S w w') (hs : ∀ b, blk a b → ¬ S b) : OwnA w' base a cap ys := by
  refine ⟨h.1, ?_⟩
  rcases h.2 with h2 | ⟨g, cap', cur, hv, r1, r2, r3⟩
  · exact Or.inl h2
  · have e : a = some ⟨g, 0, none⟩ := by simp at hv; exact hv.1
    exact Or.inr ⟨g, cap', cur, hv, r1, by rw [hk.block g (heap_lt r2) (hs g ⟨_, e, rfl⟩)]; exact r2, r3⟩
theorem OwnA.below {w w' : World} {base cap : Nat} {a : Option Addr} {ys : List Nat} (h : OwnA w base a cap ys) (hb : Below w.heap.size w w') : OwnA w' base a cap ys := h.keep (S := fun _ => False) (Keep.of_below hb) (fun _ _ e => e)
theorem OwnA.base {w : World} {base base' cap : Nat} {a : Option Addr} {ys : List Nat} (h : OwnA w base a cap ys) (hb : base' ≤ base) : OwnA w base' a cap ys := by
  refine ⟨h.1, ?_⟩
  rcases h.2 with h2 | ⟨g, cap', cur, hv, r1, r2⟩
  · exact Or.inl h2
  · exact Or.inr ⟨g, cap', cur, hv, by omega, r2⟩
theorem keep_grown {w w' : World} {a : Option Addr} {n c : Nat} (h : w.grownBy w' (Value.slice a n c).ownBlock) : Keep (blk a) w w' :=
  ⟨h.os, h.tape, h.output, h.size, fun k hk hs => h.block k hk (fun e => hs (by
    cases a with
    | none => cases e
    | some x => exact ⟨x, rfl, by simp [Value.ownBlock] at e; exact e.symm⟩))⟩
theorem alloc_below' (w : World) (o : Obj) : Below w.heap.size w (w.alloc o) := (Below.refl _ _).alloc (Nat.le_refl _) o
theorem low_byte (v k : Nat) : ((v : Int) / 2 ^ (8 * k)) % 256 = ((v / 2 ^ (8 * k) % 256 : Nat) : Int) := by
  rw [show ((2 : Int) ^ (8 * k)) = ((2 ^ (8 * k) : Nat) : Int) by simp]
  generalize 2 ^ (8 * k) = P
  omega
end Go.Proofs.YtpfknjpiknpiaaaGreatDoorQL
namespace Go.Proofs.YtpfknjpiknpiaaaGreatDoorQL
open Go.RowKit
structure Sg where
  p : Int
  n : Int
def sg0 : Sg := ⟨0, 0⟩
def gS (L : List Sg) (i : Nat) : Sg := L[i]?.getD sg0
def gI (L : List Int) (i : Nat) : Int := L[i]?.getD 0
abbrev fits (L : Nat) (i n : Int) : Prop := 0 ≤ i ∧ 0 ≤ n ∧ i + n ≤ (L : Int)
def numE (l : List Nat) (i : Int) : Option Nat := if fits l.length i 8 ∧ num (cut l i.toNat 8) ≤ 4611686018427387904 then some (num (cut l i.toNat 8)) else none
theorem numE_of {l : List Nat} {a x : Nat} (h : numE l (a : Int) = some x) : a + 8 ≤ l.length ∧ num (cut l a 8) = x ∧ x ≤ 4611686018427387904 := by
  unfold numE at h
  split at h
  · rename_i hc
    have e := Option.some.inj h
    rw [Int.toNat_natCast] at e hc
    unfold fits at hc
    exact ⟨by omega, e, by omega⟩
  · cases h
def goF (l : List Nat) : Nat → Nat → Nat → Nat × List Sg
  | 0, _, _ => (0, [])
  | f + 1, a, left =>
    if left = 0 then (0, []) else
    match numE l (a : Int) with
    | none => (1, [])
    | some x =>
      if x % 64 ≠ 0 then (2, [])
      else if a % 64 = 56 ∧ 64 < left then goF l f x left
      else if l.length < x + min 64 left then (1, [])
      else ((goF l f (a + 8) (left - min 64 left)).1, ⟨(x : Int), ((min 64 left : Nat) : Int)⟩ :: (goF l f (a + 8) (left - min 64 left)).2)
def mu (a left : Nat) : Nat := 2 * left + (if a % 64 = 56 then 1 else 0)
theorem goF_done (l : List Nat) (f a : Nat) : goF l (f + 1) a 0 = (0, []) := by simp [goF]
theorem goF_none {l : List Nat} {f a left : Nat} (h : left ≠ 0) (hn : numE l (a : Int) = none) : goF l (f + 1) a left = (1, []) := by simp [goF, h, hn]
theorem goF_shape {l : List Nat} {f a left x : Nat} (h : left ≠ 0) (hn : numE l (a : Int) = some x) (hx : x % 64 ≠ 0) : goF l (f + 1) a left = (2, []) := by simp [goF, h, hn, hx]
theorem goF_on {l : List Nat} {f a left x : Nat} (h : left ≠ 0) (hn : numE l (a : Int) = some x) (hx : x % 64 = 0) (ha : a % 64 = 56 ∧ 64 < left) : goF l (f + 1) a left = goF l f x left := by simp [goF, h, hn, hx, ha]
theorem goF_out {l : List Nat} {f a left x : Nat} (h : left ≠ 0) (hn : numE l (a : Int) = some x) (hx : x % 64 = 0) (ha : ¬ (a % 64 = 56 ∧ 64 < left)) (ho : l.length < x + min 64 left) : goF l (f + 1) a left = (1, []) := by
  simp only [goF, h, hn, hx, if_false, ne_eq, not_true_eq_false, if_neg ha, if_pos ho]
theorem goF_seg {l : List Nat} {f a left x : Nat} (h : left ≠ 0) (hn : numE l (a : Int) = some x) (hx : x % 64 = 0) (ha : ¬ (a % 64 = 56 ∧ 64 < left)) (ho : ¬ l.length < x + min 64 left) :
    goF l (f + 1) a left = ((goF l f (a + 8) (left - min 64 left)).1, ⟨(x : Int), ((min 64 left : Nat) : Int)⟩ :: (goF l f (a + 8) (left - min 64 left)).2) := by
  simp only [goF, h, hn, hx, if_false, ne_eq, not_true_eq_false, if_neg ha, if_neg ho]
def restF (l : List Nat) (second : Int) (left : Nat) : Nat × List Sg :=
  if left = 0 then (0, [])
  else if left ≤ 64 then
    if ¬ (0 ≤ second ∧ second % 64 = 0) then (2, [])
    else if ¬ fits l.length second (left : Int) then (1, [])
    else (0, [⟨second, (left : Int)⟩])
  else if second < 0 ∨ second % 8 ≠ 0 then (2, [])
  else goF l 5000 second.toNat left
def firstN (first : Nat) (long : Nat) : Nat := min (64 - first % 64) long
def walkF (l : List Nat) (first second long : Int) : Nat × List Sg :=
  if long < 1 ∨ 2048 < long then (1, [])
  else if first % 4 ≠ 0 then (2, [])
  else if first < 0 then (1, [])
  else if ¬ fits l.length first (firstN first.toNat long.toNat : Nat) then (1, [])
  else ((restF l second (long.toNat - firstN first.toNat long.toNat)).1, ⟨first, (firstN first.toNat long.toNat : Nat)⟩ :: (restF l second (long.toNat - firstN first.toNat long.toNat)).2)
def sumS : List Sg → Int
  | [] => 0
  | s :: r => s.n + sumS r
def PgS (L : Nat) (s : Sg) : Prop := 0 ≤ s.p ∧ s.p % 64 = 0 ∧ 1 ≤ s.n ∧ s.n ≤ 64 ∧ s.p + s.n ≤ (L : Int)
theorem goF_good (l : List Nat) : ∀ f a left, mu a left < f → (goF l f a left).1 = 0 → (∀ s ∈ (goF l f a left).2, PgS l.length s) ∧ sumS (goF l f a left).2 = (left : Int)
  | 0, a, left, h, _ => by omega
  | f + 1, a, left, h, he => by
    by_cases h0 : left = 0
    · subst h0; rw [goF_done]; exact ⟨fun s hs => by simp at hs, rfl⟩
    cases hn : numE l (a : Int) with
    | none => rw [goF_none h0 hn] at he; cases he
    | some x =>
      by_cases hx : x % 64 = 0
      · by_cases ha : a % 64 = 56 ∧ 64 < left
        · rw [goF_on h0 hn hx ha] at he ⊢
          refine goF_good l f x left ?_ he
          unfold mu at h ⊢
          rw [if_pos ha.1] at h
          rw [if_neg (by omega)]
          omega
        · by_cases ho : l.length < x + min 64 left
          · rw [goF_out h0 hn hx ha ho] at he; cases he
          · rw [goF_seg h0 hn hx ha ho] at he ⊢
            have ih := goF_good l f (a + 8) (left - min 64 left) (by unfold mu at h ⊢; split <;> split at h <;> omega) he
            refine ⟨fun s hs => ?_, ?_⟩
            · rcases List.mem_cons.1 hs with rfl | hs
              · refine ⟨?_, ?_, ?_, ?_, ?_⟩ <;> show _ <;> simp only [] <;> omega
              · exact ih.1 s hs
            · show ((min 64 left : Nat) : Int) + sumS _ = _
              rw [ih.2]; omega
      · rw [goF_shape h0 hn hx] at he; cases he
theorem restF_good (l : List Nat) (second : Int) (left : Nat) (hl : left ≤ 2048) (he : (restF l second left).1 = 0) : (∀ s ∈ (restF l second left).2, PgS l.length s) ∧ sumS (restF l second left).2 = (left : Int) := by
  unfold restF at he ⊢
  by_cases h0 : left = 0
  · rw [if_pos h0] at he ⊢; subst h0; exact ⟨fun s hs => by simp at hs, rfl⟩
  rw [if_neg h0] at he ⊢
  by_cases h1 : left ≤ 64
  · rw [if_pos h1] at he ⊢
    by_cases h2 : 0 ≤ second ∧ second % 64 = 0
    · rw [if_neg (Decidable.not_not.2 h2)] at he ⊢
      by_cases h3 : fits l.length second (left : Int)
      · rw [if_neg (Decidable.not_not.2 h3)] at he ⊢
        unfold fits at h3
        refine ⟨fun s hs => ?_, ?_⟩
        · rw [List.mem_singleton] at hs
          subst hs
          refine ⟨?_, ?_, ?_, ?_, ?_⟩ <;> show _ <;> simp only [] <;> omega
        · show (left : Int) + 0 = _; omega
      · rw [if_pos h3] at he; cases he
    · rw [if_pos h2] at he; cases he
  · rw [if_neg h1] at he ⊢
    by_cases h2 : second < 0 ∨ second % 8 ≠ 0
    · rw [if_pos h2] at he; cases he
    · rw [if_neg h2] at he ⊢
      exact goF_good l 5000 _ left (by unfold mu; split <;> omega) he
end Go.Proofs.YtpfknjpiknpiaaaGreatDoorQL
namespace Go.Proofs.YtpfknjpiknpiaaaGreatDoorQL
open Go.Proofs.YtpfknjpiknpiaaaGreatDoorQ
open Go.RowKit
set_option linter.unusedVariables false
def cellsS : List Sg → List Value
  | [] => []
  | e :: r => .int .i64 e.p :: .int .i64 e.n :: cellsS r
theorem cellsS_len : ∀ es, (cellsS es).length = es.length * 2
  | [] => rfl
  | e :: r => by simp only [cellsS, List.length_cons, cellsS_len r]; omega
theorem cellsS_app : ∀ es fs, cellsS (es ++ fs) = cellsS es ++ cellsS fs
  | [], fs => rfl
  | e :: r, fs => by simp only [List.cons_append, cellsS, cellsS_app r]
theorem cellsS_at : ∀ (es : List Sg) (i : Nat), i < es.length → (cellsS es)[i * 2]? = some (.int .i64 (gS es i).p) ∧ (cellsS es)[i * 2 + 1]? = some (.int .i64 (gS es i).n)
  | [], i, h => by simp at h
  | e :: r, 0, _ => ⟨rfl, rfl⟩
  | e :: r, i + 1, h => by
    have ih := cellsS_at r i (by simpa using h)
    have e1 : (i + 1) * 2 = i * 2 + 1 + 1 := by omega
    rw [e1]
    exact ih
theorem one_cellsS : ∀ es : List Sg, ∀ u ∈ cellsS es, u.oneCell' = true
  | [], u, h => by simp [cellsS] at h
  | e :: r, u, h => by
    simp only [cellsS, List.mem_cons] at h
    rcases h with rfl | rfl | h
    · rfl
    · rfl
    · exact one_cellsS r u h
structure SgAt (w : World) (g off i : Nat) (b : Sg) : Prop where
  p : w.cell? ⟨g, off + i * 2, none⟩ = some (.int .i64 b.p)
  n : w.cell? ⟨g, off + i * 2 + 1, none⟩ = some (.int .i64 b.n)
theorem SgAt.lt {w : World} {g off i : Nat} {b : Sg} (h : SgAt w g off i b) : g < w.heap.size := World.block_lt_of_cell? w _ h.p
theorem SgAt.keep {S : Nat → Prop} {w w' : World} {g off i : Nat} {b : Sg} (h : SgAt w g off i b) (hk : Keep S w w') (hs : ¬ S g) : SgAt w' g off i b :=
  ⟨(hk.cell (p := ⟨g, off + i * 2, none⟩) h.lt hs).trans h.p, (hk.cell (p := ⟨g, off + i * 2 + 1, none⟩) h.lt hs).trans h.n⟩
def SL (w : World) (a : Option Addr) (l : List Sg) : Prop := l = [] ∨ ∃ g off, a = some ⟨g, off, none⟩ ∧ ∀ i, i < l.length → SgAt w g off i (gS l i)
theorem SL.some_of {w : World} {a : Option Addr} {l : List Sg} (h : SL w a l) {i : Nat} (hi : i < l.length) : ∃ g off, a = some ⟨g, off, none⟩ ∧ ∀ i, i < l.length → SgAt w g off i (gS l i) := by
  rcases h with h | h
  · rw [h] at hi; simp at hi
  · exact h
theorem SL.keep {S : Nat → Prop} {w w' : World} {a : Option Addr} {l : List Sg} (h : SL w a l) (hk : Keep S w w') (hs : ∀ b, blk a b → b < w.heap.size → ¬ S b) : SL w' a l := by
  rcases h with h | ⟨g, off, rfl, h⟩
  · exact Or.inl h
  · exact Or.inr ⟨g, off, rfl, fun i hi => (h i hi).keep hk (hs g ⟨_, rfl, rfl⟩ (h i hi).lt)⟩
theorem SL.below {w w' : World} {a : Option Addr} {l : List Sg} (h : SL w a l) (hb : Below w.heap.size w w') : SL w' a l := h.keep (S := fun _ => False) (Keep.of_below hb) (fun _ _ _ e => e)
def OwnS (w : World) (base : Nat) (a : Option Addr) (cap : Nat) (l : List Sg) : Prop := w.ownsRow base 42 2 (.slice a l.length cap) l.length (cellsS l)
theorem OwnS.nil (w : World) (base : Nat) : OwnS w base none 0 [] := ⟨rfl, Or.inl ⟨rfl, rfl⟩⟩
theorem OwnS.new (w : World) (base : Nat) (hb : base ≤ w.heap.size) (l : List Sg) (hl : l.length ≤ 64) (cs : Array Value) (hcs : cs = (cellsS l).toArray) : OwnS (w.alloc (.cells cs 42)) base (some ⟨w.heap.size, 0, none⟩) l.length l := by
  subst hcs
  exact ⟨cellsS_len l, Or.inr ⟨w.heap.size, l.length, (cellsS l).toArray, rfl, hb, heap_alloc_new w _, Nat.le_refl _, by unfold maxLen; omega, by simp [cellsS_len], by rw [← cellsS_len l]; exact List.take_of_length_le (by simp)⟩⟩
theorem OwnS.parts {w : World} {base cap : Nat} {a : Option Addr} {l : List Sg} (h : OwnS w base a cap l) :
    (a = none ∧ cap = 0 ∧ l = []) ∨ ∃ g cur, a = some ⟨g, 0, none⟩ ∧ base ≤ g ∧ w.heap[g]? = some (.cells cur 42 (0, 0)) ∧ l.length ≤ cap ∧ cap ≤ maxLen ∧ cur.size = cap * 2 ∧ cur.toList.take (l.length * 2) = cellsS l := by
  rcases h.2 with ⟨h2, h3⟩ | ⟨g, cap', cur, hv, r1, r2, r3, r4, r5, r6⟩
  · simp at h2
    exact Or.inl ⟨h2.1, h2.2.2, h2.2.1⟩
  · simp at hv
    obtain ⟨rfl, rfl⟩ := hv
    exact Or.inr ⟨g, cur, rfl, r1, r2, r3, r4, r5, r6⟩
theorem OwnS.sl {w : World} {base cap : Nat} {a : Option Addr} {l : List Sg} (h : OwnS w base a cap l) : SL w a l := by
  rcases h.parts with ⟨_, _, h⟩ | ⟨g, cur, rfl, _, h2, _, _, _, h6⟩
  · exact Or.inl h
  · refine Or.inr ⟨g, 0, rfl, fun i hi => ?_⟩
    have e : ∀ j, j < l.length * 2 → cur[j]? = (cellsS l)[j]? := fun j hj => by
      rw [← h6, List.getElem?_take, if_pos hj, Array.getElem?_toList]
    obtain ⟨q0, q1⟩ := cellsS_at l i hi
    refine ⟨?_, ?_⟩
    · simp only [World.cell?, h2, Nat.zero_add]; rw [e _ (by omega)]; exact q0
    · simp only [World.cell?, h2, Nat.zero_add]; rw [e _ (by omega)]; exact q1
theorem OwnS.blk {w : World} {base cap : Nat} {a : Option Addr} {l : List Sg} (h : OwnS w base a cap l) {b : Nat} (hb : YtpfknjpiknpiaaaGreatDoorQL.blk a b) : base ≤ b ∧ b < w.heap.size := by
  obtain ⟨x, rfl, rfl⟩ := hb
  rcases h.parts with ⟨e, _, _⟩ | ⟨g, cur, e, h1, h2, _⟩
  · cases e
  · cases e
    exact ⟨h1, heap_lt h2⟩
theorem OwnS.keep {S : Nat → Prop} {w w' : World} {base cap : Nat} {a : Option Addr} {l : List Sg} (h : OwnS w base a cap l) (hk : Keep S w w') (hs : ∀ b, YtpfknjpiknpiaaaGreatDoorQL.blk a b → ¬ S b) : OwnS w' base a cap l := by
  refine ⟨h.1, ?_⟩
  rcases h.2 with h2 | ⟨g, cap', cur, hv, r1, r2, r3⟩
  · exact Or.inl h2
  · have e : a = some ⟨g, 0, none⟩ := by simp at hv; exact hv.1
    exact Or.inr ⟨g, cap', cur, hv, r1, by rw [hk.block g (heap_lt r2) (hs g ⟨_, e, rfl⟩)]; exact r2, r3⟩
theorem OwnS.below {w w' : World} {base cap : Nat} {a : Option Addr} {l : List Sg} (h : OwnS w base a cap l) (hb : Below w.heap.size w w') : OwnS w' base a cap l := h.keep (S := fun _ => False) (Keep.of_below hb) (fun _ _ e => e)
theorem OwnS.base {w : World} {b b' cap : Nat} {a : Option Addr} {l : List Sg} (h : OwnS w b a cap l) (hb : b' ≤ b) : OwnS w b' a cap l := by
  refine ⟨h.1, ?_⟩
  rcases h.2 with h2 | ⟨g, cap', cur, hv, r1, r2⟩
  · exact Or.inl h2
  · exact Or.inr ⟨g, cap', cur, hv, by omega, r2⟩
theorem infoSg : ((Al.progOf Tryz.prog).info? 42).map (fun i => (i.zero, i.size, i.bytes)) = some (some (.agg #[.int .i64 0, .int .i64 0]), 2, 16) := by kernel_rfl
theorem blk_of {a : Option Addr} {n c g : Nat} (h : (Value.slice a n c).ownBlock = some g) : blk a g := by
  cases a with
  | none => cases h
  | some z => exact ⟨z, rfl, by simp [Value.ownBlock] at h; exact h⟩
theorem stepS {ops : Array Oper} {o : Oper} {a : Act} {W : World} {K : Act → World → Prop} {Q : Exit → Act → World → Prop} {E : Prop} (hgd : o.guard = none) (s x : Operand)
    (ho : o.op = .call { callee := .builtin .append, args := #[s, x], argTypes := #[38, 38] }) (base cap0 B : Nat) (a0 : Option Addr) (es : List Sg) (e : Sg)
    (hs : a.eval s = .slice a0 es.length cap0) (hx : a.eval x = .slice (some ⟨B, 0, none⟩) 1 1) (h : OwnS W base a0 cap0 es) (hB : W.heap[B]? = some (.cells #[.int .i64 e.p, .int .i64 e.n] 42 (0, 0))) (hk : (es.length + 1) * 16 ≤ 140737488355328) (hb : base ≤ W.heap.size)
    (hc : ∀ g cap1 w', OwnS w' base (some ⟨g, 0, none⟩) cap1 (es ++ [e]) → Keep (blk a0) W w' → (blk a0 g ∨ g = W.heap.size) → K (a.put o.dst (.slice (some ⟨g, 0, none⟩) (es.length + 1) cap1)) w') :
    if Region.wanted o (yielded ops a.tmps) = true then Oper.wp (Al.progOf Tryz.prog) o a W K Q else E := by
  obtain ⟨i0, hi, hz0, hz1, hz2⟩ := info_parts infoSg
  refine step_append_lies W hgd s x 38 ho base 42 i0 _ 2 16 Al.underlying38 hi hz0 hz1 hz2 rfl (by decide) (.slice a0 es.length cap0) es.length (cellsS es) hs h ⟨B, 0, none⟩ 1 1 (cellsS [e]) hx rfl (World.news_of_block hB) (one_cellsS [e]) (by decide) (by unfold maxLen; omega) (by omega) hb W.heap.size rfl ?_
  intro g cap1 w' h1 h2 h3 h4
  refine hc g cap1 w' ?_ (keep_grown h2) (h3.imp blk_of id)
  unfold OwnS
  rw [cellsS_app, List.length_append]
  exact h1
def dropA (a : Option Addr) (cap l : Nat) : Option Addr := if cap = l then a else a.map (·.add l)
theorem slice_ln (a : Option Addr) (len cap i n : Nat) (h : i + n ≤ cap) (w : World) : (Instr.slice 33 (.slice a len cap) (some (.int .i64 (i : Nat))) (some (.int .i64 ((i : Int) + (n : Int)))) none).run (Al.progOf Tryz.prog) w = .ok (.slice (dropA a cap i) n (cap - i)) w := by
  have hu : (Al.progOf Tryz.prog).underlying 33 = some (.slice ((Al.progOf Tryz.prog).elem 33)) := by kernel_rfl
  have hs : (sizeOf ((Al.progOf Tryz.prog).elem 33)).run (Al.progOf Tryz.prog) w = .ok 1 w := by kernel_rfl
  rw [run_slice_lh w 33 _ len cap hu .i64 .i64 (i : Int) ((i : Int) + (n : Int)) (by omega) (by omega) (by omega), hs]
  have e : ((i : Int) + (n : Int)).toNat - i = n := by omega
  simp [Result.andThen, sliced, dropA, e]
def mkB (n : Nat) : Array Value := ((List.replicate n 0).map bv).toArray
theorem made_bytes (n : Nat) (hn : n ≤ 1048576) (w : World) : (Instr.makeSlice 33 (.int .i64 (n : Int)) (.int .i64 (n : Int))).run (Al.progOf Tryz.prog) w = .ok (.slice (some ⟨w.heap.size, 0, none⟩) n n) (w.alloc (.cells (mkB n) 5)) := by
  obtain ⟨i0, hi, hz0, hz1, hz2⟩ := info_parts info5
  have h := run_make (P := (Al.progOf Tryz.prog)) w 33 5 i0 (.int .u8 0) Al.underlying33 hi hz0 .i64 .i64 n n (by omega) (by omega) (by rw [hz2]; omega) (by omega)
  rw [h]
  have e : madeCells (Value.int .u8 0).cells ((n : Int).toNat * i0.size) = mkB n := by
    unfold mkB
    apply Array.toList_inj.1
    rw [hz1, Int.toNat_natCast, Nat.mul_one]
    have := toList_madeCells_one (Value.int .u8 0) n
    simp only [List.map_replicate]
    exact this
  rw [e]
  simp
structure MW (w : World) (mb hb : Nat) (l : List Nat) : Prop where
  cell : w.cell? ⟨mb, 0, none⟩ = some (.slice (some ⟨hb, 0, none⟩) l.length l.length)
  row : Row w hb l
  all : AllB l
  long : l.length ≤ 16384
  ne : mb ≠ hb
theorem MW.keep {S : Nat → Prop} {w w' : World} {mb hb : Nat} {l : List Nat} (h : MW w mb hb l) (hk : Keep S w w') (h1 : ¬ S mb) (h2 : ¬ S hb) : MW w' mb hb l :=
  ⟨by rw [hk.cell (p := ⟨mb, 0, none⟩) (World.block_lt_of_cell? w _ h.cell) h1]; exact h.cell, h.row.keep hk h2, h.all, h.long, h.ne⟩
theorem MW.below {w w' : World} {mb hb : Nat} {l : List Nat} (h : MW w mb hb l) (hk : Below w.heap.size w w') : MW w' mb hb l := h.keep (S := fun _ => False) (Keep.of_below hk) (fun e => e) (fun e => e)
theorem MW.lt {w : World} {mb hb : Nat} {l : List Nat} (h : MW w mb hb l) : mb < w.heap.size ∧ hb < w.heap.size := ⟨World.block_lt_of_cell? w _ h.cell, heap_lt h.row⟩
theorem MW.turn {w w' : World} {mb hb : Nat} {l l' : List Nat} (h : MW w mb hb l) (hk : Keep (fun b => b = hb) w w') (hr : Row w' hb l') (hl : l'.length = l.length) (ha : AllB l') : MW w' mb hb l' :=
  ⟨by rw [hk.cell (p := ⟨mb, 0, none⟩) (World.block_lt_of_cell? w _ h.cell) h.ne, hl]; exact h.cell, hr, ha, by rw [hl]; exact h.long, h.ne⟩
set_option maxHeartbeats 800000 in
theorem new_bad (n : Int) (w : World) (h : n < 0 ∨ 16384 < n) : Calls (Al.progOf Tryz.prog) 5 #[.int .i64 n] w fun e w' => e = .returned (.tuple #[.pointer none, .iface 54 (.int .i64 1)]) ∧ w = w' := by
  rcases h with h | h
  · go_enter Al.func5, Tryz.ntmps5
    go_wp2
    go_ret2
    exact ⟨rfl, rfl⟩
  · have h0 : ¬ n < 0 := by omega
    go_enter Al.func5, Tryz.ntmps5
    go_wp2
    go_ret2
    exact ⟨rfl, rfl⟩
def NewPost (w w' : World) (e : Ending) (n : Nat) : Prop := ∃ mb hb, e = .returned (.tuple #[.pointer (some ⟨mb, 0, none⟩), .nilIface]) ∧ MW w' mb hb (List.replicate n 0) ∧ Below w.heap.size w w' ∧ w.heap.size ≤ mb ∧ w.heap.size ≤ hb
set_option maxHeartbeats 800000 in
theorem new_yes (n : Nat) (w : World) (h : n ≤ 16384) : Calls (Al.progOf Tryz.prog) 5 #[.int .i64 n] w fun e w' => NewPost w w' e n := by
  have h1 : (n : Int) ≤ 16384 := by omega
  have hmk : ∀ wz, (Instr.makeSlice 33 (.int .i64 (n : Int)) (.int .i64 (n : Int))).run (Al.progOf Tryz.prog) wz = .ok (.slice (some ⟨wz.heap.size, 0, none⟩) n n) (wz.alloc (.cells (mkB n) 5)) := fun wz => made_bytes n (by omega) wz
  have HP : Hid (NewPost w ((w.alloc (.cells (mkB n) 5)).alloc (.cells #[.slice (some ⟨w.heap.size, 0, none⟩) n n] 56)) (.returned (.tuple #[.pointer (some ⟨w.heap.size + 1, 0, none⟩), .nilIface])) n) := by
    have b1 := alloc_below' w (.cells (mkB n) 5)
    have b2 := alloc_below' (w.alloc (.cells (mkB n) 5)) (.cells #[.slice (some ⟨w.heap.size, 0, none⟩) n n] 56)
    refine ⟨w.heap.size + 1, w.heap.size, rfl, ⟨?_, ?_, fun x hx => ?_, by simpa using h, by omega⟩, b1.trans (b2.mono b1.size), by omega, Nat.le_refl _⟩
    · have e := heap_alloc_new (w.alloc (.cells (mkB n) 5)) (.cells #[.slice (some ⟨w.heap.size, 0, none⟩) n n] 56)
      rw [World.size_alloc] at e
      unfold World.cell?
      rw [List.length_replicate]
      simp only [e]
      rfl
    · exact Row.below (w := w.alloc (.cells (mkB n) 5)) (by unfold Row; rw [heap_alloc_new]; rfl) b2
    · rw [(List.mem_replicate.1 hx).2]; decide
  clear h
  go_enter Al.func5, Tryz.ntmps5
  go_wp2
  go_ret2
  exact HP.out
set_option maxHeartbeats 800000 in
theorem size_any (mb hb : Nat) (l : List Nat) (w : World) (h : MW w mb hb l) : Calls (Al.progOf Tryz.prog) 58 #[.pointer (some ⟨mb, 0, none⟩)] w fun e w' => e = .returned (.int .i64 (l.length : Nat)) ∧ w = w' := by
  have hc := h.cell
  clear h
  go_enter Al.func58, Tryz.ntmps58
  go_wp2
  go_ret
  exact ⟨rfl, rfl⟩
set_option maxHeartbeats 800000 in
theorem place_no (mb hb : Nat) (l : List Nat) (i n : Int) (w : World) (h : MW w mb hb l) (hf : ¬ fits l.length i n) (hi : -9223372036854775808 ≤ i ∧ i ≤ 9223372036854775807) :
    Calls (Al.progOf Tryz.prog) 59 #[.pointer (some ⟨mb, 0, none⟩), .int .i64 i, .int .i64 n] w fun e w' => e = .returned (.tuple #[.slice none 0 0, .iface 54 (.int .i64 1)]) ∧ w = w' := by
  have hc := h.cell
  have hl := h.long
  clear h
  by_cases h1 : i < 0
  · go_enter Al.func59, Tryz.ntmps59
    go_wp2
    go_ret2
    exact ⟨rfl, rfl⟩
  · by_cases h2 : n < 0
    · go_enter Al.func59, Tryz.ntmps59
      go_wp2
      go_ret2
      exact ⟨rfl, rfl⟩
    · have h3 : ((l.length : Nat) : Int) - i < n := by unfold fits at hf; omega
      generalize l.length = L at *
      clear hf
      go_enter Al.func59, Tryz.ntmps59
      go_wp2
      go_ret2
      exact ⟨rfl, rfl⟩
set_option maxHeartbeats 800000 in
theorem place_yes (mb hb : Nat) (l : List Nat) (i n : Nat) (w : World) (h : MW w mb hb l) (hf : i + n ≤ l.length) :
    Calls (Al.progOf Tryz.prog) 59 #[.pointer (some ⟨mb, 0, none⟩), .int .i64 (i : Nat), .int .i64 (n : Nat)] w fun e w' => e = .returned (.tuple #[.slice (dropA (some ⟨hb, 0, none⟩) l.length i) n (l.length - i), .nilIface]) ∧ w = w' := by
  have hc := h.cell
  have hl := h.long
  have hsl := fun wz => slice_ln (some ⟨hb, 0, none⟩) l.length l.length i n hf wz
  have h3 : (n : Int) ≤ ((l.length : Nat) : Int) - (i : Int) := by omega
  clear h
  generalize dropA (some ⟨hb, 0, none⟩) l.length i = DA at *
  generalize l.length = L at *
  go_enter Al.func59, Tryz.ntmps59
  go_wp2
  go_ret2
  exact ⟨rfl, rfl⟩
theorem dropA_at {hb L i : Nat} (h : i < L) : dropA (some ⟨hb, 0, none⟩) L i = some ⟨hb, i, none⟩ := by
  unfold dropA
  rw [if_neg (by omega)]
  simp [Go.WideShapes.add_plain]
theorem bits_u64 {n : Nat} (h : n < 18446744073709551616) : (BitVec.ofInt 64 (n : Int)).toNat = n := by
  rw [BitVec.toNat_ofInt]
  omega
theorem or_u64 {a b : Nat} (ha : a < 18446744073709551616) (hb : b < 18446744073709551616) : bits .or .u64 (a : Int) (b : Int) = ((a ||| b : Nat) : Int) := by
  show IntKind.u64.wrap ((BitVec.ofInt 64 (a : Int) ||| BitVec.ofInt 64 (b : Int)).toNat : Int) = _
  rw [BitVec.toNat_or, bits_u64 ha, bits_u64 hb]
  have : a ||| b < 2 ^ 64 := Nat.or_lt_two_pow ha hb
  have e : IntKind.u64.wrap ((a ||| b : Nat) : Int) = ((a ||| b : Nat) : Int) % 18446744073709551616 := rfl
  rw [e]
  omega
theorem shl_lt (l : List Nat) (B : Nat) (hB : B < 256) (hk : l.length < 8) : B * 2 ^ (8 * l.length) < 18446744073709551616 := by
  have hp : 2 ^ (8 * l.length) * 256 ≤ 18446744073709551616 := by
    have : 2 ^ (8 * (l.length + 1)) ≤ 2 ^ 64 := Nat.pow_le_pow_right (by decide) (by omega)
    rw [pow8] at this
    omega
  generalize 2 ^ (8 * l.length) = P at *
  have h3 : B * P ≤ 255 * P := Nat.mul_le_mul_right _ (by omega)
  by_cases h4 : P = 0
  · subst h4; omega
  · omega
theorem num_lt8 (l : List Nat) (h : AllB l) (hk : l.length ≤ 8) : num l < 18446744073709551616 := by
  have h1 := num_lt l h
  have h2 : 2 ^ (8 * l.length) ≤ 2 ^ 64 := Nat.pow_le_pow_right (by decide) (by omega)
  omega
theorem or_numU (l : List Nat) (B : Nat) (hl : AllB l) (hB : B < 256) (hk : l.length < 8) : bits .or .u64 (num l : Nat) (IntKind.u64.wrap ((B : Int) * 2 ^ (8 * l.length))) = ((num (l ++ [B]) : Nat) : Int) := by
  have e : (B : Int) * 2 ^ (8 * l.length) = ((B * 2 ^ (8 * l.length) : Nat) : Int) := by simp
  have h1 := num_lt8 l hl (by omega)
  have h2 := shl_lt l B hB hk
  have e2 : IntKind.u64.wrap ((B * 2 ^ (8 * l.length) : Nat) : Int) = ((B * 2 ^ (8 * l.length) : Nat) : Int) % 18446744073709551616 := rfl
  rw [e, e2, show ((B * 2 ^ (8 * l.length) : Nat) : Int) % 18446744073709551616 = ((B * 2 ^ (8 * l.length) : Nat) : Int) by omega, or_u64 h1 h2, num_or l B hl]
set_option maxHeartbeats 800000 in
theorem number_no (mb hb : Nat) (l : List Nat) (i : Int) (w : World) (h : MW w mb hb l) (hf : ¬ fits l.length i 8) (hi : -9223372036854775808 ≤ i ∧ i ≤ 9223372036854775807) :
    Calls (Al.progOf Tryz.prog) 60 #[.pointer (some ⟨mb, 0, none⟩), .int .i64 i] w fun e w' => e = .returned (.tuple #[.int .i64 0, .iface 54 (.int .i64 1)]) ∧ w = w' := by
  have HP := place_no mb hb l i 8 w h hf hi
  clear h hf
  go_enter Al.func60, Tryz.ntmps60
  go_wp2_with fail
  refine HP.mono ?_
  rintro e w' ⟨rfl, rfl⟩
  clear HP
  go_wp2
  go_ret2
  exact ⟨rfl, rfl⟩
def numV (x : Nat) : Ending := if x ≤ 4611686018427387904 then .returned (.tuple #[.int .i64 (x : Nat), .nilIface]) else .returned (.tuple #[.int .i64 0, .iface 54 (.int .i64 1)])
set_option maxHeartbeats 800000 in
theorem number_yes (mb hb : Nat) (l : List Nat) (i : Nat) (w : World) (h : MW w mb hb l) (hf : i + 8 ≤ l.length) :
    Calls (Al.progOf Tryz.prog) 60 #[.pointer (some ⟨mb, 0, none⟩), .int .i64 (i : Nat)] w fun e w' => e = numV (num (cut l i 8)) ∧ w = w' := by
  have HP : Hid (Calls (Al.progOf Tryz.prog) 59 #[.pointer (some ⟨mb, 0, none⟩), .int .i64 (i : Nat), .int .i64 8] w fun e w' => e = .returned (.tuple #[.slice (some ⟨hb, i, none⟩) 8 (l.length - i), .nilIface]) ∧ w = w') := by
    have := place_yes mb hb l i 8 w h hf
    rw [dropA_at (by omega)] at this
    exact this
  obtain ⟨X, HX⟩ : ∃ X, Hid (X = cut l i 8) := ⟨_, rfl⟩
  have hlen : Hid (X.length = 8) := by show X.length = 8; rw [HX.out]; exact cut_len hf
  have hA : AllB X := by rw [HX.out]; exact cut_all h.all i 8
  have hcell : ∀ k, k < 8 → w.cell? ⟨hb, i + k, none⟩ = some (.int .u8 ((X[k]?.getD 0 : Nat) : Int)) := fun k hk => by
    rw [HX.out, cut_at k hk]
    exact row_cell h.row (i + k) (by omega)
  have HV : Hid (numV (num (cut l i 8)) = numV (num X)) := by show _ = _; rw [HX.out]
  rw [HV.out]
  have hX8 : Hid (num (X.take 8) = num X ∧ num X < 18446744073709551616) := ⟨by rw [List.take_of_length_le (by rw [hlen.out]; exact Nat.le_refl _)], num_lt8 X hA (by rw [hlen.out]; exact Nat.le_refl _)⟩
  clear h hf HX HV
  generalize l.length - i = LI at *
  go_enter Al.func60, Tryz.ntmps60
  go_wp2_with fail
  refine HP.out.mono ?_
  rintro e w' ⟨rfl, rfl⟩
  clear HP
  go_wp2
  go_loop [8, 22] (fun t j => ∃ k : Nat, k ≤ 8 ∧ j = .int .i64 k ∧ t = .int .u64 ((num (X.take k) : Nat) : Int)) (fun _ j => 8 - (intOf j).toNat)
  case atStart => exact ⟨0, by omega, rfl, rfl⟩
  case round =>
    obtain ⟨k, hk, rfl, rfl⟩ := hrel
    by_cases hlt : k < 8
    · have hck := hcell k hlt
      have hzk := hA.at k
      have HS : Hid (bits .or .u64 ((num (X.take k) : Nat) : Int) (IntKind.u64.wrap (((X[k]?.getD 0 : Nat) : Int) * 2 ^ (8 * k))) = ((num (X.take (k + 1)) : Nat) : Int)) := by
        have hl : (X.take k).length = k := by rw [List.length_take, hlen.out]; omega
        have := or_numU (X.take k) (X[k]?.getD 0) (hA.take k) hzk (by omega)
        rw [hl] at this
        rw [take_snocN X k (by rw [hlen.out]; exact hlt)]
        exact this
      generalize num (X.take k) = V at HS ⊢
      generalize X[k]?.getD 0 = B at hck hzk HS
      clear hcell
      go_wp2
      go_round
      case rel => exact ⟨k + 1, by omega, by go_num, val_int HS.out⟩
      case measure => simp [intOf]; omega
    · obtain rfl : k = 8 := by omega
      rw [hX8.out.1]
      have hlt2 := hX8.out.2
      clear hX8 hcell hA hlen
      obtain ⟨V, HVV⟩ : ∃ V, Hid (num X = V) := ⟨_, rfl⟩
      rw [HVV.out] at hlt2 ⊢
      by_cases hbig : V ≤ 4611686018427387904
      · have HV : Hid (numV V = .returned (.tuple #[.int .i64 (V : Nat), .nilIface])) := by show _ = _; unfold numV; rw [if_pos hbig]
        have hb2 : ((V : Nat) : Int) ≤ 4611686018427387904 := by omega
        go_wp2
        go_ret2
        exact ⟨by rw [HVV.out, HV.out]; rfl, rfl⟩
      · have HV : Hid (numV V = .returned (.tuple #[.int .i64 0, .iface 54 (.int .i64 1)])) := by show _ = _; unfold numV; rw [if_neg hbig]
        have hb2 : (4611686018427387904 : Int) < ((V : Nat) : Int) := by omega
        go_wp2
        go_ret2
        exact ⟨by rw [HVV.out, HV.out]; rfl, rfl⟩
set_option maxHeartbeats 800000 in
theorem set_yes (mb hb : Nat) (l : List Nat) (i x : Nat) (w : World) (h : MW w mb hb l) (hx : x ≤ 4611686018427387904) (hf : i + 8 ≤ l.length) :
    Calls (Al.progOf Tryz.prog) 41 #[.pointer (some ⟨mb, 0, none⟩), .int .i64 (i : Nat), .int .i64 (x : Nat)] w fun e w' => e = .returned .nilIface ∧ MW w' mb hb (lay l i (low 8 x)) ∧ Keep (fun b => b = hb) w w' := by
  have HP : Hid (Calls (Al.progOf Tryz.prog) 59 #[.pointer (some ⟨mb, 0, none⟩), .int .i64 (i : Nat), .int .i64 8] w fun e w' => e = .returned (.tuple #[.slice (some ⟨hb, i, none⟩) 8 (l.length - i), .nilIface]) ∧ w = w') := by
    have := place_yes mb hb l i 8 w h hf
    rw [dropA_at (by omega)] at this
    exact this
  have h1 : (x : Int) ≤ 4611686018427387904 := by omega
  have H0 : Hid (Row w hb (lay l i (low 0 x)) ∧ Keep (fun b => b = hb) w w) := ⟨by show Row w hb (lay l i []); rw [lay_nil]; exact h.row, Keep.refl _ _⟩
  have HF : Hid (∀ wz, Row wz hb (lay l i (low 8 x)) → Keep (fun b => b = hb) w wz → MW wz mb hb (lay l i (low 8 x))) := fun wz hr hk => h.turn hk hr (lay_len (by rw [low_len]; exact hf)) (lay_all i h.all (low_all _ _))
  have HStep : Hid (∀ wz k, k < 8 → Row wz hb (lay l i (low k x)) → (∃ u, wz.cell? ⟨hb, i + k, none⟩ = some u) ∧ wz.frozen? ⟨hb, i + k, none⟩ = false ∧ Row (wz.setCell ⟨hb, i + k, none⟩ (.int .u8 ((x : Int) / 2 ^ (8 * k) % 256))) hb (lay l i (low (k + 1) x))) := fun wz k hk hr => by
    have hl : i + (low k x).length ≤ l.length := by rw [low_len]; omega
    refine ⟨⟨_, row_cell hr (i + k) (by rw [lay_len hl]; omega)⟩, row_free hr _, ?_⟩
    rw [low_byte]
    have e := row_set hr (i + k) (x / 2 ^ (8 * k) % 256)
    have e2 := lay_set (l := l) (xs := low k x) (i := i) (x / 2 ^ (8 * k) % 256) (by rw [low_len]; omega)
    rw [low_len] at e2
    rw [e2, ← low_snoc] at e
    exact e
  clear h hf hx
  generalize l.length - i = LI at *
  go_enter Al.func41, Tryz.ntmps41
  go_wp2_with fail
  refine HP.out.mono ?_
  rintro e w' ⟨rfl, rfl⟩
  clear HP
  go_wp2
  go_loopw [28] (fun j wr => ∃ k : Nat, k ≤ 8 ∧ j = .int .i64 k ∧ Hid (Row wr hb (lay l i (low k x)) ∧ Keep (fun b => b = hb) w wr)) (fun j _ => 8 - (intOf j).toNat)
  case atStart => exact ⟨0, by omega, rfl, H0.out⟩
  case round =>
    clear H0
    obtain ⟨k, hk, rfl, hr⟩ := hrel
    by_cases hlt : k < 8
    · obtain ⟨⟨u, hcu⟩, hfz, hrow⟩ := HStep.out wr k hlt hr.out.1
      have HR : Hid (Row (wr.setCell ⟨hb, i + k, none⟩ (.int .u8 ((x : Int) / 2 ^ (8 * k) % 256))) hb (lay l i (low (k + 1) x)) ∧ Keep (fun b => b = hb) w (wr.setCell ⟨hb, i + k, none⟩ (.int .u8 ((x : Int) / 2 ^ (8 * k) % 256)))) := ⟨hrow, hr.out.2.set1 _ _⟩
      clear hrow hr HStep HF
      go_wp2
      go_roundw
      case rel => exact ⟨k + 1, by omega, by go_num, HR.out⟩
      case measure => simp [intOf]; omega
    · obtain rfl : k = 8 := by omega
      have HR : Hid (MW wr mb hb (lay l i (low 8 x)) ∧ Keep (fun b => b = hb) w wr) := ⟨HF.out wr hr.out.1 hr.out.2, hr.out.2⟩
      clear hr HStep HF
      go_wp2
      go_ret
      exact ⟨rfl, HR.out⟩
theorem tmod_dvd (x : Int) (k : Int) (hk : 0 < k) : (x.tmod k = 0) ↔ (x % k = 0) := by
  rw [← Int.dvd_iff_tmod_eq_zero, Int.dvd_iff_emod_eq_zero]
set_option maxRecDepth 20000 in
set_option maxHeartbeats 800000 in
theorem present_any (mb : Nat) (w : World) : Calls (Al.progOf Tryz.prog) 13 #[.pointer (some ⟨mb, 0, none⟩)] w fun e w' => e = .returned (.pointer (some ⟨mb, 0, none⟩)) ∧ w = w' := by
  have he : ∀ wz : World, (binOp .eql 26 (.pointer (some ⟨mb, 0, none⟩)) (.pointer none)).run (Al.progOf Tryz.prog) wz = .ok (.bool false) wz := fun _ => rfl
  go_enter Al.func13, Tryz.ntmps13
  go_wp2
  go_ret
  exact ⟨rfl, rfl⟩
set_option maxHeartbeats 800000 in
theorem mayMove_any (n : Int) (w : World) : Calls (Al.progOf Tryz.prog) 14 #[.int .i64 n] w fun e w' => e = .returned (.bool (decide (1 ≤ n ∧ n ≤ 2048))) ∧ w = w' := by
  by_cases h : 1 ≤ n
  · by_cases h2 : n ≤ 2048
    · rw [decide_eq_true (And.intro h h2)]
      go_enter Al.func14, Tryz.ntmps14
      go_wp2
      go_ret
      exact ⟨rfl, rfl⟩
    · rw [decide_eq_false (fun c => h2 c.2)]
      go_enter Al.func14, Tryz.ntmps14
      go_wp2
      go_ret
      exact ⟨rfl, rfl⟩
  · rw [decide_eq_false (fun c => h c.1)]
    go_enter Al.func14, Tryz.ntmps14
    go_wp2
    go_ret
    exact ⟨rfl, rfl⟩
abbrev pageA (x : Int) : Prop := 0 ≤ x ∧ x % 64 = 0
set_option maxHeartbeats 800000 in
theorem isPage_any (n : Int) (w : World) : Calls (Al.progOf Tryz.prog) 17 #[.int .i64 n] w fun e w' => e = .returned (.bool (decide (pageA n))) ∧ w = w' := by
  by_cases h : 0 ≤ n
  · have hm : n.tmod 64 = n % 64 := Int.tmod_eq_emod_of_nonneg h
    by_cases h2 : n % 64 = 0
    · rw [decide_eq_true (And.intro h h2)]
      have h3 : (n % 64 == 0) = true := by simpa using h2
      clear hm h2
      go_enter Al.func17, Tryz.ntmps17
      go_wp2
      go_ret
      exact ⟨rfl, rfl⟩
    · rw [decide_eq_false (fun c => h2 c.2)]
      have h3 : (n % 64 == 0) = false := by simpa using h2
      clear hm h2
      go_enter Al.func17, Tryz.ntmps17
      go_wp2
      go_ret
      exact ⟨rfl, rfl⟩
  · rw [decide_eq_false (fun c => h c.1)]
    go_enter Al.func17, Tryz.ntmps17
    go_wp2
    go_ret
    exact ⟨rfl, rfl⟩
set_option maxHeartbeats 800000 in
theorem isLast_any (n : Nat) (w : World) : Calls (Al.progOf Tryz.prog) 61 #[.int .i64 (n : Nat)] w fun e w' => e = .returned (.bool (decide (n % 64 = 56))) ∧ w = w' := by
  have hm : ((n : Nat) : Int).tmod 64 = ((n % 64 : Nat) : Int) := by rw [Int.tmod_eq_emod_of_nonneg (by omega)]; omega
  by_cases h2 : n % 64 = 56
  · rw [decide_eq_true h2]
    have h3 : (((n : Nat) : Int) % 64 == 56) = true := by simp; omega
    clear hm h2
    go_enter Al.func61, Tryz.ntmps61
    go_wp2
    go_ret
    exact ⟨rfl, rfl⟩
  · rw [decide_eq_false h2]
    have h3 : (((n : Nat) : Int) % 64 == 56) = false := by simp; omega
    clear hm h2
    go_enter Al.func61, Tryz.ntmps61
    go_wp2
    go_ret
    exact ⟨rfl, rfl⟩
set_option maxHeartbeats 1600000 in
theorem lies_any (mb hb : Nat) (l : List Nat) (p n : Int) (w : World) (h : MW w mb hb l) (hp : p ≤ 9223372036854775807) :
    Calls (Al.progOf Tryz.prog) 39 #[.pointer (some ⟨mb, 0, none⟩), .agg #[.int .i64 p, .int .i64 n]] w fun e w' => e = .returned (.bool (decide (fits l.length p n))) ∧ Below w.heap.size w w' := by
  have hl := h.long
  have HB : Hid (Below w.heap.size w (w.alloc (.cells #[.int .i64 p, .int .i64 n] 42))) := alloc_below' w _
  have HS : Hid (∀ x, Calls (Al.progOf Tryz.prog) 58 #[.pointer (some ⟨mb, 0, none⟩)] ((w.alloc (.cells #[.int .i64 p, .int .i64 n] 42)).drewN x) fun e w' => e = .returned (.int .i64 (l.length : Nat)) ∧ (w.alloc (.cells #[.int .i64 p, .int .i64 n] 42)).drewN x = w') := fun x => size_any mb hb l _ (h.keep (S := fun _ => False) ((Keep.of_below HB.out).drewN x) (fun e => e) (fun e => e))
  clear h
  by_cases h1 : 0 ≤ p
  · by_cases h2 : 0 ≤ n
    · by_cases h3 : n ≤ (l.length : Int) - p
      · rw [decide_eq_true (show fits l.length p n from ⟨h1, h2, by omega⟩)]
        generalize l.length = L at *
        go_enter Al.func39, Tryz.ntmps39
        go_wp2
        go_quiet (first | exact (HS.out _).mono (fun _ _ ⟨he, hm⟩ => ⟨he, _, hm.symm⟩) | exact Calls.quiet_of_same (HS.out _))
        go_wp2
        go_ret
        exact ⟨rfl, below_drewN HB.out _⟩
      · rw [decide_eq_false (show ¬ fits l.length p n from fun c => h3 (by unfold fits at c; omega))]
        have d3 : decide (n ≤ (l.length : Int) - p) = false := decide_eq_false h3
        generalize l.length = L at *
        go_enter Al.func39, Tryz.ntmps39
        go_wp2
        go_quiet (first | exact (HS.out _).mono (fun _ _ ⟨he, hm⟩ => ⟨he, _, hm.symm⟩) | exact Calls.quiet_of_same (HS.out _))
        go_wp2
        go_ret
        exact ⟨rfl, below_drewN HB.out _⟩
    · rw [decide_eq_false (show ¬ fits l.length p n from fun c => h2 c.2.1)]
      have d2 : decide (0 ≤ n) = false := decide_eq_false h2
      clear HS
      go_enter Al.func39, Tryz.ntmps39
      go_wp2
      go_quiet (fail)
      go_wp2
      go_ret
      exact ⟨rfl, below_drewN HB.out _⟩
  · rw [decide_eq_false (show ¬ fits l.length p n from fun c => h1 c.1)]
    have d1 : decide (0 ≤ p) = false := decide_eq_false h1
    clear HS
    go_enter Al.func39, Tryz.ntmps39
    go_wp2
    go_quiet (fail)
    go_wp2
    go_ret
    exact ⟨rfl, below_drewN HB.out _⟩
end Go.Proofs.YtpfknjpiknpiaaaGreatDoorQL
