/-
  Plain mathematics of a memory: a number's bytes, the number of some bytes, bytes laid into others. Nothing of the program is named here.
-/
import Derived.WalkKit
import Derived.Laws.CopyOwn
namespace Go.Proofs.YteklankhffebaaaDoor
open Go.RowKit

def AllB (l : List Nat) : Prop := ∀ x ∈ l, x < 256
theorem AllB.take {l : List Nat} (h : AllB l) (k : Nat) : AllB (l.take k) := fun x hx => h x (List.mem_of_mem_take hx)
theorem AllB.at {l : List Nat} (h : AllB l) (k : Nat) : l[k]?.getD 0 < 256 := by
  cases e : l[k]? with
  | none => exact (by decide : 0 < 256)
  | some x => exact h x (List.mem_of_getElem? e)
theorem take_snocN (l : List Nat) (k : Nat) (h : k < l.length) : l.take (k + 1) = l.take k ++ [l[k]?.getD 0] := by
  rw [List.take_succ_eq_append_getElem h, List.getElem?_eq_getElem h]; rfl
/-- A number's lowest k bytes, the lowest first. -/
def low : Nat → Nat → List Nat
  | 0, _ => []
  | k + 1, x => x % 256 :: low k (x / 256)
/-- The number of such bytes. -/
def num : List Nat → Nat
  | [] => 0
  | b :: r => b + 256 * num r
theorem low_len : ∀ k x, (low k x).length = k
  | 0, _ => rfl
  | k + 1, x => by simp [low, low_len k]
theorem low_all : ∀ k x, AllB (low k x)
  | 0, _ => fun _ h => by simp [low] at h
  | k + 1, x => fun y h => by
    simp only [low, List.mem_cons] at h
    rcases h with rfl | h
    · omega
    · exact low_all k _ y h
theorem low_at : ∀ k x i, i < k → (low k x)[i]?.getD 0 = x / 2 ^ (8 * i) % 256
  | 0, _, _, h => by omega
  | k + 1, x, 0, _ => by simp [low]
  | k + 1, x, i + 1, h => by
    have e := low_at k (x / 256) i (by omega)
    show (low k (x / 256))[i]?.getD 0 = _
    rw [e, Nat.div_div_eq_div_mul]
    congr 2
    rw [show 8 * (i + 1) = 8 + 8 * i by omega, Nat.pow_add]
theorem low_zero : ∀ k, low k 0 = List.replicate k 0
  | 0 => rfl
  | k + 1 => by rw [low, low_zero k, List.replicate_succ]
theorem pow8 (k : Nat) : 2 ^ (8 * (k + 1)) = 256 * 2 ^ (8 * k) := by rw [show 8 * (k + 1) = 8 + 8 * k by omega, Nat.pow_add]
theorem num_lt : ∀ l, AllB l → num l < 2 ^ (8 * l.length)
  | [], _ => by decide
  | b :: r, h => by
    have h1 := h b (by simp)
    have h2 := num_lt r (fun x hx => h x (by simp [hx]))
    rw [List.length_cons, pow8]
    show b + 256 * num r < _
    omega
theorem num_low : ∀ k x, x < 2 ^ (8 * k) → num (low k x) = x
  | 0, x, h => by show 0 = x; simp at h; omega
  | k + 1, x, h => by
    rw [pow8] at h
    have e := num_low k (x / 256) (by omega)
    show x % 256 + 256 * num (low k (x / 256)) = x
    rw [e]; omega
theorem low_num : ∀ l, AllB l → low l.length (num l) = l
  | [], _ => rfl
  | b :: r, h => by
    have h1 := h b (by simp)
    have h2 := low_num r (fun x hx => h x (by simp [hx]))
    show (b + 256 * num r) % 256 :: low r.length ((b + 256 * num r) / 256) = _
    rw [show (b + 256 * num r) % 256 = b by omega, show (b + 256 * num r) / 256 = num r by omega, h2]
theorem num_snoc : ∀ l b, num (l ++ [b]) = num l + b * 2 ^ (8 * l.length)
  | [], b => by simp [num]
  | a :: r, b => by
    show a + 256 * num (r ++ [b]) = a + 256 * num r + _
    rw [num_snoc r b, List.length_cons, pow8, Nat.mul_left_comm]
    omega
theorem num_or (l : List Nat) (b : Nat) (h : AllB l) : num l ||| b * 2 ^ (8 * l.length) = num (l ++ [b]) := by
  rw [num_snoc, Nat.or_comm, Nat.mul_comm b, ← Nat.two_pow_add_eq_or_of_lt (num_lt l h)]
  omega
theorem low_inj {k x y : Nat} (hx : x < 2 ^ (8 * k)) (hy : y < 2 ^ (8 * k)) (h : low k x = low k y) : x = y := by
  rw [← num_low k x hx, ← num_low k y hy, h]
/-- One more byte of a number. -/
theorem low_snoc : ∀ k x, low (k + 1) x = low k x ++ [x / 2 ^ (8 * k) % 256]
  | 0, x => by simp [low]
  | k + 1, x => by
    show x % 256 :: low (k + 1) (x / 256) = x % 256 :: (low k (x / 256) ++ _)
    rw [low_snoc k, Nat.div_div_eq_div_mul, pow8]


theorem AllB.app {a b : List Nat} (h : AllB a) (k : AllB b) : AllB (a ++ b) := fun x hx => by
  rcases List.mem_append.1 hx with hx | hx
  · exact h x hx
  · exact k x hx
theorem AllB.drop {l : List Nat} (h : AllB l) (k : Nat) : AllB (l.drop k) := fun x hx => h x (List.mem_of_mem_drop hx)
/-- n bytes from place i on. -/
def cut (l : List Nat) (i n : Nat) : List Nat := (l.drop i).take n
theorem cut_len {l : List Nat} {i n : Nat} (h : i + n ≤ l.length) : (cut l i n).length = n := by
  unfold cut; rw [List.length_take, List.length_drop]; omega
theorem cut_all {l : List Nat} (h : AllB l) (i n : Nat) : AllB (cut l i n) := (h.drop i).take n
theorem cut_at {l : List Nat} {i n : Nat} (k : Nat) (hk : k < n) : (cut l i n)[k]?.getD 0 = l[i + k]?.getD 0 := by
  unfold cut; rw [List.getElem?_take, if_pos hk, List.getElem?_drop]
/-- Bytes laid into others from place i on. -/
def lay (l : List Nat) (i : Nat) (xs : List Nat) : List Nat := splice l i xs
theorem lay_len {l : List Nat} {i : Nat} {xs : List Nat} (h : i + xs.length ≤ l.length) : (lay l i xs).length = l.length := length_splice l i xs h
theorem lay_nil (l : List Nat) (i : Nat) : lay l i [] = l := by unfold lay splice; simp
theorem lay_all {l xs : List Nat} (i : Nat) (h : AllB l) (k : AllB xs) : AllB (lay l i xs) := by
  unfold lay splice
  exact (h.take i).app (k.app (h.drop _))
theorem lay_cut {l : List Nat} {i : Nat} {xs : List Nat} (h : i + xs.length ≤ l.length) : cut (lay l i xs) i xs.length = xs := by
  unfold lay cut splice
  rw [List.drop_append_of_le_length (by rw [List.length_take]; omega), List.drop_eq_nil_of_le (by rw [List.length_take]; omega), List.nil_append, List.take_append_of_le_length (Nat.le_refl _), List.take_of_length_le (Nat.le_refl _)]
/-- What is laid elsewhere changes nothing here. -/
theorem lay_far {l xs : List Nat} {i j n : Nat} (h : i + xs.length ≤ l.length) (hj : j + n ≤ l.length) (ha : i + xs.length ≤ j ∨ j + n ≤ i) : cut (lay l i xs) j n = cut l j n := by
  apply List.ext_getElem?
  intro k
  by_cases hk : k < n
  · unfold cut lay splice
    rw [List.getElem?_take, if_pos hk, List.getElem?_take, if_pos hk, List.getElem?_drop, List.getElem?_drop]
    rcases ha with ha | ha
    · rw [List.getElem?_append_right (by rw [List.length_take]; omega), List.length_take, List.getElem?_append_right (by omega), List.getElem?_drop]
      congr 1
      omega
    · rw [List.getElem?_append_left (by rw [List.length_take]; omega), List.getElem?_take, if_pos (by omega)]
  · rw [List.getElem?_eq_none (by rw [cut_len (by rw [lay_len h]; exact hj)]; omega), List.getElem?_eq_none (by rw [cut_len hj]; omega)]
/-- One byte more. -/
theorem lay_set {l xs : List Nat} {i : Nat} (b : Nat) (h : i + xs.length < l.length) : (lay l i xs).set (i + xs.length) b = lay l i (xs ++ [b]) := by
  unfold lay splice
  rw [List.set_append_right _ _ (by rw [List.length_take]; omega), List.length_take, List.set_append_right _ _ (by omega)]
  rw [show i + xs.length - min i l.length - xs.length = 0 by omega, List.length_append, List.length_singleton, List.append_assoc]
  rw [List.drop_eq_getElem_cons h, List.set_cons_zero]
  rfl
theorem cut_all_of {l : List Nat} : cut l 0 l.length = l := by unfold cut; simp
end Go.Proofs.YteklankhffebaaaDoor
