/-
  Plain mathematics of joined bytes: their words, their checks; what is near each part is near the whole.
-/
import Derived.Test.YtgflkfbddiccaaaDoorNear
namespace Go.Proofs.YtgflkfbddiccaaaDoor

theorem wordN_left (x y : List Nat) (m k : Nat) (hx : x.length = 8 * m) (hk : k < m) : wordN (x ++ y) k = wordN x k := by
  apply wsum_congr
  intro i hi
  rw [List.getElem?_append_left (by omega)]
theorem wordN_right (x y : List Nat) (m k : Nat) (hx : x.length = 8 * m) (hk : m ≤ k) : wordN (x ++ y) k = wordN y (k - m) := by
  apply wsum_congr
  intro i hi
  rw [List.getElem?_append_right (by omega)]
  have e : 8 * k + i - x.length = 8 * (k - m) + i := by omega
  rw [e]
theorem sumTo_congr {f g : Nat → Nat} : ∀ n, (∀ k, k < n → f k = g k) → sumTo f n = sumTo g n
  | 0, _ => rfl
  | n + 1, h => by simp only [sumTo]; rw [sumTo_congr n (fun k hk => h k (by omega)), h n (by omega)]
theorem sumTo_join (f g : Nat → Nat) (m : Nat) : ∀ n, sumTo (fun k => if k < m then f k else g (k - m)) (m + n) = sumTo f m + sumTo g n
  | 0 => by
    rw [Nat.add_zero]
    exact sumTo_congr m (fun k hk => if_pos hk)
  | n + 1 => by
    rw [← Nat.add_assoc]
    simp only [sumTo]
    rw [sumTo_join f g m n, if_neg (by omega)]
    have e : m + n - m = n := by omega
    rw [e]
    omega
theorem AllB.append {x y : List Nat} (hx : AllB x) (hy : AllB y) : AllB (x ++ y) := by
  intro z hz
  rcases List.mem_append.1 hz with h | h
  · exact hx z h
  · exact hy z h
theorem near_join {D1 D2 x u y v : List Nat} {m1 m2 n1 n2 : Nat} (hl1 : D1.length = 8 * m1) (h1 : Near D1 m1 n1 x u) (h2 : Near D2 m2 n2 y v) : Near (D1 ++ D2) (m1 + m2) (n1 + n2) (x ++ y) (u ++ v) := by
  obtain ⟨a1, b1, c1, d1, f1, s1, e1⟩ := h1
  obtain ⟨a2, b2, c2, d2, f2, s2, e2⟩ := h2
  refine ⟨a1.append a2, b1.append b2, by rw [List.length_append]; omega, by rw [List.length_append]; omega, fun k => if k < m1 then f1 k else f2 (k - m1), by rw [sumTo_join, s1, s2], ?_⟩
  intro k hk
  show _ = some (wordN (D1 ++ D2) k, if k < m1 then f1 k else f2 (k - m1))
  by_cases h : k < m1
  · rw [if_pos h, wordN_left x y m1 k c1 h, wordN_left D1 D2 m1 k hl1 h, List.getElem?_append_left (by omega)]
    exact e1 k h
  · rw [if_neg h, wordN_right x y m1 k c1 (by omega), wordN_right D1 D2 m1 k hl1 (by omega), List.getElem?_append_right (by omega), d1]
    exact e2 (k - m1) (by omega)
theorem chks_join (D1 D2 : List Nat) (m1 m2 : Nat) (hl1 : D1.length = 8 * m1) : chks (D1 ++ D2) (m1 + m2) = chks D1 m1 ++ chks D2 m2 := by
  apply ext_getD
  · rw [chks_len, List.length_append, chks_len, chks_len]
  · intro j hj
    rw [chks_len] at hj
    rw [chks_at _ _ _ hj]
    by_cases h : j < m1
    · rw [List.getElem?_append_left (by rw [chks_len]; exact h), chks_at _ _ _ h, wordN_left D1 D2 m1 j hl1 h]
    · rw [List.getElem?_append_right (by rw [chks_len]; omega), chks_len, chks_at _ _ _ (by omega), wordN_right D1 D2 m1 j hl1 (by omega)]
end Go.Proofs.YtgflkfbddiccaaaDoor
