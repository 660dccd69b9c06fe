/-
  Plain mathematics of words of eight bytes: a word's bytes and bits, a turned bit, what Mend makes of many words. Nothing of the program is named here.
-/
import Derived.Test.YtgflkfbddiccaaaDoorMathPop
namespace Go.Proofs.YtgflkfbddiccaaaDoor

/-- The first so many bytes of a word, the least first. -/
def wsum (f : Nat → Nat) : Nat → Nat
  | 0 => 0
  | k + 1 => wsum f k + f k * 2 ^ (8 * k)
theorem wsum_lt {f : Nat → Nat} (h : ∀ k, f k < 256) : ∀ n, wsum f n < 2 ^ (8 * n)
  | 0 => by simp [wsum]
  | n + 1 => by
    have ih := wsum_lt h n
    have hn := h n
    have e : 2 ^ (8 * (n + 1)) = 2 ^ (8 * n) * 256 := by rw [Nat.mul_add, Nat.pow_add]
    simp only [wsum]
    rw [e]
    have : f n * 2 ^ (8 * n) ≤ 255 * 2 ^ (8 * n) := Nat.mul_le_mul_right _ (by omega)
    omega
theorem wsum_bit {f : Nat → Nat} (h : ∀ k, f k < 256) (i : Nat) : ∀ n, (wsum f n).testBit i = (decide (i < 8 * n) && (f (i / 8)).testBit (i % 8))
  | 0 => by simp [wsum]
  | n + 1 => by
    have ih := wsum_bit h i n
    have hl := wsum_lt h n
    have e : wsum f (n + 1) = 2 ^ (8 * n) * f n ||| wsum f n := by
      rw [← Nat.two_pow_add_eq_or_of_lt hl]; simp only [wsum]; rw [Nat.mul_comm (f n)]; omega
    rw [e, Nat.testBit_or, Nat.testBit_two_pow_mul, ih]
    by_cases h1 : i < 8 * n
    · have h2 : i < 8 * (n + 1) := by omega
      have h3 : ¬ i ≥ 8 * n := by omega
      simp [h1, h2, h3]
    · by_cases h2 : i < 8 * (n + 1)
      · have e1 : i / 8 = n := by omega
        have e2 : i - 8 * n = i % 8 := by omega
        have h3 : i ≥ 8 * n := by omega
        simp [h1, h2, h3, e1, e2]
      · have h3 : i ≥ 8 * n := by omega
        have h4 : (f n).testBit (i - 8 * n) = false := Nat.testBit_lt_two_pow (Nat.lt_of_lt_of_le (h n) (show 2 ^ 8 ≤ 2 ^ (i - 8 * n) from Nat.pow_le_pow_right (by decide) (by omega)))
        simp [h1, h2, h4]
theorem wsum_byte {f : Nat → Nat} (h : ∀ k, f k < 256) (k : Nat) (hk : k < 8) : wsum f 8 / 2 ^ (8 * k) % 256 = f k := by
  apply Nat.eq_of_testBit_eq
  intro i
  have e : (256 : Nat) = 2 ^ 8 := rfl
  rw [e, Nat.testBit_mod_two_pow, Nat.testBit_div_two_pow, wsum_bit h]
  by_cases hi : i < 8
  · have e1 : (8 * k + i) / 8 = k := by omega
    have e2 : (8 * k + i) % 8 = i := by omega
    have e3 : 8 * k + i < 8 * 8 := by omega
    simp [hi, Nat.add_comm i, e1, e2, e3]
  · have h4 : (f k).testBit i = false := Nat.testBit_lt_two_pow (Nat.lt_of_lt_of_le (h k) (show 2 ^ 8 ≤ 2 ^ i from Nat.pow_le_pow_right (by decide) (by omega)))
    simp [hi, h4]
theorem wsum_congr {f g : Nat → Nat} : ∀ n, (∀ k, k < n → f k = g k) → wsum f n = wsum g n
  | 0, _ => rfl
  | n + 1, h => by simp only [wsum]; rw [wsum_congr n (fun k hk => h k (by omega)), h n (by omega)]
theorem wsum_turn {f g : Nat → Nat} (hf : ∀ k, f k < 256) (hg : ∀ k, g k < 256) (k b : Nat) (hk : k < 8) (hb : b < 8) (h : g k = f k ^^^ 2 ^ b) (ho : ∀ j, j ≠ k → g j = f j) : wsum g 8 = wsum f 8 ^^^ 2 ^ (8 * k + b) := by
  apply Nat.eq_of_testBit_eq
  intro i
  rw [Nat.testBit_xor, wsum_bit hf, wsum_bit hg, Nat.testBit_two_pow]
  by_cases hi : i / 8 = k
  · rw [hi, h, Nat.testBit_xor, Nat.testBit_two_pow]
    have e3 : i < 8 * 8 := by omega
    have e4 : (b = i % 8) = (8 * k + b = i) := by apply propext; constructor <;> omega
    simp [e3, e4]
  · rw [ho _ hi]
    have e4 : ¬ 8 * k + b = i := by omega
    simp [e4]

/-- The word of that number. -/
def wordN (bs : List Nat) (i : Nat) : Nat := wsum (fun k => bs[8 * i + k]?.getD 0) 8
theorem wordN_lt {bs : List Nat} (h : AllB bs) (i : Nat) : wordN bs i < 18446744073709551616 := wsum_lt (fun k => h.at (8 * i + k)) 8
theorem wordN_byte {D : List Nat} (hD : AllB D) (i k : Nat) (hk : k < 8) : wordN D i / 2 ^ (8 * k) % 256 = D[8 * i + k]?.getD 0 := by
  unfold wordN
  rw [wsum_byte (fun k => hD.at _) k hk]
theorem xor_lt256 {a b : Nat} (ha : a < 256) (hb : b < 8) : a ^^^ 2 ^ b < 256 :=
  Nat.xor_lt_two_pow (n := 8) ha (Nat.pow_lt_pow_of_lt (by decide) (by omega))
theorem AllB.set {l : List Nat} (h : AllB l) (j v : Nat) (hv : v < 256) : AllB (l.set j v) := by
  intro x hx
  rcases List.mem_or_eq_of_mem_set hx with hx | rfl
  · exact h x hx
  · exact hv
/-- Bytes of which one bit is turned. -/
def turnB (bs : List Nat) (j b : Nat) : List Nat := bs.set j (bs[j]?.getD 0 ^^^ 2 ^ b)
theorem turnB_all {bs : List Nat} (h : AllB bs) (j b : Nat) (hb : b < 8) : AllB (turnB bs j b) := h.set j _ (xor_lt256 (h.at j) hb)
theorem turnB_at (bs : List Nat) (j b i : Nat) (hj : j < bs.length) : (turnB bs j b)[i]?.getD 0 = if i = j then bs[j]?.getD 0 ^^^ 2 ^ b else bs[i]?.getD 0 := by
  unfold turnB
  rw [List.getElem?_set]
  by_cases h : j = i
  · subst h; simp [hj]
  · rw [if_neg h, if_neg (fun e => h e.symm)]
theorem wordN_turn {bs : List Nat} (h : AllB bs) (j b : Nat) (hj : j < bs.length) (hb : b < 8) : wordN (turnB bs j b) (j / 8) = wordN bs (j / 8) ^^^ 2 ^ (8 * (j % 8) + b) := by
  apply wsum_turn (fun k => h.at _) (fun k => (turnB_all h j b hb).at _) (j % 8) b (by omega) hb
  · have e : 8 * (j / 8) + j % 8 = j := by omega
    rw [turnB_at _ _ _ _ hj, e, if_pos rfl]
  · intro i hi
    rw [turnB_at _ _ _ _ hj, if_neg (by omega)]
theorem wordN_other {bs : List Nat} (j b i : Nat) (hj : j < bs.length) (hi : i ≠ j / 8) : wordN (turnB bs j b) i = wordN bs i := by
  apply wsum_congr
  intro k hk
  rw [turnB_at _ _ _ _ hj, if_neg (by omega)]

/-- The checks of so many words. -/
def chks (bs : List Nat) (m : Nat) : List Nat := (List.range m).map fun i => chk (wordN bs i)
theorem chks_len (bs : List Nat) (m : Nat) : (chks bs m).length = m := by simp [chks]
theorem range_map_at (g : Nat → Nat) (m i : Nat) (h : i < m) : ((List.range m).map g)[i]?.getD 0 = g i := by simp [h]
theorem chks_at (bs : List Nat) (m i : Nat) (h : i < m) : (chks bs m)[i]?.getD 0 = chk (wordN bs i) := range_map_at (fun i => chk (wordN bs i)) m i h
theorem chks_all (bs : List Nat) (m : Nat) : AllB (chks bs m) := by
  intro x hx
  simp only [chks, List.mem_map] at hx
  obtain ⟨i, _, rfl⟩ := hx
  exact chk_lt _

/-- A word put in its place, byte by byte. -/
def putK (o : List Nat) (i x : Nat) : Nat → List Nat
  | 0 => o
  | k + 1 => (putK o i x k).set (8 * i + k) (x / 2 ^ (8 * k) % 256)
theorem putK_len (o : List Nat) (i x : Nat) : ∀ k, (putK o i x k).length = o.length
  | 0 => rfl
  | k + 1 => by simp [putK, putK_len o i x k]
theorem putK_all {o : List Nat} (h : AllB o) (i x : Nat) : ∀ k, AllB (putK o i x k)
  | 0 => h
  | k + 1 => (putK_all h i x k).set _ _ (by omega)
theorem putK_at (o : List Nat) (i x j : Nat) (hj : j < o.length) : ∀ k, (putK o i x k)[j]?.getD 0 = if 8 * i ≤ j ∧ j < 8 * i + k then x / 2 ^ (8 * (j - 8 * i)) % 256 else o[j]?.getD 0
  | 0 => by rw [if_neg (by omega)]; rfl
  | k + 1 => by
    have ih := putK_at o i x j hj k
    simp only [putK]
    rw [List.getElem?_set]
    by_cases h : 8 * i + k = j
    · subst h
      rw [if_pos rfl, putK_len, if_pos hj, if_pos (by omega)]
      simp
    · rw [if_neg h, ih]
      by_cases h2 : 8 * i ≤ j ∧ j < 8 * i + k
      · rw [if_pos h2, if_pos (by omega)]
      · rw [if_neg h2, if_neg (by omega)]

/-- What Mend makes of the first so many words. -/
def mendS (k : Nat) : Option (List Nat × Nat) → Option (Nat × Nat) → Option (List Nat × Nat)
  | some (o, n), some (x, c) => some (putK o k x 8, n + c)
  | _, _ => none
theorem mendS_some (k : Nat) (o : List Nat) (n x c : Nat) : mendS k (some (o, n)) (some (x, c)) = some (putK o k x 8, n + c) := rfl
theorem mendS_none (k : Nat) (r : Option (List Nat × Nat)) : mendS k r none = none := by cases r <;> rfl
def mendL (bs cs : List Nat) : Nat → Option (List Nat × Nat)
  | 0 => some (List.replicate bs.length 0, 0)
  | k + 1 => mendS k (mendL bs cs k) (mendD (wordN bs k) (chk (wordN bs k) ^^^ cs[k]?.getD 0))
def sumTo (f : Nat → Nat) : Nat → Nat
  | 0 => 0
  | k + 1 => sumTo f k + f k
theorem ext_getD {a b : List Nat} (hl : a.length = b.length) (h : ∀ j, j < a.length → a[j]?.getD 0 = b[j]?.getD 0) : a = b := by
  apply List.ext_getElem hl
  intro i h1 h2
  have := h i h1
  rw [List.getElem?_eq_getElem h1, List.getElem?_eq_getElem h2] at this
  exact this
theorem mendL_right (bs cs D : List Nat) (m : Nat) (f : Nat → Nat) (hD : AllB D) (hl : D.length = 8 * m) (hb : bs.length = 8 * m)
    (h : ∀ k, k < m → mendD (wordN bs k) (chk (wordN bs k) ^^^ cs[k]?.getD 0) = some (wordN D k, f k)) : mendL bs cs m = some (D, sumTo f m) := by
  have inv : ∀ k, k ≤ m → ∃ o, mendL bs cs k = some (o, sumTo f k) ∧ o.length = 8 * m ∧ ∀ j, j < 8 * m → o[j]?.getD 0 = if j < 8 * k then D[j]?.getD 0 else 0 := by
    intro k
    induction k with
    | zero =>
      intro _
      refine ⟨_, rfl, by simp [hb], fun j hj => ?_⟩
      rw [if_neg (by omega)]
      simp [hb, hj]
    | succ k ih =>
      intro hk
      obtain ⟨o, h1, h2, h3⟩ := ih (by omega)
      refine ⟨putK o k (wordN D k) 8, ?_, by rw [putK_len, h2], fun j hj => ?_⟩
      · rw [mendL, h1, h k (by omega), mendS_some, sumTo]
      · rw [putK_at _ _ _ _ (by omega)]
        by_cases hj2 : 8 * k ≤ j ∧ j < 8 * k + 8
        · rw [if_pos hj2, if_pos (by omega)]
          have e := wordN_byte hD k (j - 8 * k) (by omega)
          have e2 : 8 * k + (j - 8 * k) = j := by omega
          rw [e2] at e
          exact e
        · rw [if_neg hj2, h3 j hj]
          by_cases hj3 : j < 8 * k
          · rw [if_pos hj3, if_pos (by omega)]
          · rw [if_neg hj3, if_neg (by omega)]
  obtain ⟨o, h1, h2, h3⟩ := inv m (Nat.le_refl _)
  rw [h1]
  have : o = D := ext_getD (by omega) (fun j hj => by rw [h3 j (by omega), if_pos (by omega)])
  rw [this]
theorem sumTo_zero : ∀ n, sumTo (fun _ => 0) n = 0
  | 0 => rfl
  | n + 1 => by simp [sumTo, sumTo_zero n]
theorem sumTo_one (a : Nat) : ∀ n, sumTo (fun k => if k = a then 1 else 0) n = if a < n then 1 else 0
  | 0 => by simp [sumTo]
  | n + 1 => by
    simp only [sumTo]
    rw [sumTo_one a n]
    by_cases h : a < n
    · rw [if_pos h, if_neg (by omega), if_pos (by omega)]
    · by_cases h2 : n = a
      · subst h2; simp
      · rw [if_neg h, if_neg h2, if_neg (by omega)]

/-- Nothing turned. -/
theorem mend_right (D : List Nat) (m : Nat) (hD : AllB D) (hl : D.length = 8 * m) : mendL D (chks D m) m = some (D, 0) := by
  rw [mendL_right D (chks D m) D m (fun _ => 0) hD hl hl (fun k hk => by rw [chks_at _ _ _ hk, Nat.xor_self]; rfl), sumTo_zero]
/-- One bit of the bytes turned. -/
theorem mend_data (D : List Nat) (m j b : Nat) (hD : AllB D) (hl : D.length = 8 * m) (hj : j < D.length) (hb : b < 8) : mendL (turnB D j b) (chks D m) m = some (D, 1) := by
  rw [mendL_right (turnB D j b) (chks D m) D m (fun k => if k = j / 8 then 1 else 0) hD hl (by simp [turnB, hl]) ?_, sumTo_one, if_pos (by omega)]
  intro k hk
  rw [chks_at _ _ _ hk]
  by_cases h : k = j / 8
  · subst h
    rw [if_pos rfl, wordN_turn hD j b hj hb]
    exact mendD_word _ _ (by omega)
  · rw [if_neg h, wordN_other j b k hj h, Nat.xor_self]; rfl
/-- One bit of the checks turned. -/
theorem mend_check (D : List Nat) (m j b : Nat) (hD : AllB D) (hl : D.length = 8 * m) (hj : j < m) (hb : b < 8) : mendL D (turnB (chks D m) j b) m = some (D, 1) := by
  rw [mendL_right D (turnB (chks D m) j b) D m (fun k => if k = j then 1 else 0) hD hl hl ?_, sumTo_one, if_pos hj]
  intro k hk
  rw [turnB_at _ _ _ _ (by rw [chks_len]; exact hj)]
  by_cases h : k = j
  · subst h
    rw [if_pos rfl, if_pos rfl, chks_at _ _ _ hk]
    exact mendD_check _ _ hb
  · rw [if_neg h, if_neg h, chks_at _ _ _ hk, Nat.xor_self]; rfl

end Go.Proofs.YtgflkfbddiccaaaDoor
