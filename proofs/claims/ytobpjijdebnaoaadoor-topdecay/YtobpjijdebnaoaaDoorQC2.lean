/- Part of the proof. -/
import Derived.Test.YtobpjijdebnaoaaDoorQC1
namespace Go.Proofs.YtobpjijdebnaoaaDoorQC
/-- The first so many bytes of a word, the least first. -/
def wsum (f : Nat → Nat) : Nat → Nat
  | 0 => 0
  | k + 1 => wsum f k + f k * 2 ^ (8 * k)
theorem wsum_lt {f : Nat → Nat} (h : ∀ k, f k < 256) : ∀ n, wsum f n < 2 ^ (8 * n)
  | 0 => by simp [wsum]
  | n + 1 => by
    have ih := wsum_lt h n
    have hn := h n
    have e : 2 ^ (8 * (n + 1)) = 2 ^ (8 * n) * 256 := by rw [Nat.mul_add, Nat.pow_add]
    simp only [wsum]
    rw [e]
    have : f n * 2 ^ (8 * n) ≤ 255 * 2 ^ (8 * n) := Nat.mul_le_mul_right _ (by omega)
    omega
theorem wsum_bit {f : Nat → Nat} (h : ∀ k, f k < 256) (i : Nat) : ∀ n, (wsum f n).testBit i = (decide (i < 8 * n) && (f (i / 8)).testBit (i % 8))
  | 0 => by simp [wsum]
  | n + 1 => by
    have ih := wsum_bit h i n
    have hl := wsum_lt h n
    have e : wsum f (n + 1) = 2 ^ (8 * n) * f n ||| wsum f n := by
      rw [← Nat.two_pow_add_eq_or_of_lt hl]; simp only [wsum]; rw [Nat.mul_comm (f n)]; omega
    rw [e, Nat.testBit_or, Nat.testBit_two_pow_mul, ih]
    by_cases h1 : i < 8 * n
    · have h2 : i < 8 * (n + 1) := by omega
      have h3 : ¬ i ≥ 8 * n := by omega
      simp [h1, h2, h3]
    · by_cases h2 : i < 8 * (n + 1)
      · have e1 : i / 8 = n := by omega
        have e2 : i - 8 * n = i % 8 := by omega
        have h3 : i ≥ 8 * n := by omega
        simp [h1, h2, h3, e1, e2]
      · have h3 : i ≥ 8 * n := by omega
        have h4 : (f n).testBit (i - 8 * n) = false := Nat.testBit_lt_two_pow (Nat.lt_of_lt_of_le (h n) (show 2 ^ 8 ≤ 2 ^ (i - 8 * n) from Nat.pow_le_pow_right (by decide) (by omega)))
        simp [h1, h2, h4]
theorem wsum_byte {f : Nat → Nat} (h : ∀ k, f k < 256) (k : Nat) (hk : k < 8) : wsum f 8 / 2 ^ (8 * k) % 256 = f k := by
  apply Nat.eq_of_testBit_eq
  intro i
  have e : (256 : Nat) = 2 ^ 8 := rfl
  rw [e, Nat.testBit_mod_two_pow, Nat.testBit_div_two_pow, wsum_bit h]
  by_cases hi : i < 8
  · have e1 : (8 * k + i) / 8 = k := by omega
    have e2 : (8 * k + i) % 8 = i := by omega
    have e3 : 8 * k + i < 8 * 8 := by omega
    simp [hi, Nat.add_comm i, e1, e2, e3]
  · have h4 : (f k).testBit i = false := Nat.testBit_lt_two_pow (Nat.lt_of_lt_of_le (h k) (show 2 ^ 8 ≤ 2 ^ i from Nat.pow_le_pow_right (by decide) (by omega)))
    simp [hi, h4]
theorem wsum_congr {f g : Nat → Nat} : ∀ n, (∀ k, k < n → f k = g k) → wsum f n = wsum g n
  | 0, _ => rfl
  | n + 1, h => by simp only [wsum]; rw [wsum_congr n (fun k hk => h k (by omega)), h n (by omega)]
theorem wsum_turn {f g : Nat → Nat} (hf : ∀ k, f k < 256) (hg : ∀ k, g k < 256) (k b : Nat) (hk : k < 8) (hb : b < 8) (h : g k = f k ^^^ 2 ^ b) (ho : ∀ j, j ≠ k → g j = f j) : wsum g 8 = wsum f 8 ^^^ 2 ^ (8 * k + b) := by
  apply Nat.eq_of_testBit_eq
  intro i
  rw [Nat.testBit_xor, wsum_bit hf, wsum_bit hg, Nat.testBit_two_pow]
  by_cases hi : i / 8 = k
  · rw [hi, h, Nat.testBit_xor, Nat.testBit_two_pow]
    have e3 : i < 8 * 8 := by omega
    have e4 : (b = i % 8) = (8 * k + b = i) := by apply propext; constructor <;> omega
    simp [e3, e4]
  · rw [ho _ hi]
    have e4 : ¬ 8 * k + b = i := by omega
    simp [e4]
/-- The word of that number. -/
def wordN (bs : List Nat) (i : Nat) : Nat := wsum (fun k => bs[8 * i + k]?.getD 0) 8
theorem wordN_lt {bs : List Nat} (h : AllB bs) (i : Nat) : wordN bs i < 18446744073709551616 := wsum_lt (fun k => h.at (8 * i + k)) 8
theorem wordN_byte {D : List Nat} (hD : AllB D) (i k : Nat) (hk : k < 8) : wordN D i / 2 ^ (8 * k) % 256 = D[8 * i + k]?.getD 0 := by
  unfold wordN
  rw [wsum_byte (fun k => hD.at _) k hk]
theorem xor_lt256 {a b : Nat} (ha : a < 256) (hb : b < 8) : a ^^^ 2 ^ b < 256 :=
  Nat.xor_lt_two_pow (n := 8) ha (Nat.pow_lt_pow_of_lt (by decide) (by omega))
theorem AllB.set {l : List Nat} (h : AllB l) (j v : Nat) (hv : v < 256) : AllB (l.set j v) := by
  intro x hx
  rcases List.mem_or_eq_of_mem_set hx with hx | rfl
  · exact h x hx
  · exact hv
/-- Bytes of which one bit is turned. -/
def turnB (bs : List Nat) (j b : Nat) : List Nat := bs.set j (bs[j]?.getD 0 ^^^ 2 ^ b)
theorem turnB_all {bs : List Nat} (h : AllB bs) (j b : Nat) (hb : b < 8) : AllB (turnB bs j b) := h.set j _ (xor_lt256 (h.at j) hb)
theorem turnB_at (bs : List Nat) (j b i : Nat) (hj : j < bs.length) : (turnB bs j b)[i]?.getD 0 = if i = j then bs[j]?.getD 0 ^^^ 2 ^ b else bs[i]?.getD 0 := by
  unfold turnB
  rw [List.getElem?_set]
  by_cases h : j = i
  · subst h; simp [hj]
  · rw [if_neg h, if_neg (fun e => h e.symm)]
theorem wordN_turn {bs : List Nat} (h : AllB bs) (j b : Nat) (hj : j < bs.length) (hb : b < 8) : wordN (turnB bs j b) (j / 8) = wordN bs (j / 8) ^^^ 2 ^ (8 * (j % 8) + b) := by
  apply wsum_turn (fun k => h.at _) (fun k => (turnB_all h j b hb).at _) (j % 8) b (by omega) hb
  · have e : 8 * (j / 8) + j % 8 = j := by omega
    rw [turnB_at _ _ _ _ hj, e, if_pos rfl]
  · intro i hi
    rw [turnB_at _ _ _ _ hj, if_neg (by omega)]
theorem wordN_other {bs : List Nat} (j b i : Nat) (hj : j < bs.length) (hi : i ≠ j / 8) : wordN (turnB bs j b) i = wordN bs i := by
  apply wsum_congr
  intro k hk
  rw [turnB_at _ _ _ _ hj, if_neg (by omega)]
/-- The checks of so many words. -/
def chks (bs : List Nat) (m : Nat) : List Nat := (List.range m).map fun i => chk (wordN bs i)
theorem chks_len (bs : List Nat) (m : Nat) : (chks bs m).length = m := by simp [chks]
theorem range_map_at (g : Nat → Nat) (m i : Nat) (h : i < m) : ((List.range m).map g)[i]?.getD 0 = g i := by simp [h]
theorem chks_at (bs : List Nat) (m i : Nat) (h : i < m) : (chks bs m)[i]?.getD 0 = chk (wordN bs i) := range_map_at (fun i => chk (wordN bs i)) m i h
theorem chks_all (bs : List Nat) (m : Nat) : AllB (chks bs m) := by
  intro x hx
  simp only [chks, List.mem_map] at hx
  obtain ⟨i, _, rfl⟩ := hx
  exact chk_lt _
/-- A word put in its place, byte by byte. -/
def putK (o : List Nat) (i x : Nat) : Nat → List Nat
  | 0 => o
  | k + 1 => (putK o i x k).set (8 * i + k) (x / 2 ^ (8 * k) % 256)
theorem putK_len (o : List Nat) (i x : Nat) : ∀ k, (putK o i x k).length = o.length
  | 0 => rfl
  | k + 1 => by simp [putK, putK_len o i x k]
theorem putK_all {o : List Nat} (h : AllB o) (i x : Nat) : ∀ k, AllB (putK o i x k)
  | 0 => h
  | k + 1 => (putK_all h i x k).set _ _ (by omega)
theorem putK_at (o : List Nat) (i x j : Nat) (hj : j < o.length) : ∀ k, (putK o i x k)[j]?.getD 0 = if 8 * i ≤ j ∧ j < 8 * i + k then x / 2 ^ (8 * (j - 8 * i)) % 256 else o[j]?.getD 0
  | 0 => by rw [if_neg (by omega)]; rfl
  | k + 1 => by
    have ih := putK_at o i x j hj k
    simp only [putK]
    rw [List.getElem?_set]
    by_cases h : 8 * i + k = j
    · subst h
      rw [if_pos rfl, putK_len, if_pos hj, if_pos (by omega)]
      simp
    · rw [if_neg h, ih]
      by_cases h2 : 8 * i ≤ j ∧ j < 8 * i + k
      · rw [if_pos h2, if_pos (by omega)]
      · rw [if_neg h2, if_neg (by omega)]
/-- What Mend makes of the first so many words. -/
def mendS (k : Nat) : Option (List Nat × Nat) → Option (Nat × Nat) → Option (List Nat × Nat)
  | some (o, n), some (x, c) => some (putK o k x 8, n + c)
  | _, _ => none
theorem mendS_some (k : Nat) (o : List Nat) (n x c : Nat) : mendS k (some (o, n)) (some (x, c)) = some (putK o k x 8, n + c) := rfl
theorem mendS_none (k : Nat) (r : Option (List Nat × Nat)) : mendS k r none = none := by cases r <;> rfl
def mendL (bs cs : List Nat) : Nat → Option (List Nat × Nat)
  | 0 => some (List.replicate bs.length 0, 0)
  | k + 1 => mendS k (mendL bs cs k) (mendD (wordN bs k) (chk (wordN bs k) ^^^ cs[k]?.getD 0))
def sumTo (f : Nat → Nat) : Nat → Nat
  | 0 => 0
  | k + 1 => sumTo f k + f k
theorem ext_getD {a b : List Nat} (hl : a.length = b.length) (h : ∀ j, j < a.length → a[j]?.getD 0 = b[j]?.getD 0) : a = b := by
  apply List.ext_getElem hl
  intro i h1 h2
  have := h i h1
  rw [List.getElem?_eq_getElem h1, List.getElem?_eq_getElem h2] at this
  exact this
theorem mendL_right (bs cs D : List Nat) (m : Nat) (f : Nat → Nat) (hD : AllB D) (hl : D.length = 8 * m) (hb : bs.length = 8 * m)
    (h : ∀ k, k < m → mendD (wordN bs k) (chk (wordN bs k) ^^^ cs[k]?.getD 0) = some (wordN D k, f k)) : mendL bs cs m = some (D, sumTo f m) := by
  have inv : ∀ k, k ≤ m → ∃ o, mendL bs cs k = some (o, sumTo f k) ∧ o.length = 8 * m ∧ ∀ j, j < 8 * m → o[j]?.getD 0 = if j < 8 * k then D[j]?.getD 0 else 0 := by
    intro k
    induction k with
    | zero =>
      intro _
      refine ⟨_, rfl, by simp [hb], fun j hj => ?_⟩
      rw [if_neg (by omega)]
      simp [hb, hj]
    | succ k ih =>
      intro hk
      obtain ⟨o, h1, h2, h3⟩ := ih (by omega)
      refine ⟨putK o k (wordN D k) 8, ?_, by rw [putK_len, h2], fun j hj => ?_⟩
      · rw [mendL, h1, h k (by omega), mendS_some, sumTo]
      · rw [putK_at _ _ _ _ (by omega)]
        by_cases hj2 : 8 * k ≤ j ∧ j < 8 * k + 8
        · rw [if_pos hj2, if_pos (by omega)]
          have e := wordN_byte hD k (j - 8 * k) (by omega)
          have e2 : 8 * k + (j - 8 * k) = j := by omega
          rw [e2] at e
          exact e
        · rw [if_neg hj2, h3 j hj]
          by_cases hj3 : j < 8 * k
          · rw [if_pos hj3, if_pos (by omega)]
          · rw [if_neg hj3, if_neg (by omega)]
  obtain ⟨o, h1, h2, h3⟩ := inv m (Nat.le_refl _)
  rw [h1]
  have : o = D := ext_getD (by omega) (fun j hj => by rw [h3 j (by omega), if_pos (by omega)])
  rw [this]
theorem sumTo_zero : ∀ n, sumTo (fun _ => 0) n = 0
  | 0 => rfl
  | n + 1 => by simp [sumTo, sumTo_zero n]
theorem sumTo_one (a : Nat) : ∀ n, sumTo (fun k => if k = a then 1 else 0) n = if a < n then 1 else 0
  | 0 => by simp [sumTo]
  | n + 1 => by
    simp only [sumTo]
    rw [sumTo_one a n]
    by_cases h : a < n
    · rw [if_pos h, if_neg (by omega), if_pos (by omega)]
    · by_cases h2 : n = a
      · subst h2; simp
      · rw [if_neg h, if_neg h2, if_neg (by omega)]
/-- Nothing turned. -/
theorem mend_right (D : List Nat) (m : Nat) (hD : AllB D) (hl : D.length = 8 * m) : mendL D (chks D m) m = some (D, 0) := by
  rw [mendL_right D (chks D m) D m (fun _ => 0) hD hl hl (fun k hk => by rw [chks_at _ _ _ hk, Nat.xor_self]; rfl), sumTo_zero]
/-- One bit of the bytes turned. -/
theorem mend_data (D : List Nat) (m j b : Nat) (hD : AllB D) (hl : D.length = 8 * m) (hj : j < D.length) (hb : b < 8) : mendL (turnB D j b) (chks D m) m = some (D, 1) := by
  rw [mendL_right (turnB D j b) (chks D m) D m (fun k => if k = j / 8 then 1 else 0) hD hl (by simp [turnB, hl]) ?_, sumTo_one, if_pos (by omega)]
  intro k hk
  rw [chks_at _ _ _ hk]
  by_cases h : k = j / 8
  · subst h
    rw [if_pos rfl, wordN_turn hD j b hj hb]
    exact mendD_word _ _ (by omega)
  · rw [if_neg h, wordN_other j b k hj h, Nat.xor_self]; rfl
/-- One bit of the checks turned. -/
theorem mend_check (D : List Nat) (m j b : Nat) (hD : AllB D) (hl : D.length = 8 * m) (hj : j < m) (hb : b < 8) : mendL D (turnB (chks D m) j b) m = some (D, 1) := by
  rw [mendL_right D (turnB (chks D m) j b) D m (fun k => if k = j then 1 else 0) hD hl hl ?_, sumTo_one, if_pos hj]
  intro k hk
  rw [turnB_at _ _ _ _ (by rw [chks_len]; exact hj)]
  by_cases h : k = j
  · subst h
    rw [if_pos rfl, if_pos rfl, chks_at _ _ _ hk]
    exact mendD_check _ _ hb
  · rw [if_neg h, if_neg h, chks_at _ _ _ hk, Nat.xor_self]; rfl
/-- In each word of xs, or in its check, at most one bit is turned against D; from word i on none is. -/
structure DI (D xs cs : List Nat) (m i : Nat) (f : Nat → Nat) : Prop where
  la : xs.length = 8 * m
  lc : cs.length = m
  aa : AllB xs
  ac : AllB cs
  ok : ∀ j, j < m → mendD (wordN xs j) (chk (wordN xs j) ^^^ cs[j]?.getD 0) = some (wordN D j, f j)
  one : ∀ j, j < 8 * m → xs[j]?.getD 0 = D[j]?.getD 0 ∨ ∃ b, b < 8 ∧ xs[j]?.getD 0 = D[j]?.getD 0 ^^^ 2 ^ b
  free : ∀ j, 8 * i ≤ j → xs[j]?.getD 0 = D[j]?.getD 0
  freec : ∀ j, i ≤ j → j < m → cs[j]?.getD 0 = chk (wordN D j)
  zero : ∀ j, i ≤ j → f j = 0
theorem DI.start {D : List Nat} {m : Nat} (hD : AllB D) (hl : D.length = 8 * m) : DI D D (chks D m) m 0 (fun _ => 0) := by
  refine ⟨hl, chks_len D m, hD, chks_all D m, fun j hj => ?_, fun j _ => .inl rfl, fun j _ => rfl, fun j _ hj => chks_at D m j hj, fun _ _ => rfl⟩
  rw [chks_at D m j hj, Nat.xor_self]
  exact mendD_right _
theorem DI.word {D xs cs : List Nat} {m i : Nat} {f : Nat → Nat} (h : DI D xs cs m i f) : wordN xs i = wordN D i := by
  unfold wordN
  exact wsum_congr 8 fun k _ => h.free (8 * i + k) (by omega)
/-- No bit of word i is turned. -/
theorem DI.none {D xs cs : List Nat} {m i : Nat} {f : Nat → Nat} (h : DI D xs cs m i f) : DI D xs cs m (i + 1) f :=
  ⟨h.la, h.lc, h.aa, h.ac, h.ok, h.one, fun j hj => h.free j (by omega), fun j hj => h.freec j (by omega), fun j hj => h.zero j (by omega)⟩
def upd (f : Nat → Nat) (i : Nat) : Nat → Nat := fun j => if j = i then 1 else f j
theorem sumTo_upd (f : Nat → Nat) (i : Nat) (h : f i = 0) : ∀ m, sumTo (upd f i) m = sumTo f m + if i < m then 1 else 0
  | 0 => by simp [sumTo]
  | m + 1 => by
    have ih := sumTo_upd f i h m
    show sumTo (upd f i) m + upd f i m = sumTo f m + f m + _
    rw [ih]
    unfold upd
    by_cases e : m = i
    · subst e
      rw [if_pos rfl, if_neg (by omega), if_pos (by omega), h]
    · rw [if_neg e]
      by_cases h1 : i < m
      · rw [if_pos h1, if_pos (by omega)]; omega
      · rw [if_neg h1, if_neg (by omega)]; omega
/-- A bit of word i is turned. -/
theorem DI.data {D xs cs : List Nat} {m i : Nat} {f : Nat → Nat} (h : DI D xs cs m i f) (hi : i < m) (k : Nat) (hk : k < 64) : DI D (turnB xs (8 * i + k / 8) (k % 8)) cs m (i + 1) (upd f i) := by
  have hj : 8 * i + k / 8 < xs.length := by rw [h.la]; omega
  have hb : k % 8 < 8 := by omega
  have hw := h.word
  refine ⟨by unfold turnB; rw [List.length_set]; exact h.la, h.lc, turnB_all h.aa _ _ hb, h.ac, fun j hjm => ?_, fun j hjm => ?_, fun j hjm => ?_, fun j hj2 hj3 => h.freec j (by omega) hj3, fun j hj2 => ?_⟩
  · by_cases e : j = i
    · subst e
      have ht := wordN_turn h.aa (8 * j + k / 8) (k % 8) hj hb
      rw [show (8 * j + k / 8) / 8 = j by omega, show 8 * ((8 * j + k / 8) % 8) + k % 8 = k by omega, hw] at ht
      rw [ht, h.freec j (Nat.le_refl _) hjm]
      unfold upd
      rw [if_pos rfl]
      exact mendD_word _ k hk
    · rw [wordN_other (8 * i + k / 8) (k % 8) j hj (by omega)]
      unfold upd
      rw [if_neg e]
      exact h.ok j hjm
  · rw [turnB_at xs _ _ j hj]
    split
    · rename_i e
      subst e
      rw [h.free _ (by omega)]
      exact .inr ⟨_, hb, rfl⟩
    · exact h.one j hjm
  · rw [turnB_at xs _ _ j hj, if_neg (by omega)]
    exact h.free j (by omega)
  · unfold upd
    rw [if_neg (by omega)]
    exact h.zero j (by omega)
/-- A bit of word i's check is turned. -/
theorem DI.check {D xs cs : List Nat} {m i : Nat} {f : Nat → Nat} (h : DI D xs cs m i f) (hi : i < m) (b : Nat) (hb : b < 8) : DI D xs (turnB cs i b) m (i + 1) (upd f i) := by
  have hj : i < cs.length := by rw [h.lc]; exact hi
  refine ⟨h.la, by unfold turnB; rw [List.length_set]; exact h.lc, h.aa, turnB_all h.ac _ _ hb, fun j hjm => ?_, h.one, fun j hj2 => h.free j (by omega), fun j hj2 hj3 => ?_, fun j hj2 => ?_⟩
  · rw [turnB_at cs i b j hj]
    by_cases e : j = i
    · subst e
      rw [if_pos rfl, h.freec j (Nat.le_refl _) hjm, h.word]
      unfold upd
      rw [if_pos rfl]
      exact mendD_check _ b hb
    · rw [if_neg e]
      unfold upd
      rw [if_neg e]
      exact h.ok j hjm
  · rw [turnB_at cs i b j hj, if_neg (by omega)]
    exact h.freec j (by omega) hj3
  · unfold upd
    rw [if_neg (by omega)]
    exact h.zero j (by omega)
/-- IT IS MENDED. -/
theorem DI.mend {D xs cs : List Nat} {m i : Nat} {f : Nat → Nat} (h : DI D xs cs m i f) (hD : AllB D) (hl : D.length = 8 * m) : mendL xs cs m = some (D, sumTo f m) :=
  mendL_right xs cs D m f hD hl h.la h.ok
/-- How many of the first k bytes are others. -/
def flips (xs D : List Nat) : Nat → Nat
  | 0 => 0
  | k + 1 => flips xs D k + if xs[k]?.getD 0 = D[k]?.getD 0 then 0 else 1
theorem flips_zero {xs D : List Nat} : ∀ {k}, flips xs D k = 0 → ∀ j, j < k → xs[j]?.getD 0 = D[j]?.getD 0
  | 0, _, j, hj => by omega
  | k + 1, h, j, hj => by
    have h' : flips xs D k + (if xs[k]?.getD 0 = D[k]?.getD 0 then 0 else 1) = 0 := h
    by_cases e : xs[k]?.getD 0 = D[k]?.getD 0
    · rw [if_pos e] at h'
      by_cases ej : j = k
      · subst ej; exact e
      · exact flips_zero (by omega) j (by omega)
    · rw [if_neg e] at h'; omega
theorem flips_one {xs D : List Nat} : ∀ {k}, flips xs D k = 1 → ∃ j, j < k ∧ xs[j]?.getD 0 ≠ D[j]?.getD 0 ∧ ∀ i, i < k → i ≠ j → xs[i]?.getD 0 = D[i]?.getD 0
  | 0, h => by cases h
  | k + 1, h => by
    have h' : flips xs D k + (if xs[k]?.getD 0 = D[k]?.getD 0 then 0 else 1) = 1 := h
    by_cases e : xs[k]?.getD 0 = D[k]?.getD 0
    · rw [if_pos e] at h'
      obtain ⟨j, h1, h2, h3⟩ := flips_one (show flips xs D k = 1 by omega)
      refine ⟨j, by omega, h2, fun i hi hne => ?_⟩
      by_cases ei : i = k
      · subst ei; exact e
      · exact h3 i (by omega) hne
    · rw [if_neg e] at h'
      have h0 := flips_zero (show flips xs D k = 0 by omega)
      exact ⟨k, by omega, e, fun i hi hne => h0 i (by omega)⟩
/-- Where one byte alone is another, one bit is turned. -/
theorem DI.turned {D xs cs : List Nat} {m i : Nat} {f : Nat → Nat} (h : DI D xs cs m i f) (hl : D.length = 8 * m) (h1 : flips xs D (8 * m) = 1) : ∃ j b, j < 8 * m ∧ b < 8 ∧ xs = turnB D j b := by
  obtain ⟨j, hj, hne, ho⟩ := flips_one h1
  rcases h.one j hj with e | ⟨b, hb, e⟩
  · exact absurd e hne
  · refine ⟨j, b, hj, hb, ext_getD (by unfold turnB; rw [List.length_set, h.la, hl]) fun i hi => ?_⟩
    rw [turnB_at D j b i (by rw [hl]; exact hj)]
    split
    · rename_i ei
      rw [ei]; exact e
    · rename_i ei
      exact ho i (by rw [← h.la]; exact hi) ei
end Go.Proofs.YtobpjijdebnaoaaDoorQC
namespace Go.Proofs.YtobpjijdebnaoaaDoorQC
open Go.Proofs.YtobpjijdebnaoaaDoorQ
open Go.RowKit
def bv (y : Nat) : Value := .int .u8 (y : Int)
/-- THE BYTES ys ARE THE CALL's OWN, at the head of block g. -/
def Owns (w : World) (base g cap : Nat) (ys : List Nat) : Prop := w.ownsRow base 5 1 (.slice (some ⟨g, 0, none⟩) ys.length cap) ys.length (ys.map bv)
theorem Owns.cell {w : World} {base g cap : Nat} {ys : List Nat} (h : Owns w base g cap ys) (j : Nat) (hj : j < ys.length) : w.cell? ⟨g, j, none⟩ = some (.int .u8 ((ys[j]?.getD 0 : Nat) : Int)) := by
  have := World.ownsRow.cellAt h j (by omega)
  rw [this, List.getElem?_map, List.getElem?_eq_getElem hj]
  rfl
theorem Owns.free {w : World} {base g cap : Nat} {ys : List Nat} (h : Owns w base g cap ys) (j : Nat) : w.frozen? ⟨g, j, none⟩ = false := World.ownsRow.frozenAt h j
theorem Owns.le {w : World} {base g cap : Nat} {ys : List Nat} (h : Owns w base g cap ys) : base ≤ g ∧ g < w.heap.size := World.ownsRow.lt h g rfl
theorem Owns.set {w : World} {base g cap : Nat} {ys : List Nat} (h : Owns w base g cap ys) (j y : Nat) : Owns (w.setCell ⟨g, j, none⟩ (.int .u8 (y : Int))) base g cap (ys.set j y) := by
  have := (World.ownsRow.stored h j (bv y)).1
  unfold Owns
  rw [List.map_set, List.length_set]
  exact this
theorem Owns.below {w w' : World} {base g cap B : Nat} {ys : List Nat} (h : Owns w base g cap ys) (hb : Below B w w') (hg : g < B) : Owns w' base g cap ys := by
  obtain ⟨h1, h2⟩ := h
  refine ⟨h1, ?_⟩
  rcases h2 with ⟨h2, _⟩ | ⟨g', cap', cur, hv, hb', hh, r⟩
  · simp at h2
  · have e : g = g' := by simp at hv; exact hv.1
    subst e
    exact Or.inr ⟨g, cap', cur, hv, hb', by rw [hb.block g hg]; exact hh, r⟩
theorem Owns.lies {w : World} {base g cap : Nat} {ys : List Nat} (h : Owns w base g cap ys) : Lies w (some ⟨g, 0, none⟩) ys :=
  Or.inr ⟨g, 0, rfl, fun i hi => by rw [Nat.zero_add]; exact h.cell i hi⟩
theorem Lies.below {w w' : World} {a : Option Addr} {bs : List Nat} (h : Lies w a bs) (hb : Below w.heap.size w w') : Lies w' a bs := by
  rcases h with h | ⟨b, off, rfl, h⟩
  · exact Or.inl h
  · refine Or.inr ⟨b, off, rfl, fun i hi => ?_⟩
    have hc := h i hi
    rw [hb.cell (p := ⟨b, off + i, none⟩) (World.block_lt_of_cell? w _ hc)]
    exact hc
theorem Plc.pos {w : World} (h : Plc w) : 0 < w.heap.size := by
  obtain ⟨t, fr, h⟩ := h
  have := Array.getElem?_eq_some_iff.1 h
  exact this.1
theorem Plc.below {w w' : World} {B : Nat} (h : Plc w) (hb : Below B w w') (hB : 0 < B) : Plc w' := by
  obtain ⟨t, fr, h⟩ := h
  exact ⟨t, fr, by rw [hb.block 0 hB]; exact h⟩
theorem pow8_lt (B k : Nat) (hk : k < 8) (hB : B < 256) : B * 2 ^ (8 * k) < 18446744073709551616 := by
  have h1 : 2 ^ (8 * k) ≤ 2 ^ 56 := Nat.pow_le_pow_right (by decide) (by omega)
  have h2 : B * 2 ^ (8 * k) ≤ 255 * 2 ^ 56 := Nat.mul_le_mul (by omega) h1
  omega
theorem or_word (S B k : Nat) (hk : k < 8) (hS : S < 2 ^ (8 * k)) (hB : B < 256) : bits .or .u64 (S : Int) (IntKind.u64.wrap ((B : Int) * 2 ^ (8 * k))) = ((S + B * 2 ^ (8 * k) : Nat) : Int) := by
  have hp := pow8_lt B k hk hB
  have e : (B : Int) * 2 ^ (8 * k) = ((B * 2 ^ (8 * k) : Nat) : Int) := by simp
  have hS2 : S < 18446744073709551616 := Nat.lt_of_lt_of_le hS (show 2 ^ (8 * k) ≤ 2 ^ 64 from Nat.pow_le_pow_right (by decide) (by omega))
  rw [e, wrap64_nat _ hp, u64_or_nat _ _ hS2 hp, Nat.or_comm, nat_join (8 * k) _ S (Nat.mul_mod_left _ _) hS, Nat.add_comm]
set_option maxHeartbeats 400000 in
theorem wordAt_any (b off cap i : Nat) (bs : List Nat) (w : World) (hm : bs.length ≤ 140737488355328) (hz : AllB bs) (hi : 8 * i + 8 ≤ bs.length)
    (hc : ∀ j, j < bs.length → w.cell? ⟨b, off + j, none⟩ = some (.int .u8 ((bs[j]?.getD 0 : Nat) : Int))) :
    Calls (Al.progOf Tryd.prog) 18 #[.slice (some ⟨b, off, none⟩) bs.length cap, .int .i64 i] w fun e w' => e = .returned (.int .u64 (wordN bs i : Nat)) ∧ w' = w := by
  go_enter Al.func18, Tryd.ntmps18
  go_wp2
  go_loop [5, 7] (fun t j => ∃ k : Nat, k ≤ 8 ∧ j = .int .i64 k ∧ t = .int .u64 (wsum (fun k => bs[8 * i + k]?.getD 0) k : Nat)) (fun _ j => 8 - (intOf j).toNat)
  case atStart => exact ⟨0, by omega, rfl, rfl⟩
  case round =>
    obtain ⟨k, hk, rfl, rfl⟩ := hrel
    by_cases hlt : k < 8
    · have hck := hc (8 * i + k) (by omega)
      have ei : off + (8 * i + k) = off + (i * 8 + k) := by omega
      rw [ei] at hck
      clear ei
      have hzk := hz.at (8 * i + k)
      have hl := wsum_lt (f := fun k => bs[8 * i + k]?.getD 0) (fun k => hz.at _) k
      have HS : Hid (wsum (fun k => bs[8 * i + k]?.getD 0) (k + 1) = wsum (fun k => bs[8 * i + k]?.getD 0) k + bs[8 * i + k]?.getD 0 * 2 ^ (8 * k)) := rfl
      generalize wsum (fun k => bs[8 * i + k]?.getD 0) k = S at hl HS ⊢
      generalize bs[8 * i + k]?.getD 0 = B at hck hzk HS
      go_wp2
      go_round
      case rel => exact ⟨k + 1, by omega, by go_num, val_int (by rw [or_word S B k hlt hl hzk, ← HS.out])⟩
      case measure => simp [intOf]; omega
    · obtain rfl : k = 8 := by omega
      go_wp2
      go_ret
      exact ⟨rfl, rfl⟩
set_option maxHeartbeats 400000 in
theorem sizeFault_any (a : Option Addr) (n cap : Nat) (w : World) (hm : n ≤ 140737488355328) :
    Calls (Al.progOf Tryd.prog) 16 #[.slice a n cap] w fun e w' => e = .returned (if n % 8 ≠ 0 then .iface 47 (.int .i64 2) else if 4096 < n then .iface 47 (.int .i64 3) else .nilIface) ∧ w' = w := by
  by_cases h1 : n % 8 = 0
  · by_cases h2 : 4096 < n
    · go_enter Al.func16, Tryd.ntmps16
      go_wp2
      go_ret
      exact ⟨rfl, rfl⟩
    · go_enter Al.func16, Tryd.ntmps16
      go_wp2
      go_ret
      exact ⟨rfl, rfl⟩
  · go_enter Al.func16, Tryd.ntmps16
    go_wp2
    go_ret
    exact ⟨rfl, rfl⟩
theorem byte_int (x k : Nat) : (x : Int) / 2 ^ (8 * k) % 256 = ((x / 2 ^ (8 * k) % 256 : Nat) : Int) := by simp
theorem putK_step {w : World} {base g cap i x k : Nat} {ys : List Nat} (h : Owns w base g cap (putK ys i x k)) : Owns (w.setCell ⟨g, i * 8 + k, none⟩ (.int .u8 ((x : Int) / 2 ^ (8 * k) % 256))) base g cap (putK ys i x (k + 1)) := by
  rw [byte_int]
  have := h.set (i * 8 + k) (x / 2 ^ (8 * k) % 256)
  simp only [putK]
  have e : 8 * i + k = i * 8 + k := by omega
  rw [e]
  exact this
set_option maxHeartbeats 400000 in
theorem putWord_any (base g cap i x : Nat) (ys : List Nat) (w : World) (hm : ys.length ≤ 140737488355328) (hi : 8 * i + 8 ≤ ys.length) (ho : Owns w base g cap ys) :
    Calls (Al.progOf Tryd.prog) 20 #[.slice (some ⟨g, 0, none⟩) ys.length cap, .int .i64 i, .int .u64 x] w fun e w' => e = .returned (.tuple #[]) ∧ Owns w' base g cap (putK ys i x 8) ∧ Below base w w' := by
  have hB := ho.le
  go_enter Al.func20, Tryd.ntmps20
  go_wp2
  go_loopw [7] (fun j wr => ∃ k : Nat, k ≤ 8 ∧ j = .int .i64 k ∧ Owns wr base g cap (putK ys i x k) ∧ Below base w wr) (fun j _ => 8 - (intOf j).toNat)
  case atStart => exact ⟨0, by omega, rfl, ho, Below.refl _ _⟩
  case round =>
    obtain ⟨k, hk, rfl, hor, hbr⟩ := hrel
    by_cases hlt : k < 8
    · have hf := hor.free (i * 8 + k)
      have hl : (putK ys i x k).length = ys.length := putK_len ys i x k
      have hck := hor.cell (i * 8 + k) (by omega)
      generalize (putK ys i x k)[i * 8 + k]?.getD 0 = B at hck
      clear hl
      go_wp2
      go_roundw
      case rel => exact ⟨k + 1, by omega, by go_num, putK_step hor, hbr.setCell hB.1 _⟩
      case measure => simp [intOf]; omega
    · obtain rfl : k = 8 := by omega
      go_wp2
      go_end0
      exact ⟨rfl, hor, hbr⟩
def errV : Nat → Value := fun n => .iface 47 (.int .i64 n)
/-- What mendWord gives. -/
def mendV : Option (Nat × Nat) → Value
  | some (x, c) => .tuple #[.int .u64 (x : Int), .int .i64 (c : Int), .nilIface]
  | none => .tuple #[.int .u64 0, .int .i64 0, errV 8]
theorem xor_pow (x k : Nat) (hx : x < 18446744073709551616) (hk : k < 64) : bits .xor .u64 (x : Int) (IntKind.u64.wrap (2 ^ k)) = ((x ^^^ 2 ^ k : Nat) : Int) := by
  have hp : 2 ^ k < 18446744073709551616 := Nat.pow_lt_pow_of_lt (a := 2) (m := 64) (by decide) hk
  have e : (2 : Int) ^ k = ((2 ^ k : Nat) : Int) := by simp
  rw [e, wrap64_nat _ hp, u64_xor_nat _ _ hx hp]
theorem ret_mend {A : Int} {x : Nat} (h : A = (x : Int)) : Ending.returned (.tuple #[.int .u64 A, .int .i64 1, .nilIface]) = .returned (mendV (some (x, 1))) := by rw [h]; rfl
set_option maxHeartbeats 800000 in
theorem mendWord_core (x c S c7 o p q : Nat) (r : Option (Nat × Nat)) (w : World) (hx : x < 18446744073709551616) (hP : Plc w) (ho : o < 128) (hq : q ≤ 8)
    (hps : Calls (Al.progOf Tryd.prog) 33 #[.int .u64 x] w fun e w' => e = .returned (.int .u8 (S : Int)) ∧ w' = w)
    (hpar : Calls (Al.progOf Tryd.prog) 34 #[.int .u64 x, .int .u8 c] w fun e w' => e = .returned (.int .i64 (p : Int)) ∧ w' = w)
    (hone : Calls (Al.progOf Tryd.prog) 35 #[.int .u8 o] w fun e w' => e = .returned (.int .i64 (q : Int)) ∧ w' = w)
    (hc7 : bits .and .u8 (c : Int) 127 = (c7 : Int)) (hxo : bits .xor .u8 (S : Int) (c7 : Int) = (o : Int))
    (hr : Hid (∀ k, k < 64 → placeAt k = o → r = some (x ^^^ 2 ^ k, 1))) (hr0 : Hid ((∀ j, j < 64 → placeAt j ≠ o) → r = none)) :
    Calls (Al.progOf Tryd.prog) 19 #[.int .u64 x, .int .u8 c] w fun e w' => e = .returned (mendV (if p = 0 then if o = 0 then some (x, 0) else none else if q ≤ 1 then some (x, 1) else r)) ∧ w' = w := by
  obtain ⟨t, fr, hg⟩ := hP
  by_cases hp : p = 0
  · subst hp
    by_cases ho0 : o = 0
    · subst ho0
      go_enter Al.func19, Tryd.ntmps19
      go_wp2_with (first | (go_at_call 33; refine hps.mono ?_; rintro e w' ⟨rfl, rfl⟩) | (go_at_call 34; refine hpar.mono ?_; rintro e w' ⟨rfl, rfl⟩))
      go_ret3
      exact ⟨rfl, rfl⟩
    · have h1 : ((o : Int) != 0) = true := by simp; omega
      simp only [if_pos, if_neg ho0]
      go_enter Al.func19, Tryd.ntmps19
      go_wp2_with (first | (go_at_call 33; refine hps.mono ?_; rintro e w' ⟨rfl, rfl⟩) | (go_at_call 34; refine hpar.mono ?_; rintro e w' ⟨rfl, rfl⟩))
      go_ret3
      exact ⟨rfl, rfl⟩
  · have h1 : ((p : Int) == 0) = false := by simp; omega
    rw [if_neg hp]
    by_cases hq1 : q ≤ 1
    · rw [if_pos hq1]
      go_enter Al.func19, Tryd.ntmps19
      go_wp2_with (first | (go_at_call 33; refine hps.mono ?_; rintro e w' ⟨rfl, rfl⟩) | (go_at_call 34; refine hpar.mono ?_; rintro e w' ⟨rfl, rfl⟩) | (go_at_call 35; refine hone.mono ?_; rintro e w' ⟨rfl, rfl⟩))
      go_ret3
      exact ⟨rfl, rfl⟩
    · rw [if_neg hq1]
      go_enter Al.func19, Tryd.ntmps19
      go_wp2_with (first | (go_at_call 33; refine hps.mono ?_; rintro e w' ⟨rfl, rfl⟩) | (go_at_call 34; refine hpar.mono ?_; rintro e w' ⟨rfl, rfl⟩) | (go_at_call 35; refine hone.mono ?_; rintro e w' ⟨rfl, rfl⟩) | (refine wpList_load_row rfl 76 _ rfl 0 rfl t _ fr _ hg Al.underlying76 rfl info61 ?_))
      clear hps hpar hone hc7 hxo
      go_loop [28] (fun j => ∃ k : Nat, k ≤ 64 ∧ j = .int .i64 k ∧ ∀ i, i < k → placeAt i ≠ o) (fun j => 64 - (intOf j).toNat)
      case atStart => exact ⟨0, by omega, rfl, fun i h => by omega⟩
      case round =>
        obtain ⟨k, hk, rfl, hno⟩ := hrel
        by_cases hlt : k < 64
        · have hi := fun w => run_idx k hlt w
          by_cases he : placeAt k = o
          · have hrk := hr.out k hlt he
            have HR : Hid (r = some (x ^^^ 2 ^ k, 1)) := hrk
            clear hno hrk
            rw [he] at hi
            clear he
            go_wp2
            go_ret3
            refine ⟨?_, rfl⟩
            rw [HR.out]
            exact ret_mend (xor_pow x k hx hlt)
          · have he2 : ((placeAt k : Int) == (o : Int)) = false := by simp; omega
            have HN : Hid (∀ i, i < k + 1 → placeAt i ≠ o) := fun i hi => by
              by_cases h : i < k
              · exact hno i h
              · have : i = k := by omega
                subst this; exact he
            clear hno he
            go_wp2
            go_round
            case rel => exact ⟨k + 1, by omega, by go_num, HN.out⟩
            case measure => simp [intOf]; omega
        · obtain rfl : k = 64 := by omega
          have HR : Hid (r = none) := hr0.out hno
          clear hno
          go_wp2
          go_ret3
          refine ⟨?_, rfl⟩
          rw [HR.out]
          rfl
theorem mendWord_any (x c : Nat) (w : World) (hx : x < 18446744073709551616) (hc : c < 256) (hP : Plc w) :
    Calls (Al.progOf Tryd.prog) 19 #[.int .u64 x, .int .u8 c] w fun e w' => e = .returned (mendV (mendD x (chk x ^^^ c))) ∧ w' = w := by
  have h1 := psum_lt x 64
  have eo : psum x 64 ^^^ c % 128 = (chk x ^^^ c) % 128 := by rw [xor_mod128]; unfold chk; rw [csum_mod]
  have ho : (chk x ^^^ c) % 128 < 128 := by omega
  have ep : (pop 64 x + pop 8 c) % 2 = pop 8 (chk x ^^^ c) % 2 := by
    have a := pop_xor 8 (chk x) c
    have b := pop_chk x
    omega
  have hcore := mendWord_core x c (psum x 64) (c % 128) ((chk x ^^^ c) % 128) ((pop 64 x + pop 8 c) % 2) (pop 8 ((chk x ^^^ c) % 128))
    (match idxOf ((chk x ^^^ c) % 128) with | some i => some (x ^^^ 2 ^ i, 1) | none => none) w hx hP ho (pop_le 8 _) (placeSum_any x w hx hP) (parity_any x c w hx hc) (ones8_any _ w (by omega))
    (by rw [← nat_mask7]; exact u8_and_nat c 127 hc (by decide)) (by rw [u8_xor_nat _ _ (by omega) (by omega), eo])
    (fun k hk he => by rw [idxOf_at hk he]) (fun hno => by rw [idxOf_none hno])
  rw [ep] at hcore
  exact hcore
/-- The element type's row of the table. -/
theorem info5 : ((Al.progOf Tryd.prog).info? 5).map (fun i => (i.zero, i.size, i.bytes)) = some (some (.int .u8 0), 1, 1) := by kernel_rfl
theorem owns_made {w : World} {base n g : Nat} (h : w.ownsRow base 5 1 (.slice (some ⟨g, 0, none⟩) n n) n (madeCells #[Value.int .u8 0] n).toList) : Owns w base g n (List.replicate n 0) := by
  unfold Owns
  rw [List.length_replicate, List.map_replicate]
  have e : (madeCells #[Value.int .u8 0] n).toList = List.replicate n (bv 0) := toList_madeCells_one _ n
  rw [e] at h
  exact h
theorem below_made {w w1 : World} (h : w.grownBy w1 none) : Below w.heap.size w w1 := (Below.refl _ _).grown h (Nat.le_refl _) (fun k h => by cases h)
def chkP (bs : List Nat) (m k : Nat) : List Nat := (List.range m).map fun i => if i < k then chk (wordN bs i) else 0
theorem chkP_len (bs : List Nat) (m k : Nat) : (chkP bs m k).length = m := by simp [chkP]
theorem range_set (f g : Nat → Nat) (m k v : Nat) (hk : g k = v) (ho : ∀ i, i ≠ k → g i = f i) : ((List.range m).map f).set k v = (List.range m).map g := by
  apply List.ext_getElem
  · simp
  · intro i h1 h2
    rw [List.getElem_set]
    simp only [List.getElem_map, List.getElem_range]
    split
    · rename_i h; rw [← h, hk]
    · rename_i h; exact (ho i (fun e => h e.symm)).symm
theorem chkP_step (bs : List Nat) (m k : Nat) : (chkP bs m k).set k (chk (wordN bs k)) = chkP bs m (k + 1) :=
  range_set _ _ m k _ (if_pos (by omega)) (fun i h => by
    show (if i < k + 1 then chk (wordN bs i) else 0) = if i < k then chk (wordN bs i) else 0
    by_cases h2 : i < k
    · rw [if_pos h2, if_pos (by omega)]
    · rw [if_neg h2, if_neg (by omega)])
theorem chkP_zero (bs : List Nat) (m : Nat) : chkP bs m 0 = List.replicate m 0 := by
  apply List.ext_getElem
  · simp [chkP]
  · intro i h1 h2
    simp [chkP]
theorem chkP_all (bs : List Nat) (m : Nat) : chkP bs m m = chks bs m := by
  unfold chkP chks
  apply List.map_congr_left
  intro i hi
  rw [if_pos (by simpa using hi)]
theorem protect_bad (a : Option Addr) (n cap : Nat) (w : World) (hm : n ≤ 140737488355328) (hbad : n % 8 ≠ 0 ∨ 4096 < n) :
    Calls (Al.progOf Tryd.prog) 6 #[.slice a n cap] w fun e w' => e = .returned (.tuple #[.slice none 0 0, errV (if n % 8 ≠ 0 then 2 else 3)]) ∧ w' = w := by
  have hs := sizeFault_any a n cap w hm
  by_cases h1 : n % 8 ≠ 0
  · rw [if_pos h1] at hs ⊢
    go_enter Al.func6, Tryd.ntmps6
    go_wp2_with (go_at_call 16; refine hs.mono ?_; rintro e w' ⟨rfl, rfl⟩)
    go_ret2
    exact ⟨rfl, rfl⟩
  · have h2 : 4096 < n := by omega
    rw [if_neg h1] at hs ⊢
    rw [if_pos h2] at hs
    go_enter Al.func6, Tryd.ntmps6
    go_wp2_with (go_at_call 16; refine hs.mono ?_; rintro e w' ⟨rfl, rfl⟩)
    go_ret2
    exact ⟨rfl, rfl⟩
set_option maxHeartbeats 800000 in
theorem protect_any (a : Option Addr) (cap m : Nat) (bs : List Nat) (w : World) (hz : AllB bs) (hl : bs.length = 8 * m) (hm : m ≤ 512) (hP : Plc w)
    (hc : Lies w a bs) :
    Calls (Al.progOf Tryd.prog) 6 #[.slice a bs.length cap] w fun e w' => e = .returned (.tuple #[.slice (some ⟨w.heap.size, 0, none⟩) m m, .nilIface]) ∧
      Owns w' w.heap.size w.heap.size m (chks bs m) ∧ Below w.heap.size w w' := by
  have hs := sizeFault_any a bs.length cap w (by omega)
  rw [if_neg (by omega), if_neg (by omega)] at hs
  obtain ⟨i0, hi, hz0, hz1, hz2⟩ := info_parts info5
  have hlen : bs.length ≤ 4096 := by omega
  have HL : Hid (bs.length = 8 * m) := hl
  have HC : Hid (Lies w a bs) := hc
  clear hl hc
  go_enter Al.func6, Tryd.ntmps6
  go_wp2_with (first | (go_at_call 16; refine hs.mono ?_; rintro e w' ⟨rfl, rfl⟩) | (at_make; refine wpList_make_full _ rfl (.tmp 14) (.tmp 14) 22 rfl w'.heap.size 5 i0 (.int .u8 0) 1 Al.underlying22 hi hz0 hz1 .i64 .i64 _ _ m rfl rfl ?c1 ?c2 ?c3 ?c4 ?c5 ?_))
  case c1 => have := HL.out; omega
  case c2 => have := HL.out; omega
  case c3 => rw [hz2]; omega
  case c4 => unfold maxLen; omega
  case c5 => exact Nat.le_refl _
  · intro w1 hown hgrow
    have ho := owns_made hown
    have hb := below_made hgrow
    clear hown hgrow hs
    go_wp2
    go_loopw [18] (fun j wr => ∃ k : Nat, k ≤ m ∧ j = .int .i64 k ∧ Owns wr w'.heap.size w'.heap.size m (chkP bs m k) ∧ Below w'.heap.size w' wr) (fun j _ => m - (intOf j).toNat)
    case atStart => exact ⟨0, by omega, rfl, by rw [chkP_zero]; exact ho, hb⟩
    case round =>
      obtain ⟨k, hk, rfl, hor, hbr⟩ := hrel
      clear ho hb
      by_cases hlt : k < m
      · have hf := hor.free k
        have hck := hor.cell k (by rw [chkP_len]; exact hlt)
        generalize (chkP bs m k)[k]?.getD 0 = B at hck
        have hPr := hP.below hbr hP.pos
        obtain hbs | ⟨b, off, hbo, hc⟩ := HC.out.below hbr
        · have := HL.out
          rw [hbs] at this
          simp at this
          omega
        · have hwd := wordAt_any b off cap k bs wr (by omega) hz (by have := HL.out; omega) hc
          rw [← hbo] at hwd
          clear hbo
          have hch := checkOf_any (wordN bs k) wr (wordN_lt hz k) hPr
          have HR : Hid (Owns (wr.setCell ⟨w'.heap.size, k, none⟩ (.int .u8 (chk (wordN bs k) : Nat))) w'.heap.size w'.heap.size m (chkP bs m (k + 1))) := by
            have := hor.set k (chk (wordN bs k))
            rw [chkP_step] at this
            exact this
          generalize chk (wordN bs k) = C at hch HR
          generalize wordN bs k = X at hwd hch
          clear hc hor HC hP hPr
          go_wp2_with (first | (go_at_call 18; refine hwd.mono ?_; rintro e w2 ⟨rfl, rfl⟩) | (go_at_call 17; refine hch.mono ?_; rintro e w2 ⟨rfl, rfl⟩))
          go_roundw
          case rel => exact ⟨k + 1, by omega, by go_num, HR.out, hbr.setCell (Nat.le_refl _) _⟩
          case measure => simp [intOf]; omega
      · obtain rfl : k = m := by omega
        go_wp2
        go_ret2
        exact ⟨rfl, by rw [← chkP_all]; exact hor, hbr⟩
theorem mendS_left (k : Nat) (r : Option (Nat × Nat)) : mendS k none r = none := by cases r <;> rfl
theorem mendL_none (bs cs : List Nat) (k : Nat) (h : mendL bs cs k = none) : ∀ d, mendL bs cs (k + d) = none
  | 0 => h
  | d + 1 => by rw [← Nat.add_assoc, mendL, mendL_none bs cs k h d, mendS_left]
theorem mendD_le {x d y c : Nat} (h : mendD x d = some (y, c)) : c ≤ 1 := by
  unfold mendD at h
  split at h
  · split at h
    · simp at h; omega
    · simp at h
  · split at h
    · simp at h; omega
    · split at h
      · simp at h; omega
      · simp at h
theorem mendD_lt {x d y c : Nat} (hx : x < 18446744073709551616) (h : mendD x d = some (y, c)) : y < 18446744073709551616 := by
  unfold mendD at h
  split at h
  · split at h
    · simp at h; omega
    · simp at h
  · split at h
    · simp at h; omega
    · split at h
      · rename_i i hi
        simp at h
        rw [← h.1]
        exact Nat.xor_lt_two_pow (n := 64) hx (Nat.pow_lt_pow_of_lt (by decide) (idxOf_lt hi))
      · simp at h
def MendPost (m : Nat) (w w' : World) (e : Ending) : Option (List Nat × Nat) → Prop
  | some (o, n) => e = .returned (.tuple #[.slice (some ⟨w.heap.size, 0, none⟩) o.length o.length, .int .i64 (n : Int), .nilIface]) ∧ o.length = 8 * m ∧ Owns w' w.heap.size w.heap.size o.length o ∧ Below w.heap.size w w'
  | none => e = .returned (.tuple #[.slice none 0 0, .int .i64 0, errV 8]) ∧ Below w.heap.size w w'
set_option maxHeartbeats 400000 in
theorem mend_size (a a2 : Option Addr) (n cap n2 cap2 : Nat) (w : World) (hm : n ≤ 140737488355328) (hbad : n % 8 ≠ 0 ∨ 4096 < n) :
    Calls (Al.progOf Tryd.prog) 8 #[.slice a n cap, .slice a2 n2 cap2] w fun e w' => e = .returned (.tuple #[.slice none 0 0, .int .i64 0, errV (if n % 8 ≠ 0 then 2 else 3)]) ∧ w' = w := by
  have hs := sizeFault_any a n cap w hm
  by_cases h1 : n % 8 ≠ 0
  · rw [if_pos h1] at hs ⊢
    go_enter Al.func8, Tryd.ntmps8
    go_wp2_with (go_at_call 16; refine hs.mono ?_; rintro e w' ⟨rfl, rfl⟩)
    go_ret3
    exact ⟨rfl, rfl⟩
  · have h2 : 4096 < n := by omega
    rw [if_neg h1] at hs ⊢
    rw [if_pos h2] at hs
    go_enter Al.func8, Tryd.ntmps8
    go_wp2_with (go_at_call 16; refine hs.mono ?_; rintro e w' ⟨rfl, rfl⟩)
    go_ret3
    exact ⟨rfl, rfl⟩
set_option maxHeartbeats 400000 in
theorem mend_count (a a2 : Option Addr) (n cap n2 cap2 : Nat) (w : World) (h8 : n % 8 = 0) (h4 : n ≤ 4096) (hbad : n2 ≠ n / 8) :
    Calls (Al.progOf Tryd.prog) 8 #[.slice a n cap, .slice a2 n2 cap2] w fun e w' => e = .returned (.tuple #[.slice none 0 0, .int .i64 0, errV 2]) ∧ w' = w := by
  have hs := sizeFault_any a n cap w (by omega)
  rw [if_neg (by omega), if_neg (by omega)] at hs
  have ht : (((n2 : Nat) : Int) != ((n : Int) / 8)) = true := by simp; omega
  go_enter Al.func8, Tryd.ntmps8
  go_wp2_with (go_at_call 16; refine hs.mono ?_; rintro e w' ⟨rfl, rfl⟩)
  go_ret3
  exact ⟨rfl, rfl⟩
set_option maxHeartbeats 1600000 in
theorem mend_some (a : Option Addr) (b2 off2 cap cap2 m : Nat) (bs cs : List Nat) (w : World) (hz : AllB bs) (hzc : AllB cs) (hl : bs.length = 8 * m) (hlc : cs.length = m) (hm : m ≤ 512) (hP : Plc w)
    (hc : Lies w a bs) (hcc : Lies w (some ⟨b2, off2, none⟩) cs) :
    Calls (Al.progOf Tryd.prog) 8 #[.slice a bs.length cap, .slice (some ⟨b2, off2, none⟩) cs.length cap2] w fun e w' => MendPost m w w' e (mendL bs cs m) := by
  have hs := sizeFault_any a bs.length cap w (by omega)
  rw [if_neg (by omega), if_neg (by omega)] at hs
  have ht : (((cs.length : Nat) : Int) != ((bs.length : Int) / 8)) = false := by simp; omega
  obtain ⟨i0, hi, hz0, hz1, hz2⟩ := info_parts info5
  have hlen : bs.length ≤ 4096 := by omega
  have hlen2 : cs.length ≤ 512 := by omega
  have HL : Hid (bs.length = 8 * m ∧ cs.length = m) := ⟨hl, hlc⟩
  have HC : Hid (Lies w a bs ∧ Lies w (some ⟨b2, off2, none⟩) cs) := ⟨hc, hcc⟩
  clear hl hc hcc hlc
  go_enter Al.func8, Tryd.ntmps8
  go_wp2_with (first | (go_at_call 16; refine hs.mono ?_; rintro e w' ⟨rfl, rfl⟩) | (at_make; refine wpList_make_full _ rfl (.tmp 28) (.tmp 28) 22 rfl w'.heap.size 5 i0 (.int .u8 0) 1 Al.underlying22 hi hz0 hz1 .i64 .i64 _ _ bs.length rfl rfl ?c1 ?c2 ?c3 ?c4 ?c5 ?_))
  case c1 => rfl
  case c2 => rfl
  case c3 => rw [hz2]; omega
  case c4 => unfold maxLen; omega
  case c5 => exact Nat.le_refl _
  · intro w1 hown hgrow
    have ho := owns_made hown
    have hb := below_made hgrow
    clear hown hgrow hs
    go_wp2
    go_loopw [9, 32] (fun t j wr => ∃ k n : Nat, ∃ o : List Nat, k ≤ cs.length ∧ j = .int .i64 k ∧ t = .int .i64 n ∧ n ≤ k ∧ mendL bs cs k = some (o, n) ∧ o.length = bs.length ∧ Owns wr w'.heap.size w'.heap.size bs.length o ∧ Below w'.heap.size w' wr) (fun _ j _ => cs.length - (intOf j).toNat)
    case atStart => exact ⟨0, 0, _, by omega, rfl, rfl, by omega, rfl, by simp, ho, hb⟩
    case round =>
      obtain ⟨k, n, o, hk, rfl, rfl, hn, hmk, hol, hor, hbr⟩ := hrel
      clear ho hb
      by_cases hlt : k < cs.length
      · have hPr := hP.below hbr hP.pos
        have hL := HL.out
        obtain hno | ⟨b3, off3, hbo3, hcc⟩ := HC.out.2.below hbr
        · rw [hno] at hlt; exact absurd hlt (Nat.not_lt_zero _)
        cases hbo3
        obtain hbs | ⟨b, off, hbo, hc⟩ := HC.out.1.below hbr
        · rw [hbs] at hL
          simp at hL
          omega
        have hwd := wordAt_any b off cap k bs wr (by omega) hz (by omega) hc
        rw [← hbo] at hwd
        have hck := hcc k hlt
        have hmw := mendWord_any (wordN bs k) (cs[k]?.getD 0) wr (wordN_lt hz k) (hzc.at k) hPr
        have hX := wordN_lt hz k
        have HS : Hid (mendL bs cs (k + 1) = mendS k (some (o, n)) (mendD (wordN bs k) (chk (wordN bs k) ^^^ cs[k]?.getD 0))) := by
          show _ = _
          rw [mendL, hmk]
        clear hcc hc hbo hPr hmk hL
        rcases hr : mendD (wordN bs k) (chk (wordN bs k) ^^^ cs[k]?.getD 0) with _ | ⟨y, c1⟩
        · rw [hr] at hmw HS
          rw [mendS_none] at HS
          simp only [mendV, errV] at hmw
          clear hr
          generalize cs[k]?.getD 0 = C at hck hmw
          generalize wordN bs k = X at hwd hmw
          have HN : Hid (∀ d, mendL bs cs (k + 1 + d) = none) := mendL_none bs cs (k + 1) HS.out
          clear HS hor hol
          go_wp2_with (first | (go_at_call 18; refine hwd.mono ?_; rintro e w2 ⟨rfl, rfl⟩) | (go_at_call 19; refine hmw.mono ?_; rintro e w2 ⟨rfl, rfl⟩))
          go_ret3
          have e1 := HN.out (m - (k + 1))
          have e3 := HL.out
          have e4 : k + 1 + (m - (k + 1)) = m := by omega
          rw [e4] at e1
          rw [e1]
          exact ⟨rfl, hbr⟩
        · have hc1 := mendD_le hr
          have hy := mendD_lt hX hr
          rw [hr] at hmw HS
          rw [mendS_some] at HS
          simp only [mendV] at hmw
          clear hr
          have hpw := putWord_any w'.heap.size w'.heap.size bs.length k y o wr (by omega) (by have := HL.out; omega) hor
          rw [hol] at hpw
          generalize cs[k]?.getD 0 = C at hck hmw
          generalize wordN bs k = X at hwd hmw
          have HO : Hid (o.length = bs.length) := hol
          clear hor hol hX
          go_wp2_with (first | (go_at_call 18; refine hwd.mono ?_; rintro e w2 ⟨rfl, rfl⟩) | (go_at_call 19; refine hmw.mono ?_; rintro e w2 ⟨rfl, rfl⟩) | (go_at_call 20; refine hpw.mono ?_; rintro e w3 ⟨rfl, hor3, hb3⟩))
          go_roundw
          case rel => exact ⟨k + 1, n + c1, putK o k y 8, by omega, by go_num, by go_num, by omega, HS.out, by rw [putK_len]; exact HO.out, hor3, hbr.trans hb3⟩
          case measure => simp [intOf]; omega
      · obtain rfl : k = cs.length := by omega
        have HM : Hid (mendL bs cs cs.length = some (o, n)) := hmk
        have HO : Hid (o.length = bs.length) := hol
        clear hmk hol
        go_wp2
        go_ret3
        have e1 := HM.out
        have e2 := HO.out
        have e3 := HL.out
        rw [e3.2] at e1
        rw [e1]
        refine ⟨?_, by omega, by rw [e2]; exact hor, hbr⟩
        rw [e2]
        rfl
set_option maxHeartbeats 800000 in
theorem mend_nil (a a2 : Option Addr) (cap cap2 : Nat) (w : World) :
    Calls (Al.progOf Tryd.prog) 8 #[.slice a 0 cap, .slice a2 0 cap2] w fun e w' => MendPost 0 w w' e (some ([], 0)) := by
  have hs := sizeFault_any a 0 cap w (by omega)
  rw [if_neg (by omega), if_neg (by omega)] at hs
  obtain ⟨i0, hi, hz0, hz1, hz2⟩ := info_parts info5
  go_enter Al.func8, Tryd.ntmps8
  go_wp2_with (first | (go_at_call 16; refine hs.mono ?_; rintro e w' ⟨rfl, rfl⟩) | (at_make; refine wpList_make_full _ rfl (.tmp 28) (.tmp 28) 22 rfl w'.heap.size 5 i0 (.int .u8 0) 1 Al.underlying22 hi hz0 hz1 .i64 .i64 _ _ 0 rfl rfl ?c1 ?c2 ?c3 ?c4 ?c5 ?_))
  case c1 => rfl
  case c2 => rfl
  case c3 => rw [hz2]; omega
  case c4 => unfold maxLen; omega
  case c5 => exact Nat.le_refl _
  · intro w1 hown hgrow
    have ho := owns_made hown
    have hb := below_made hgrow
    clear hown hgrow hs
    go_wp2
    go_loop [9, 32] (fun t j => j = .int .i64 0 ∧ t = .int .i64 0) (fun _ _ => 0)
    case atStart => exact ⟨rfl, rfl⟩
    case round =>
      obtain ⟨rfl, rfl⟩ := hrel
      go_wp2
      go_ret3
      exact ⟨rfl, rfl, ho, hb⟩
/-- EVERY WAY OF MEND WHOSE SIZES ARE RIGHT. -/
theorem mend_any (a a2 : Option Addr) (cap cap2 m : Nat) (bs cs : List Nat) (w : World) (hz : AllB bs) (hzc : AllB cs) (hl : bs.length = 8 * m) (hlc : cs.length = m) (hm : m ≤ 512) (hP : Plc w)
    (hc : Lies w a bs) (hcc : Lies w a2 cs) :
    Calls (Al.progOf Tryd.prog) 8 #[.slice a bs.length cap, .slice a2 cs.length cap2] w fun e w' => MendPost m w w' e (mendL bs cs m) := by
  rcases hcc with rfl | ⟨b2, off2, rfl, hcc⟩
  · obtain rfl : 0 = m := by simpa using hlc
    obtain rfl : bs = [] := List.eq_nil_of_length_eq_zero (by omega)
    exact mend_nil a a2 cap cap2 w
  · exact mend_some a b2 off2 cap cap2 m bs cs w hz hzc hl hlc hm hP hc (Or.inr ⟨b2, off2, rfl, hcc⟩)
end Go.Proofs.YtobpjijdebnaoaaDoorQC
