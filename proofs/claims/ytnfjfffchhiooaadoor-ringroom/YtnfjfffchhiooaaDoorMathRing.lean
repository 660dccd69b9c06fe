/-
  Going round: plain mathematics.
-/
namespace Go.Proofs.YtnfjfffchhiooaaDoor

/-- The slot behind a slot. -/
def nx (n s : Nat) : Nat := (s + 1) % n
theorem nx_lt {n s : Nat} (h : 2 ≤ n) : nx n s < n := Nat.mod_lt _ (by omega)
theorem nx_mod {n q : Nat} : nx n (q % n) = (q + 1) % n := by unfold nx; rw [Nat.mod_add_mod]
theorem mod_inj_le {n p a b : Nat} (ha : a < n) (hb : b ≤ a) (h : (p + a) % n = (p + b) % n) : a = b := by
  have e := Nat.sub_mod_eq_zero_of_mod_eq h
  rw [show p + a - (p + b) = a - b by omega, Nat.mod_eq_of_lt (by omega)] at e
  omega
theorem mod_inj {n p a b : Nat} (ha : a < n) (hb : b < n) (h : (p + a) % n = (p + b) % n) : a = b := by
  rcases Nat.le_total b a with hl | hl
  · exact mod_inj_le ha hl h
  · exact (mod_inj_le hb hl h.symm).symm
theorem mod_self_add {n p : Nat} : (p + n) % n = p % n := Nat.add_mod_right p n
/-- FULL: the slot behind the tail is the head just if but one is empty. -/
theorem full_iff {n p k : Nat} (hn : 2 ≤ n) (hk : k < n) : (p + k + 1) % n = p % n ↔ k = n - 1 := by
  constructor
  · intro h
    by_cases h1 : k + 1 < n
    · have := mod_inj (p := p) (a := k + 1) (b := 0) h1 (by omega) (by simpa [Nat.add_assoc] using h)
      omega
    · omega
  · intro h
    rw [show p + k + 1 = p + n by omega, mod_self_add]
theorem empty_iff {n p k : Nat} (hk : k < n) : p % n = (p + k) % n ↔ k = 0 := by
  constructor
  · intro h
    exact (mod_inj (p := p) (a := 0) (b := k) (by omega) hk (by simpa using h)).symm
  · intro h; subst h; rfl
theorem count_eq {n p k : Nat} (hn : 2 ≤ n) (hk : k < n) : ((p + k) % n + n - p % n) % n = k := by
  have hX := Nat.mod_lt (p + k) (show 0 < n by omega)
  have hH := Nat.mod_lt p (show 0 < n by omega)
  refine mod_inj (p := p % n) (Nat.mod_lt _ (by omega)) hk ?_
  rw [Nat.add_mod_mod, show p % n + ((p + k) % n + n - p % n) = (p + k) % n + n by omega, mod_self_add, Nat.mod_mod, Nat.mod_add_mod]
/-- The phase of the q-th one. -/
def phs (n q : Nat) : Bool := decide (q / n % 2 = 0)
theorem phs_next {n q : Nat} (hn : 2 ≤ n) : phs n (q + 1) = if (q + 1) % n = 0 then !(phs n q) else phs n q := by
  unfold phs
  have e := Nat.div_add_mod q n
  have hm := Nat.mod_lt q (show 0 < n by omega)
  by_cases h : (q + 1) % n = 0
  · rw [if_pos h]
    have h2 : q % n = n - 1 := by
      by_cases h3 : q % n + 1 < n
      · exfalso
        rw [← Nat.mod_add_mod, Nat.mod_eq_of_lt h3] at h
        omega
      · omega
    have hd : (q + 1) / n = q / n + 1 := by
      have e2 : q + 1 = (q / n + 1) * n := by
        rw [Nat.add_mul, Nat.one_mul, Nat.mul_comm]; omega
      rw [e2, Nat.mul_div_cancel _ (by omega)]
    rw [hd]
    generalize q / n = d
    by_cases h5 : d % 2 = 0
    · have : ¬ (d + 1) % 2 = 0 := by omega
      simp [h5, this]
    · have : (d + 1) % 2 = 0 := by omega
      simp [h5, this]
  · rw [if_neg h]
    have h3 : q % n + 1 < n := by
      by_cases h3 : q % n + 1 < n
      · exact h3
      · exfalso
        apply h
        rw [← Nat.mod_add_mod, show q % n + 1 = n by omega, Nat.mod_self]
    have hd : (q + 1) / n = q / n := by
      rw [show q + 1 = (q % n + 1) + n * (q / n) by omega, Nat.add_mul_div_left _ _ (by omega), Nat.div_eq_of_lt h3, Nat.zero_add]
    rw [hd]
theorem phs_round {n q : Nat} (hn : 2 ≤ n) : phs n (q + n) = !(phs n q) := by
  unfold phs
  rw [Nat.add_div_right _ (by omega)]
  generalize q / n = d
  by_cases h5 : d % 2 = 0
  · have : ¬ (d + 1) % 2 = 0 := by omega
    simp [h5, this]
  · have : (d + 1) % 2 = 0 := by omega
    simp [h5, this]
/-- So many are taken now: where the seer stands at q, of the phases ph. -/
def Tk (n : Nat) (ph : Nat → Bool) (q k : Nat) : Prop := k ≤ n - 1 ∧ (∀ i, i < k → ph ((q + i) % n) = phs n (q + i)) ∧ (k = n - 1 ∨ ¬ ph ((q + k) % n) = phs n (q + k))
theorem Tk.same {n q k m : Nat} {ph : Nat → Bool} (h : Tk n ph q k) (h' : Tk n ph q m) : k = m := by
  obtain ⟨a1, a2, a3⟩ := h
  obtain ⟨b1, b2, b3⟩ := h'
  rcases Nat.lt_trichotomy k m with hl | hl | hl
  · rcases a3 with a3 | a3
    · omega
    · exact absurd (b2 k hl) a3
  · exact hl
  · rcases b3 with b3 | b3
    · omega
    · exact absurd (a2 m hl) b3
/-- The slots that are taken. -/
def tkL (n q k : Nat) : List Int := (List.range k).map fun i => (((q + i) % n : Nat) : Int)
theorem tkL_len {n q k : Nat} : (tkL n q k).length = k := by simp [tkL]
theorem tkL_succ {n q k : Nat} : tkL n q (k + 1) = tkL n q k ++ [(((q + k) % n : Nat) : Int)] := by
  unfold tkL; rw [List.range_succ, List.map_append]; rfl
theorem tkL_get {n q k i : Nat} (h : i < k) : (tkL n q k)[i]?.getD 0 = (((q + i) % n : Nat) : Int) := by
  unfold tkL
  rw [List.getElem?_map, List.getElem?_range h]
  rfl
end Go.Proofs.YtnfjfffchhiooaaDoor
