/-
  The plain mathematics of a picker: whose turn it is, how long one waits, how turns are shared.
-/
import Derived.Test.YthkcgbbfnbnheaaDoorProg
namespace Go.Proofs.YthkcgbbfnbnheaaDoor
set_option linter.unusedVariables false

def gI (L : List Int) (i : Nat) : Int := L[i]?.getD 0
/-- Weights that a picker may have. -/
def GoodW (W : List Int) : Prop := 1 ≤ W.length ∧ W.length ≤ 8 ∧ ∀ i, i < W.length → 1 ≤ gI W i ∧ gI W i ≤ 16
/-- The next queue, round, in which something waits. -/
def IsOn (n : Nat) (L : List Int) (a q : Nat) : Prop := ∃ j, j < n ∧ q = (a + 1 + j) % n ∧ 0 < gI L q ∧ ∀ i, i < j → gI L ((a + 1 + i) % n) = 0
/-- Whose turn it is, and what credit is left. -/
def Turn (W L : List Int) (a c q c' : Nat) : Prop :=
  (¬ c = 0 ∧ ¬ gI L a = 0 ∧ q = a ∧ c' + 1 = c) ∨ ((c = 0 ∨ gI L a = 0) ∧ IsOn W.length L a q ∧ (c' : Int) + 1 = gI W q)
theorem IsOn.uniq {n : Nat} {L : List Int} {a q q' : Nat} (h : IsOn n L a q) (h' : IsOn n L a q') : q = q' := by
  obtain ⟨j, hj, rfl, hp, hz⟩ := h
  obtain ⟨j', hj', rfl, hp', hz'⟩ := h'
  rcases Nat.lt_trichotomy j j' with h | h | h
  · have := hz' j h; omega
  · rw [h]
  · have := hz j' h; omega
theorem Turn.uniq {W L : List Int} {a c q c' q2 c2 : Nat} (h : Turn W L a c q c') (h' : Turn W L a c q2 c2) : q = q2 ∧ c' = c2 := by
  rcases h with ⟨h1, h2, rfl, h4⟩ | ⟨h1, h2, h4⟩
  · rcases h' with ⟨k1, k2, rfl, k4⟩ | ⟨k1, k2, k4⟩
    · exact ⟨rfl, by omega⟩
    · exact (k1.elim (fun e => h1 e) (fun e => h2 e)).elim
  · rcases h' with ⟨k1, k2, rfl, k4⟩ | ⟨k1, k2, k4⟩
    · exact (h1.elim (fun e => k1 e) (fun e => k2 e)).elim
    · obtain rfl := h2.uniq k2
      exact ⟨rfl, by omega⟩
theorem IsOn.lt {n : Nat} {L : List Int} {a q : Nat} (h : IsOn n L a q) : q < n ∧ 0 < gI L q := by
  obtain ⟨j, hj, rfl, hp, hz⟩ := h
  exact ⟨Nat.mod_lt _ (by omega), hp⟩
/-- Nobody waits in any. -/
def NoneW (L : List Int) : Prop := ∀ i, i < L.length → gI L i = 0
/-- No number is below 0. -/
def NonN (L : List Int) : Prop := ∀ i, i < L.length → 0 ≤ gI L i
theorem Turn.lt {W L : List Int} {a c q c' : Nat} (h : Turn W L a c q c') (ha : a < W.length) (hL : L.length = W.length) (hn : NonN L) : q < W.length ∧ 0 < gI L q := by
  rcases h with ⟨h1, h2, rfl, h4⟩ | ⟨h1, h2, h4⟩
  · have := hn q (by omega); exact ⟨ha, by omega⟩
  · exact h2.lt
theorem round_all {n a k : Nat} (ha : a < n) (hk : k < n) : ∃ i, i < n ∧ (a + 1 + i) % n = k := by
  by_cases h : a + 1 ≤ k
  · exact ⟨k - (a + 1), by omega, by rw [show a + 1 + (k - (a + 1)) = k by omega]; exact Nat.mod_eq_of_lt hk⟩
  · refine ⟨k + n - (a + 1), by omega, ?_⟩
    rw [show a + 1 + (k + n - (a + 1)) = k + n by omega, Nat.add_mod_right]
    exact Nat.mod_eq_of_lt hk
theorem none_of_round {L : List Int} {n a : Nat} (hL : L.length = n) (ha : a < n) (h : ∀ i, i < n → gI L ((a + 1 + i) % n) = 0) : NoneW L := by
  intro k hk
  obtain ⟨i, hi, e⟩ := round_all ha (show k < n by omega)
  rw [← e]; exact h i hi
/-- Where somebody waits there is a next one. -/
theorem on_ex {L : List Int} {n a : Nat} (hL : L.length = n) (ha : a < n) (hn : NonN L) (hs : ¬ NoneW L) : ∃ q, IsOn n L a q := by
  have hlt : ∀ i, (a + 1 + i) % n < n := fun i => Nat.mod_lt _ (by omega)
  have key : ∀ m, m ≤ n → (∃ q, IsOn n L a q) ∨ ∀ i, i < m → gI L ((a + 1 + i) % n) = 0 := by
    intro m
    induction m with
    | zero => intro _; exact Or.inr (fun i hi => by omega)
    | succ m ih =>
      intro hm
      rcases ih (by omega) with h | h
      · exact Or.inl h
      · by_cases h0 : gI L ((a + 1 + m) % n) = 0
        · refine Or.inr (fun i hi => ?_)
          by_cases e : i = m
          · rw [e]; exact h0
          · exact h i (by omega)
        · have h1 : 0 ≤ gI L ((a + 1 + m) % n) := hn _ (by rw [hL]; exact hlt m)
          exact Or.inl ⟨_, m, by omega, rfl, by omega, h⟩
  rcases key n (Nat.le_refl _) with h | h
  · exact h
  · exact (hs (none_of_round hL ha h)).elim
/-- Sums of weights, from b on, round. -/
def sg (W : List Int) (b : Nat) : Nat → Int
  | 0 => 0
  | k + 1 => sg W b k + gI W ((b + k) % W.length)
theorem sg_front {W : List Int} {b k : Nat} : sg W b (k + 1) = gI W (b % W.length) + sg W (b + 1) k := by
  induction k with
  | zero => simp [sg]
  | succ k ih =>
    rw [sg, ih, sg, show b + (k + 1) = b + 1 + k by omega]
    omega
theorem sg_turn {W : List Int} {b : Nat} : sg W (b + 1) W.length = sg W b W.length := by
  have h1 : sg W b (W.length + 1) = gI W (b % W.length) + sg W (b + 1) W.length := sg_front
  rw [sg, Nat.add_mod_right] at h1
  omega
theorem sg_all {W : List Int} {b : Nat} : sg W b W.length = sg W 0 W.length := by
  induction b with
  | zero => rfl
  | succ b ih => rw [sg_turn, ih]
theorem GoodW.ge {W : List Int} (h : GoodW W) (i : Nat) : 1 ≤ gI W (i % W.length) ∧ gI W (i % W.length) ≤ 16 := h.2.2 _ (Nat.mod_lt _ h.1)
theorem sg_mono {W : List Int} (h : GoodW W) {b k m : Nat} (hkm : k ≤ m) : sg W b k ≤ sg W b m := by
  obtain ⟨d, rfl⟩ : ∃ d, m = k + d := ⟨m - k, by omega⟩
  clear hkm
  induction d with
  | zero => exact Int.le_refl _
  | succ d ih => have := h.ge (b + (k + d)); rw [← Nat.add_assoc, sg]; omega
theorem sg_le {W : List Int} (h : GoodW W) {b k : Nat} (hk : k ≤ W.length) : sg W b k ≤ sg W 0 W.length := by
  rw [← sg_all (b := b)]; exact sg_mono h hk
theorem sg_bound {W : List Int} (h : GoodW W) {b k : Nat} : (0 : Int) ≤ sg W b k ∧ sg W b k ≤ 16 * (k : Int) := by
  induction k with
  | zero => simp [sg]
  | succ k ih => have := h.ge (b + k); rw [sg]; omega
/-- HOW LONG q HAS WAITED, AND HOW LONG IT STILL HAS TO AT MOST. -/
def FI (W : List Int) (q a c since : Nat) : Prop := (a = q ∧ since = 0) ∨ ∃ k, k < W.length ∧ (a + 1 + k) % W.length = q ∧ (since : Int) + c + sg W (a + 1) k + gI W q ≤ sg W 0 W.length
theorem FI.start {W : List Int} (h : GoodW W) {q c : Nat} (hq : q < W.length) (hc : (c : Int) = gI W 0) : FI W q 0 c 0 := by
  by_cases e : q = 0
  · exact Or.inl ⟨e.symm, rfl⟩
  · right
    obtain ⟨p, rfl⟩ : ∃ p, q = p + 1 := ⟨q - 1, by omega⟩
    refine ⟨p, by omega, by rw [show 0 + 1 + p = p + 1 by omega]; exact Nat.mod_eq_of_lt hq, ?_⟩
    have h1 : sg W 0 (p + 1) = gI W (0 % W.length) + sg W (0 + 1) p := sg_front
    have h2 : sg W 0 (p + 1 + 1) = sg W 0 (p + 1) + gI W ((0 + (p + 1)) % W.length) := rfl
    have h3 : sg W 0 (p + 1 + 1) ≤ sg W 0 W.length := sg_mono h (by omega)
    rw [Nat.zero_add, Nat.mod_eq_of_lt hq] at h2
    rw [Nat.zero_mod] at h1
    omega
theorem FI.short {W : List Int} (h : GoodW W) {q a c since : Nat} (hq : q < W.length) (hf : FI W q a c since) : (since : Int) < sg W 0 W.length := by
  have h1 := h.2.2 q hq
  rcases hf with ⟨_, rfl⟩ | ⟨k, hk, _, h2⟩
  · have h2 : sg W 0 1 ≤ sg W 0 W.length := sg_mono h h.1
    have h3 := h.ge 0
    simp [sg] at h2
    rw [Nat.zero_mod] at h3
    omega
  · have := (sg_bound h (b := a + 1) (k := k)).1
    omega
theorem mod_succ {n a j i : Nat} : ((a + 1 + j) % n + 1 + i) % n = (a + 1 + (j + 1 + i)) % n := by
  rw [Nat.add_assoc ((a + 1 + j) % n), Nat.mod_add_mod]
  congr 1; omega
theorem sg_mod {W : List Int} {a j k : Nat} : sg W ((a + 1 + j) % W.length + 1) k = sg W (a + 1 + (j + 1)) k := by
  induction k with
  | zero => rfl
  | succ k ih =>
    rw [sg, sg, ih]
    have e := mod_succ (n := W.length) (a := a) (j := j) (i := k)
    rw [e, show a + 1 + (j + 1 + k) = a + 1 + (j + 1) + k by omega]
theorem sg_split {W : List Int} {b j k : Nat} : sg W b (j + k) = sg W b j + sg W (b + j) k := by
  induction k with
  | zero => simp [sg]
  | succ k ih => rw [← Nat.add_assoc, sg, sg, ih, show b + (j + k) = b + j + k by omega]; omega
/-- A TURN: it is q's, or q has waited one turn more, and still not too long. -/
theorem FI.step {W L : List Int} (h : GoodW W) {q a c since k c' : Nat} (hq : q < W.length) (ha : a < W.length) (hw : 0 < gI L q) (hf : FI W q a c since) (ht : Turn W L a c k c') : (k = q → FI W q k c' 0) ∧ (¬ k = q → FI W q k c' (since + 1)) := by
  refine ⟨fun e => Or.inl ⟨e, rfl⟩, fun hk => ?_⟩
  have hgo : ∀ j s, j < W.length → k = (a + 1 + j) % W.length → s < W.length → (a + 1 + s) % W.length = q → j < s → (c' : Int) + 1 = gI W k → (since : Int) + sg W (a + 1) s + gI W q ≤ sg W 0 W.length → FI W q k c' (since + 1) := by
    intro j s hj e hs es hjs ec hb
    right
    refine ⟨s - (j + 1), by omega, ?_, ?_⟩
    · rw [e, mod_succ, show j + 1 + (s - (j + 1)) = s by omega]; exact es
    · have e1 : sg W (k + 1) (s - (j + 1)) = sg W (a + 1 + (j + 1)) (s - (j + 1)) := by rw [e]; exact sg_mod
      have e2 : sg W (a + 1) ((j + 1) + (s - (j + 1))) = sg W (a + 1) (j + 1) + sg W (a + 1 + (j + 1)) (s - (j + 1)) := sg_split
      rw [show j + 1 + (s - (j + 1)) = s by omega] at e2
      have e3 : sg W (a + 1) (j + 1) = sg W (a + 1) j + gI W k := by rw [e]; rfl
      have e4 := (sg_bound h (b := a + 1) (k := j)).1
      rw [e1]
      have : ((since + 1 : Nat) : Int) = since + 1 := by omega
      omega
  have hon : ∀ s, s < W.length → (a + 1 + s) % W.length = q → ∀ j, k = (a + 1 + j) % W.length → (∀ i, i < j → gI L ((a + 1 + i) % W.length) = 0) → j < s := by
    intro s hs es j e hz
    rcases Nat.lt_trichotomy j s with h1 | h1 | h1
    · exact h1
    · rw [h1, es] at e; exact (hk e).elim
    · have := hz s h1; rw [es] at this; omega
  rcases hf with ⟨rfl, rfl⟩ | ⟨s, hs, es, hb⟩
  · rcases ht with ⟨h1, h2, rfl, h4⟩ | ⟨h1, ⟨j, hj, e, hp, hz⟩, h4⟩
    · exact (hk rfl).elim
    · have es : (a + 1 + (W.length - 1)) % W.length = a := by rw [show a + 1 + (W.length - 1) = a + W.length by omega, Nat.add_mod_right]; exact Nat.mod_eq_of_lt ha
      refine hgo j (W.length - 1) hj e (by omega) es (hon _ (by omega) es j e hz) h4 ?_
      have e1 : sg W (a + 1) (W.length - 1 + 1) = sg W (a + 1) (W.length - 1) + gI W ((a + 1 + (W.length - 1)) % W.length) := rfl
      rw [show W.length - 1 + 1 = W.length by omega, sg_all, es] at e1
      omega
  · rcases ht with ⟨h1, h2, rfl, h4⟩ | ⟨h1, ⟨j, hj, e, hp, hz⟩, h4⟩
    · exact Or.inr ⟨s, hs, es, by have : ((since + 1 : Nat) : Int) = since + 1 := by omega
                                  omega⟩
    · exact hgo j s hj e hs es (hon s hs es j e hz) h4 (by omega)
/-- HOW TURNS ARE SHARED: the k-th turn of queue i comes next. -/
def SI (W : List Int) (i k a c : Nat) : Prop := (a = i ∧ (c : Int) + k = gI W i) ∨ (k = 0 ∧ c = 0 ∧ (a + 1) % W.length = i % W.length)
theorem SI.step {W L : List Int} (h : GoodW W) (hL : ∀ i, i < W.length → 0 < gI L i) {i k a c q c' : Nat} (hi : i < W.length) (ha : a < W.length) (hk : (k : Int) < gI W i) (hs : SI W i k a c) (ht : Turn W L a c q c') : q = i ∧ SI W i (k + 1) q c' := by
  rcases hs with ⟨rfl, hc⟩ | ⟨rfl, rfl, he⟩
  · rcases ht with ⟨h1, h2, rfl, h4⟩ | ⟨h1, h2, h4⟩
    · exact ⟨rfl, Or.inl ⟨rfl, by omega⟩⟩
    · have := hL a ha
      rcases h1 with e | e <;> omega
  · rcases ht with ⟨h1, h2, rfl, h4⟩ | ⟨h1, ⟨j, hj, e, hp, hz⟩, h4⟩
    · omega
    · rw [Nat.mod_eq_of_lt hi] at he
      have hj0 : j = 0 := by
        by_cases h0 : j = 0
        · exact h0
        · have := hz 0 (by omega)
          rw [Nat.add_zero, he] at this
          have := hL i hi
          omega
      subst hj0
      rw [Nat.add_zero, he] at e
      subst e
      exact ⟨rfl, Or.inl ⟨rfl, by omega⟩⟩
theorem SI.next {W : List Int} {i k a c : Nat} (hi : i < W.length) (ha : a < W.length) (hk : gI W i = k) (h : SI W i k a c) (hg : 1 ≤ gI W i) : SI W (i + 1) 0 a c := by
  rcases h with ⟨rfl, hc⟩ | ⟨rfl, rfl, he⟩
  · exact Or.inr ⟨rfl, by omega, rfl⟩
  · omega
theorem SI.round {W : List Int} {a c : Nat} (hg : GoodW W) (ha : a < W.length) (h : SI W W.length 0 a c) : SI W 0 0 a c := by
  rcases h with ⟨rfl, hc⟩ | ⟨_, rfl, he⟩
  · omega
  · exact Or.inr ⟨rfl, rfl, by rw [he, Nat.mod_self, Nat.zero_mod]⟩
/-- Where something waits in q alone, all turns are q's. -/
theorem turn_alone {W L : List Int} {a c k c' q : Nat} (ha : a < W.length) (h0 : ∀ i, i < W.length → ¬ i = q → gI L i = 0) (ht : Turn W L a c k c') : k = q := by
  rcases ht with ⟨h1, h2, rfl, h4⟩ | ⟨h1, h2, h4⟩
  · exact Classical.byContradiction fun e => h2 (h0 k ha e)
  · have := h2.lt
    exact Classical.byContradiction fun e => by have := h0 k h2.lt.1 e; omega
/-- Credit is never more than a weight. -/
theorem Turn.credit {W L : List Int} {a c q c' : Nat} (hg : GoodW W) (hc : c ≤ 16) (ht : Turn W L a c q c') : c' ≤ 16 := by
  rcases ht with ⟨h1, h2, rfl, h4⟩ | ⟨h1, h2, h4⟩
  · omega
  · have := hg.2.2 q h2.lt.1; omega
end Go.Proofs.YthkcgbbfnbnheaaDoor
