/-
  What is taken and given back wears evenly. Plain mathematics.
-/
import Derived.Test.YtebnjoammfidnadMathPool
namespace Go.Proofs.Ytebnjoammfidnad
set_option linter.unusedVariables false

def sumW (wn : Nat → Nat) : Nat → Nat
  | 0 => 0
  | k + 1 => sumW wn k + wn k
theorem sumW_congr {f g : Nat → Nat} : ∀ n, (∀ x, x < n → f x = g x) → sumW f n = sumW g n
  | 0, _ => rfl
  | n + 1, h => by unfold sumW; rw [sumW_congr n (fun x hx => h x (by omega)), h n (by omega)]
theorem sumW_upd (wn : Nat → Nat) (b v : Nat) : ∀ n, b < n → sumW (upd wn b v) n + wn b = sumW wn n + v
  | 0, h => by omega
  | n + 1, h => by
    unfold sumW
    by_cases e : b = n
    · subst e
      rw [upd_same, sumW_congr (f := upd wn b v) (g := wn) b (fun x hx => upd_ne _ _ _ _ (by omega))]
      omega
    · have := sumW_upd wn b v n (by omega)
      rw [upd_ne _ _ _ _ (fun e' => e e'.symm)]
      omega
/-- i were taken and given back. -/
structure Ev (n i : Nat) (s : St) : Prop where
  free : ∀ x, x < n → s.st x = 0
  sum : sumW s.wn n = i
  even : ∀ x y, x < n → y < n → s.wn x ≤ s.wn y + 1
  le : ∀ x, s.wn x ≤ i
theorem sumW_zero : ∀ n, sumW (fun _ => 0) n = 0
  | 0 => rfl
  | n + 1 => by unfold sumW; rw [sumW_zero n]
theorem ev_zero (n : Nat) : Ev n 0 fresh := ⟨fun _ _ => rfl, sumW_zero n, fun _ _ _ _ => Nat.le_succ _, fun _ => Nat.le_refl _⟩
theorem ev_step {n sp i : Nat} {s : St} (h : Ev n i s) (hn : 1 ≤ n) : ∃ b s1 s2, takeF n sp s = ((b, 0), s1) ∧ putF n sp s1 (b : Int) 0 = (0, s2) ∧ Ev n (i + 1) s2 ∧ b < n ∧ ∀ x, s1.wn x ≤ i := by
  have hc : cnt s.st 2 n = 0 := cnt_zero _ _ _ (fun x hx => by rw [h.free x hx]; decide)
  cases hb : bestK s n with
  | none => exact absurd (h.free 0 (by omega)) ((best_none s n).1 hb 0 (by omega))
  | some b =>
    obtain ⟨h1, h2, h3⟩ := best_some s n b hb
    have hc1 : cnt (upd s.st b 1) 2 n = 0 := cnt_zero _ _ _ (fun x hx => by
      by_cases e : x = b
      · rw [e, upd_same]; decide
      · rw [upd_ne _ _ _ _ e, h.free x hx]; decide)
    refine ⟨b, { s with st := upd s.st b 1 }, { st := upd (upd s.st b 1) b 0, wn := upd s.wn b (s.wn b + 1) }, ?_, ?_, ⟨fun x hx => ?_, ?_, fun x y hx hy => ?_, fun x => ?_⟩, h1, h.le⟩
    · unfold takeF; rw [hc, if_neg (by omega), hb]
    · unfold putF
      rw [if_neg (by dsimp only; rw [hc1]; omega), if_neg (by omega), Int.toNat_natCast, if_neg (by simp [upd_same])]
      rfl
    · by_cases e : x = b
      · subst e; exact upd_same _ _ _
      · dsimp only; rw [upd_ne _ _ _ _ e, upd_ne _ _ _ _ e]; exact h.free x hx
    · have := sumW_upd s.wn b (s.wn b + 1) n h1
      have := h.sum
      dsimp only; omega
    · have hm : ∀ z, z < n → s.wn b ≤ s.wn z := fun z hz => by have := h3 z hz (h.free z hz); unfold Lts at this; omega
      dsimp only
      by_cases e1 : x = b
      · subst e1
        by_cases e2 : y = x
        · subst e2; omega
        · rw [upd_same, upd_ne _ _ _ _ e2]; have := hm y hy; omega
      · by_cases e2 : y = b
        · subst e2; rw [upd_same, upd_ne _ _ _ _ e1]; have := h.even x y hx hy; omega
        · rw [upd_ne _ _ _ _ e1, upd_ne _ _ _ _ e2]; exact h.even x y hx hy
    · dsimp only
      by_cases e : x = b
      · rw [e, upd_same]; have := h.le b; omega
      · rw [upd_ne _ _ _ _ e]; have := h.le x; omega
def lowK (k : Nat) (wn : Nat → Nat) : Nat → Nat
  | 0 => k
  | j + 1 => if wn j < lowK k wn j then wn j else lowK k wn j
def highK (wn : Nat → Nat) : Nat → Nat
  | 0 => 0
  | j + 1 => if highK wn j < wn j then wn j else highK wn j
theorem lowK_is (k : Nat) (wn : Nat → Nat) : ∀ n, lowK k wn n = k ∨ ∃ x, x < n ∧ lowK k wn n = wn x
  | 0 => Or.inl rfl
  | n + 1 => by
    unfold lowK
    split
    · exact Or.inr ⟨n, by omega, rfl⟩
    · rcases lowK_is k wn n with h | ⟨x, h1, h2⟩
      · exact Or.inl h
      · exact Or.inr ⟨x, by omega, h2⟩
theorem highK_is (wn : Nat → Nat) : ∀ n, highK wn n = 0 ∨ ∃ x, x < n ∧ highK wn n = wn x
  | 0 => Or.inl rfl
  | n + 1 => by
    unfold highK
    split
    · exact Or.inr ⟨n, by omega, rfl⟩
    · rcases highK_is wn n with h | ⟨x, h1, h2⟩
      · exact Or.inl h
      · exact Or.inr ⟨x, by omega, h2⟩
theorem ev_done {n k : Nat} {s : St} (h : Ev n k s) : highK s.wn n ≤ lowK k s.wn n + 1 := by
  rcases highK_is s.wn n with e | ⟨x, hx, e⟩
  · omega
  · rcases lowK_is k s.wn n with f | ⟨y, hy, f⟩
    · have := h.le x; omega
    · have := h.even x y hx hy; omega
theorem low_le (k : Nat) (wn : Nat → Nat) : ∀ n, lowK k wn n ≤ k
  | 0 => Nat.le_refl _
  | n + 1 => by unfold lowK; have := low_le k wn n; split <;> omega
theorem high_le {k : Nat} {wn : Nat → Nat} (h : ∀ x, wn x ≤ k) : ∀ n, highK wn n ≤ k
  | 0 => Nat.zero_le _
  | n + 1 => by unfold highK; have := high_le h n; have := h n; split <;> omega
theorem sumW_le {k : Nat} {wn : Nat → Nat} (h : ∀ x, wn x ≤ k) : ∀ n, sumW wn n ≤ n * k
  | 0 => by simp [sumW]
  | n + 1 => by unfold sumW; have := sumW_le h n; have := h n; rw [Nat.add_mul]; omega
end Go.Proofs.Ytebnjoammfidnad
