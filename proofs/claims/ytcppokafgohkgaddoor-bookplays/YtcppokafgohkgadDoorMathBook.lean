/-
  The state of a book as plain data: two tables that lead back to one another, and what its calls do to them. Plain mathematics.
-/
namespace Go.Proofs.YtcppokafgohkgadDoor
set_option linter.unusedVariables false

def upd {α : Type} (f : Nat → α) (k : Nat) (v : α) : Nat → α := fun i => if i = k then v else f i
theorem upd_same {α : Type} (f : Nat → α) (k : Nat) (v : α) : upd f k v k = v := if_pos rfl
theorem upd_ne {α : Type} (f : Nat → α) (k i : Nat) (v : α) (h : i ≠ k) : upd f k v i = f i := if_neg h
/-- A book's state: the place of each lba, the lba of each place; -1: nothing. -/
structure Bk where
  pa : Nat → Int
  lb : Nat → Int
def fresh : Bk := ⟨fun _ => -1, fun _ => -1⟩
/-- BOTH LEAD BACK. -/
structure Inv (L P : Nat) (s : Bk) : Prop where
  a : ∀ l, l < L → s.pa l = -1 ∨ ∃ p : Nat, p < P ∧ s.pa l = (p : Int) ∧ s.lb p = (l : Int)
  o : ∀ p, p < P → s.lb p = -1 ∨ ∃ l : Nat, l < L ∧ s.lb p = (l : Int) ∧ s.pa l = (p : Int)
theorem fresh_inv (L P : Nat) : Inv L P fresh := ⟨fun _ _ => Or.inl rfl, fun _ _ => Or.inl rfl⟩
/-- An lba is taken away from where it lies. -/
def leaveF (s : Bk) (l : Nat) : Bk := ⟨upd s.pa l (-1), if s.pa l = -1 then s.lb else upd s.lb (s.pa l).toNat (-1)⟩
theorem leave_inv {L P : Nat} {s : Bk} (h : Inv L P s) {l : Nat} (hl : l < L) : Inv L P (leaveF s l) := by
  unfold leaveF
  rcases h.a l hl with e | ⟨p, hp, e1, e2⟩
  · rw [if_pos e]
    refine ⟨fun k hk => ?_, fun q hq => ?_⟩
    · by_cases hkl : k = l
      · subst hkl; left; exact upd_same _ _ _
      · rcases h.a k hk with e3 | ⟨p, h1, h2, h3⟩
        · left; show upd s.pa l (-1) k = -1; rw [upd_ne _ _ _ _ hkl]; exact e3
        · right; exact ⟨p, h1, by show upd s.pa l (-1) k = _; rw [upd_ne _ _ _ _ hkl]; exact h2, h3⟩
    · rcases h.o q hq with e3 | ⟨k, h1, h2, h3⟩
      · exact Or.inl e3
      · have hkl : k ≠ l := by rintro rfl; omega
        right; exact ⟨k, h1, h2, by show upd s.pa l (-1) k = _; rw [upd_ne _ _ _ _ hkl]; exact h3⟩
  · rw [if_neg (by omega), e1, Int.toNat_natCast]
    refine ⟨fun k hk => ?_, fun q hq => ?_⟩
    · by_cases hkl : k = l
      · subst hkl; left; exact upd_same _ _ _
      · rcases h.a k hk with e3 | ⟨p', h1, h2, h3⟩
        · left; show upd s.pa l (-1) k = -1; rw [upd_ne _ _ _ _ hkl]; exact e3
        · have hpp : p' ≠ p := by rintro rfl; omega
          right; exact ⟨p', h1, by show upd s.pa l (-1) k = _; rw [upd_ne _ _ _ _ hkl]; exact h2, by show upd s.lb p (-1) p' = _; rw [upd_ne _ _ _ _ hpp]; exact h3⟩
    · by_cases hqp : q = p
      · subst hqp; left; exact upd_same _ _ _
      · rcases h.o q hq with e3 | ⟨k, h1, h2, h3⟩
        · left; show upd s.lb p (-1) q = -1; rw [upd_ne _ _ _ _ hqp]; exact e3
        · have hkl : k ≠ l := by rintro rfl; omega
          right; exact ⟨k, h1, by show upd s.lb p (-1) q = _; rw [upd_ne _ _ _ _ hqp]; exact h2, by show upd s.pa l (-1) k = _; rw [upd_ne _ _ _ _ hkl]; exact h3⟩
theorem leave_pa (s : Bk) (l : Nat) : (leaveF s l).pa l = -1 := upd_same _ _ _
/-- What is free, and an lba that lies nowhere, are brought together. -/
theorem put_inv {L P : Nat} {s : Bk} (h : Inv L P s) {l p : Nat} (hl : l < L) (hp : p < P) (h1 : s.pa l = -1) (h2 : s.lb p = -1) : Inv L P ⟨upd s.pa l (p : Int), upd s.lb p (l : Int)⟩ := by
  refine ⟨fun k hk => ?_, fun q hq => ?_⟩
  · by_cases hkl : k = l
    · subst hkl; right; exact ⟨p, hp, upd_same _ _ _, upd_same _ _ _⟩
    · rcases h.a k hk with e3 | ⟨p', g1, g2, g3⟩
      · left; show upd s.pa l (p : Int) k = -1; rw [upd_ne _ _ _ _ hkl]; exact e3
      · have hpp : p' ≠ p := by rintro rfl; omega
        right; exact ⟨p', g1, by show upd s.pa l (p : Int) k = _; rw [upd_ne _ _ _ _ hkl]; exact g2, by show upd s.lb p (l : Int) p' = _; rw [upd_ne _ _ _ _ hpp]; exact g3⟩
  · by_cases hqp : q = p
    · subst hqp; right; exact ⟨l, hl, upd_same _ _ _, upd_same _ _ _⟩
    · rcases h.o q hq with e3 | ⟨k, g1, g2, g3⟩
      · left; show upd s.lb p (l : Int) q = -1; rw [upd_ne _ _ _ _ hqp]; exact e3
      · have hkl : k ≠ l := by rintro rfl; omega
        right; exact ⟨k, g1, by show upd s.lb p (l : Int) q = _; rw [upd_ne _ _ _ _ hqp]; exact g2, by show upd s.pa l (p : Int) k = _; rw [upd_ne _ _ _ _ hkl]; exact g3⟩
/-- What lies where it is to lie, or nowhere: behind the leave the place is free. -/
theorem leave_lb {L P : Nat} {s : Bk} (h : Inv L P s) {l p : Nat} (hl : l < L) (hp : p < P) (hf : s.lb p = -1 ∨ s.lb p = (l : Int)) : (leaveF s l).lb p = -1 := by
  unfold leaveF
  rcases hf with e | e
  · show (if s.pa l = -1 then s.lb else upd s.lb (s.pa l).toNat (-1)) p = -1
    split
    · exact e
    · unfold upd; split
      · rfl
      · exact e
  · rcases h.o p hp with e2 | ⟨k, h1, h2, h3⟩
    · omega
    · obtain rfl : k = l := by omega
      show (if s.pa k = -1 then s.lb else upd s.lb (s.pa k).toNat (-1)) p = -1
      rw [if_neg (by omega), h3, Int.toNat_natCast, upd_same]
/-- Is a number one of the first n? -/
def inB (n : Nat) (x : Int) : Bool := decide (0 ≤ x ∧ x < (n : Int))
def putF (s : Bk) (l p : Nat) : Bk := ⟨upd (leaveF s l).pa l (p : Int), upd (leaveF s l).lb p (l : Int)⟩
/-- WHAT Set TELLS, AND MAKES OF THE STATE. -/
def setF (L P : Nat) (s : Bk) (x y : Int) : Nat × Bk :=
  if inB L x = false ∨ inB P y = false then (1, s) else if s.lb y.toNat ≠ -1 ∧ s.lb y.toNat ≠ x then (10, s) else (0, putF s x.toNat y.toNat)
/-- .. Drop. -/
def dropF (L : Nat) (s : Bk) (x : Int) : Nat × Bk := if inB L x = false then (1, s) else (0, leaveF s x.toNat)
theorem inB_nat {n : Nat} {x : Int} (h : inB n x = true) : ∃ k : Nat, x = (k : Int) ∧ k < n := by
  have h := of_decide_eq_true h
  exact ⟨x.toNat, by omega, by omega⟩
theorem inB_lt {n k : Nat} (h : k < n) : inB n (k : Int) = true := decide_eq_true ⟨by omega, by omega⟩
theorem inB_no {n : Nat} {x : Int} (h : inB n x = false) : x < 0 ∨ (n : Int) ≤ x := by
  have h := of_decide_eq_false h
  omega
/-- The ways of Set. -/
theorem setF_cases (L P : Nat) (s : Bk) (x y : Int) :
    ((inB L x = false ∨ inB P y = false) ∧ setF L P s x y = (1, s)) ∨
    ∃ l p : Nat, x = (l : Int) ∧ y = (p : Int) ∧ l < L ∧ p < P ∧ ((s.lb p ≠ -1 ∧ s.lb p ≠ (l : Int) ∧ setF L P s x y = (10, s)) ∨ ((s.lb p = -1 ∨ s.lb p = (l : Int)) ∧ setF L P s x y = (0, putF s l p))) := by
  unfold setF
  by_cases h1 : inB L x = false ∨ inB P y = false
  · exact Or.inl ⟨h1, if_pos h1⟩
  · right
    rw [if_neg h1]
    obtain ⟨l, rfl, hl⟩ := inB_nat (n := L) (x := x) (by cases h : inB L x with | true => rfl | false => exact absurd (Or.inl h) h1)
    obtain ⟨p, rfl, hp⟩ := inB_nat (n := P) (x := y) (by cases h : inB P y with | true => rfl | false => exact absurd (Or.inr h) h1)
    rw [Int.toNat_natCast, Int.toNat_natCast]
    refine ⟨l, p, rfl, rfl, hl, hp, ?_⟩
    by_cases h2 : s.lb p ≠ -1 ∧ s.lb p ≠ (l : Int)
    · exact Or.inl ⟨h2.1, h2.2, if_pos h2⟩
    · exact Or.inr ⟨by omega, if_neg h2⟩
theorem putF_inv {L P : Nat} {s : Bk} (h : Inv L P s) {l p : Nat} (hl : l < L) (hp : p < P) (hf : s.lb p = -1 ∨ s.lb p = (l : Int)) : Inv L P (putF s l p) :=
  put_inv (leave_inv h hl) hl hp (leave_pa s l) (leave_lb h hl hp hf)
theorem setF_inv {L P : Nat} {s : Bk} (h : Inv L P s) (x y : Int) : Inv L P (setF L P s x y).2 := by
  rcases setF_cases L P s x y with ⟨_, e⟩ | ⟨l, p, _, _, hl, hp, ⟨_, _, e⟩ | ⟨hf, e⟩⟩ <;> rw [e]
  · exact h
  · exact h
  · exact putF_inv h hl hp hf
theorem dropF_inv {L P : Nat} {s : Bk} (h : Inv L P s) (x : Int) : Inv L P (dropF L s x).2 := by
  unfold dropF
  by_cases e : inB L x = false
  · rw [if_pos e]; exact h
  · rw [if_neg e]
    obtain ⟨l, rfl, hl⟩ := inB_nat (n := L) (x := x) (by simpa using e)
    exact leave_inv h hl
theorem putF_pa (s : Bk) (l p : Nat) : (putF s l p).pa = upd s.pa l (p : Int) := by
  funext i
  show upd (upd s.pa l (-1)) l (p : Int) i = upd s.pa l (p : Int) i
  unfold upd
  split <;> rfl
/-- Where somebody was, and is no longer, is nothing. -/
theorem putF_left {L P : Nat} {s : Bk} (h : Inv L P s) {l p q : Nat} (hl : l < L) (hq : s.pa l = (q : Int)) (hn : q ≠ p) : (putF s l p).lb q = -1 := by
  show upd (leaveF s l).lb p (l : Int) q = -1
  rw [upd_ne _ _ _ _ hn]
  show (if s.pa l = -1 then s.lb else upd s.lb (s.pa l).toNat (-1)) q = -1
  rw [if_neg (by omega), hq, Int.toNat_natCast, upd_same]
/-- How many of the first k are something. -/
def cntN (f : Nat → Int) : Nat → Nat
  | 0 => 0
  | k + 1 => cntN f k + if f k = -1 then 0 else 1
theorem cntN_le (f : Nat → Int) : ∀ k, cntN f k ≤ k
  | 0 => Nat.le_refl _
  | k + 1 => by have := cntN_le f k; unfold cntN; split <;> omega
/-- How many of the first k are from f on, and below t. -/
def cntR (g : Nat → Int) (f t : Int) : Nat → Nat
  | 0 => 0
  | k + 1 => cntR g f t k + if f ≤ g k ∧ g k < t then 1 else 0
theorem cntR_le (g : Nat → Int) (f t : Int) : ∀ k, cntR g f t k ≤ k
  | 0 => Nat.le_refl _
  | k + 1 => by have := cntR_le g f t k; unfold cntR; split <;> omega
/-- How many are just p. -/
def cntE (g : Nat → Int) (p : Int) : Nat → Nat
  | 0 => 0
  | k + 1 => cntE g p k + if g k = p then 1 else 0
theorem cntE_none (g : Nat → Int) (p : Int) : ∀ k, (∀ i, i < k → g i ≠ p) → cntE g p k = 0
  | 0, _ => rfl
  | k + 1, h => by unfold cntE; rw [cntE_none g p k (fun i hi => h i (by omega)), if_neg (h k (by omega))]
theorem cntE_one (g : Nat → Int) (p : Int) (l : Nat) (hg : g l = p) : ∀ k, l < k → (∀ i, i < k → g i = p → i = l) → cntE g p k = 1
  | 0, h, _ => by omega
  | k + 1, hl, h => by
    unfold cntE
    by_cases e : k = l
    · subst e
      rw [if_pos hg, cntE_none g p k (fun i hi e => by have := h i (by omega) e; omega)]
    · rw [if_neg (fun e2 => e (h k (by omega) e2)), cntE_one g p l hg k (by omega) (fun i hi => h i (by omega))]
theorem cntR_step (g : Nat → Int) (f t : Int) (hft : f ≤ t) : ∀ k, cntR g f (t + 1) k = cntR g f t k + cntE g t k
  | 0 => rfl
  | k + 1 => by
    have ih := cntR_step g f t hft k
    unfold cntR cntE
    rw [ih]
    by_cases e : g k = t
    · rw [if_pos e, if_pos (by omega), if_neg (by omega)]; omega
    · rw [if_neg e]
      by_cases e2 : f ≤ g k ∧ g k < t
      · rw [if_pos e2, if_pos (by omega)]; omega
      · rw [if_neg e2, if_neg (by omega)]; omega
theorem cntR_nil (g : Nat → Int) (f : Int) : ∀ k, cntR g f f k = 0
  | 0 => rfl
  | k + 1 => by unfold cntR; rw [cntR_nil g f k, if_neg (by omega)]
theorem cntE_inv {L P : Nat} {s : Bk} (h : Inv L P s) {p : Nat} (hp : p < P) : cntE s.pa (p : Int) L = if s.lb p = -1 then 0 else 1 := by
  rcases h.o p hp with e | ⟨l, h1, h2, h3⟩
  · rw [if_pos e]
    refine cntE_none _ _ _ fun i hi e2 => ?_
    rcases h.a i hi with e3 | ⟨q, g1, g2, g3⟩
    · omega
    · obtain rfl : q = p := by omega
      omega
  · rw [if_neg (by omega)]
    refine cntE_one _ _ l h3 _ h1 fun i hi e2 => ?_
    rcases h.a i hi with e3 | ⟨q, g1, g2, g3⟩
    · omega
    · obtain rfl : q = p := by omega
      omega
/-- LIVE IS THE SAME, whichever table is asked. -/
theorem live_same {L P : Nat} {s : Bk} (h : Inv L P s) (f : Nat) : ∀ k, f + k ≤ P → cntR s.pa (f : Int) ((f : Int) + (k : Int)) L = cntN (fun i => s.lb (f + i)) k
  | 0, _ => by rw [show ((0 : Nat) : Int) = 0 from rfl, Int.add_zero, cntR_nil]; rfl
  | k + 1, hk => by
    rw [show ((f : Int) + ((k + 1 : Nat) : Int)) = ((f : Int) + (k : Int)) + 1 by omega, cntR_step _ _ _ (by omega), live_same h f k (by omega), show ((f : Int) + (k : Int)) = ((f + k : Nat) : Int) by omega, cntE_inv h (by omega)]
    rfl
theorem cntR_all {L P : Nat} {s : Bk} (h : Inv L P s) : ∀ k, k ≤ L → cntR s.pa 0 (P : Int) k = cntN s.pa k
  | 0, _ => rfl
  | k + 1, hk => by
    unfold cntR cntN
    rw [cntR_all h k (by omega)]
    rcases h.a k (by omega) with e | ⟨p, h1, h2, h3⟩
    · rw [if_neg (by omega), if_pos e]
    · rw [if_pos (by omega), if_neg (by omega)]
/-- ALL THAT LIES SOMEWHERE IS COUNTED. -/
theorem all_same {L P : Nat} {s : Bk} (h : Inv L P s) : cntN s.pa L = cntN s.lb P := by
  rw [← cntR_all h L (Nat.le_refl _)]
  have := live_same h 0 P (by omega)
  rw [show (((0 : Nat) : Int) + (P : Int)) = (P : Int) by omega] at this
  rw [show ((0 : Nat) : Int) = (0 : Int) from rfl] at this
  rw [this]
  simp only [Nat.zero_add]
end Go.Proofs.YtcppokafgohkgadDoor
