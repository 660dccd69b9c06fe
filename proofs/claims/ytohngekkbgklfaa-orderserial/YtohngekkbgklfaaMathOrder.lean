/-
  Orders of calls: plain mathematics. A search that goes on by one test and a search that goes on by another give the same, where the first test asks more and all that is whole by the second is whole by the first.
-/
namespace Go.Proofs.Ytohngekkbgklfaa

def gI (L : List Int) (i : Nat) : Int := L[i]?.getD 0
/-- A call as plain data. -/
structure Cl where
  f : Int
  t : Int
  w : Bool
  b : Int
  v : Int
def gC (l : List Cl) (i : Nat) : Cl := l[i]?.getD ⟨0, 0, false, 0, 0⟩
def gN (l : List Nat) (i : Nat) : Nat := l[i]?.getD 0
/-- What is wrong with a call. -/
def badC (c : Cl) : Nat := if c.f < 0 ∨ c.t < 0 ∨ c.b < 0 ∨ c.v < 0 then 1 else if c.t ≤ c.f then 5 else 0
def badL : List Cl → Nat
  | [] => 0
  | c :: r => if badC c = 0 then badL r else badC c
def faultF (l : List Cl) : Nat := if 10 < l.length then 3 else badL l
theorem gC_cons (c : Cl) (r : List Cl) (i : Nat) : gC (c :: r) (i + 1) = gC r i := rfl
theorem badL_at : ∀ (l : List Cl) (k : Nat), k < l.length → (∀ i, i < k → badC (gC l i) = 0) → ¬ badC (gC l k) = 0 → badL l = badC (gC l k)
  | [], k, h, _, _ => by simp at h
  | c :: r, 0, _, _, h => by
    have e : gC (c :: r) 0 = c := rfl
    rw [e] at h ⊢
    simp [badL, h]
  | c :: r, k + 1, hk, h, h2 => by
    have e : badC c = 0 := h 0 (by omega)
    rw [gC_cons] at h2 ⊢
    simp only [badL, e, if_true]
    exact badL_at r k (by simpa using hk) (fun i hi => h (i + 1) (by omega)) h2
theorem badL_all : ∀ (l : List Cl), (∀ i, i < l.length → badC (gC l i) = 0) → badL l = 0
  | [], _ => rfl
  | c :: r, h => by
    have e : badC c = 0 := h 0 (by simp)
    simp only [badL, e, if_true]
    exact badL_all r (fun i hi => h (i + 1) (by simpa using hi))
theorem badL_zero : ∀ (l : List Cl), badL l = 0 → ∀ i, i < l.length → badC (gC l i) = 0
  | [], _, i, hi => by simp at hi
  | c :: r, h, i, hi => by
    have e : badC c = 0 := by
      by_cases e : badC c = 0
      · exact e
      · simp [badL, e] at h
    cases i with
    | zero => exact e
    | succ i => exact badL_zero r (by simpa [badL, e] using h) i (by simpa using hi)
theorem badC_le (c : Cl) : badC c = 0 ∨ badC c = 1 ∨ badC c = 5 := by
  unfold badC
  split
  · simp
  · split <;> simp
theorem faultF_at {l : List Cl} {k : Nat} (h10 : l.length ≤ 10) (hk : k < l.length) (h : ∀ i, i < k → badC (gC l i) = 0) (hb : ¬ badC (gC l k) = 0) : faultF l = badC (gC l k) := by
  unfold faultF
  rw [if_neg (by omega)]
  exact badL_at l k hk h hb
theorem faultF_all {l : List Cl} (h10 : l.length ≤ 10) (h : ∀ i, i < l.length → badC (gC l i) = 0) : faultF l = 0 := by
  unfold faultF
  rw [if_neg (by omega)]
  exact badL_all l h
theorem faultF_zero {l : List Cl} (h : faultF l = 0) : l.length ≤ 10 ∧ ∀ i, i < l.length → badC (gC l i) = 0 := by
  unfold faultF at h
  by_cases hl : 10 < l.length
  · rw [if_pos hl] at h; cases h
  · rw [if_neg hl] at h
    exact ⟨by omega, badL_zero l h⟩
theorem badC_zero {c : Cl} (h : badC c = 0) : 0 ≤ c.f ∧ 0 ≤ c.t ∧ 0 ≤ c.b ∧ 0 ≤ c.v ∧ c.f < c.t := by
  unfold badC at h
  by_cases h1 : c.f < 0 ∨ c.t < 0 ∨ c.b < 0 ∨ c.v < 0
  · rw [if_pos h1] at h; cases h
  · rw [if_neg h1] at h
    by_cases h2 : c.t ≤ c.f
    · rw [if_pos h2] at h; cases h
    · omega
theorem badC_ok {c : Cl} (h : 0 ≤ c.f) (h2 : 0 ≤ c.b) (h3 : 0 ≤ c.v) (h4 : c.f < c.t) : badC c = 0 := by
  unfold badC
  rw [if_neg (by omega), if_neg (by omega)]

/-! ### A search for lists of numbers -/
def dfs (n : Nat) (S : List Nat → Nat → Bool) : Nat → List Nat → Option (List Nat)
  | 0, o => some o
  | k + 1, o => (List.range n).findSome? fun i => if S o i = true then dfs n S k (o ++ [i]) else none
/-- Each number came in rightly. -/
def Rea (n : Nat) (S : List Nat → Nat → Bool) (o : List Nat) : Prop := ∀ p i r, o = p ++ i :: r → i < n ∧ S p i = true
theorem Rea.nil (n : Nat) (S : List Nat → Nat → Bool) : Rea n S [] := fun p i r h => by
  have := congrArg List.length h
  simp at this
theorem Rea.snoc {n : Nat} {S : List Nat → Nat → Bool} {o : List Nat} {i : Nat} (h : Rea n S o) (hi : i < n) (hs : S o i = true) : Rea n S (o ++ [i]) := by
  intro p j r e
  rcases List.eq_nil_or_concat r with rfl | ⟨r', x, rfl⟩
  · obtain ⟨rfl, e2⟩ := List.append_inj' e rfl
    cases e2
    exact ⟨hi, hs⟩
  · rw [List.concat_eq_append, ← List.cons_append, ← List.append_assoc] at e
    obtain ⟨e1, _⟩ := List.append_inj' e rfl
    exact h p j r' e1
theorem Rea.left {n : Nat} {S : List Nat → Nat → Bool} {o q : List Nat} (h : Rea n S (o ++ q)) : Rea n S o := fun p i r e => h p i (r ++ q) (by rw [e]; simp)
theorem findSome_at {g : Nat → Option (List Nat)} {r : List Nat} : ∀ (n i : Nat), i < n → (∀ j, j < i → g j = none) → g i = some r → (List.range n).findSome? g = some r := by
  intro n i hi hj hg
  obtain ⟨m, rfl⟩ : ∃ m, n = i + (m + 1) := ⟨n - i - 1, by omega⟩
  rw [List.range_add, List.findSome?_append]
  have e : (List.range i).findSome? g = none := List.findSome?_eq_none_iff.2 (fun x hx => hj x (by simpa using hx))
  rw [e, List.range_succ_eq_map]
  simp [hg]
theorem findSome_no {g : Nat → Option (List Nat)} {n : Nat} (h : ∀ j, j < n → g j = none) : (List.range n).findSome? g = none :=
  List.findSome?_eq_none_iff.2 (fun x hx => h x (by simpa using hx))
theorem findSome_some {g : Nat → Option (List Nat)} {n : Nat} {r : List Nat} (h : (List.range n).findSome? g = some r) : ∃ i, i < n ∧ g i = some r := by
  obtain ⟨i, hi, e⟩ := List.exists_of_findSome?_eq_some h
  exact ⟨i, by simpa using hi, e⟩
theorem findSome_none {g : Nat → Option (List Nat)} {n : Nat} (h : (List.range n).findSome? g = none) : ∀ j, j < n → g j = none :=
  fun j hj => List.findSome?_eq_none_iff.1 h j (by simpa using hj)
theorem dfs_sound {n : Nat} {S : List Nat → Nat → Bool} : ∀ (k : Nat) (o f : List Nat), dfs n S k o = some f → Rea n S o → Rea n S f ∧ f.length = o.length + k ∧ ∃ r, f = o ++ r
  | 0, o, f, h, hr => by
    simp only [dfs, Option.some.injEq] at h
    subst h
    exact ⟨hr, rfl, [], by simp⟩
  | k + 1, o, f, h, hr => by
    obtain ⟨i, hi, e⟩ := findSome_some h
    by_cases hs : S o i = true
    · rw [if_pos hs] at e
      obtain ⟨h1, h2, r, h3⟩ := dfs_sound k _ f e (hr.snoc hi hs)
      exact ⟨h1, by rw [h2]; simp; omega, i :: r, by rw [h3]; simp⟩
    · rw [if_neg hs] at e
      cases e
theorem dfs_none {n : Nat} {S : List Nat → Nat → Bool} : ∀ (k : Nat) (o : List Nat), dfs n S k o = none → ∀ f r, Rea n S f → f = o ++ r → f.length = o.length + k → False
  | 0, o, h, _, _, _, _, _ => by simp [dfs] at h
  | k + 1, o, h, f, r, hr, hf, hl => by
    cases r with
    | nil => rw [hf] at hl; simp at hl
    | cons i r =>
      obtain ⟨hi, hs⟩ := hr o i r hf
      have e := findSome_none h i hi
      rw [if_pos hs] at e
      exact dfs_none k _ e f r hr (by rw [hf]; simp) (by rw [hl]; simp; omega)
theorem Rea.to {n : Nat} {P R : List Nat → Nat → Bool} (H : ∀ o i, Rea n P o → i < n → P o i = true → R o i = true) {o : List Nat} (h : Rea n P o) : Rea n R o := fun p i r e => by
  obtain ⟨h1, h2⟩ := h p i r e
  exact ⟨h1, H p i (Rea.left (q := i :: r) (by rw [← e]; exact h)) h1 h2⟩
theorem dfs_eq {n : Nat} {P R : List Nat → Nat → Bool} (H : ∀ o i, Rea n P o → i < n → P o i = true → R o i = true) (G : ∀ f, Rea n R f → f.length = n → Rea n P f) :
    ∀ (k : Nat) (o : List Nat), Rea n P o → o.length + k = n → dfs n P k o = dfs n R k o
  | 0, _, _, _ => rfl
  | k + 1, o, ho, hl => by
    simp only [dfs]
    have hc : ∀ i, i < n → (if P o i = true then dfs n P k (o ++ [i]) else none) = (if R o i = true then dfs n R k (o ++ [i]) else none) := by
      intro i hi
      by_cases hp : P o i = true
      · rw [if_pos hp, if_pos (H o i ho hi hp)]
        exact dfs_eq H G k _ (ho.snoc hi hp) (by simp; omega)
      · rw [if_neg hp]
        by_cases hq : R o i = true
        · rw [if_pos hq]
          cases e : dfs n R k (o ++ [i]) with
          | none => rfl
          | some f =>
            obtain ⟨h1, h2, r, h3⟩ := dfs_sound k _ f e ((ho.to H).snoc hi hq)
            have hf := G f h1 (by rw [h2]; simp; omega)
            exact absurd (hf o i r (by rw [h3]; simp)).2 hp
        · rw [if_neg hq]
    have hm : ∀ (q : List Nat), (∀ i ∈ q, i < n) → q.findSome? (fun i => if P o i = true then dfs n P k (o ++ [i]) else none) = q.findSome? (fun i => if R o i = true then dfs n R k (o ++ [i]) else none) := by
      intro q
      induction q with
      | nil => intro _; rfl
      | cons x q ih =>
        intro hq
        simp only [List.findSome?_cons]
        rw [hc x (hq x (by simp)), ih (fun i hi => hq i (by simp [hi]))]
    exact hm _ (fun i hi => by simpa using hi)

/-! ### What blocks read as -/
/-- The value of the last write of a block. -/
def lstW (l : List Cl) (b : Int) (o : List Nat) : Int := o.foldl (fun v k => if (gC l k).w = true ∧ (gC l k).b = b then (gC l k).v else v) 0
theorem lstW_snoc (l : List Cl) (b : Int) (o : List Nat) (k : Nat) : lstW l b (o ++ [k]) = if (gC l k).w = true ∧ (gC l k).b = b then (gC l k).v else lstW l b o := by
  unfold lstW; rw [List.foldl_append]; rfl
/-- A call may stand next: the document's own words. -/
def stR (l : List Cl) (o : List Nat) (i : Nat) : Bool := o.all (fun k => !decide ((gC l i).t ≤ (gC l k).f)) && ((gC l i).w || decide (lstW l (gC l i).b o = (gC l i).v))
def stR2 (l : List Cl) (o : List Nat) (i : Nat) : Bool := !o.contains i && stR l o i
/-- All of a list stands rightly. -/
def Rt (l : List Cl) (o : List Nat) : Prop := ∀ i, i < o.length → stR l (o.take i) (gN o i) = true
theorem Rt.nil (l : List Cl) : Rt l [] := fun i hi => by simp at hi
theorem Rt.snoc {l : List Cl} {o : List Nat} {i : Nat} (h : Rt l o) (hs : stR l o i = true) : Rt l (o ++ [i]) := by
  intro j hj
  by_cases hj2 : j < o.length
  · rw [List.take_append_of_le_length (by omega)]
    have e : gN (o ++ [i]) j = gN o j := by unfold gN; rw [List.getElem?_append_left hj2]
    rw [e]
    exact h j hj2
  · obtain rfl : j = o.length := by simp at hj; omega
    have e : gN (o ++ [i]) o.length = i := by unfold gN; simp
    rw [e, List.take_append_of_le_length (Nat.le_refl _), List.take_length]
    exact hs
theorem Rt.of_rea {n : Nat} {l : List Cl} {o : List Nat} (h : Rea n (stR2 l) o) : Rt l o := by
  intro i hi
  have e : o = o.take i ++ gN o i :: o.drop (i + 1) := by
    have h1 : gN o i = o[i] := by unfold gN; rw [List.getElem?_eq_getElem hi]; rfl
    rw [h1, List.getElem_cons_drop hi, List.take_append_drop]
  have h2 := (h _ _ _ e).2
  unfold stR2 at h2
  exact (Bool.and_eq_true_iff.1 h2).2

/-! ### The program's states -/
structure St where
  s : Nat
  x : List Int
def fst (l : List Cl) (b : Int) : Nat := l.findIdx (fun c => decide (c.b = b))
/-- Which calls have ended by then, as bits. -/
def endK (l : List Cl) (x : Int) : Nat → Nat
  | 0 => 0
  | k + 1 => if (gC l k).t ≤ x then endK l x k ||| 2 ^ k else endK l x k
theorem endK_bit (l : List Cl) (x : Int) (m : Nat) : ∀ k, (endK l x k).testBit m = (decide (m < k) && decide ((gC l m).t ≤ x))
  | 0 => by simp [endK]
  | k + 1 => by
    have ih := endK_bit l x m k
    unfold endK
    by_cases h : (gC l k).t ≤ x
    · rw [if_pos h, Nat.testBit_or, ih, Nat.testBit_two_pow]
      by_cases hm : k = m
      · subst hm; simp [h]
      · by_cases hm2 : m < k
        · simp [hm, hm2, show m < k + 1 by omega]
        · simp [hm, hm2, show ¬ m < k + 1 by omega]
    · rw [if_neg h, ih]
      by_cases hm : m = k
      · subst hm; simp [h]
      · by_cases hm2 : m < k
        · simp [hm2, show m < k + 1 by omega]
        · simp [hm2, show ¬ m < k + 1 by omega]
theorem endK_lt (l : List Cl) (x : Int) : ∀ k, endK l x k < 2 ^ k
  | 0 => by simp [endK]
  | k + 1 => by
    have ih := endK_lt l x k
    have e : 2 ^ k < 2 ^ (k + 1) := Nat.pow_lt_pow_right (by omega) (by omega)
    unfold endK
    split
    · exact Nat.or_lt_two_pow (by omega) e
    · omega
def ahd (l : List Cl) (i : Nat) : Nat := endK l (gC l i).f l.length
def fsb (l : List Cl) (i : Nat) : Nat := fst l (gC l i).b
def subB (n a s : Nat) : Bool := (List.range n).all fun m => !a.testBit m || s.testBit m
/-- A call may stand next: the program's words. -/
def okS (l : List Cl) (st : St) (i : Nat) : Bool := !st.s.testBit i && subB l.length (ahd l i) st.s && ((gC l i).w || decide (gI st.x (fsb l i) = (gC l i).v))
def stp (l : List Cl) (st : St) (i : Nat) : St := ⟨st.s ||| 2 ^ i, st.x.set (fsb l i) (gC l i).v⟩
def st0 : St := ⟨0, List.replicate 10 0⟩
def stO (l : List Cl) (o : List Nat) : St := o.foldl (stp l) st0
theorem stO_snoc (l : List Cl) (o : List Nat) (i : Nat) : stO l (o ++ [i]) = stp l (stO l o) i := by unfold stO; rw [List.foldl_append]; rfl
def stP (l : List Cl) (o : List Nat) (i : Nat) : Bool := okS l (stO l o) i
/-- The program's search, on states. -/
def srch (l : List Cl) : Nat → St → Option (List Nat)
  | 0, _ => some []
  | k + 1, st => (List.range l.length).findSome? fun i => if okS l st i = true then (srch l k (stp l st i)).map (i :: ·) else none
theorem srch_dfs (l : List Cl) : ∀ (k : Nat) (o : List Nat), dfs l.length (stP l) k o = (srch l k (stO l o)).map (o ++ ·)
  | 0, o => by simp [dfs, srch]
  | k + 1, o => by
    simp only [dfs, srch]
    generalize List.range l.length = q
    induction q with
    | nil => rfl
    | cons x q ih =>
      simp only [List.findSome?_cons]
      rw [ih]
      by_cases h : stP l o x = true
      · have h' : okS l (stO l o) x = true := h
        rw [if_pos h, if_pos h', srch_dfs l k, stO_snoc]
        cases srch l k (stp l (stO l o) x) <;> simp
      · have h' : ¬ okS l (stO l o) x = true := h
        rw [if_neg h, if_neg h']

theorem stO_bit (l : List Cl) (m : Nat) (o : List Nat) : (stO l o).s.testBit m = o.contains m := by
  suffices h : ∀ (o : List Nat) (st : St), (o.foldl (stp l) st).s.testBit m = (st.s.testBit m || o.contains m) by
    have := h o st0
    simpa [stO, st0] using this
  intro o
  induction o with
  | nil => intro st; simp
  | cons i o ih =>
    intro st
    rw [List.foldl_cons, ih]
    have e : (stp l st i).s = st.s ||| 2 ^ i := rfl
    rw [e, Nat.testBit_or, Nat.testBit_two_pow, List.contains_cons]
    by_cases hm : i = m
    · subst hm; simp
    · have h2 : (m == i) = false := beq_false_of_ne (fun e => hm e.symm)
      simp [hm, h2]
theorem stO_len (l : List Cl) (o : List Nat) : (stO l o).x.length = 10 := by
  suffices h : ∀ (o : List Nat) (st : St), st.x.length = 10 → (o.foldl (stp l) st).x.length = 10 by exact h o st0 (by simp [st0])
  intro o
  induction o with
  | nil => intro st h; exact h
  | cons i o ih => intro st h; rw [List.foldl_cons]; exact ih _ (by simp [stp, h])
theorem gC_of {l : List Cl} {i : Nat} (h : i < l.length) : gC l i = l[i] := by unfold gC; rw [List.getElem?_eq_getElem h]; rfl
theorem fsb_le {l : List Cl} {i : Nat} (h : i < l.length) : fsb l i ≤ i ∧ fsb l i < l.length ∧ (gC l (fsb l i)).b = (gC l i).b := by
  have hx : ∃ c ∈ l, decide (c.b = (gC l i).b) = true := ⟨l[i], List.getElem_mem h, by rw [gC_of h]; simp⟩
  have hlt : fsb l i < l.length := List.findIdx_lt_length_of_exists hx
  have hb : (gC l (fsb l i)).b = (gC l i).b := by
    rw [gC_of hlt]
    have hlt' : l.findIdx (fun c => decide (c.b = (gC l i).b)) < l.length := hlt
    have := List.findIdx_getElem (xs := l) (p := fun c => decide (c.b = (gC l i).b)) (w := hlt')
    exact of_decide_eq_true this
  refine ⟨?_, hlt, hb⟩
  by_cases hle : fsb l i ≤ i
  · exact hle
  · have := List.not_of_lt_findIdx (xs := l) (p := fun c => decide (c.b = (gC l i).b)) (i := i) (by show i < fsb l i; omega)
    have e : l[i].b = (gC l i).b := by rw [gC_of h]
    simp [e] at this
theorem fsb_eq {l : List Cl} {i j : Nat} (hi : i < l.length) (hj : j < l.length) : fsb l i = fsb l j ↔ (gC l i).b = (gC l j).b := by
  constructor
  · intro e
    rw [← (fsb_le hi).2.2, ← (fsb_le hj).2.2, e]
  · intro e
    unfold fsb
    rw [e]
theorem gI_set' {l : List Int} {i j : Nat} {x : Int} (hi : i < l.length) : gI (l.set i x) j = if j = i then x else gI l j := by
  unfold gI
  by_cases h : j = i
  · subst h; simp [hi]
  · rw [if_neg h, List.getElem?_set_ne (fun e => h e.symm)]
theorem stR_of {l : List Cl} {o : List Nat} {i : Nat} : stR l o i = true ↔ (∀ k ∈ o, ¬ (gC l i).t ≤ (gC l k).f) ∧ ((gC l i).w = true ∨ lstW l (gC l i).b o = (gC l i).v) := by
  unfold stR
  simp
theorem stR2_of {l : List Cl} {o : List Nat} {i : Nat} : stR2 l o i = true ↔ ¬ i ∈ o ∧ (∀ k ∈ o, ¬ (gC l i).t ≤ (gC l k).f) ∧ ((gC l i).w = true ∨ lstW l (gC l i).b o = (gC l i).v) := by
  unfold stR2
  rw [Bool.and_eq_true_iff, stR_of]
  simp
theorem okS_of {l : List Cl} {st : St} {i : Nat} : okS l st i = true ↔ st.s.testBit i = false ∧ (∀ m, m < l.length → (gC l m).t ≤ (gC l i).f → st.s.testBit m = true) ∧ ((gC l i).w = true ∨ gI st.x (fsb l i) = (gC l i).v) := by
  have hsub : subB l.length (ahd l i) st.s = true ↔ ∀ m, m < l.length → (gC l m).t ≤ (gC l i).f → st.s.testBit m = true := by
    unfold subB
    rw [List.all_eq_true]
    constructor
    · intro h m hm ht
      have := h m (by simpa using hm)
      rw [ahd, endK_bit] at this
      simpa [hm, ht] using this
    · intro h m hm
      rw [ahd, endK_bit]
      by_cases ht : (gC l m).t ≤ (gC l i).f
      · simp [h m (by simpa using hm) ht]
      · simp [ht]
  unfold okS
  rw [Bool.and_eq_true_iff, Bool.and_eq_true_iff, hsub]
  simp [and_assoc]
/-- Of a list that came in rightly the state tells what blocks read as. -/
theorem stO_val {l : List Cl} (h10 : l.length ≤ 10) : ∀ (o : List Nat), Rea l.length (stP l) o → ∀ j, j < l.length → gI (stO l o).x (fsb l j) = lstW l (gC l j).b o := by
  intro o
  induction hk : o.length generalizing o with
  | zero =>
    intro _ j hj
    obtain rfl : o = [] := List.length_eq_zero_iff.1 hk
    have := (fsb_le hj).2.1
    simp only [stO, st0, lstW, List.foldl_nil, gI]
    rw [List.getElem?_replicate, if_pos (by omega)]
    rfl
  | succ k ih =>
    intro hr j hj
    rcases List.eq_nil_or_concat o with rfl | ⟨o', i, rfl⟩
    · simp at hk
    · rw [List.concat_eq_append] at hr hk ⊢
      obtain ⟨hi, hs⟩ := hr o' i [] rfl
      have hr' := hr.left
      have ih' := ih o' (by simpa using hk) hr'
      rw [stO_snoc, lstW_snoc]
      have e : (stp l (stO l o') i).x = (stO l o').x.set (fsb l i) (gC l i).v := rfl
      rw [e, gI_set' (by rw [stO_len]; have := (fsb_le hi).2.1; omega)]
      by_cases hb : (gC l i).b = (gC l j).b
      · rw [if_pos ((fsb_eq hj hi).2 hb.symm)]
        by_cases hw : (gC l i).w = true
        · rw [if_pos ⟨hw, hb⟩]
        · rw [if_neg (fun h => hw h.1)]
          rcases (okS_of.1 hs).2.2 with h | h
          · exact absurd h hw
          · rw [← h, (fsb_eq hi hj).2 hb]
            exact ih' j hj
      · rw [if_neg (fun e => hb ((fsb_eq hj hi).1 e).symm), if_neg (fun h => hb h.2)]
        exact ih' j hj
theorem rea_nodup {l : List Cl} {o : List Nat} {n : Nat} (h : Rea n (stR2 l) o) : o.Nodup ∧ ∀ x ∈ o, x < n := by
  induction hk : o.length generalizing o with
  | zero =>
    obtain rfl : o = [] := List.length_eq_zero_iff.1 hk
    simp
  | succ k ih =>
    rcases List.eq_nil_or_concat o with rfl | ⟨o', i, rfl⟩
    · simp at hk
    · rw [List.concat_eq_append] at h hk ⊢
      obtain ⟨hi, hs⟩ := h o' i [] rfl
      obtain ⟨h1, h2⟩ := ih h.left (by simpa using hk)
      have h3 := (stR2_of.1 hs).1
      refine ⟨?_, ?_⟩
      · rw [List.nodup_append]
        refine ⟨h1, by simp, fun a ha b hb => ?_⟩
        have hb' : b = i := by simpa using hb
        subst hb'
        intro e
        exact h3 (e ▸ ha)
      · intro x hx
        rcases List.mem_append.1 hx with hx | hx
        · exact h2 x hx
        · have : x = i := by simpa using hx
          omega
theorem full_mem {f : List Nat} {n : Nat} (h : f.Nodup) (hl : ∀ x ∈ f, x < n) (hn : f.length = n) {m : Nat} (hm : m < n) : m ∈ f := by
  by_cases hf : m ∈ f
  · exact hf
  · have h1 : (m :: f).Nodup := List.nodup_cons.2 ⟨hf, h⟩
    have h2 := List.Nodup.length_le_of_subset (l₂ := List.range n) h1 (fun x hx => by
      rcases List.mem_cons.1 hx with rfl | hx
      · simpa using hm
      · simpa using hl x hx)
    simp at h2
    omega
theorem H1 {l : List Cl} (h10 : l.length ≤ 10) (o : List Nat) (i : Nat) (ho : Rea l.length (stP l) o) (hi : i < l.length) (h : stP l o i = true) : stR2 l o i = true := by
  obtain ⟨h1, h2, h3⟩ := okS_of.1 h
  have hni : ¬ i ∈ o := by
    rw [stO_bit] at h1
    intro hm
    rw [List.contains_iff_mem.2 hm] at h1
    cases h1
  refine stR2_of.2 ⟨hni, fun k hk ht => ?_, ?_⟩
  · obtain ⟨p, r, e⟩ := List.append_of_mem hk
    obtain ⟨_, hs⟩ := ho p k r e
    have h4 := (okS_of.1 hs).2.1 i hi ht
    rw [stO_bit, List.contains_iff_mem] at h4
    exact hni (by rw [e]; exact List.mem_append_left _ h4)
  · rcases h3 with h3 | h3
    · exact Or.inl h3
    · refine Or.inr ?_
      rw [← stO_val h10 o ho i hi]
      exact h3
theorem H2 {l : List Cl} (hg : faultF l = 0) (f : List Nat) (hf : Rea l.length (stR2 l) f) (hl : f.length = l.length) : Rea l.length (stP l) f := by
  obtain ⟨h10, hb⟩ := faultF_zero hg
  obtain ⟨hnd, hlt⟩ := rea_nodup hf
  have main : ∀ k q, f = f.take k ++ q → Rea l.length (stP l) (f.take k) := by
    intro k
    induction k with
    | zero => intro q _; rw [List.take_zero]; exact Rea.nil _ _
    | succ k ih =>
      intro q hq
      have ih' := ih (f.drop k) (List.take_append_drop k f).symm
      by_cases hk : k < f.length
      · have et : f.take (k + 1) = f.take k ++ [f[k]] := by rw [List.take_succ_eq_append_getElem hk]
        have ef : f = f.take k ++ f[k] :: f.drop (k + 1) := by rw [List.getElem_cons_drop hk, List.take_append_drop]
        rw [et]
        obtain ⟨hi, hs⟩ := hf _ _ _ ef
        obtain ⟨s1, s2, s3⟩ := stR2_of.1 hs
        refine ih'.snoc hi (okS_of.2 ⟨?_, fun m hm ht => ?_, ?_⟩)
        · rw [stO_bit]
          cases hc : (f.take k).contains f[k] with
          | false => rfl
          | true => exact absurd (List.contains_iff_mem.1 hc) s1
        · rw [stO_bit, List.contains_iff_mem]
          have hmf := full_mem hnd hlt hl hm
          rw [ef] at hmf
          rcases List.mem_append.1 hmf with h | h
          · exact h
          · rcases List.mem_cons.1 h with h | h
            · have := badC_zero (hb m hm)
              rw [← h] at ht
              omega
            · obtain ⟨p, r, e⟩ := List.append_of_mem h
              have e2 : f = (f.take k ++ f[k] :: p) ++ m :: r := by rw [List.append_assoc, List.cons_append, ← e]; exact ef
              obtain ⟨_, hs2⟩ := hf _ _ _ e2
              exact absurd ht ((stR2_of.1 hs2).2.1 f[k] (by simp))
        · rcases s3 with s3 | s3
          · exact Or.inl s3
          · refine Or.inr ?_
            rw [stO_val h10 _ ih' _ hi]
            exact s3
      · rw [List.take_of_length_le (by omega)] at ih' ⊢
        exact ih'
  have := main f.length [] (by simp)
  rwa [List.take_length] at this
/-- What Find answers. -/
def findL (l : List Cl) : Nat × List Nat := if faultF l = 0 then (match srch l l.length st0 with | none => (4, []) | some r => (0, r)) else (faultF l, [])
theorem srch_ref {l : List Cl} (h : faultF l = 0) : srch l l.length st0 = dfs l.length (stR2 l) l.length [] := by
  obtain ⟨h10, _⟩ := faultF_zero h
  rw [← dfs_eq (H1 h10) (H2 h) l.length [] (Rea.nil _ _) (by simp), srch_dfs]
  show _ = (srch l l.length st0).map ([] ++ ·)
  cases srch l l.length st0 <;> simp
theorem srch_right {l : List Cl} {r : List Nat} (h : faultF l = 0) (hs : srch l l.length st0 = some r) : Rt l r ∧ r.length = l.length ∧ ∀ x ∈ r, x < l.length := by
  rw [srch_ref h] at hs
  obtain ⟨h1, h2, _⟩ := dfs_sound _ _ _ hs (Rea.nil _ _)
  exact ⟨Rt.of_rea h1, by simpa using h2, (rea_nodup h1).2⟩
theorem srch_rea {l : List Cl} {r : List Nat} (h : faultF l = 0) (hs : srch l l.length st0 = some r) : Rea l.length (stR2 l) r := by
  rw [srch_ref h] at hs
  exact (dfs_sound _ _ _ hs (Rea.nil _ _)).1
theorem srch_has {l : List Cl} {f : List Nat} (h : faultF l = 0) (hf : Rea l.length (stR2 l) f) (hl : f.length = l.length) : ∃ r, srch l l.length st0 = some r := by
  cases e : srch l l.length st0 with
  | some r => exact ⟨r, rfl⟩
  | none =>
    rw [srch_ref h] at e
    exact (dfs_none _ _ e f f hf (by simp) (by simpa using hl)).elim
end Go.Proofs.Ytohngekkbgklfaa
