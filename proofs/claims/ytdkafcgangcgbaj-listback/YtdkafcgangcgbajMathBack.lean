/-
  Plain mathematics: what is built is walked; what is scattered is gathered.
-/
import Derived.Test.YtdkafcgangcgbajMathCov
namespace Go.Proofs.Ytdkafcgangcgbaj
open Go.RowKit
set_option linter.unusedVariables false

/-- The numbers of a list that begins at b. -/
def lstB : Nat → List Nat → List Nat
  | _, [] => []
  | _, [p] => [p]
  | b, p :: q :: r => if b % 64 = 56 then (b + 8) :: p :: lstB (b + 16) (q :: r) else p :: lstB (b + 8) (q :: r)
/-- The segments of pages. -/
def segF : Nat → List Nat → List Sg
  | _, [] => []
  | left, p :: r => ⟨(p : Int), ((min 64 left : Nat) : Int)⟩ :: segF (left - min 64 left) r
/-- Numbers stand in a memory from b on. -/
def NumAt (l : List Nat) (b : Nat) (N : List Nat) : Prop := ∀ i, i < N.length → numE l ((b + 8 * i : Nat) : Int) = some (N[i]?.getD 0)
theorem NumAt.head {l : List Nat} {b x : Nat} {N : List Nat} (h : NumAt l b (x :: N)) : numE l (b : Int) = some x := by
  have := h 0 (by simp)
  simpa using this
theorem NumAt.tail {l : List Nat} {b x : Nat} {N : List Nat} (h : NumAt l b (x :: N)) : NumAt l (b + 8) N := fun i hi => by
  have := h (i + 1) (by simpa using hi)
  rw [show b + 8 * (i + 1) = b + 8 + 8 * i by omega] at this
  simpa using this
theorem goF_list (l : List Nat) : ∀ (ps : List Nat) (b left f : Nat), b % 8 = 0 → (∀ p ∈ ps, p % 64 = 0 ∧ p + 64 ≤ l.length) → ps.length = (left + 63) / 64 → NumAt l b (lstB b ps) → mu b left < f → goF l f b left = (0, segF left ps)
  | [], b, left, f, _, _, hl, _, hf => by
    have h0 : left = 0 := by simp at hl; omega
    subst h0
    cases f with
    | zero => omega
    | succ f => rw [goF_done]; rfl
  | [p], b, left, f, h8, hp, hl, hn, hf => by
    simp at hl
    have h0 : left ≠ 0 := by omega
    have h1 : left ≤ 64 := by omega
    have hm : min 64 left = left := Nat.min_eq_right h1
    obtain ⟨q1, q2⟩ := hp p (by simp)
    cases f with
    | zero => omega
    | succ f =>
      cases f with
      | zero => unfold mu at hf; omega
      | succ f =>
        rw [goF_seg h0 hn.head q1 (by omega) (by omega), hm, Nat.sub_self, goF_done]
        simp [segF, hm]
  | p :: q :: r, b, left, f, h8, hp, hl, hn, hf => by
    simp only [List.length_cons] at hl
    have h64 : 64 < left := by omega
    have h0 : left ≠ 0 := by omega
    have hm : min 64 left = 64 := Nat.min_eq_left (by omega)
    obtain ⟨q1, q2⟩ := hp p (by simp)
    have hp' : ∀ x ∈ q :: r, x % 64 = 0 ∧ x + 64 ≤ l.length := fun x hx => hp x (List.mem_cons_of_mem _ hx)
    have hl' : (q :: r).length = (left - 64 + 63) / 64 := by simp only [List.length_cons]; omega
    cases f with
    | zero => omega
    | succ f =>
      by_cases hb : b % 64 = 56
      · have e : lstB b (p :: q :: r) = (b + 8) :: p :: lstB (b + 16) (q :: r) := by rw [lstB, if_pos hb]
        rw [e] at hn
        have hn1 := hn.tail
        cases f with
        | zero => unfold mu at hf; omega
        | succ f =>
          rw [goF_on h0 hn.head (by omega) ⟨hb, h64⟩, goF_seg h0 hn1.head q1 (by omega) (by omega), hm, goF_list l (q :: r) (b + 8 + 8) (left - 64) f (by omega) hp' hl' hn1.tail (by unfold mu at hf ⊢; rw [if_pos hb] at hf; split <;> omega)]
          show _ = (0, (⟨(p : Int), ((min 64 left : Nat) : Int)⟩ : Sg) :: segF (left - min 64 left) (q :: r))
          rw [hm]
      · have e : lstB b (p :: q :: r) = p :: lstB (b + 8) (q :: r) := by rw [lstB, if_neg hb]
        rw [e] at hn
        rw [goF_seg h0 hn.head q1 (fun c => hb c.1) (by omega), hm, goF_list l (q :: r) (b + 8) (left - 64) f (by omega) hp' hl' hn.tail (by unfold mu at hf ⊢; rw [if_neg hb] at hf; split <;> omega)]
        show _ = (0, (⟨(p : Int), ((min 64 left : Nat) : Int)⟩ : Sg) :: segF (left - min 64 left) (q :: r))
        rw [hm]
/-- Numbers are laid into a memory. -/
def layN : List Nat → Nat → List Nat → List Nat
  | l, _, [] => l
  | l, a, x :: r => layN (lay l a (low 8 x)) (a + 8) r
theorem layN_len : ∀ (N : List Nat) (l : List Nat) (a : Nat), a + 8 * N.length ≤ l.length → (layN l a N).length = l.length
  | [], l, a, _ => rfl
  | x :: r, l, a, h => by
    simp only [List.length_cons] at h
    have h1 : (lay l a (low 8 x)).length = l.length := lay_len (by rw [low_len]; omega)
    show (layN (lay l a (low 8 x)) (a + 8) r).length = _
    rw [layN_len r _ _ (by rw [h1]; omega), h1]
theorem layN_all : ∀ (N : List Nat) (l : List Nat) (a : Nat), AllB l → AllB (layN l a N)
  | [], l, a, h => h
  | x :: r, l, a, h => layN_all r _ _ (lay_all a h (low_all _ _))
theorem layN_far : ∀ (N : List Nat) (l : List Nat) (a j n : Nat), a + 8 * N.length ≤ l.length → j + n ≤ a → cut (layN l a N) j n = cut l j n
  | [], l, a, j, n, _, _ => rfl
  | x :: r, l, a, j, n, h, hj => by
    simp only [List.length_cons] at h
    have h1 : (lay l a (low 8 x)).length = l.length := lay_len (by rw [low_len]; omega)
    show cut (layN (lay l a (low 8 x)) (a + 8) r) j n = _
    rw [layN_far r _ _ j n (by rw [h1]; omega) (by omega)]
    exact lay_far (by rw [low_len]; omega) (by omega) (.inr hj)
theorem layN_at : ∀ (N : List Nat) (l : List Nat) (a i : Nat), a + 8 * N.length ≤ l.length → i < N.length → cut (layN l a N) (a + 8 * i) 8 = low 8 (N[i]?.getD 0)
  | [], l, a, i, _, hi => by simp at hi
  | x :: r, l, a, 0, h, _ => by
    simp only [List.length_cons] at h
    have h1 : (lay l a (low 8 x)).length = l.length := lay_len (by rw [low_len]; omega)
    show cut (layN (lay l a (low 8 x)) (a + 8) r) (a + 0) 8 = low 8 x
    rw [show a + 0 = a from rfl, layN_far r _ _ a 8 (by rw [h1]; omega) (Nat.le_refl _)]
    have := lay_cut (l := l) (i := a) (xs := low 8 x) (by rw [low_len]; omega)
    rw [low_len] at this
    exact this
  | x :: r, l, a, i + 1, h, hi => by
    simp only [List.length_cons] at h hi
    have h1 : (lay l a (low 8 x)).length = l.length := lay_len (by rw [low_len]; omega)
    have := layN_at r (lay l a (low 8 x)) (a + 8) i (by rw [h1]; omega) (by omega)
    rw [show a + 8 * (i + 1) = a + 8 + 8 * i by omega]
    show cut (layN (lay l a (low 8 x)) (a + 8) r) (a + 8 + 8 * i) 8 = low 8 ((x :: r)[i + 1]?.getD 0)
    rw [this, List.getElem?_cons_succ]
theorem numAt_layN (N : List Nat) (l : List Nat) (a : Nat) (h : a + 8 * N.length ≤ l.length) (hN : ∀ i, i < N.length → N[i]?.getD 0 ≤ 4611686018427387904) : NumAt (layN l a N) a N := fun i hi => by
  have e := layN_at N l a i h hi
  have hx := hN i hi
  have en : num (cut (layN l a N) (a + 8 * i) 8) = N[i]?.getD 0 := by rw [e]; exact num_low 8 _ (by omega)
  have hf : fits (layN l a N).length ((a + 8 * i : Nat) : Int) 8 := by rw [layN_len N l a h]; exact ⟨by omega, by omega, by omega⟩
  unfold numE
  rw [Int.toNat_natCast, en, if_pos ⟨hf, hx⟩]
theorem lstB_le (M : Nat) : ∀ (ps : List Nat) (b : Nat), (∀ p ∈ ps, p ≤ M) → ∀ i, i < (lstB b ps).length → (lstB b ps)[i]?.getD 0 ≤ max M (b + 8 * (lstB b ps).length)
  | [], b, _, i, hi => by simp [lstB] at hi
  | [p], b, hp, i, hi => by
    simp [lstB] at hi ⊢
    subst hi
    have := hp p (by simp)
    simp; omega
  | p :: q :: r, b, hp, i, hi => by
    have h1 := hp p (by simp)
    by_cases hb : b % 64 = 56
    · have e : lstB b (p :: q :: r) = (b + 8) :: p :: lstB (b + 16) (q :: r) := by rw [lstB, if_pos hb]
      rw [e] at hi ⊢
      match i, hi with
      | 0, _ => simp; omega
      | 1, _ => simp; omega
      | i + 2, hi =>
        have := lstB_le M (q :: r) (b + 16) (fun x hx => hp x (List.mem_cons_of_mem _ hx)) i (by simpa using hi)
        simp only [List.length_cons] at this ⊢
        simp only [List.getElem?_cons_succ]
        omega
    · have e : lstB b (p :: q :: r) = p :: lstB (b + 8) (q :: r) := by rw [lstB, if_neg hb]
      rw [e] at hi ⊢
      match i, hi with
      | 0, _ => simp; omega
      | i + 1, hi =>
        have := lstB_le M (q :: r) (b + 8) (fun x hx => hp x (List.mem_cons_of_mem _ hx)) i (by simpa using hi)
        simp only [List.length_cons] at this ⊢
        simp only [List.getElem?_cons_succ]
        omega
theorem lstB_len : ∀ (ps : List Nat) (b : Nat), (lstB b ps).length ≤ 2 * ps.length
  | [], b => by simp [lstB]
  | [p], b => by simp [lstB]
  | p :: q :: r, b => by
    have h1 := lstB_len (q :: r) (b + 8)
    have h2 := lstB_len (q :: r) (b + 16)
    rw [lstB]
    split <;> simp only [List.length_cons] at * <;> omega
theorem segF_len : ∀ (ps : List Nat) (left : Nat), (segF left ps).length = ps.length
  | [], _ => rfl
  | p :: r, left => by simp [segF, segF_len r]
theorem segF_at : ∀ (ps : List Nat) (left i : Nat), i < ps.length → (gS (segF left ps) i).p = ((ps[i]?.getD 0 : Nat) : Int)
  | [], _, i, h => by simp at h
  | p :: r, left, 0, _ => rfl
  | p :: r, left, i + 1, h => by
    have := segF_at r (left - min 64 left) i (by simpa using h)
    show (gS (segF (left - min 64 left) r) i).p = _
    rw [this]
    simp
/-- The program's own way to the same numbers: seven a page, and the next page's address. -/
def lstW : Nat → Int → List Int → List Int
  | 0, _, ps => ps
  | f + 1, a, ps => if ps.length ≤ 8 then ps else ps.take 7 ++ wrap64 (a + 64) :: lstW f (wrap64 (a + 64)) (ps.drop 7)
theorem lstW_end {f : Nat} {a : Int} {ps : List Int} (h : ps.length ≤ 8) : lstW f a ps = ps := by
  cases f with
  | zero => rfl
  | succ f => rw [lstW, if_pos h]
theorem lstW_more {f : Nat} {a : Int} {ps : List Int} (h : ¬ ps.length ≤ 8) : lstW (f + 1) a ps = ps.take 7 ++ wrap64 (a + 64) :: lstW f (wrap64 (a + 64)) (ps.drop 7) := by rw [lstW, if_neg h]
theorem lstW_len : ∀ (f : Nat) (a : Int) (ps : List Int), (lstW f a ps).length ≤ 2 * ps.length
  | 0, a, ps => by show ps.length ≤ _; omega
  | f + 1, a, ps => by
    by_cases h : ps.length ≤ 8
    · rw [lstW_end h]; omega
    · rw [lstW_more h]
      have := lstW_len f (wrap64 (a + 64)) (ps.drop 7)
      rw [List.length_drop] at this
      simp only [List.length_append, List.length_take, List.length_cons]
      omega
theorem lstB_end : ∀ (ps : List Nat) (b : Nat), b % 8 = 0 → 8 * ps.length ≤ 64 - b % 64 → lstB b ps = ps
  | [], b, _, _ => rfl
  | [p], b, _, _ => rfl
  | p :: q :: r, b, h8, h => by
    simp only [List.length_cons] at h
    have h1 : ¬ b % 64 = 56 := by omega
    rw [lstB, if_neg h1, lstB_end (q :: r) (b + 8) (by omega) (by simp only [List.length_cons]; omega)]
theorem lstB_more : ∀ (j : Nat) (ps : List Nat) (b : Nat), b % 8 = 0 → 8 * j = 56 - b % 64 → j + 1 < ps.length → lstB b ps = ps.take j ++ (b + 8 * j + 8) :: lstB (b + 8 * j + 8) (ps.drop j)
  | 0, [], b, _, _, h => by simp at h
  | 0, [p], b, _, _, h => by simp at h
  | 0, p :: q :: r, b, h8, hj, h => by
    have h1 : b % 64 = 56 := by omega
    rw [lstB, if_pos h1]
    simp only [List.take_zero, List.nil_append, List.drop_zero, Nat.mul_zero, Nat.add_zero]
    have h2 : ¬ (b + 8) % 64 = 56 := by omega
    rw [lstB, if_neg h2]
  | j + 1, [], b, _, _, h => by simp at h
  | j + 1, [p], b, _, _, h => by simp at h
  | j + 1, p :: q :: r, b, h8, hj, h => by
    have h1 : ¬ b % 64 = 56 := by omega
    have ih := lstB_more j (q :: r) (b + 8) (by omega) (by omega) (by simp only [List.length_cons] at h ⊢; omega)
    rw [lstB, if_neg h1, ih, List.take_succ_cons, List.drop_succ_cons, List.cons_append, show b + 8 + 8 * j + 8 = b + 8 * (j + 1) + 8 by omega]
theorem lstW_eq : ∀ (f : Nat) (a : Nat) (ps : List Nat), ps.length ≤ 7 * f + 8 → a % 64 = 0 → a + 64 * f ≤ 4611686018427387904 → lstW f (a : Int) (ps.map Int.ofNat) = (lstB a ps).map Int.ofNat
  | 0, a, ps, h, h64, _ => by
    rw [lstB_end ps a (by omega) (by omega)]
    rfl
  | f + 1, a, ps, h, h64, hs => by
    by_cases hl : ps.length ≤ 8
    · rw [lstW_end (by simpa using hl), lstB_end ps a (by omega) (by omega)]
    · have hw : wrap64 ((a : Int) + 64) = ((a + 64 : Nat) : Int) := by unfold wrap64; omega
      rw [lstW_more (by simpa using hl), hw, ← List.map_drop, lstW_eq f (a + 64) (ps.drop 7) (by rw [List.length_drop]; omega) (by omega) (by omega), lstB_more 7 ps a (by omega) (by omega) (by omega), show a + 8 * 7 + 8 = a + 64 by omega, List.map_append, List.map_cons, List.map_take]
      rfl
end Go.Proofs.Ytdkafcgangcgbaj
