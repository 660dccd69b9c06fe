/-
  Plain mathematics: walk of what is built; what is scattered is gathered.
-/
import Derived.Test.YtdkafcgangcgbajMathBack
namespace Go.Proofs.Ytdkafcgangcgbaj
open Go.RowKit
set_option linter.unusedVariables false

theorem walk_built {l l' : List Nat} (Q : List Nat) (o n : Nat) (second : Int) (hn : 1 ≤ n ∧ n ≤ 2048) (ho : o ≤ 60) (h4 : o % 4 = 0) (hQ : Q.length = (o + n + 63) / 64) (hp : ∀ p ∈ Q, p % 64 = 0 ∧ p + 64 ≤ l.length)
    (hs : (Q.length = 1 ∧ second = 0 ∧ l' = l) ∨ (Q.length = 2 ∧ second = ((Q[1]?.getD 0 : Nat) : Int) ∧ l' = l) ∨ (2 < Q.length ∧ ∃ A : Nat, second = (A : Int) ∧ A % 64 = 0 ∧ l' = layN l A (lstB A (Q.drop 1)) ∧ A + 8 * (lstB A (Q.drop 1)).length ≤ l.length)) (hl : l.length ≤ 16384) :
    l'.length = l.length ∧ walkF l' ((Q[0]?.getD 0 + o : Nat) : Int) second (n : Int) = (0, ⟨((Q[0]?.getD 0 + o : Nat) : Int), ((min (64 - o) n : Nat) : Int)⟩ :: segF (n - min (64 - o) n) (Q.drop 1)) := by
  have hlen : l'.length = l.length := by
    rcases hs with ⟨_, _, e⟩ | ⟨_, _, e⟩ | ⟨_, A, _, _, e, hf⟩
    · rw [e]
    · rw [e]
    · rw [e, layN_len _ _ _ hf]
  refine ⟨hlen, ?_⟩
  cases Q with
  | nil => simp at hQ; omega
  | cons p r =>
    obtain ⟨q1, q2⟩ := hp p (by simp)
    have hp' : ∀ x ∈ r, x % 64 = 0 ∧ x + 64 ≤ l'.length := fun x hx => by rw [hlen]; exact hp x (List.mem_cons_of_mem _ hx)
    simp only [List.length_cons] at hQ hs
    simp only [List.getElem?_cons_zero, Option.getD_some, List.drop_succ_cons, List.drop_zero] at *
    have hfn : firstN (p + o) n = min (64 - o) n := by unfold firstN; rw [show (p + o) % 64 = o by omega]
    have hr : restF l' second (n - min (64 - o) n) = (0, segF (n - min (64 - o) n) r) := by
      rcases hs with ⟨h1, h2, h3⟩ | ⟨h1, h2, h3⟩ | ⟨h1, A, h2, h3, h5, h6⟩
      · have e0 : n - min (64 - o) n = 0 := by omega
        have er : r = [] := List.eq_nil_of_length_eq_zero (by omega)
        rw [e0, er]
        unfold restF
        rw [if_pos rfl]
        rfl
      · have hm : min (64 - o) n = 64 - o := by omega
        rw [hm]
        cases r with
        | nil => simp at h1
        | cons q r2 =>
          obtain rfl : r2 = [] := List.eq_nil_of_length_eq_zero (by simp at h1; rw [h1]; rfl)
          obtain ⟨s1, s2⟩ := hp' q (by simp)
          simp at h2
          subst h2
          unfold restF
          rw [if_neg (by simp at hQ; omega), if_pos (by simp at hQ; omega), if_neg (Decidable.not_not.2 (by omega)), if_neg (Decidable.not_not.2 (show fits l'.length (q : Int) ((n - (64 - o) : Nat) : Int) from ⟨by omega, by omega, by simp at hQ; omega⟩))]
          simp only [segF]
          rw [Nat.min_eq_right (show n - (64 - o) ≤ 64 by simp at hQ; omega)]
      · have hm : min (64 - o) n = 64 - o := by omega
        rw [hm]
        subst h2
        unfold restF
        rw [if_neg (by omega), if_neg (by omega), if_neg (by omega), Int.toNat_natCast]
        refine goF_list l' r A (n - (64 - o)) 5000 (by omega) hp' (by omega) ?_ (by unfold mu; split <;> omega)
        rw [h5]
        refine numAt_layN _ l A h6 (fun i hi => ?_)
        have := lstB_le 16384 r A (fun x hx => by have := (hp' x hx).2; omega) i hi
        omega
    unfold walkF
    rw [if_neg (by omega), if_neg (by omega), if_neg (by omega), Int.toNat_natCast, Int.toNat_natCast, hfn, hr, if_neg (Decidable.not_not.2 (show fits l'.length ((p + o : Nat) : Int) ((min (64 - o) n : Nat) : Int) from ⟨by omega, by omega, by omega⟩))]
/-- Two segments have no byte together. -/
def Far (s t : Sg) : Prop := s.p + s.n ≤ t.p ∨ t.p + t.n ≤ s.p
theorem scat_len : ∀ (L : List Sg) (l D : List Nat), (∀ s ∈ L, fits l.length s.p s.n) → (scat l L D).length = l.length
  | [], l, D, _ => rfl
  | s :: r, l, D, h => by
    obtain ⟨f1, f2, f3⟩ := h s (by simp)
    have h1 : (lay l s.p.toNat (D.take s.n.toNat)).length = l.length := lay_len (by rw [List.length_take]; omega)
    show (scat (lay l s.p.toNat (D.take s.n.toNat)) r (D.drop s.n.toNat)).length = _
    rw [scat_len r _ _ (fun t ht => by rw [h1]; exact h t (List.mem_cons_of_mem _ ht)), h1]
theorem scat_far : ∀ (L : List Sg) (l D : List Nat) (s : Sg), fits l.length s.p s.n → (∀ t ∈ L, fits l.length t.p t.n) → (∀ t ∈ L, Far s t) → cut (scat l L D) s.p.toNat s.n.toNat = cut l s.p.toNat s.n.toNat
  | [], l, D, s, _, _, _ => rfl
  | t :: r, l, D, s, hs, h, hf => by
    obtain ⟨f1, f2, f3⟩ := h t (by simp)
    obtain ⟨g1, g2, g3⟩ := hs
    have ht := hf t (by simp)
    have h1 : (lay l t.p.toNat (D.take t.n.toNat)).length = l.length := lay_len (by rw [List.length_take]; omega)
    show cut (scat (lay l t.p.toNat (D.take t.n.toNat)) r (D.drop t.n.toNat)) s.p.toNat s.n.toNat = _
    rw [scat_far r _ _ s (by rw [h1]; exact ⟨g1, g2, g3⟩) (fun u hu => by rw [h1]; exact h u (List.mem_cons_of_mem _ hu)) (fun u hu => hf u (List.mem_cons_of_mem _ hu))]
    refine lay_far (by rw [List.length_take]; omega) (by omega) ?_
    unfold Far at ht
    rw [List.length_take]
    omega
/-- WHAT IS SCATTERED IS GATHERED. -/
theorem gath_scat : ∀ (L : List Sg) (l D : List Nat), (∀ s ∈ L, fits l.length s.p s.n) → L.Pairwise Far → sumS L = (D.length : Int) → gath (scat l L D) L = D
  | [], l, D, _, _, h => by
    have : D.length = 0 := by simp only [sumS] at h; omega
    rw [List.eq_nil_of_length_eq_zero this]
    rfl
  | s :: r, l, D, hf, hp, h => by
    obtain ⟨f1, f2, f3⟩ := hf s (by simp)
    rw [List.pairwise_cons] at hp
    have hsum : 0 ≤ sumS r := by
      clear hp h
      have hr : ∀ t ∈ r, 0 ≤ t.n := fun t ht => (hf t (List.mem_cons_of_mem _ ht)).2.1
      clear hf
      induction r with
      | nil => simp [sumS]
      | cons t r ih =>
        have h1 := ih (fun u hu => hr u (List.mem_cons_of_mem _ hu))
        have h2 := hr t (by simp)
        simp only [sumS]; omega
    simp only [sumS] at h
    have htl : (D.take s.n.toNat).length = s.n.toNat := by rw [List.length_take]; omega
    have h1 : (lay l s.p.toNat (D.take s.n.toNat)).length = l.length := lay_len (by rw [htl]; omega)
    have hf' : ∀ t ∈ r, fits (lay l s.p.toNat (D.take s.n.toNat)).length t.p t.n := fun t ht => by rw [h1]; exact hf t (List.mem_cons_of_mem _ ht)
    show cut (scat (lay l s.p.toNat (D.take s.n.toNat)) r (D.drop s.n.toNat)) s.p.toNat s.n.toNat ++ gath (scat (lay l s.p.toNat (D.take s.n.toNat)) r (D.drop s.n.toNat)) r = D
    rw [scat_far r _ _ s (by rw [h1]; exact ⟨f1, f2, f3⟩) hf' hp.1, gath_scat r _ _ hf' hp.2 (by rw [List.length_drop]; omega)]
    have e := lay_cut (l := l) (i := s.p.toNat) (xs := D.take s.n.toNat) (by rw [htl]; omega)
    rw [htl] at e
    rw [e, List.take_append_drop]
theorem fillF_sum : ∀ (L : List Sg) (n : Int), (∀ s ∈ L, 0 ≤ s.n) → sumS L = n → fillF L n = true
  | [], n, _, h => by
    simp only [sumS] at h
    exact decide_eq_true h.symm
  | s :: r, n, hp, h => by
    have h0 := hp s (by simp)
    have hr : ∀ t ∈ r, 0 ≤ t.n := fun t ht => hp t (List.mem_cons_of_mem _ ht)
    have hsum : 0 ≤ sumS r := by
      clear h hp
      induction r with
      | nil => simp [sumS]
      | cons t r ih =>
        have h1 := ih (fun u hu => hr u (List.mem_cons_of_mem _ hu))
        have h2 := hr t (by simp)
        simp only [sumS]; omega
    simp only [sumS] at h
    rw [fillF, if_neg (by omega), Int.max_eq_left h0]
    exact fillF_sum r _ hr (by omega)
/-- Segments of pages of which no two are one have no byte together. -/
theorem far_of {Q : List Nat} {S : List Sg} {o : Nat} (ho : o ≤ 60) (hl : S.length = Q.length) (hp : ∀ p ∈ Q, p % 64 = 0) (hat : ∀ i, i < S.length → (gS S i).p = ((Q[i]?.getD 0 + (if i = 0 then o else 0) : Nat) : Int)) (hn : ∀ i, i < S.length → (gS S i).n ≤ 64 ∧ 0 ≤ (gS S i).n) (h0 : 0 < S.length → (gS S 0).n + o ≤ 64)
    (hne : ∀ i k, k < i → i < S.length → Q[k]?.getD 0 ≠ Q[i]?.getD 0) : S.Pairwise Far := by
  rw [List.pairwise_iff_getElem]
  intro k i hk hi hki
  have e1 : S[k] = gS S k := by unfold gS; rw [List.getElem?_eq_getElem hk]; rfl
  have e2 : S[i] = gS S i := by unfold gS; rw [List.getElem?_eq_getElem hi]; rfl
  rw [e1, e2]
  have a1 := hat k hk
  have a2 := hat i hi
  have n1 := hn k hk
  have n2 := hn i hi
  have h1 := hne i k hki hi
  have m1 : Q[k]?.getD 0 % 64 = 0 := by rw [List.getElem?_eq_getElem (by omega)]; exact hp _ (List.getElem_mem _)
  have m2 : Q[i]?.getD 0 % 64 = 0 := by rw [List.getElem?_eq_getElem (by omega)]; exact hp _ (List.getElem_mem _)
  rw [if_neg (by omega)] at a2
  unfold Far
  by_cases hk0 : k = 0
  · subst hk0
    have := h0 (by omega)
    rw [if_pos rfl] at a1
    omega
  · rw [if_neg hk0] at a1
    omega
end Go.Proofs.Ytdkafcgangcgbaj
