/-
  Plain mathematics: what the segments of a walk are.
-/
import Derived.Test.YtdkafcgangcgbajMathMove
namespace Go.Proofs.Ytdkafcgangcgbaj
open Go.RowKit

theorem sumS_ge {N : Nat} : ∀ {L : List Sg}, (∀ s ∈ L, PgS N s) → (L.length : Int) ≤ sumS L
  | [], _ => by simp [sumS]
  | s :: r, h => by
    have h1 := sumS_ge (L := r) (fun x hx => h x (List.mem_cons_of_mem _ hx))
    have h2 := (h s (List.mem_cons_self ..)).2.2.1
    simp only [sumS, List.length_cons]
    omega
theorem sumS_take : ∀ (L : List Sg) (k : Nat), (∀ s ∈ L, 1 ≤ s.n) → 0 ≤ sumS (L.take k) ∧ sumS (L.take k) ≤ sumS L
  | [], k, _ => by simp [sumS]
  | s :: r, 0, h => by
    have h1 := sumS_take r 0 (fun x hx => h x (List.mem_cons_of_mem _ hx))
    have h2 := h s (List.mem_cons_self ..)
    simp only [List.take_zero, sumS] at h1 ⊢
    omega
  | s :: r, k + 1, h => by
    have h1 := sumS_take r k (fun x hx => h x (List.mem_cons_of_mem _ hx))
    have h2 := h s (List.mem_cons_self ..)
    simp only [List.take_succ_cons, sumS]
    omega
theorem gS_mem {L : List Sg} {k : Nat} (h : k < L.length) : gS L k ∈ L := by
  unfold gS
  rw [List.getElem?_eq_getElem h]
  exact List.getElem_mem _
/-- A segment in one page, in so many bytes. -/
def InS (N : Nat) (s : Sg) : Prop := ∃ P n : Nat, s.p = (P : Int) ∧ s.n = (n : Int) ∧ 1 ≤ n ∧ n ≤ 64 ∧ P + n ≤ N ∧ P / 64 = (P + n - 1) / 64
/-- What the segments of a walk are. -/
structure Cov (N : Nat) (first : Int) (long : Int) (S : List Sg) : Prop where
  ne : 0 < S.length
  p0 : (gS S 0).p = first
  ins : ∀ k, k < S.length → InS N (gS S k)
  pg : ∀ k, k < S.length → 0 < k → (gS S k).p % 64 = 0
  sum : sumS S = long
  few : S.length ≤ 2048
  one : ∀ s ∈ S, 1 ≤ s.n
  all : allF N S = true
  lng : 1 ≤ long ∧ long ≤ 2048
theorem PgS.in {N : Nat} {s : Sg} (h : PgS N s) : InS N s := by
  obtain ⟨h1, h2, h3, h4, h5⟩ := h
  refine ⟨s.p.toNat, s.n.toNat, by omega, by omega, by omega, by omega, by omega, by omega⟩
theorem allF_of {N : Nat} : ∀ {L : List Sg}, (∀ s ∈ L, fits N s.p s.n) → allF N L = true
  | [], _ => rfl
  | s :: r, h => by
    have h1 := allF_of (L := r) (fun x hx => h x (List.mem_cons_of_mem _ hx))
    simp [allF, h1, decide_eq_true (h s (List.mem_cons_self ..))]
theorem InS.fits {N : Nat} {s : Sg} (h : InS N s) : Go.Proofs.Ytdkafcgangcgbaj.fits N s.p s.n := by
  obtain ⟨P, n, e1, e2, h1, h2, h3, h4⟩ := h
  exact ⟨by omega, by omega, by omega⟩
theorem walk_cov (l : List Nat) (first second long : Int) (h : (walkF l first second long).1 = 0) : Cov l.length first long (walkF l first second long).2 := by
  unfold walkF at h ⊢
  by_cases h1 : long < 1 ∨ 2048 < long
  · rw [if_pos h1] at h; cases h
  rw [if_neg h1] at h ⊢
  by_cases h2 : first % 4 ≠ 0
  · rw [if_pos h2] at h; cases h
  rw [if_neg h2] at h ⊢
  by_cases h3 : first < 0
  · rw [if_pos h3] at h; cases h
  rw [if_neg h3] at h ⊢
  by_cases h4 : ¬ fits l.length first (firstN first.toNat long.toNat : Nat)
  · rw [if_pos h4] at h; cases h
  rw [if_neg h4] at h ⊢
  have h4 := Decidable.not_not.1 h4
  have hfn : firstN first.toNat long.toNat ≤ long.toNat ∧ 1 ≤ firstN first.toNat long.toNat ∧ firstN first.toNat long.toNat ≤ 64 - first.toNat % 64 := by unfold firstN; omega
  obtain ⟨g1, g2⟩ := restF_good l second (long.toNat - firstN first.toNat long.toNat) (by omega) h
  generalize restF l second (long.toNat - firstN first.toNat long.toNat) = r at *
  generalize firstN first.toNat long.toNat = n at *
  obtain ⟨f1, f2, f3⟩ := h4
  have hin0 : InS l.length ⟨first, (n : Int)⟩ := ⟨first.toNat, n, (by show first = _; omega), rfl, by omega, by omega, by omega, by omega⟩
  have hin : ∀ s ∈ (⟨first, (n : Int)⟩ :: r.2 : List Sg), InS l.length s := fun s hs => by
    rcases List.mem_cons.1 hs with rfl | hs
    · exact hin0
    · exact (g1 s hs).in
  refine ⟨by simp, rfl, fun k hk => hin _ (gS_mem hk), fun k hk h0 => ?_, ?_, ?_, fun s hs => ?_, allF_of (fun s hs => (hin s hs).fits), by omega⟩
  · cases k with
    | zero => omega
    | succ k =>
      have : gS (⟨first, (n : Int)⟩ :: r.2) (k + 1) ∈ r.2 := by
        have hk' : k < r.2.length := by simpa using hk
        exact gS_mem hk'
      exact (g1 _ this).2.1
  · show (n : Int) + sumS r.2 = long
    rw [g2]; omega
  · have := sumS_ge g1
    rw [g2] at this
    simp only [List.length_cons]
    omega
  · obtain ⟨P, m, e1, e2, q1, _⟩ := hin s hs
    omega
end Go.Proofs.Ytdkafcgangcgbaj
