/-
  Plain mathematics: the bytes of segments, bytes laid into segments.
-/
import Derived.Test.YtdkafcgangcgbajMathList
namespace Go.Proofs.Ytdkafcgangcgbaj
open Go.RowKit

/-- All segments lie in so many bytes. -/
def allF (N : Nat) : List Sg → Bool
  | [] => true
  | s :: r => decide (fits N s.p s.n) && allF N r
theorem allF_app (N : Nat) : ∀ a b, allF N (a ++ b) = (allF N a && allF N b)
  | [], b => rfl
  | s :: r, b => by simp only [List.cons_append, allF, allF_app N r, Bool.and_assoc]
theorem allF_at {N : Nat} : ∀ {L : List Sg}, allF N L = true → ∀ k, k < L.length → fits N (gS L k).p (gS L k).n
  | [], _, k, h => by simp at h
  | s :: r, h, 0, _ => by simp only [allF, Bool.and_eq_true, decide_eq_true_eq] at h; exact h.1
  | s :: r, h, k + 1, hk => by
    simp only [allF, Bool.and_eq_true] at h
    exact allF_at h.2 k (by simpa using hk)
theorem allF_no {N : Nat} : ∀ {L : List Sg} k, k < L.length → ¬ fits N (gS L k).p (gS L k).n → allF N L = false
  | [], k, h, _ => by simp at h
  | s :: r, 0, _, h => by
    have : decide (fits N s.p s.n) = false := decide_eq_false h
    simp [allF, this]
  | s :: r, k + 1, hk, h => by
    have := allF_no (L := r) k (by simpa using hk) h
    simp [allF, this]
/-- The bytes of segments, one behind the other. -/
def gath (l : List Nat) : List Sg → List Nat
  | [] => []
  | s :: r => cut l s.p.toNat s.n.toNat ++ gath l r
theorem gath_app (l : List Nat) : ∀ a b, gath l (a ++ b) = gath l a ++ gath l b
  | [], b => rfl
  | s :: r, b => by simp only [List.cons_append, gath, gath_app l r, List.append_assoc]
theorem gath_len (l : List Nat) : ∀ L, (gath l L).length ≤ L.length * l.length
  | [] => by simp [gath]
  | s :: r => by
    have h := gath_len l r
    have h2 : (cut l s.p.toNat s.n.toNat).length ≤ l.length := by unfold cut; rw [List.length_take, List.length_drop]; omega
    simp only [gath, List.length_append, List.length_cons, Nat.add_mul]
    omega
theorem gath_all {l : List Nat} (h : AllB l) : ∀ L, AllB (gath l L)
  | [] => fun x hx => by simp [gath] at hx
  | s :: r => (cut_all h _ _).app (gath_all h r)
theorem gath_sum {l : List Nat} : ∀ {L : List Sg}, allF l.length L = true → ((gath l L).length : Int) = sumS L
  | [], _ => rfl
  | s :: r, h => by
    simp only [allF, Bool.and_eq_true, decide_eq_true_eq] at h
    have h1 := gath_sum h.2
    obtain ⟨f1, f2, f3⟩ := h.1
    have e : (cut l s.p.toNat s.n.toNat).length = s.n.toNat := cut_len (by omega)
    simp only [gath, List.length_append, sumS]
    rw [e]
    omega
/-- Whether so many bytes just fill segments. -/
def fillF : List Sg → Int → Bool
  | [], n => decide (n = 0)
  | s :: r, n => if n < s.n then false else fillF r (n - max s.n 0)
theorem fillF_drop {L : List Sg} {k : Nat} {n : Int} (h : k < L.length) : fillF (L.drop k) n = if n < (gS L k).n then false else fillF (L.drop (k + 1)) (n - max (gS L k).n 0) := by
  rw [List.drop_eq_getElem_cons h]
  unfold gS
  rw [List.getElem?_eq_getElem h]
  rfl
/-- Bytes laid into segments, in order. -/
def scat : List Nat → List Sg → List Nat → List Nat
  | l, [], _ => l
  | l, s :: r, D => scat (lay l s.p.toNat (D.take s.n.toNat)) r (D.drop s.n.toNat)
theorem scat_drop {l D : List Nat} {L : List Sg} {k : Nat} (h : k < L.length) : scat l (L.drop k) D = scat (lay l (gS L k).p.toNat (D.take (gS L k).n.toNat)) (L.drop (k + 1)) (D.drop (gS L k).n.toNat) := by
  rw [List.drop_eq_getElem_cons h]
  unfold gS
  rw [List.getElem?_eq_getElem h]
  rfl
theorem lay_zero (l b : List Nat) (h : b.length = l.length) : lay l 0 b = b := by
  unfold lay splice
  rw [List.drop_eq_nil_of_le (by omega)]
  simp
end Go.Proofs.Ytdkafcgangcgbaj
