/- Part of the proof. -/
import Derived.Test.YtpfknjpiknpiaaaGreatDoorQL1
namespace Go.Proofs.YtpfknjpiknpiaaaGreatDoorQL
open Go.RowKit
def allF (N : Nat) : List Sg → Bool
  | [] => true
  | s :: r => decide (fits N s.p s.n) && allF N r
theorem sumS_ge {N : Nat} : ∀ {L : List Sg}, (∀ s ∈ L, PgS N s) → (L.length : Int) ≤ sumS L
  | [], _ => by simp [sumS]
  | s :: r, h => by
    have h1 := sumS_ge (L := r) (fun x hx => h x (List.mem_cons_of_mem _ hx))
    have h2 := (h s (List.mem_cons_self ..)).2.2.1
    simp only [sumS, List.length_cons]
    omega
theorem gS_mem {L : List Sg} {k : Nat} (h : k < L.length) : gS L k ∈ L := by
  unfold gS
  rw [List.getElem?_eq_getElem h]
  exact List.getElem_mem _
def InS (N : Nat) (s : Sg) : Prop := ∃ P n : Nat, s.p = (P : Int) ∧ s.n = (n : Int) ∧ 1 ≤ n ∧ n ≤ 64 ∧ P + n ≤ N ∧ P / 64 = (P + n - 1) / 64
structure Cov (N : Nat) (first : Int) (long : Int) (S : List Sg) : Prop where
  ne : 0 < S.length
  p0 : (gS S 0).p = first
  ins : ∀ k, k < S.length → InS N (gS S k)
  pg : ∀ k, k < S.length → 0 < k → (gS S k).p % 64 = 0
  sum : sumS S = long
  few : S.length ≤ 2048
  one : ∀ s ∈ S, 1 ≤ s.n
  all : allF N S = true
  lng : 1 ≤ long ∧ long ≤ 2048
theorem PgS.in {N : Nat} {s : Sg} (h : PgS N s) : InS N s := by
  obtain ⟨h1, h2, h3, h4, h5⟩ := h
  refine ⟨s.p.toNat, s.n.toNat, by omega, by omega, by omega, by omega, by omega, by omega⟩
theorem allF_of {N : Nat} : ∀ {L : List Sg}, (∀ s ∈ L, fits N s.p s.n) → allF N L = true
  | [], _ => rfl
  | s :: r, h => by
    have h1 := allF_of (L := r) (fun x hx => h x (List.mem_cons_of_mem _ hx))
    simp [allF, h1, decide_eq_true (h s (List.mem_cons_self ..))]
theorem InS.fits {N : Nat} {s : Sg} (h : InS N s) : Go.Proofs.YtpfknjpiknpiaaaGreatDoorQL.fits N s.p s.n := by
  obtain ⟨P, n, e1, e2, h1, h2, h3, h4⟩ := h
  exact ⟨by omega, by omega, by omega⟩
theorem walk_cov (l : List Nat) (first second long : Int) (h : (walkF l first second long).1 = 0) : Cov l.length first long (walkF l first second long).2 := by
  unfold walkF at h ⊢
  by_cases h1 : long < 1 ∨ 2048 < long
  · rw [if_pos h1] at h; cases h
  rw [if_neg h1] at h ⊢
  by_cases h2 : first % 4 ≠ 0
  · rw [if_pos h2] at h; cases h
  rw [if_neg h2] at h ⊢
  by_cases h3 : first < 0
  · rw [if_pos h3] at h; cases h
  rw [if_neg h3] at h ⊢
  by_cases h4 : ¬ fits l.length first (firstN first.toNat long.toNat : Nat)
  · rw [if_pos h4] at h; cases h
  rw [if_neg h4] at h ⊢
  have h4 := Decidable.not_not.1 h4
  have hfn : firstN first.toNat long.toNat ≤ long.toNat ∧ 1 ≤ firstN first.toNat long.toNat ∧ firstN first.toNat long.toNat ≤ 64 - first.toNat % 64 := by unfold firstN; omega
  obtain ⟨g1, g2⟩ := restF_good l second (long.toNat - firstN first.toNat long.toNat) (by omega) h
  generalize restF l second (long.toNat - firstN first.toNat long.toNat) = r at *
  generalize firstN first.toNat long.toNat = n at *
  obtain ⟨f1, f2, f3⟩ := h4
  have hin0 : InS l.length ⟨first, (n : Int)⟩ := ⟨first.toNat, n, (by show first = _; omega), rfl, by omega, by omega, by omega, by omega⟩
  have hin : ∀ s ∈ (⟨first, (n : Int)⟩ :: r.2 : List Sg), InS l.length s := fun s hs => by
    rcases List.mem_cons.1 hs with rfl | hs
    · exact hin0
    · exact (g1 s hs).in
  refine ⟨by simp, rfl, fun k hk => hin _ (gS_mem hk), fun k hk h0 => ?_, ?_, ?_, fun s hs => ?_, allF_of (fun s hs => (hin s hs).fits), by omega⟩
  · cases k with
    | zero => omega
    | succ k =>
      have : gS (⟨first, (n : Int)⟩ :: r.2) (k + 1) ∈ r.2 := by
        have hk' : k < r.2.length := by simpa using hk
        exact gS_mem hk'
      exact (g1 _ this).2.1
  · show (n : Int) + sumS r.2 = long
    rw [g2]; omega
  · have := sumS_ge g1
    rw [g2] at this
    simp only [List.length_cons]
    omega
  · obtain ⟨P, m, e1, e2, q1, _⟩ := hin s hs
    omega
end Go.Proofs.YtpfknjpiknpiaaaGreatDoorQL
namespace Go.Proofs.YtpfknjpiknpiaaaGreatDoorQL
open Go.RowKit
set_option linter.unusedVariables false
def lstB : Nat → List Nat → List Nat
  | _, [] => []
  | _, [p] => [p]
  | b, p :: q :: r => if b % 64 = 56 then (b + 8) :: p :: lstB (b + 16) (q :: r) else p :: lstB (b + 8) (q :: r)
def segF : Nat → List Nat → List Sg
  | _, [] => []
  | left, p :: r => ⟨(p : Int), ((min 64 left : Nat) : Int)⟩ :: segF (left - min 64 left) r
def NumAt (l : List Nat) (b : Nat) (N : List Nat) : Prop := ∀ i, i < N.length → numE l ((b + 8 * i : Nat) : Int) = some (N[i]?.getD 0)
theorem NumAt.head {l : List Nat} {b x : Nat} {N : List Nat} (h : NumAt l b (x :: N)) : numE l (b : Int) = some x := by
  have := h 0 (by simp)
  simpa using this
theorem NumAt.tail {l : List Nat} {b x : Nat} {N : List Nat} (h : NumAt l b (x :: N)) : NumAt l (b + 8) N := fun i hi => by
  have := h (i + 1) (by simpa using hi)
  rw [show b + 8 * (i + 1) = b + 8 + 8 * i by omega] at this
  simpa using this
theorem goF_list (l : List Nat) : ∀ (ps : List Nat) (b left f : Nat), b % 8 = 0 → (∀ p ∈ ps, p % 64 = 0 ∧ p + 64 ≤ l.length) → ps.length = (left + 63) / 64 → NumAt l b (lstB b ps) → mu b left < f → goF l f b left = (0, segF left ps)
  | [], b, left, f, _, _, hl, _, hf => by
    have h0 : left = 0 := by simp at hl; omega
    subst h0
    cases f with
    | zero => omega
    | succ f => rw [goF_done]; rfl
  | [p], b, left, f, h8, hp, hl, hn, hf => by
    simp at hl
    have h0 : left ≠ 0 := by omega
    have h1 : left ≤ 64 := by omega
    have hm : min 64 left = left := Nat.min_eq_right h1
    obtain ⟨q1, q2⟩ := hp p (by simp)
    cases f with
    | zero => omega
    | succ f =>
      cases f with
      | zero => unfold mu at hf; omega
      | succ f =>
        rw [goF_seg h0 hn.head q1 (by omega) (by omega), hm, Nat.sub_self, goF_done]
        simp [segF, hm]
  | p :: q :: r, b, left, f, h8, hp, hl, hn, hf => by
    simp only [List.length_cons] at hl
    have h64 : 64 < left := by omega
    have h0 : left ≠ 0 := by omega
    have hm : min 64 left = 64 := Nat.min_eq_left (by omega)
    obtain ⟨q1, q2⟩ := hp p (by simp)
    have hp' : ∀ x ∈ q :: r, x % 64 = 0 ∧ x + 64 ≤ l.length := fun x hx => hp x (List.mem_cons_of_mem _ hx)
    have hl' : (q :: r).length = (left - 64 + 63) / 64 := by simp only [List.length_cons]; omega
    cases f with
    | zero => omega
    | succ f =>
      by_cases hb : b % 64 = 56
      · have e : lstB b (p :: q :: r) = (b + 8) :: p :: lstB (b + 16) (q :: r) := by rw [lstB, if_pos hb]
        rw [e] at hn
        have hn1 := hn.tail
        cases f with
        | zero => unfold mu at hf; omega
        | succ f =>
          rw [goF_on h0 hn.head (by omega) ⟨hb, h64⟩, goF_seg h0 hn1.head q1 (by omega) (by omega), hm, goF_list l (q :: r) (b + 8 + 8) (left - 64) f (by omega) hp' hl' hn1.tail (by unfold mu at hf ⊢; rw [if_pos hb] at hf; split <;> omega)]
          show _ = (0, (⟨(p : Int), ((min 64 left : Nat) : Int)⟩ : Sg) :: segF (left - min 64 left) (q :: r))
          rw [hm]
      · have e : lstB b (p :: q :: r) = p :: lstB (b + 8) (q :: r) := by rw [lstB, if_neg hb]
        rw [e] at hn
        rw [goF_seg h0 hn.head q1 (fun c => hb c.1) (by omega), hm, goF_list l (q :: r) (b + 8) (left - 64) f (by omega) hp' hl' hn.tail (by unfold mu at hf ⊢; rw [if_neg hb] at hf; split <;> omega)]
        show _ = (0, (⟨(p : Int), ((min 64 left : Nat) : Int)⟩ : Sg) :: segF (left - min 64 left) (q :: r))
        rw [hm]
def layN : List Nat → Nat → List Nat → List Nat
  | l, _, [] => l
  | l, a, x :: r => layN (lay l a (low 8 x)) (a + 8) r
theorem layN_len : ∀ (N : List Nat) (l : List Nat) (a : Nat), a + 8 * N.length ≤ l.length → (layN l a N).length = l.length
  | [], l, a, _ => rfl
  | x :: r, l, a, h => by
    simp only [List.length_cons] at h
    have h1 : (lay l a (low 8 x)).length = l.length := lay_len (by rw [low_len]; omega)
    show (layN (lay l a (low 8 x)) (a + 8) r).length = _
    rw [layN_len r _ _ (by rw [h1]; omega), h1]
theorem layN_far : ∀ (N : List Nat) (l : List Nat) (a j n : Nat), a + 8 * N.length ≤ l.length → j + n ≤ a → cut (layN l a N) j n = cut l j n
  | [], l, a, j, n, _, _ => rfl
  | x :: r, l, a, j, n, h, hj => by
    simp only [List.length_cons] at h
    have h1 : (lay l a (low 8 x)).length = l.length := lay_len (by rw [low_len]; omega)
    show cut (layN (lay l a (low 8 x)) (a + 8) r) j n = _
    rw [layN_far r _ _ j n (by rw [h1]; omega) (by omega)]
    exact lay_far (by rw [low_len]; omega) (by omega) (.inr hj)
theorem layN_at : ∀ (N : List Nat) (l : List Nat) (a i : Nat), a + 8 * N.length ≤ l.length → i < N.length → cut (layN l a N) (a + 8 * i) 8 = low 8 (N[i]?.getD 0)
  | [], l, a, i, _, hi => by simp at hi
  | x :: r, l, a, 0, h, _ => by
    simp only [List.length_cons] at h
    have h1 : (lay l a (low 8 x)).length = l.length := lay_len (by rw [low_len]; omega)
    show cut (layN (lay l a (low 8 x)) (a + 8) r) (a + 0) 8 = low 8 x
    rw [show a + 0 = a from rfl, layN_far r _ _ a 8 (by rw [h1]; omega) (Nat.le_refl _)]
    have := lay_cut (l := l) (i := a) (xs := low 8 x) (by rw [low_len]; omega)
    rw [low_len] at this
    exact this
  | x :: r, l, a, i + 1, h, hi => by
    simp only [List.length_cons] at h hi
    have h1 : (lay l a (low 8 x)).length = l.length := lay_len (by rw [low_len]; omega)
    have := layN_at r (lay l a (low 8 x)) (a + 8) i (by rw [h1]; omega) (by omega)
    rw [show a + 8 * (i + 1) = a + 8 + 8 * i by omega]
    show cut (layN (lay l a (low 8 x)) (a + 8) r) (a + 8 + 8 * i) 8 = low 8 ((x :: r)[i + 1]?.getD 0)
    rw [this, List.getElem?_cons_succ]
theorem numAt_layN (N : List Nat) (l : List Nat) (a : Nat) (h : a + 8 * N.length ≤ l.length) (hN : ∀ i, i < N.length → N[i]?.getD 0 ≤ 4611686018427387904) : NumAt (layN l a N) a N := fun i hi => by
  have e := layN_at N l a i h hi
  have hx := hN i hi
  have en : num (cut (layN l a N) (a + 8 * i) 8) = N[i]?.getD 0 := by rw [e]; exact num_low 8 _ (by omega)
  have hf : fits (layN l a N).length ((a + 8 * i : Nat) : Int) 8 := by rw [layN_len N l a h]; exact ⟨by omega, by omega, by omega⟩
  unfold numE
  rw [Int.toNat_natCast, en, if_pos ⟨hf, hx⟩]
theorem lstB_le (M : Nat) : ∀ (ps : List Nat) (b : Nat), (∀ p ∈ ps, p ≤ M) → ∀ i, i < (lstB b ps).length → (lstB b ps)[i]?.getD 0 ≤ max M (b + 8 * (lstB b ps).length)
  | [], b, _, i, hi => by simp [lstB] at hi
  | [p], b, hp, i, hi => by
    simp [lstB] at hi ⊢
    subst hi
    have := hp p (by simp)
    simp; omega
  | p :: q :: r, b, hp, i, hi => by
    have h1 := hp p (by simp)
    by_cases hb : b % 64 = 56
    · have e : lstB b (p :: q :: r) = (b + 8) :: p :: lstB (b + 16) (q :: r) := by rw [lstB, if_pos hb]
      rw [e] at hi ⊢
      match i, hi with
      | 0, _ => simp; omega
      | 1, _ => simp; omega
      | i + 2, hi =>
        have := lstB_le M (q :: r) (b + 16) (fun x hx => hp x (List.mem_cons_of_mem _ hx)) i (by simpa using hi)
        simp only [List.length_cons] at this ⊢
        simp only [List.getElem?_cons_succ]
        omega
    · have e : lstB b (p :: q :: r) = p :: lstB (b + 8) (q :: r) := by rw [lstB, if_neg hb]
      rw [e] at hi ⊢
      match i, hi with
      | 0, _ => simp; omega
      | i + 1, hi =>
        have := lstB_le M (q :: r) (b + 8) (fun x hx => hp x (List.mem_cons_of_mem _ hx)) i (by simpa using hi)
        simp only [List.length_cons] at this ⊢
        simp only [List.getElem?_cons_succ]
        omega
theorem lstB_len : ∀ (ps : List Nat) (b : Nat), (lstB b ps).length ≤ 2 * ps.length
  | [], b => by simp [lstB]
  | [p], b => by simp [lstB]
  | p :: q :: r, b => by
    have h1 := lstB_len (q :: r) (b + 8)
    have h2 := lstB_len (q :: r) (b + 16)
    rw [lstB]
    split <;> simp only [List.length_cons] at * <;> omega
theorem segF_len : ∀ (ps : List Nat) (left : Nat), (segF left ps).length = ps.length
  | [], _ => rfl
  | p :: r, left => by simp [segF, segF_len r]
theorem segF_at : ∀ (ps : List Nat) (left i : Nat), i < ps.length → (gS (segF left ps) i).p = ((ps[i]?.getD 0 : Nat) : Int)
  | [], _, i, h => by simp at h
  | p :: r, left, 0, _ => rfl
  | p :: r, left, i + 1, h => by
    have := segF_at r (left - min 64 left) i (by simpa using h)
    show (gS (segF (left - min 64 left) r) i).p = _
    rw [this]
    simp
def lstW : Nat → Int → List Int → List Int
  | 0, _, ps => ps
  | f + 1, a, ps => if ps.length ≤ 8 then ps else ps.take 7 ++ wrap64 (a + 64) :: lstW f (wrap64 (a + 64)) (ps.drop 7)
theorem lstW_end {f : Nat} {a : Int} {ps : List Int} (h : ps.length ≤ 8) : lstW f a ps = ps := by
  cases f with
  | zero => rfl
  | succ f => rw [lstW, if_pos h]
theorem lstW_more {f : Nat} {a : Int} {ps : List Int} (h : ¬ ps.length ≤ 8) : lstW (f + 1) a ps = ps.take 7 ++ wrap64 (a + 64) :: lstW f (wrap64 (a + 64)) (ps.drop 7) := by rw [lstW, if_neg h]
theorem lstW_len : ∀ (f : Nat) (a : Int) (ps : List Int), (lstW f a ps).length ≤ 2 * ps.length
  | 0, a, ps => by show ps.length ≤ _; omega
  | f + 1, a, ps => by
    by_cases h : ps.length ≤ 8
    · rw [lstW_end h]; omega
    · rw [lstW_more h]
      have := lstW_len f (wrap64 (a + 64)) (ps.drop 7)
      rw [List.length_drop] at this
      simp only [List.length_append, List.length_take, List.length_cons]
      omega
theorem lstB_end : ∀ (ps : List Nat) (b : Nat), b % 8 = 0 → 8 * ps.length ≤ 64 - b % 64 → lstB b ps = ps
  | [], b, _, _ => rfl
  | [p], b, _, _ => rfl
  | p :: q :: r, b, h8, h => by
    simp only [List.length_cons] at h
    have h1 : ¬ b % 64 = 56 := by omega
    rw [lstB, if_neg h1, lstB_end (q :: r) (b + 8) (by omega) (by simp only [List.length_cons]; omega)]
theorem lstB_more : ∀ (j : Nat) (ps : List Nat) (b : Nat), b % 8 = 0 → 8 * j = 56 - b % 64 → j + 1 < ps.length → lstB b ps = ps.take j ++ (b + 8 * j + 8) :: lstB (b + 8 * j + 8) (ps.drop j)
  | 0, [], b, _, _, h => by simp at h
  | 0, [p], b, _, _, h => by simp at h
  | 0, p :: q :: r, b, h8, hj, h => by
    have h1 : b % 64 = 56 := by omega
    rw [lstB, if_pos h1]
    simp only [List.take_zero, List.nil_append, List.drop_zero, Nat.mul_zero, Nat.add_zero]
    have h2 : ¬ (b + 8) % 64 = 56 := by omega
    rw [lstB, if_neg h2]
  | j + 1, [], b, _, _, h => by simp at h
  | j + 1, [p], b, _, _, h => by simp at h
  | j + 1, p :: q :: r, b, h8, hj, h => by
    have h1 : ¬ b % 64 = 56 := by omega
    have ih := lstB_more j (q :: r) (b + 8) (by omega) (by omega) (by simp only [List.length_cons] at h ⊢; omega)
    rw [lstB, if_neg h1, ih, List.take_succ_cons, List.drop_succ_cons, List.cons_append, show b + 8 + 8 * j + 8 = b + 8 * (j + 1) + 8 by omega]
theorem lstW_eq : ∀ (f : Nat) (a : Nat) (ps : List Nat), ps.length ≤ 7 * f + 8 → a % 64 = 0 → a + 64 * f ≤ 4611686018427387904 → lstW f (a : Int) (ps.map Int.ofNat) = (lstB a ps).map Int.ofNat
  | 0, a, ps, h, h64, _ => by
    rw [lstB_end ps a (by omega) (by omega)]
    rfl
  | f + 1, a, ps, h, h64, hs => by
    by_cases hl : ps.length ≤ 8
    · rw [lstW_end (by simpa using hl), lstB_end ps a (by omega) (by omega)]
    · have hw : wrap64 ((a : Int) + 64) = ((a + 64 : Nat) : Int) := by unfold wrap64; omega
      rw [lstW_more (by simpa using hl), hw, ← List.map_drop, lstW_eq f (a + 64) (ps.drop 7) (by rw [List.length_drop]; omega) (by omega) (by omega), lstB_more 7 ps a (by omega) (by omega) (by omega), show a + 8 * 7 + 8 = a + 64 by omega, List.map_append, List.map_cons, List.map_take]
      rfl
end Go.Proofs.YtpfknjpiknpiaaaGreatDoorQL
namespace Go.Proofs.YtpfknjpiknpiaaaGreatDoorQL
open Go.Proofs.YtpfknjpiknpiaaaGreatDoorQ
open Go.RowKit
set_option linter.unusedVariables false
def ivI (x : Int) : Value := .int .i64 x
theorem infoInt : ((Al.progOf Tryz.prog).info? 3).map (fun i => (i.zero, i.size, i.bytes)) = some (some (.int .i64 0), 1, 8) := by kernel_rfl
def IL (w : World) (a : Option Addr) (l : List Int) : Prop := l = [] ∨ ∃ g off, a = some ⟨g, off, none⟩ ∧ ∀ i, i < l.length → w.cell? ⟨g, off + i, none⟩ = some (.int .i64 (gI l i))
theorem IL.some_of {w : World} {a : Option Addr} {l : List Int} (h : IL w a l) {i : Nat} (hi : i < l.length) : ∃ g off, a = some ⟨g, off, none⟩ ∧ ∀ i, i < l.length → w.cell? ⟨g, off + i, none⟩ = some (.int .i64 (gI l i)) := by
  rcases h with h | h
  · rw [h] at hi; simp at hi
  · exact h
theorem IL.keep {S : Nat → Prop} {w w' : World} {a : Option Addr} {l : List Int} (h : IL w a l) (hk : Keep S w w') (hs : ∀ b, blk a b → b < w.heap.size → ¬ S b) : IL w' a l := by
  rcases h with h | ⟨g, off, rfl, h⟩
  · exact Or.inl h
  · exact Or.inr ⟨g, off, rfl, fun i hi => (hk.cell (p := ⟨g, off + i, none⟩) (World.block_lt_of_cell? w _ (h i hi)) (hs g ⟨_, rfl, rfl⟩ (World.block_lt_of_cell? w _ (h i hi)))).trans (h i hi)⟩
theorem IL.below {w w' : World} {a : Option Addr} {l : List Int} (h : IL w a l) (hb : Below w.heap.size w w') : IL w' a l := h.keep (S := fun _ => False) (Keep.of_below hb) (fun _ _ _ e => e)
theorem gI_take {l : List Int} {k i : Nat} (h : i < k) : gI (l.take k) i = gI l i := by unfold gI; rw [List.getElem?_take, if_pos h]
theorem gI_drop {l : List Int} {k i : Nat} : gI (l.drop k) i = gI l (k + i) := by unfold gI; rw [List.getElem?_drop]
theorem IL.take {w : World} {a : Option Addr} {l : List Int} (h : IL w a l) (k : Nat) : IL w a (l.take k) := by
  rcases h with h | ⟨g, off, rfl, h⟩
  · exact Or.inl (by rw [h, List.take_nil])
  · refine Or.inr ⟨g, off, rfl, fun i hi => ?_⟩
    rw [List.length_take] at hi
    rw [gI_take (by omega)]
    exact h i (by omega)
theorem IL.drop {w : World} {a : Option Addr} {l : List Int} {cap : Nat} (h : IL w a l) (k : Nat) (hc : l.length ≤ cap) : IL w (dropA a cap k) (l.drop k) := by
  by_cases hk : k < l.length
  · rcases h with h | ⟨g, off, rfl, h⟩
    · rw [h] at hk; simp at hk
    · refine Or.inr ⟨g, off + k, ?_, fun i hi => ?_⟩
      · unfold dropA
        rw [if_neg (by omega)]
        simp [Go.WideShapes.add_plain]
      · rw [List.length_drop] at hi
        rw [gI_drop, Nat.add_assoc]
        exact h (k + i) (by omega)
  · exact Or.inl (List.drop_eq_nil_of_le (by omega))
def OwnI (w : World) (base : Nat) (a : Option Addr) (cap : Nat) (l : List Int) : Prop := w.ownsRow base 3 1 (.slice a l.length cap) l.length (l.map ivI)
theorem OwnI.nil (w : World) (base : Nat) : OwnI w base none 0 [] := ⟨rfl, Or.inl ⟨rfl, rfl⟩⟩
theorem OwnI.parts {w : World} {base cap : Nat} {a : Option Addr} {l : List Int} (h : OwnI w base a cap l) :
    (a = none ∧ cap = 0 ∧ l = []) ∨ ∃ g cur, a = some ⟨g, 0, none⟩ ∧ base ≤ g ∧ w.heap[g]? = some (.cells cur 3 (0, 0)) ∧ l.length ≤ cap ∧ cap ≤ maxLen ∧ cur.size = cap ∧ cur.toList.take l.length = l.map ivI := by
  rcases h.2 with ⟨h2, h3⟩ | ⟨g, cap', cur, hv, r1, r2, r3, r4, r5, r6⟩
  · simp at h2
    exact Or.inl ⟨h2.1, h2.2.2, h2.2.1⟩
  · simp at hv
    obtain ⟨rfl, rfl⟩ := hv
    exact Or.inr ⟨g, cur, rfl, r1, r2, r3, r4, by simpa using r5, by simpa using r6⟩
theorem OwnI.il {w : World} {base cap : Nat} {a : Option Addr} {l : List Int} (h : OwnI w base a cap l) : IL w a l := by
  rcases h.parts with ⟨_, _, h⟩ | ⟨g, cur, rfl, h1, h2, h3, h4, h5, h6⟩
  · exact Or.inl h
  · refine Or.inr ⟨g, 0, rfl, fun i hi => ?_⟩
    have e : (cur.toList.take l.length)[i]? = (l.map ivI)[i]? := by rw [h6]
    rw [List.getElem?_take, if_pos hi, List.getElem?_map, List.getElem?_eq_getElem hi] at e
    unfold gI
    rw [List.getElem?_eq_getElem hi, Nat.zero_add]
    simp only [World.cell?, h2]
    rw [← Array.getElem?_toList]
    simpa [ivI] using e
theorem OwnI.blk {w : World} {base cap : Nat} {a : Option Addr} {l : List Int} (h : OwnI w base a cap l) {b : Nat} (hb : YtpfknjpiknpiaaaGreatDoorQL.blk a b) : base ≤ b ∧ b < w.heap.size := by
  obtain ⟨x, rfl, rfl⟩ := hb
  rcases h.parts with ⟨e, _, _⟩ | ⟨g, cur, e, h1, h2, _⟩
  · cases e
  · cases e
    exact ⟨h1, heap_lt h2⟩
theorem OwnI.keep {S : Nat → Prop} {w w' : World} {base cap : Nat} {a : Option Addr} {l : List Int} (h : OwnI w base a cap l) (hk : Keep S w w') (hs : ∀ b, YtpfknjpiknpiaaaGreatDoorQL.blk a b → ¬ S b) : OwnI w' base a cap l := by
  refine ⟨h.1, ?_⟩
  rcases h.2 with h2 | ⟨g, cap', cur, hv, r1, r2, r3⟩
  · exact Or.inl h2
  · have e : a = some ⟨g, 0, none⟩ := by simp at hv; exact hv.1
    exact Or.inr ⟨g, cap', cur, hv, r1, by rw [hk.block g (heap_lt r2) (hs g ⟨_, e, rfl⟩)]; exact r2, r3⟩
theorem OwnI.below {w w' : World} {base cap : Nat} {a : Option Addr} {l : List Int} (h : OwnI w base a cap l) (hb : Below w.heap.size w w') : OwnI w' base a cap l := h.keep (S := fun _ => False) (Keep.of_below hb) (fun _ _ e => e)
theorem one_ivI (l : List Int) : ∀ u ∈ l.map ivI, u.oneCell' = true := by
  intro u hu
  obtain ⟨x, _, rfl⟩ := List.mem_map.1 hu
  rfl
theorem newsI {w : World} {b off : Nat} {l : List Int} (hc : ∀ i, i < l.length → w.cell? ⟨b, off + i, none⟩ = some (.int .i64 (gI l i))) : ∀ j u, (l.map ivI)[j]? = some u → w.cell? ((⟨b, off, none⟩ : Addr).add j) = some u := by
  intro j u hj
  have hl : j < l.length := by
    have := (List.getElem?_eq_some_iff.1 hj).1
    simpa using this
  rw [List.getElem?_map, List.getElem?_eq_getElem hl] at hj
  have e := hc j hl
  unfold gI at e
  rw [List.getElem?_eq_getElem hl] at e
  simp only [Option.map_some, Option.some.injEq] at hj
  subst hj
  have hadd : (⟨b, off, none⟩ : Addr).add j = ⟨b, off + j, none⟩ := by unfold Addr.add; split <;> simp_all
  rw [hadd, e]
  rfl
theorem app_stepI {ops : Array Oper} {rest : List Oper} {o : Oper} {a : Act} {w : World} {Q : Exit → Act → World → Prop} (hgd : o.guard = none) (s x : Operand)
    (ho : o.op = .call { callee := .builtin .append, args := #[s, x], argTypes := #[22, 22] }) (base : Nat) (a0 : Option Addr) (cap0 : Nat) (ys : List Int) (hs : a.eval s = .slice a0 ys.length cap0) (hown : OwnI w base a0 cap0 ys)
    (sa : Option Addr) (n c : Nat) (zs : List Int) (hn : zs.length = n) (hx : a.eval x = .slice sa n c) (hnil : sa = none → c = 0) (hL : IL w sa zs) (rs : List Int) (hrs : rs = ys ++ zs) (hb : rs.length * 8 ≤ 140737488355328) (hbase : base ≤ w.heap.size)
    (h : ∀ a1 cap1 w', OwnI w' base a1 cap1 rs → Keep (blk a0) w w' → wpList (Al.progOf Tryz.prog) ops Q rest (a.put o.dst (.slice a1 rs.length cap1)) w') : wpList (Al.progOf Tryz.prog) ops Q (o :: rest) a w := by
  obtain ⟨i0, hi, hz0, hz1, hz2⟩ := info_parts infoInt
  subst hrs hn
  rw [List.length_append] at hb
  have fin : ∀ v' w', w'.ownsRow base 3 1 v' (ys.length + zs.length) (ys.map ivI ++ zs.map ivI) → w.grownBy w' (Value.slice a0 ys.length cap0).ownBlock → wpList (Al.progOf Tryz.prog) ops Q rest (a.put o.dst v') w' := by
    intro v' w' h1 h2
    have hv : ∃ a1 cap1, v' = .slice a1 (ys ++ zs).length cap1 := by
      rcases h1.2 with ⟨e, e2⟩ | ⟨g, cap', cur, e, _⟩
      · exact ⟨none, 0, by rw [e, List.length_append, e2]⟩
      · exact ⟨_, cap', by rw [e, List.length_append]⟩
    obtain ⟨a1, cap1, rfl⟩ := hv
    refine h a1 cap1 w' ?_ (keep_grown h2)
    unfold OwnI
    rw [List.map_append, List.length_append]
    rw [List.length_append] at h1
    exact h1
  have own' : w.ownsRow base 3 1 (.slice a0 ys.length cap0) ys.length (ys.map ivI) := hown
  cases hsa : sa with
  | none =>
    subst hsa
    have hz : zs = [] := by
      rcases hL with h | ⟨b, off, e, _⟩
      · exact h
      · cases e
    subst hz
    have hc0 := hnil rfl
    subst hc0
    refine wpList_append_own_none hgd s x 22 ho base 3 i0 1 Al.underlying22 hi _ _ _ hs own' hx ?_
    exact fin _ w (by simpa using own') ⟨rfl, rfl, rfl, Nat.le_refl _, fun _ _ _ => rfl⟩
  | some ad =>
    subst hsa
    refine wpList_append_own _ hgd s x 22 ho base 3 i0 (.int .i64 0) 1 8 Al.underlying22 hi hz0 hz1 hz2 rfl (by decide) _ _ _ hs own' ad zs.length c (zs.map ivI) hx (by simp) ?_ (one_ivI zs) (by unfold maxLen; omega) (by omega) hbase (fun v' w' h1 h2 _ => fin v' w' h1 h2)
    rcases hL with h | ⟨b, off, e, hc⟩
    · subst h
      intro j u hj
      simp at hj
    · cases e
      exact newsI hc
theorem sliceI_to (a : Option Addr) (n cap p : Nat) (h : p ≤ cap) (w : World) : (Instr.slice 22 (.slice a n cap) none (some (.int .i64 (p : Nat))) none).run (Al.progOf Tryz.prog) w = .ok (.slice a p cap) w := by
  have hu : (Al.progOf Tryz.prog).underlying 22 = some (.slice ((Al.progOf Tryz.prog).elem 22)) := by kernel_rfl
  have hs : (sizeOf ((Al.progOf Tryz.prog).elem 22)).run (Al.progOf Tryz.prog) w = .ok 1 w := by kernel_rfl
  rw [run_slice_h w 22 _ n cap hu .i64 (p : Int) (by omega) (by omega), hs]
  have e : a.map (·.add 0) = a := by
    cases a with
    | none => rfl
    | some x => cases x; simp [Addr.add]
  simp [Result.andThen, sliced, e]
theorem sliceI_from (a : Option Addr) (n cap l : Nat) (h : l ≤ n) (hc : n ≤ cap) (w : World) : (Instr.slice 22 (.slice a n cap) (some (.int .i64 (l : Nat))) none none).run (Al.progOf Tryz.prog) w = .ok (.slice (dropA a cap l) (n - l) (cap - l)) w := by
  have hu : (Al.progOf Tryz.prog).underlying 22 = some (.slice ((Al.progOf Tryz.prog).elem 22)) := by kernel_rfl
  have hs : (sizeOf ((Al.progOf Tryz.prog).elem 22)).run (Al.progOf Tryz.prog) w = .ok 1 w := by kernel_rfl
  rw [run_slice_l w 22 _ n cap hu .i64 (l : Int) (by omega) (by omega), hs]
  simp [Result.andThen, sliced, dropA]
set_option maxHeartbeats 800000 in
theorem pagesOf_any (n : Nat) (w : World) (h : n ≤ 1048576) : Calls (Al.progOf Tryz.prog) 15 #[.int .i64 (n : Nat)] w fun e w' => e = .returned (.int .i64 (((n + 63) / 64 : Nat) : Int)) ∧ w = w' := by
  have e1 : ((n : Int) + 64 - 1) / 64 = (((n + 63) / 64 : Nat) : Int) := by omega
  generalize (n + 63) / 64 = q at *
  go_enter Al.func15, Tryz.ntmps15
  go_wp2
  go_ret
  exact ⟨ret_int e1, rfl⟩
def areF : List Int → Bool
  | [] => true
  | p :: r => decide (pageA p) && areF r
theorem areF_at : ∀ {L : List Int}, areF L = true → ∀ k, k < L.length → pageA (gI L k)
  | [], _, k, h => by simp at h
  | s :: r, h, 0, _ => by simp only [areF, Bool.and_eq_true, decide_eq_true_eq] at h; exact h.1
  | s :: r, h, k + 1, hk => by
    simp only [areF, Bool.and_eq_true] at h
    exact areF_at h.2 k (by simpa using hk)
theorem areF_drop {L : List Int} {k : Nat} (h : k < L.length) : areF (L.drop k) = (decide (pageA (gI L k)) && areF (L.drop (k + 1))) := by
  rw [List.drop_eq_getElem_cons h]
  unfold gI
  rw [List.getElem?_eq_getElem h]
  rfl
set_option maxRecDepth 20000 in
set_option maxHeartbeats 1600000 in
theorem are_some (g off cap : Nat) (L : List Int) (w : World) (hat : ∀ i, i < L.length → w.cell? ⟨g, off + i, none⟩ = some (.int .i64 (gI L i))) (hlen : L.length ≤ 1048576) :
    Calls (Al.progOf Tryz.prog) 16 #[.slice (some ⟨g, off, none⟩) L.length cap] w fun e w' => e = .returned (.bool (areF L)) ∧ w = w' := by
  have HA : Hid (∀ i, i < L.length → w.cell? ⟨g, off + i, none⟩ = some (.int .i64 (gI L i))) := hat
  clear hat
  go_enter Al.func16, Tryz.ntmps16
  go_wp2
  go_loop [7] (fun j => ∃ k : Nat, k ≤ L.length ∧ j = .int .i64 k ∧ Hid (areF L = areF (L.drop k))) (fun j => L.length - (intOf j).toNat)
  case atStart => exact ⟨0, Nat.zero_le _, rfl, rfl⟩
  case round =>
    obtain ⟨k, hk, rfl, hR⟩ := hrel
    by_cases hlt : k < L.length
    · have c0 := HA.out k hlt
      have k0 : (0 : Int) ≤ (k : Int) := by omega
      have k1 : (k : Int) < (L.length : Int) := by omega
      have HP := isPage_any (gI L k) w
      have HS : Hid (areF L = (decide (pageA (gI L k)) && areF (L.drop (k + 1)))) := by show _ = _; rw [hR.out, areF_drop hlt]
      by_cases hf : pageA (gI L k)
      · rw [decide_eq_true hf] at HP HS
        have HE : Hid (areF L = areF (L.drop (k + 1))) := by show _ = _; rw [HS.out, Bool.true_and]
        clear hf HS hR HA
        generalize gI L k = P at *
        go_wp2_with fail
        refine HP.mono ?_
        rintro e w2 ⟨rfl, rfl⟩
        clear HP
        go_wp2
        go_round
        case rel => exact ⟨k + 1, by omega, by go_num, HE.out⟩
        case measure => simp [intOf]; omega
      · rw [decide_eq_false hf] at HP HS
        have HE : Hid (areF L = false) := by show _ = _; rw [HS.out, Bool.false_and]
        clear hf HS hR HA
        generalize gI L k = P at *
        go_wp2_with fail
        refine HP.mono ?_
        rintro e w2 ⟨rfl, rfl⟩
        clear HP
        go_wp2
        go_ret
        exact ⟨by rw [HE.out]; rfl, rfl⟩
    · obtain rfl : k = L.length := by omega
      have HE : Hid (areF L = true) := by show _ = _; rw [hR.out, List.drop_length]; rfl
      clear hlt hR HA
      go_wp2
      go_ret
      exact ⟨by rw [HE.out]; rfl, rfl⟩
def inF (N : Nat) : List Int → Bool
  | [] => true
  | p :: r => decide (fits N p 64) && inF N r
theorem inF_at {N : Nat} : ∀ {L : List Int}, inF N L = true → ∀ k, k < L.length → fits N (gI L k) 64
  | [], _, k, h => by simp at h
  | s :: r, h, 0, _ => by simp only [inF, Bool.and_eq_true, decide_eq_true_eq] at h; exact h.1
  | s :: r, h, k + 1, hk => by
    simp only [inF, Bool.and_eq_true] at h
    exact inF_at h.2 k (by simpa using hk)
theorem inF_drop {N : Nat} {L : List Int} {k : Nat} (h : k < L.length) : inF N (L.drop k) = (decide (fits N (gI L k) 64) && inF N (L.drop (k + 1))) := by
  rw [List.drop_eq_getElem_cons h]
  unfold gI
  rw [List.getElem?_eq_getElem h]
  rfl
set_option maxRecDepth 20000 in
set_option maxHeartbeats 1600000 in
theorem in_some (mb hb : Nat) (l : List Nat) (g off cap : Nat) (L : List Int) (w : World) (h : MW w mb hb l) (hat : ∀ i, i < L.length → w.cell? ⟨g, off + i, none⟩ = some (.int .i64 (gI L i))) (hlen : L.length ≤ 1048576) (hok : ∀ i, i < L.length → gI L i ≤ 9223372036854775807) :
    Calls (Al.progOf Tryz.prog) 18 #[.pointer (some ⟨mb, 0, none⟩), .slice (some ⟨g, off, none⟩) L.length cap] w fun e w' => e = .returned (.bool (inF l.length L)) ∧ Below w.heap.size w w' := by
  have HA : Hid (∀ wr, Below w.heap.size w wr → ∀ i, i < L.length → wr.cell? ⟨g, off + i, none⟩ = some (.int .i64 (gI L i))) := fun wr hb i hi => (hb.cell (p := ⟨g, off + i, none⟩) (World.block_lt_of_cell? w _ (hat i hi))).trans (hat i hi)
  have HM : Hid (∀ wr, Below w.heap.size w wr → MW wr mb hb l) := fun wr hb => h.below hb
  have HK : Hid (∀ i, i < L.length → gI L i ≤ 9223372036854775807) := hok
  clear h hat hok
  go_enter Al.func18, Tryz.ntmps18
  go_wp2
  go_loopw [9] (fun j wr => ∃ k : Nat, k ≤ L.length ∧ j = .int .i64 k ∧ Hid (Below w.heap.size w wr ∧ inF l.length L = inF l.length (L.drop k))) (fun j _ => L.length - (intOf j).toNat)
  case atStart => exact ⟨0, Nat.zero_le _, rfl, Below.refl _ _, rfl⟩
  case round =>
    obtain ⟨k, hk, rfl, hR⟩ := hrel
    by_cases hlt : k < L.length
    · have c0 := HA.out wr hR.out.1 k hlt
      have k0 : (0 : Int) ≤ (k : Int) := by omega
      have k1 : (k : Int) < (L.length : Int) := by omega
      have HL := lies_any mb hb l (gI L k) 64 wr (HM.out _ hR.out.1) (HK.out k hlt)
      have HS : Hid (inF l.length L = (decide (fits l.length (gI L k) 64) && inF l.length (L.drop (k + 1)))) := by show _ = _; rw [hR.out.2, inF_drop hlt]
      have HB : Hid (Below w.heap.size w wr) := hR.out.1
      by_cases hf : fits l.length (gI L k) 64
      · rw [decide_eq_true hf] at HL HS
        have HE : Hid (inF l.length L = inF l.length (L.drop (k + 1))) := by show _ = _; rw [HS.out, Bool.true_and]
        clear hf HS hR
        generalize gI L k = P at *
        go_wp2_with fail
        refine HL.mono ?_
        rintro e w2 ⟨rfl, hb2⟩
        have HW : Hid (Below w.heap.size w w2) := HB.out.trans (hb2.mono HB.out.size)
        clear HL hb2 HB
        go_wp2
        go_roundw
        case rel => exact ⟨k + 1, by omega, by go_num, HW.out, HE.out⟩
        case measure => simp [intOf]; omega
      · rw [decide_eq_false hf] at HL HS
        have HE : Hid (inF l.length L = false) := by show _ = _; rw [HS.out, Bool.false_and]
        clear hf HS hR
        generalize gI L k = P at *
        go_wp2_with fail
        refine HL.mono ?_
        rintro e w2 ⟨rfl, hb2⟩
        have HW : Hid (Below w.heap.size w w2) := HB.out.trans (hb2.mono HB.out.size)
        clear HL hb2 HB
        go_wp2
        go_ret
        exact ⟨by rw [HE.out]; rfl, HW.out⟩
    · obtain rfl : k = L.length := by omega
      have HE : Hid (inF l.length L = true) := by show _ = _; rw [hR.out.2, List.drop_length]; rfl
      have HW : Hid (Below w.heap.size w wr) := hR.out.1
      clear hlt hR
      go_wp2
      go_ret
      exact ⟨by rw [HE.out]; rfl, HW.out⟩
def slLen : Value → Nat
  | .slice _ n _ => n
  | _ => 0
structure OI (w wr : World) (a1 : Option Addr) (c1 : Nat) (N : List Int) (pa : Option Addr) (pc : Nat) (ps : List Int) (R : List Int) (f : Nat) (x : Int) : Prop where
  bel : Below w.heap.size w wr
  own : OwnI wr w.heap.size a1 c1 N
  il : IL wr pa ps
  cap : ps.length ≤ pc
  nil : pa = none → pc = 0
  lt : ∀ b, blk pa b → b < w.heap.size ∨ ps = []
  eq : R = N ++ lstW f x ps
  few : ps.length ≤ 7 * f + 8
  len : N.length + 2 * ps.length ≤ 4096
theorem OI.ils {w wr w' : World} {a1 : Option Addr} {c1 : Nat} {N : List Int} {pa : Option Addr} {pc : Nat} {ps R : List Int} {f : Nat} {x : Int} (h : OI w wr a1 c1 N pa pc ps R f x) (hk : Keep (blk a1) wr w') : IL w' pa ps := by
  by_cases h0 : ps = []
  · exact Or.inl h0
  · refine h.il.keep hk (fun b hb hlt hc => ?_)
    rcases h.lt b hb with h1 | h1
    · have := (h.own.blk hc).1; omega
    · exact h0 h1
set_option maxRecDepth 20000 in
set_option maxHeartbeats 3200000 in
theorem listOf_any (x0 : Int) (pa : Option Addr) (pc : Nat) (ps : List Int) (w : World) (hI : IL w pa ps) (hcap : ps.length ≤ pc) (hnil : pa = none → pc = 0) (hl : ps.length ≤ 1000) :
    Calls (Al.progOf Tryz.prog) 40 #[.int .i64 x0, .slice pa ps.length pc] w fun e w' => ∃ a1 c1, e = .returned (.slice a1 (lstW 1000 x0 ps).length c1) ∧ OwnI w' w.heap.size a1 c1 (lstW 1000 x0 ps) ∧ Below w.heap.size w w' := by
  have H0 : Hid (OI w w none 0 [] pa pc ps (lstW 1000 x0 ps) 1000 x0) := by
    refine ⟨Below.refl _ _, OwnI.nil _ _, hI, hcap, hnil, fun b hb => ?_, by simp, by omega, by simp; omega⟩
    by_cases h0 : ps = []
    · exact .inr h0
    · left
      obtain ⟨g, off, e, hat⟩ := hI.some_of (List.length_pos_iff.2 h0)
      subst e
      obtain ⟨y, e, rfl⟩ := hb
      cases e
      exact World.block_lt_of_cell? w _ (hat 0 (List.length_pos_iff.2 h0))
  clear hI hcap hnil
  generalize lstW 1000 x0 ps = R at *
  go_enter Al.func40, Tryz.ntmps40
  go_wp2
  go_loopw [0, 1, 5] (fun xv pv nv wr => ∃ (x : Int) (pa1 : Option Addr) (pc1 : Nat) (ps1 : List Int) (a1 : Option Addr) (c1 : Nat) (N : List Int) (f : Nat), xv = .int .i64 x ∧ pv = .slice pa1 ps1.length pc1 ∧ nv = .slice a1 N.length c1 ∧ ps1.length ≤ 1000 ∧ Hid (OI w wr a1 c1 N pa1 pc1 ps1 R f x)) (fun _ pv _ _ => slLen pv)
  case atStart => exact ⟨x0, pa, pc, ps, none, 0, [], 1000, rfl, rfl, rfl, hl, H0.out⟩
  case round =>
    obtain ⟨x, pa1, pc1, ps1, a1, c1, N, f, rfl, rfl, rfl, hl1, hR⟩ := hrel
    clear H0
    by_cases h8 : ps1.length ≤ 8
    · have h8i : ¬ (8 : Int) < (ps1.length : Int) := by omega
      have HF : Hid (R = N ++ ps1 ∧ (N ++ ps1).length * 8 ≤ 140737488355328) := by
        have e : R = N ++ ps1 := by rw [hR.out.eq, lstW_end h8]
        have := hR.out.len
        exact ⟨e, by rw [List.length_append]; omega⟩
      go_wp2_with (at_builtin; refine app_stepI rfl (.tmp 21) (.tmp 22) rfl w.heap.size a1 c1 N (by rfl) hR.out.own pa1 ps1.length pc1 ps1 rfl (by rfl) hR.out.nil hR.out.il (N ++ ps1) rfl HF.out.2 hR.out.bel.size ?_)
      intro a2 c2 w2 hO hK
      have HE : Hid (OwnI w2 w.heap.size a2 c2 (N ++ ps1) ∧ Below w.heap.size w w2) := ⟨hO, hR.out.bel.trans (hK.below hR.out.bel.size (fun b hb => (hR.out.own.blk hb).1))⟩
      have HE2 : Hid (OwnI w2 w.heap.size a2 c2 R ∧ Below w.heap.size w w2 ∧ R.length = N.length + ps1.length) := by
        rw [HF.out.1]
        exact ⟨HE.out.1, HE.out.2, List.length_append⟩
      clear hO hK hR HF HE
      go_wp2
      go_ret
      exact ⟨a2, c2, by rw [HE2.out.2.2]; rfl, HE2.out.1, HE2.out.2.1⟩
    · have h8i : (8 : Int) < (ps1.length : Int) := by omega
      obtain ⟨f, rfl⟩ : ∃ f', f = f' + 1 := by
        have := hR.out.few
        exact ⟨f - 1, by omega⟩
      have hs1 : ∀ wz, (Instr.slice 22 (.slice pa1 ps1.length pc1) none (some (.int .i64 7)) none).run (Al.progOf Tryz.prog) wz = .ok (.slice pa1 7 pc1) wz := fun wz => sliceI_to pa1 ps1.length pc1 7 (by have := hR.out.cap; omega) wz
      have hs2 : ∀ wz, (Instr.slice 22 (.slice pa1 ps1.length pc1) (some (.int .i64 7)) none none).run (Al.progOf Tryz.prog) wz = .ok (.slice (dropA pa1 pc1 7) (ps1.length - 7) (pc1 - 7)) wz := fun wz => sliceI_from pa1 ps1.length pc1 7 (by omega) hR.out.cap wz
      obtain ⟨X, HXe⟩ : ∃ X, Hid (X = wrap64 (x + 64)) := ⟨_, rfl⟩
      obtain ⟨N2, HN2⟩ : ∃ N2, Hid (N2 = N ++ ps1.take 7) := ⟨_, rfl⟩
      obtain ⟨N3, HN3⟩ : ∃ N3, Hid (N3 = N2 ++ [X]) := ⟨_, rfl⟩
      have hXe : wrap64 (x + 64) = X := HXe.out.symm
      have HL : Hid (N2.length * 8 ≤ 140737488355328 ∧ N3.length * 8 ≤ 140737488355328 ∧ (ps1.take 7).length = 7) := by
        have := hR.out.len
        refine ⟨?_, ?_, ?_⟩ <;> (try rw [HN3.out]) <;> (try rw [HN2.out]) <;> simp only [List.length_append, List.length_take, List.length_cons, List.length_nil] <;> omega
      have HR : Hid (OI w wr a1 c1 N pa1 pc1 ps1 R (f + 1) x) := hR
      have HX : Hid (∀ w3 a3 c3, OwnI w3 w.heap.size a3 c3 N3 → Below w.heap.size w w3 → IL w3 pa1 ps1 → OI w w3 a3 c3 N3 (dropA pa1 pc1 7) (pc1 - 7) (ps1.drop 7) R f X) := fun w3 a3 c3 q1 q2 q3 => by
        refine ⟨q2, q1, q3.drop 7 hR.out.cap, by rw [List.length_drop]; have := hR.out.cap; omega, fun e => ?_, fun b hb => ?_, ?_, ?_, ?_⟩
        · unfold dropA at e
          split at e
          · omega
          · cases hp : pa1 with
            | none => have := hR.out.nil hp; omega
            | some y => rw [hp] at e; cases e
        · left
          obtain ⟨y, e, rfl⟩ := hb
          have hb2 : blk pa1 y.block := by
            unfold dropA at e
            split at e
            · exact ⟨y, e, rfl⟩
            · cases hp : pa1 with
              | none => rw [hp] at e; cases e
              | some z =>
                rw [hp] at e
                have e2 : z.add 7 = y := Option.some.inj e
                exact ⟨z, rfl, by rw [← e2]; unfold Addr.add; split <;> rfl⟩
          rcases hR.out.lt _ hb2 with h1 | h1
          · exact h1
          · rw [h1] at h8; simp at h8
        · rw [hR.out.eq, lstW_more h8, HN3.out, HN2.out, HXe.out]; simp
        · rw [List.length_drop]; have := hR.out.few; omega
        · have := hR.out.len
          rw [HN3.out, HN2.out]
          simp only [List.length_append, List.length_take, List.length_cons, List.length_nil, List.length_drop]
          omega
      have HILK : Hid (∀ w2 w3 a2 c2 (M : List Int), OwnI w2 w.heap.size a2 c2 M → IL w2 pa1 ps1 → ∀ w2', Below w2.heap.size w2 w2' → Keep (blk a2) w2' w3 → IL w3 pa1 ps1) := fun w2 w3 a2 c2 M q1 q2 w2' q3 q4 => by
        refine (q2.below q3).keep q4 (fun b hb hlt hc => ?_)
        rcases hR.out.lt b hb with h1 | h1
        · have := (q1.blk hc).1; omega
        · rw [h1] at h8; simp at h8
      clear hR
      go_wp2_with (at_builtin; refine app_stepI rfl (.tmp 11) (.tmp 13) rfl w.heap.size a1 c1 N (by rfl) HR.out.own pa1 7 pc1 (ps1.take 7) HL.out.2.2 (by rfl) HR.out.nil (HR.out.il.take 7) N2 HN2.out HL.out.1 HR.out.bel.size ?_)
      intro a2 c2 w2 hO hK
      have HE : Hid (OwnI w2 w.heap.size a2 c2 N2 ∧ Below w.heap.size w w2 ∧ IL w2 pa1 ps1) := ⟨hO, HR.out.bel.trans (hK.below HR.out.bel.size (fun b hb => (HR.out.own.blk hb).1)), HR.out.ils hK⟩
      have HLd : Hid ((ps1.drop 7).length = ps1.length - 7) := List.length_drop
      have HI1 : Hid (IL (w2.alloc (.cells #[.int .i64 X] 3)) (some ⟨w2.heap.size, 0, none⟩) [X]) := Or.inr ⟨w2.heap.size, 0, rfl, fun i hi => by simp at hi; subst hi; simp [gI]⟩
      clear hO hK HR HN2
      generalize dropA pa1 pc1 7 = pa2 at *
      go_wp2_with (at_builtin; refine app_stepI rfl (.tmp 15) (.tmp 17) rfl w.heap.size a2 c2 N2 (by rfl) (HE.out.1.below (alloc_below' w2 _)) (some ⟨w2.heap.size, 0, none⟩) 1 1 [X] rfl (by rfl) (fun e => by cases e) HI1.out N3 HN3.out HL.out.2.1 (Nat.le_trans HE.out.2.1.size (by simp)) ?_)
      intro a3 c3 w3 hO hK
      have hb3 : Below w2.heap.size w2 (w2.alloc (.cells #[.int .i64 X] 3)) := alloc_below' w2 _
      have HG : Hid (OI w w3 a3 c3 N3 pa2 (pc1 - 7) (ps1.drop 7) R f X) := by
        have hOw := HE.out.1.below hb3
        refine HX.out w3 a3 c3 hO ((HE.out.2.1.trans (hb3.mono HE.out.2.1.size)).trans (hK.below (Nat.le_trans HE.out.2.1.size hb3.size) (fun b hb => (hOw.blk hb).1))) ?_
        exact HILK.out w2 w3 a2 c2 _ HE.out.1 HE.out.2.2 _ hb3 hK
      clear hO hK HE HX hb3 HILK HN3 HI1
      go_wp2
      go_roundw
      case rel => exact ⟨X, pa2, pc1 - 7, ps1.drop 7, a3, c3, N3, f, rfl, by rw [HLd.out], rfl, by rw [HLd.out]; omega, HG.out⟩
      case measure => show ps1.length - 7 < ps1.length; omega
theorem gI_map (N : List Nat) {k : Nat} (h : k < N.length) : gI (N.map Int.ofNat) k = ((N[k]?.getD 0 : Nat) : Int) := by
  unfold gI
  rw [List.getElem?_map, List.getElem?_eq_getElem h]
  rfl
theorem layN_drop {l N : List Nat} {a k : Nat} (h : k < N.length) : layN l a (N.drop k) = layN (lay l a (low 8 (N[k]?.getD 0))) (a + 8) (N.drop (k + 1)) := by
  rw [List.drop_eq_getElem_cons h, List.getElem?_eq_getElem h]
  rfl
set_option maxRecDepth 20000 in
set_option maxHeartbeats 1600000 in
theorem writeList_no (mb hb : Nat) (l : List Nat) (x : Int) (pa : Option Addr) (pc : Nat) (ps : List Int) (w : World) (h : MW w mb hb l) (hI : IL w pa ps) (hcap : ps.length ≤ pc) (hnil : pa = none → pc = 0) (hl : ps.length ≤ 1000) (hx : x ≤ 9223372036854775807) (hf : ¬ fits l.length x ((8 * (lstW 1000 x ps).length : Nat) : Int)) :
    Calls (Al.progOf Tryz.prog) 19 #[.pointer (some ⟨mb, 0, none⟩), .int .i64 x, .slice pa ps.length pc] w fun e w' => e = .returned (.iface 54 (.int .i64 1)) ∧ Below w.heap.size w w' := by
  have HLo := listOf_any x pa pc ps w hI hcap hnil hl
  have hlen := lstW_len 1000 x ps
  have HLi : Hid (∀ wz, Below w.heap.size w wz → Calls (Al.progOf Tryz.prog) 39 #[.pointer (some ⟨mb, 0, none⟩), .agg #[.int .i64 x, .int .i64 ((8 * (lstW 1000 x ps).length : Nat) : Int)]] wz fun e w' => e = .returned (.bool false) ∧ Below w.heap.size w w') := fun wz hz => by
    have := lies_any mb hb l x ((8 * (lstW 1000 x ps).length : Nat) : Int) wz (h.below hz) hx
    rw [decide_eq_false hf] at this
    exact this.mono fun e w' ⟨q1, q2⟩ => ⟨q1, hz.trans (q2.mono hz.size)⟩
  clear h hI hcap hnil hf
  generalize lstW 1000 x ps = N at *
  obtain ⟨Z, hZ⟩ : ∃ Z : Nat, (8 : Int) * (N.length : Int) = (Z : Int) := ⟨8 * N.length, by omega⟩
  have HZ : Hid (8 * N.length = Z) := by show _ = _; omega
  rw [HZ.out] at HLi
  have hZb : Z ≤ 1000000 := by omega
  go_enter Al.func19, Tryz.ntmps19
  go_wp2_with fail
  refine HLo.mono ?_
  rintro e w1 ⟨a1, c1, rfl, hO, hb1⟩
  have HL1 := HLi.out w1 hb1
  clear HLo HLi hO hb1
  go_wp2_with fail
  refine HL1.mono ?_
  rintro e w2 ⟨rfl, hW⟩
  clear HL1
  go_wp2
  go_ret
  exact ⟨rfl, hW⟩
structure WI (w wr : World) (mb hb : Nat) (R : List Nat) (NB : List Nat) (L A k : Nat) (l : List Nat) : Prop where
  mw : MW wr mb hb l
  kp : Keep (fun b => b = hb) w wr
  len : l.length = L
  eq : R = layN l (A + 8 * k) (NB.drop k)
set_option maxRecDepth 20000 in
set_option maxHeartbeats 3200000 in
theorem writeList_yes (mb hb : Nat) (l : List Nat) (A : Nat) (pa : Option Addr) (pc : Nat) (ps : List Int) (NB : List Nat) (w : World) (h : MW w mb hb l) (hI : IL w pa ps) (hcap : ps.length ≤ pc) (hnil : pa = none → pc = 0) (hl : ps.length ≤ 1000) (hN : lstW 1000 (A : Nat) ps = NB.map Int.ofNat) (hle : ∀ i, i < NB.length → NB[i]?.getD 0 ≤ 4611686018427387904) (hf : A + 8 * NB.length ≤ l.length) :
    Calls (Al.progOf Tryz.prog) 19 #[.pointer (some ⟨mb, 0, none⟩), .int .i64 (A : Nat), .slice pa ps.length pc] w fun e w' => e = .returned .nilIface ∧ MW w' mb hb (layN l A NB) ∧ Keep (fun b => b = hb) w w' := by
  have HLo := listOf_any (A : Nat) pa pc ps w hI hcap hnil hl
  rw [hN] at HLo
  have hll := h.long
  obtain ⟨N, HNe⟩ : ∃ N : List Int, Hid (N = NB.map Int.ofNat) := ⟨_, rfl⟩
  rw [← HNe.out] at HLo
  have HNl : Hid (N.length = NB.length) := by rw [HNe.out]; exact List.length_map ..
  obtain ⟨Z, hZ⟩ : ∃ Z : Nat, (8 : Int) * (N.length : Int) = (Z : Int) := ⟨8 * N.length, by omega⟩
  have HLi : Hid (∀ wz, Below w.heap.size w wz → Calls (Al.progOf Tryz.prog) 39 #[.pointer (some ⟨mb, 0, none⟩), .agg #[.int .i64 (A : Nat), .int .i64 (Z : Nat)]] wz fun e w' => e = .returned (.bool true) ∧ Below w.heap.size w w' ∧ Below wz.heap.size wz w') := fun wz hz => by
    have := lies_any mb hb l (A : Nat) (Z : Nat) wz (h.below hz) (by omega)
    rw [decide_eq_true (show fits l.length (A : Nat) (Z : Nat) from ⟨by omega, by omega, by have := HNl.out; omega⟩)] at this
    exact this.mono fun e w' ⟨q1, q2⟩ => ⟨q1, hz.trans (q2.mono hz.size), q2⟩
  have hZb : Z ≤ 1000000 := by have := HNl.out; omega
  have HLe : Hid (∀ i, i < NB.length → NB[i]?.getD 0 ≤ 4611686018427387904) := hle
  have Hf : Hid (A + 8 * NB.length ≤ l.length ∧ l.length ≤ 16384 ∧ hb < w.heap.size) := ⟨hf, hll, h.lt.2⟩
  have H0 : Hid (∀ wz, Below w.heap.size w wz → WI w wz mb hb (layN l A NB) NB l.length A 0 l) := fun wz hz => ⟨h.below hz, Keep.of_below hz, rfl, by rw [Nat.mul_zero, Nat.add_zero, List.drop_zero]⟩
  clear h hI hcap hnil hN hf hle hll
  generalize layN l A NB = R at *
  go_enter Al.func19, Tryz.ntmps19
  go_wp2_with fail
  refine HLo.mono ?_
  rintro e w1 ⟨a1, c1, rfl, hO, hb1⟩
  have HL1 := HLi.out w1 hb1
  have HgB : Hid (∀ b, blk a1 b → b ≠ hb) := fun b hb' e => by have := (hO.blk hb').1; have := Hf.out.2.2; omega
  have HIl : Hid (∀ wz, Below w1.heap.size w1 wz → IL wz a1 N) := fun wz hz => hO.il.below hz
  clear HLo HLi hO hb1
  go_wp2_with fail
  refine HL1.mono ?_
  rintro e w2 ⟨rfl, hW, hW1⟩
  have H1 : Hid (WI w w2 mb hb R NB l.length A 0 l) := H0.out w2 hW
  have HO2 : Hid (∀ wz, Keep (fun b => b = hb) w wz → ∀ k, k < N.length → wz.heap.size = wz.heap.size) := fun _ _ _ _ => rfl
  have HIL : Hid (IL w2 a1 N) := HIl.out w2 hW1
  clear HL1 H0 hW hW1 HO2 HIl
  by_cases hn0 : N.length = 0
  · have HE : Hid (R = l) := by
      have e := H1.out.eq
      have : NB = [] := List.eq_nil_of_length_eq_zero (by have := HNl.out; omega)
      rw [this] at e
      exact e
    have HF : Hid (MW w2 mb hb R ∧ Keep (fun b => b = hb) w w2) := by rw [HE.out]; exact ⟨H1.out.mw, H1.out.kp⟩
    rw [hn0]
    clear H1 HE HIL HNe HNl
    go_wp2
    go_loop [25] (fun j => j = .int .i64 0) (fun _ => 0)
    case atStart => rfl
    case round =>
      subst hrel
      go_wp2
      go_ret
      exact ⟨rfl, HF.out⟩
  · obtain ⟨g, off, ha1, hat⟩ := HIL.out.some_of (show 0 < N.length by omega)
    subst ha1
    have HC : Hid (∀ wz, Keep (fun b => b = hb) w2 wz → ∀ k, k < N.length → wz.cell? ⟨g, off + k, none⟩ = some (.int .i64 ((NB[k]?.getD 0 : Nat) : Int))) := fun wz hk k hkk => by
      have h1 := hat k hkk
      have h2 : gI N k = ((NB[k]?.getD 0 : Nat) : Int) := by rw [HNe.out]; exact gI_map NB (by have := HNl.out; omega)
      rw [h2] at h1
      exact (hk.cell (p := ⟨g, off + k, none⟩) (World.block_lt_of_cell? w2 _ h1) (HgB.out g ⟨_, rfl, rfl⟩)).trans h1
    have H2 : Hid (WI w w2 mb hb R NB l.length A 0 l ∧ Keep (fun b => b = hb) w2 w2) := ⟨H1.out, Keep.refl _ _⟩
    clear hat HIL H1 HNe
    go_wp2
    go_loopw [25] (fun j wr => ∃ (k : Nat) (l' : List Nat), k ≤ N.length ∧ j = .int .i64 k ∧ Hid (WI w wr mb hb R NB l.length A k l' ∧ Keep (fun b => b = hb) w2 wr)) (fun j _ => N.length - (intOf j).toNat)
    case atStart => exact ⟨0, l, Nat.zero_le _, rfl, H2.out⟩
    case round =>
      obtain ⟨k, l', hk, rfl, hR⟩ := hrel
      clear H2
      by_cases hlt : k < N.length
      · have c0 := HC.out wr hR.out.2 k hlt
        have k0 : (0 : Int) ≤ (k : Int) := by omega
        have k1 : (k : Int) < (N.length : Int) := by omega
        obtain ⟨Y, hY⟩ : ∃ Y : Nat, (A : Int) + 8 * (k : Int) = (Y : Int) := ⟨A + 8 * k, by omega⟩
        have hfA := Hf.out
        have hnl := HNl.out
        have hYe : A + 8 * k = Y := by omega
        have HS : Hid (Calls (Al.progOf Tryz.prog) 41 #[.pointer (some ⟨mb, 0, none⟩), .int .i64 (Y : Nat), .int .i64 ((NB[k]?.getD 0 : Nat) : Int)] wr fun e w' => e = .returned .nilIface ∧ Hid (WI w w' mb hb R NB l.length A (k + 1) (lay l' Y (low 8 (NB[k]?.getD 0))) ∧ Keep (fun b => b = hb) w2 w')) := by
          refine (set_yes mb hb l' Y (NB[k]?.getD 0) wr hR.out.1.mw (HLe.out k (by omega)) (by rw [hR.out.1.len]; omega)).mono ?_
          rintro e w' ⟨q1, q2, q3⟩
          refine ⟨q1, ⟨q2, hR.out.1.kp.trans q3, ?_, ?_⟩, hR.out.2.trans q3⟩
          · rw [lay_len (by rw [low_len, hR.out.1.len]; omega)]; exact hR.out.1.len
          · rw [hR.out.1.eq, hYe, layN_drop (by omega), show A + 8 * (k + 1) = Y + 8 by omega]
        have hYb : Y ≤ 16384 := by omega
        have hkb : k ≤ 16384 := by omega
        clear hR hYe hfA hnl HC HLe Hf HNl
        generalize NB[k]?.getD 0 = V at *
        generalize lay l' Y (low 8 V) = l2 at *
        go_wp2_with fail
        refine HS.out.mono ?_
        rintro e w3 ⟨rfl, hS⟩
        clear HS
        go_wp2
        go_roundw
        case rel => exact ⟨k + 1, l2, by omega, by go_num, hS.out⟩
        case measure => simp [intOf]; omega
      · obtain rfl : k = N.length := by omega
        have HF : Hid (MW wr mb hb R ∧ Keep (fun b => b = hb) w wr) := by
          have e := hR.out.1.eq
          rw [HNl.out, List.drop_length] at e
          rw [e]
          exact ⟨hR.out.1.mw, hR.out.1.kp⟩
        clear hlt hR HC
        go_wp2
        go_ret
        exact ⟨rfl, HF.out⟩
end Go.Proofs.YtpfknjpiknpiaaaGreatDoorQL
