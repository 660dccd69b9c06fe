/-
  What was done one behind the other.
-/
import Derived.Test.YtohngekkbgklfaaMathStale
namespace Go.Proofs.Ytohngekkbgklfaa

/-- Call i begins and ends in its turn, and tells what was written last. -/
structure SerAt (m : List Cl) (i : Nat) : Prop where
  f0 : 0 ≤ (gC m i).f
  f : (gC m i).f ≤ 100 + 10 * (i : Int)
  t : 109 + 10 * (i : Int) ≤ (gC m i).t
  b : 0 ≤ (gC m i).b
  v : 0 ≤ (gC m i).v
  vm : (gC m i).v ≤ 9223372036854775807
  r : (gC m i).w = false → lstW m (gC m i).b (List.range i) = (gC m i).v
def Ser (m : List Cl) : Prop := ∀ i, i < m.length → SerAt m i
theorem lstW_congr {l m : List Cl} {b : Int} : ∀ (o : List Nat), (∀ k ∈ o, gC m k = gC l k) → lstW m b o = lstW l b o := by
  intro o
  unfold lstW
  generalize (0 : Int) = z
  induction o generalizing z with
  | nil => intro _; rfl
  | cons k o ih =>
    intro h
    simp only [List.foldl_cons, h k (by simp)]
    exact ih _ (fun j hj => h j (by simp [hj]))
theorem gC_left {m : List Cl} {c : Cl} {i : Nat} (h : i < m.length) : gC (m ++ [c]) i = gC m i := by unfold gC; rw [List.getElem?_append_left h]
theorem gC_last (m : List Cl) (c : Cl) : gC (m ++ [c]) m.length = c := by unfold gC; simp
theorem Ser.nil : Ser [] := fun i h => by simp at h
theorem Ser.snoc {m : List Cl} {c : Cl} (h : Ser m) (f0 : 0 ≤ c.f) (f : c.f ≤ 100 + 10 * (m.length : Int)) (t : 109 + 10 * (m.length : Int) ≤ c.t) (b : 0 ≤ c.b) (v : 0 ≤ c.v) (vm : c.v ≤ 9223372036854775807)
    (r : c.w = false → lstW m c.b (List.range m.length) = c.v) : Ser (m ++ [c]) := by
  intro i hi
  by_cases hl : i < m.length
  · have e := gC_left (c := c) hl
    obtain ⟨q0, q1, q2, q3, q4, q5, q6⟩ := h i hl
    refine ⟨by rw [e]; exact q0, by rw [e]; exact q1, by rw [e]; exact q2, by rw [e]; exact q3, by rw [e]; exact q4, by rw [e]; exact q5, fun hw => ?_⟩
    rw [e] at hw ⊢
    rw [lstW_congr (l := m) _ (fun k hk => gC_left (by have : k < i := by simpa using hk
                                                       omega))]
    exact q6 hw
  · obtain rfl : i = m.length := by simp at hi; omega
    have e := gC_last m c
    refine ⟨by rw [e]; exact f0, by rw [e]; exact f, by rw [e]; exact t, by rw [e]; exact b, by rw [e]; exact v, by rw [e]; exact vm, fun hw => ?_⟩
    rw [e] at hw ⊢
    rw [lstW_congr (l := m) _ (fun k hk => gC_left (by simpa using hk))]
    exact r hw
theorem range_split {n : Nat} {p r : List Nat} {i : Nat} (h : List.range n = p ++ i :: r) : p = List.range i ∧ i < n := by
  have hl : p.length < n := by
    have := congrArg List.length h
    simp at this
    omega
  have h1 : (List.range n)[p.length]? = some i := by rw [h]; simp
  rw [List.getElem?_range hl] at h1
  have e : p.length = i := Option.some.inj h1
  subst e
  refine ⟨?_, hl⟩
  have := congrArg (List.take p.length) h
  rw [List.take_range, Nat.min_eq_left (by omega), List.take_append_of_le_length (Nat.le_refl _), List.take_length] at this
  exact this.symm
/-- Of calls in their turns the order in which they stand is one. -/
theorem turn_has {m : List Cl} (h10 : m.length ≤ 10) (hg : ∀ i, i < m.length → badC (gC m i) = 0) (ht : ∀ i k, i < m.length → k < i → (gC m k).f < (gC m i).t) (hr : ∀ i, i < m.length → (gC m i).w = false → lstW m (gC m i).b (List.range i) = (gC m i).v) :
    ∃ r, findL m = (0, r) ∧ Rt m r ∧ r.length = m.length ∧ ∀ x ∈ r, x < m.length := by
  have hf := faultF_all h10 hg
  obtain ⟨r, hs⟩ := srch_has hf (f := List.range m.length) (fun p i q e => by
    obtain ⟨rfl, hi⟩ := range_split e
    refine ⟨hi, stR2_of.2 ⟨by simp, fun k hk => ?_, ?_⟩⟩
    · have hk' : k < i := by simpa using hk
      have := ht i k hi hk'
      omega
    · cases hw : (gC m i).w with
      | true => exact Or.inl rfl
      | false => exact Or.inr (hr i hi hw)) (by simp)
  obtain ⟨h1, h2, h3⟩ := srch_right hf hs
  exact ⟨r, by unfold findL; rw [if_pos hf, hs], h1, h2, h3⟩
theorem Ser.has {m : List Cl} (h : Ser m) (h10 : m.length ≤ 10) : ∃ r, findL m = (0, r) ∧ Rt m r ∧ r.length = m.length ∧ ∀ x ∈ r, x < m.length :=
  turn_has h10 (fun i hi => badC_ok (h i hi).f0 (h i hi).b (h i hi).v (by have := (h i hi).f; have := (h i hi).t; omega)) (fun i k hi hk => by
    have := (h k (by omega)).f
    have := (h i hi).t
    omega) (fun i hi => (h i hi).r)
theorem gC_rest {m : List Cl} {q i : Nat} (hq : q < m.length) : gC (m.take q ++ m.drop (q + 1)) i = gC m (if i < q then i else i + 1) := by
  unfold gC
  by_cases h : i < q
  · rw [List.getElem?_append_left (by simp; omega), List.getElem?_take, if_pos h, if_pos h]
  · rw [List.getElem?_append_right (by simp; omega), List.getElem?_drop, if_neg h, List.length_take, Nat.min_eq_left (by omega)]
    congr 2
    omega
/-- Without a read there is an order, too. -/
theorem Ser.rest {m : List Cl} (h : Ser m) (h10 : m.length ≤ 10) {q : Nat} (hq : q < m.length) (hw : (gC m q).w = false) : ∃ r, findL (m.take q ++ m.drop (q + 1)) = (0, r) := by
  have hlen : (m.take q ++ m.drop (q + 1)).length = m.length - 1 := by simp; omega
  have hlst : ∀ (b : Int) (j : Nat), lstW (m.take q ++ m.drop (q + 1)) b (List.range j) = lstW m b (List.range (if j < q then j else j + 1)) := by
    intro b j
    induction j with
    | zero =>
      by_cases h0 : 0 < q
      · rw [if_pos h0]; rfl
      · obtain rfl : q = 0 := by omega
        simp [lstW, hw]
    | succ j ih =>
      rw [List.range_succ, lstW_snoc, ih, gC_rest hq]
      by_cases h1 : j + 1 < q
      · rw [if_pos (show j < q by omega), if_pos h1, List.range_succ, lstW_snoc]
      · by_cases h2 : j < q
        · obtain rfl : q = j + 1 := by omega
          rw [if_pos h2, if_neg h1, List.range_succ, lstW_snoc, if_neg (show ¬ ((gC m (j + 1)).w = true ∧ (gC m (j + 1)).b = b) from fun e => by rw [hw] at e; exact absurd e.1 (by simp)), List.range_succ, lstW_snoc]
        · have e : List.range (j + 1 + 1) = List.range (j + 1) ++ [j + 1] := List.range_succ
          rw [if_neg h2, if_neg h1, e, lstW_snoc]
  obtain ⟨r, h1, _⟩ := turn_has (m := m.take q ++ m.drop (q + 1)) (by omega) (fun i hi => by
    rw [gC_rest hq]
    have hs : (if i < q then i else i + 1) < m.length := by split <;> omega
    have g := h _ hs
    exact badC_ok g.f0 g.b g.v (by have := g.f; have := g.t; omega)) (fun i k hi hk => by
    rw [gC_rest hq, gC_rest hq]
    have hs : (if i < q then i else i + 1) < m.length := by split <;> omega
    have hk2 : (if k < q then k else k + 1) < (if i < q then i else i + 1) := by split <;> split <;> omega
    have g1 := (h _ hs).t
    have g2 := (h _ (Nat.lt_trans hk2 hs)).f
    omega) (fun i hi hwi => by
    rw [gC_rest hq] at hwi ⊢
    have hs : (if i < q then i else i + 1) < m.length := by split <;> omega
    rw [hlst]
    exact (h _ hs).r hwi)
  exact ⟨r, h1⟩
end Go.Proofs.Ytohngekkbgklfaa
