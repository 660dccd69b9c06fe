/-
  Calls that begin earlier and end later.
-/
import Derived.Test.YtohngekkbgklfaaMathOrder
namespace Go.Proofs.Ytohngekkbgklfaa

/-- A call that begins no later, and ends no earlier. -/
structure Wd (c d : Cl) : Prop where
  f0 : 0 ≤ d.f
  f : d.f ≤ c.f
  t : c.t ≤ d.t
  tm : d.t ≤ 9223372036854775807
  w : d.w = c.w
  b : d.b = c.b
  v : d.v = c.v
theorem lstW_same {l m : List Cl} (h : ∀ k, (gC m k).w = (gC l k).w ∧ (gC m k).b = (gC l k).b ∧ (gC m k).v = (gC l k).v) (b : Int) (o : List Nat) : lstW m b o = lstW l b o := by
  unfold lstW
  generalize (0 : Int) = z
  induction o generalizing z with
  | nil => rfl
  | cons k o ih =>
    obtain ⟨h1, h2, h3⟩ := h k
    simp only [List.foldl_cons, h1, h2, h3]
    exact ih _
theorem gC_out {l : List Cl} {k : Nat} (h : l.length ≤ k) : gC l k = ⟨0, 0, false, 0, 0⟩ := by
  unfold gC
  rw [List.getElem?_eq_none h]
  rfl
theorem wider_has {l m : List Cl} (hl : m.length = l.length) (hw : ∀ i, i < l.length → Wd (gC l i) (gC m i)) (hf : faultF l = 0) {r : List Nat} (hr : srch l l.length st0 = some r) : faultF m = 0 ∧ ∃ r', srch m m.length st0 = some r' := by
  obtain ⟨h10, hb⟩ := faultF_zero hf
  have hfm : faultF m = 0 := by
    refine faultF_all (by omega) (fun i hi => ?_)
    have h := hw i (by omega)
    obtain ⟨q1, q2, q3, q4, q5⟩ := badC_zero (hb i (by omega))
    exact badC_ok h.f0 (by rw [h.b]; exact q3) (by rw [h.v]; exact q4) (by have := h.f; have := h.t; omega)
  refine ⟨hfm, ?_⟩
  have hrea := srch_rea hf hr
  obtain ⟨_, hlen, hlt⟩ := srch_right hf hr
  have hsame : ∀ k, (gC m k).w = (gC l k).w ∧ (gC m k).b = (gC l k).b ∧ (gC m k).v = (gC l k).v := fun k => by
    by_cases hk : k < l.length
    · exact ⟨(hw k hk).w, (hw k hk).b, (hw k hk).v⟩
    · rw [gC_out (l := m) (by omega), gC_out (l := l) (by omega)]
      exact ⟨rfl, rfl, rfl⟩
  refine srch_has hfm (f := r) (fun p i q e => ?_) (by omega)
  obtain ⟨hi, hs⟩ := hrea p i q e
  obtain ⟨s1, s2, s3⟩ := stR2_of.1 hs
  refine ⟨by omega, stR2_of.2 ⟨s1, fun k hk ht => ?_, ?_⟩⟩
  · have hkn : k < l.length := hlt k (by rw [e]; exact List.mem_append_left _ hk)
    have := s2 k hk
    have := (hw i hi).t
    have := (hw k hkn).f
    omega
  · obtain ⟨e1, e2, e3⟩ := hsame i
    rw [e1, e2, e3, lstW_same hsame]
    exact s3
end Go.Proofs.Ytohngekkbgklfaa
