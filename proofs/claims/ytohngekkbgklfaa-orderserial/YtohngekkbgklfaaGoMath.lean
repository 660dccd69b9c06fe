/-
  The search in memory from one round to the next: what is known of states that lead to nothing; one call more, one less.
-/
import Derived.Test.YtohngekkbgklfaaMapSt
namespace Go.Proofs.Ytohngekkbgklfaa
open Go.RowKit
set_option linter.unusedVariables false

/-- How many of the first n calls stand. -/
def cnt : Nat → Nat → Nat
  | 0, _ => 0
  | n + 1, s => cnt n s + if s.testBit n = true then 1 else 0
theorem bit_set (s i m : Nat) : (s ||| 2 ^ i).testBit m = (s.testBit m || decide (i = m)) := by rw [Nat.testBit_or, Nat.testBit_two_pow]
theorem cnt_far (s i : Nat) : ∀ n, n ≤ i → cnt n (s ||| 2 ^ i) = cnt n s
  | 0, _ => rfl
  | n + 1, h => by
    unfold cnt
    rw [cnt_far s i n (by omega), bit_set, decide_eq_false (by omega), Bool.or_false]
theorem cnt_set {s i : Nat} (hb : s.testBit i = false) : ∀ {n}, i < n → cnt n (s ||| 2 ^ i) = cnt n s + 1
  | 0, h => by omega
  | n + 1, h => by
    unfold cnt
    by_cases e : i = n
    · subst e
      rw [cnt_far s i i (Nat.le_refl _), bit_set, hb]
      simp
    · rw [cnt_set hb (n := n) (by omega), bit_set, decide_eq_false e, Bool.or_false]
      omega
theorem cnt_zero : ∀ n, cnt n 0 = 0
  | 0 => rfl
  | n + 1 => by unfold cnt; rw [cnt_zero n]; simp
/-- The states that are kept lead to nothing. -/
def DD (l : List Cl) (n : Nat) (D : DataW Unit) : Prop := ∀ st kl, GS st → keyOf Try.prog 39 (stV st) = some kl → Maps.has D kl = true → ∀ k, cnt n st.s + k = n → srch l k st = none
theorem DD.none (l : List Cl) (n : Nat) : DD l n (.map []) := fun st kl _ _ h => by cases h
theorem stV_inj {a b : St} (ha : GS a) (hb : GS b) (h : stV a = stV b) : a = b := by
  obtain ⟨S, X⟩ := a
  obtain ⟨T, Y⟩ := b
  obtain ⟨a0, a1, a2, a3, a4, a5, a6, a7, a8, a9, rfl⟩ := ten ha.x
  obtain ⟨b0, b1, b2, b3, b4, b5, b6, b7, b8, b9, rfl⟩ := ten hb.x
  simp only [stV, stC, ivI, List.map_cons, List.map_nil] at h
  simp at h
  have e : S = T := by omega
  simp [h, e]
theorem DD.put {l : List Cl} {n : Nat} {D : DataW Unit} (h : DD l n D) {st : St} {kl : Lit} (hg : GS st) (hk : keyOf Try.prog 39 (stV st) = some kl) (hD : ∀ k, cnt n st.s + k = n → srch l k st = .none) (d : DataW Unit) : DD l n (D.put kl d) := by
  intro st' kl' hg' hk' hh k hc
  by_cases e : kl' = kl
  · subst e
    have := stV_inj hg' hg (stLaw.inj hk' hk)
    subst this
    exact hD k hc
  · rw [Maps.has_put_other e] at hh
    exact h st' kl' hg' hk' hh k hc
theorem GS.stp {l : List Cl} {st : St} {i : Nat} (h : GS st) (hi : i < 10) (hv : 0 ≤ (gC l i).v ∧ (gC l i).v ≤ 9223372036854775807) : GS (stp l st i) := by
  refine ⟨?_, ?_, ?_⟩
  · have h1 := pow_small hi
    have h2 := h.s
    exact Nat.or_lt_two_pow (n := 10) (by omega) (by omega)
  · simp [Ytohngekkbgklfaa.stp, h.x]
  · intro u hu
    rcases List.mem_or_eq_of_mem_set hu with hu | hu
    · exact h.v u hu
    · rw [hu]; exact hv
theorem GS.zero : GS st0 := ⟨by simp [st0], by simp [st0], fun u hu => by simp [st0] at hu; omega⟩
/-- What the search gives at one number. -/
def gO (l : List Cl) (k : Nat) (st : St) (i : Nat) : Option (List Nat) := if okS l st i = true then (srch l k (stp l st i)).map (i :: ·) else none
theorem srch_some {l : List Cl} {n k : Nat} {st : St} {i : Nat} {r : List Nat} (hl : l.length = n) (hi : i < n) (hj : ∀ j, j < i → gO l k st j = none) (ho : okS l st i = true) (hr : srch l k (stp l st i) = some r) : srch l (k + 1) st = some (i :: r) := by
  subst hl
  exact findSome_at _ i hi hj (by unfold gO at *; rw [if_pos ho, hr]; rfl)
theorem srch_no {l : List Cl} {n k : Nat} {st : St} (hl : l.length = n) (hj : ∀ j, j < n → gO l k st j = none) : srch l (k + 1) st = none := by
  subst hl
  exact findSome_no hj
theorem gO_not {l : List Cl} {k : Nat} {st : St} {i : Nat} (h : okS l st i = false) : gO l k st i = none := by unfold gO; rw [h]; rfl
theorem gO_none {l : List Cl} {k : Nat} {st : St} {i : Nat} (h : srch l k (stp l st i) = none) : gO l k st i = none := by
  unfold gO
  rw [h]
  split <;> rfl
theorem gO_more {l : List Cl} {k : Nat} {st : St} {i : Nat} (h : ∀ j, j < i → gO l k st j = none) (hi : gO l k st i = none) : ∀ j, j < i + 1 → gO l k st j = none := fun j hj => by
  by_cases e : j = i
  · rw [e]; exact hi
  · exact h j (by omega)

def orI (o : List Nat) : List Int := o.map fun i => ((i : Nat) : Int)
theorem orI_len (o : List Nat) : (orI o).length = o.length := by simp [orI]
theorem orI_snoc (o : List Nat) (i : Nat) : orI (o ++ [i]) = orI o ++ [((i : Nat) : Int)] := by simp [orI]
/-- Less of a row of the call's own is a row of the call's own. -/
theorem OwnI.init {w : World} {base cap : Nat} {a : Option Addr} {l : List Int} {x : Int} (h : OwnI w base a cap (l ++ [x])) : OwnI w base a cap l := by
  rcases h.parts with ⟨_, _, e⟩ | ⟨g, cur, rfl, h1, h2, h3, h4, h5, h6⟩
  · simp at e
  · refine ⟨by simp, Or.inr ⟨g, cap, cur, rfl, h1, h2, by simp at h3; omega, h4, by simpa using h5, ?_⟩⟩
    have e : (cur.toList.take (l ++ [x]).length).take l.length = ((l ++ [x]).map ivI).take l.length := by rw [h6]
    rw [List.take_take, List.map_append, List.take_append_of_le_length (by simp), List.length_append, Nat.min_eq_left (by omega)] at e
    rw [Nat.mul_one, e]
    exact List.take_of_length_le (by simp)
section
variable {w w' : World} {B0 B sb mb : Nat} {a : Option Addr} {n cap : Nat} {l : List Cl} {ba : Option Addr} {bc : Nat} {ha : Option Addr} {hc : Nat} {oa : Option Addr} {oc : Nat} {o : List Nat} {m : Nat} {D : DataW Unit}
/-- What a call of goOn may turn. -/
def TS (sb mb : Nat) (oa : Option Addr) (b : Nat) : Prop := b = sb ∨ b = mb ∨ blk oa b
theorem SR.own (h : SR w B0 B sb mb a n cap l ba bc ha hc oa oc o m D) : ∀ b, blk oa b → B ≤ b ∧ b < w.heap.size := fun b hb => h.od.blk hb
/-- One number more. -/
theorem SR.push (h : SR w B0 B sb mb a n cap l ba bc ha hc oa oc o m D) (i : Nat) (q : Nat) (hq : o.length = q) (g cap1 : Nat) (ho : OwnI w' B (some ⟨g, 0, none⟩) cap1 (orI o ++ [((i : Nat) : Int)])) (hk : Keep (blk oa) w w') :
    SR (w'.setCell ⟨sb, 4, none⟩ (.slice (some ⟨g, 0, none⟩) (q + 1) cap1)) B0 B sb mb a n cap l ba bc ha hc (some ⟨g, 0, none⟩) cap1 (o ++ [i]) m D := by
  subst hq
  have nb := h.own
  have lt := h.lt
  have gB : B ≤ g := (ho.blk ⟨_, rfl, rfl⟩).1
  have kS : Keep (fun b => b = sb) w' (w'.setCell ⟨sb, 4, none⟩ (.slice (some ⟨g, 0, none⟩) (o.length + 1) cap1)) := Keep.set1 (Keep.refl _ _) 4 _
  have s1 := (h.st.keep hk (fun e => by have := nb _ e; omega)).set 4 (.slice (some ⟨g, 0, none⟩) (o.length + 1) cap1)
  refine ⟨?_, ?_, h.len, h.lo, h.lt, h.ne, Nat.le_trans h.sz (Nat.le_trans hk.size kS.size), ?_, ?_, h.tb, h.th, ?_, ?_⟩
  · rw [List.length_append]
    exact s1
  · refine cl_set (cl_keep0 h.cl hk (fun hl b hb e => ?_)) _ _ _ (fun hl b hb => (h.lo (by rw [← h.len]; exact hl) b hb).2.1)
    have := (h.lo (by rw [← h.len]; exact hl) b hb).1
    have := nb b e
    omega
  · exact (h.bl.keep hk (fun b hb e => by have := h.tb b hb; have := nb b e; omega)).keep kS (fun b hb e => by have := (h.bl.blk hb).1; omega)
  · exact (h.hd.keep hk (fun b hb e => by have := h.th b hb; have := nb b e; omega)).keep kS (fun b hb e => by have := (h.hd.blk hb).1; omega)
  · have := ho.keep kS (fun b hb e => by have := (ho.blk hb).1; omega)
    rw [← orI_snoc] at this
    exact this
  · exact map_keep (map_keep h.mp hk (fun e => by have := nb _ e; omega)) kS (fun e => h.ne e.symm)
/-- One number less. -/
theorem SR.pop {i : Nat} (h : SR w B0 B sb mb a n cap l ba bc ha hc oa oc (o ++ [i]) m D) (q : Nat) (hq : o.length = q) :
    SR (w.setCell ⟨sb, 4, none⟩ (.slice oa q oc)) B0 B sb mb a n cap l ba bc ha hc oa oc o m D := by
  subst hq
  have lt := h.lt
  have kS : Keep (fun b => b = sb) w (w.setCell ⟨sb, 4, none⟩ (.slice oa o.length oc)) := Keep.set1 (Keep.refl _ _) 4 _
  have od : OwnI w B oa oc (orI o ++ [((i : Nat) : Int)]) := by rw [← orI_snoc]; exact h.od
  refine ⟨h.st.set 4 _, cl_set h.cl _ _ _ (fun hl b hb => (h.lo (by rw [← h.len]; exact hl) b hb).2.1), h.len, h.lo, h.lt, h.ne, Nat.le_trans h.sz kS.size, h.bl.keep kS (fun b hb e => by have := (h.bl.blk hb).1; omega), h.hd.keep kS (fun b hb e => by have := (h.hd.blk hb).1; omega), h.tb, h.th, ?_, map_keep h.mp kS (fun e => h.ne e.symm)⟩
  exact od.init.keep kS (fun b hb e => by have := (od.blk hb).1; omega)
/-- One state more is kept. -/
theorem SR.mark (h : SR w B0 B sb mb a n cap l ba bc ha hc oa oc o m D) {m' : Nat} {D' : DataW Unit} (ho : w'.ownsMap Try.prog 39 (unitElem (H := Unit)) mb m' D') (hk : Keep (fun b => b = mb) w w') : SR w' B0 B sb mb a n cap l ba bc ha hc oa oc o m' D' := by
  have lt := h.lt
  refine ⟨h.st.keep hk h.ne, cl_keep0 h.cl hk (fun hl b hb => (h.lo (by rw [← h.len]; exact hl) b hb).2.2), h.len, h.lo, h.lt, h.ne, Nat.le_trans h.sz hk.size, h.bl.keep hk (fun b hb e => by have := (h.bl.blk hb).1; omega), h.hd.keep hk (fun b hb e => by have := (h.hd.blk hb).1; omega), h.tb, h.th, h.od.keep hk (fun b hb e => by have := (h.od.blk hb).1; omega), ho⟩
end
end Go.Proofs.Ytohngekkbgklfaa
