/-
  Lists of what is kept, one item of an lba: what a put leaves; that what is drained leaves what was put.
-/
import Derived.Test.YtphacdnepjpmoafMathBuf
namespace Go.Proofs.Ytphacdnepjpmoaf
set_option linter.unusedVariables false

/-- An item in the place of the one of its lba. -/
def pt : List It → It → List It
  | [], x => [x]
  | y :: r, x => if y.lba = x.lba then x :: r else y :: pt r x
theorem fnd_cons (y : It) (r : List It) (k : Int) : fnd (y :: r) k = if y.lba = k then some y else fnd r k := by
  unfold fnd
  by_cases h : y.lba = k
  · rw [List.find?_cons_of_pos (by simpa using h), if_pos h]
  · rw [List.find?_cons_of_neg (by simpa using h), if_neg h]
theorem fnd_nil (k : Int) : fnd [] k = none := rfl
theorem fnd_app (A C : List It) (k : Int) : fnd (A ++ C) k = (fnd A k).or (fnd C k) := by
  unfold fnd
  exact List.find?_append
theorem fnd_pt : ∀ (M : List It) (x : It) (k : Int), fnd (pt M x) k = if k = x.lba then some x else fnd M k
  | [], x, k => by
    unfold pt
    rw [fnd_cons, fnd_nil]
    by_cases h : k = x.lba
    · rw [if_pos h, if_pos h.symm]
    · rw [if_neg h, if_neg (fun e => h e.symm)]
  | y :: r, x, k => by
    unfold pt
    by_cases hy : y.lba = x.lba
    · rw [if_pos hy, fnd_cons, fnd_cons]
      by_cases h : k = x.lba
      · rw [if_pos h, if_pos h.symm]
      · rw [if_neg h, if_neg (fun e => h e.symm), if_neg (fun e => h (by rw [← hy]; exact e.symm))]
    · rw [if_neg hy, fnd_cons, fnd_cons, fnd_pt r x k]
      by_cases h : k = x.lba
      · rw [if_pos h, if_pos h, if_neg (fun e => hy (by rw [e, h]))]
      · rw [if_neg h, if_neg h]
theorem pt_lbas : ∀ (M : List It) (x : It), (pt M x).map (·.lba) = if has M x.lba = true then M.map (·.lba) else M.map (·.lba) ++ [x.lba]
  | [], x => rfl
  | y :: r, x => by
    unfold pt
    by_cases hy : y.lba = x.lba
    · have hh : has (y :: r) x.lba = true := by unfold has; simp [hy]
      rw [if_pos hy, if_pos hh, List.map_cons, List.map_cons, hy]
    · have hh : has (y :: r) x.lba = has r x.lba := by unfold has; simp [hy]
      rw [if_neg hy, List.map_cons, pt_lbas r x, hh]
      split <;> simp
theorem pt_len (M : List It) (x : It) : (pt M x).length = if has M x.lba = true then M.length else M.length + 1 := by
  have := congrArg List.length (pt_lbas M x)
  rw [List.length_map] at this
  rw [this]
  split <;> simp
theorem pt_nodup {M : List It} (x : It) (h : (M.map (·.lba)).Nodup) : ((pt M x).map (·.lba)).Nodup := by
  rw [pt_lbas]
  cases hh : has M x.lba with
  | true => rw [if_pos rfl]; exact h
  | false =>
    rw [if_neg (by simp), List.nodup_append]
    refine ⟨h, by simp, ?_⟩
    intro a ha b hb
    simp at hb
    subst hb
    obtain ⟨y, hy, rfl⟩ := List.mem_map.1 ha
    unfold has at hh
    rw [List.any_eq_false] at hh
    simpa using hh y hy
theorem fnd_mem {M : List It} {k : Int} : (fnd M k).isSome = true ↔ k ∈ M.map (·.lba) := by
  rw [← has_fnd]
  unfold has
  rw [List.any_eq_true, List.mem_map]
  simp
/-- WHAT WAS PUT, WHAT WAS DRAINED, AND WHAT IS STILL THERE. -/
structure Inv (W H L : List It) : Prop where
  nw : (W.map (·.lba)).Nodup
  nh : (H.map (·.lba)).Nodup
  eq : ∀ k, fnd W k = (fnd L k).or (fnd H k)
theorem inv_nil : Inv [] [] [] := ⟨by simp, by simp, fun k => rfl⟩
theorem sub_len : ∀ {A C : List Int}, A.Nodup → (∀ x ∈ A, x ∈ C) → A.length ≤ C.length
  | [], C, _, _ => Nat.zero_le _
  | a :: r, C, h, hs => by
    have ha : a ∈ C := hs a (by simp)
    rw [List.nodup_cons] at h
    have h1 := sub_len (A := r) (C := C.erase a) h.2 (fun x hx => (List.mem_erase_of_ne (fun e : x = a => h.1 (by rw [← e]; exact hx))).2 (hs x (by simp [hx])))
    rw [List.length_erase_of_mem ha] at h1
    have h2 : 0 < C.length := List.length_pos_of_mem ha
    rw [List.length_cons]
    omega
theorem Inv.len {W H L : List It} (h : Inv W H L) : H.length ≤ W.length := by
  have := sub_len h.nh (C := W.map (·.lba)) (fun k hk => by
    rw [← fnd_mem] at hk ⊢
    rw [h.eq k]
    cases fnd L k with
    | some x => rfl
    | none => exact hk)
  rw [List.length_map, List.length_map] at this
  exact this
/-- .. and one that is drained and is new makes it no longer. -/
theorem Inv.len1 {W H L : List It} (h : Inv W H L) {x : It} (hx : x ∈ L) (hn : has H x.lba = false) : H.length + 1 ≤ W.length := by
  have hnd : ((H.map (·.lba)) ++ [x.lba]).Nodup := by
    have := pt_nodup x h.nh
    rw [pt_lbas, hn] at this
    exact this
  have := sub_len hnd (C := W.map (·.lba)) (fun k hk => by
    rw [← fnd_mem, h.eq k]
    rw [List.mem_append] at hk
    rcases hk with hk | hk
    · rw [← fnd_mem] at hk
      cases fnd L k with
      | some x => rfl
      | none => exact hk
    · simp at hk
      subst hk
      have : (fnd L x.lba).isSome = true := fnd_mem.2 (List.mem_map.2 ⟨x, hx, rfl⟩)
      cases hf : fnd L x.lba with
      | some y => rfl
      | none => rw [hf] at this; cases this)
  rw [List.length_append, List.length_map, List.length_map, List.length_singleton] at this
  exact this
theorem fnd_drp (L : List It) (l k : Int) : fnd (drp L l) k = if k = l then none else fnd L k := by
  unfold fnd drp
  rw [List.find?_filter]
  by_cases h : k = l
  · subst h
    rw [if_pos rfl, List.find?_eq_none]
    intro x hx
    simp
  · rw [if_neg h]
    congr 1
    funext x
    by_cases hx : x.lba = k
    · simp [hx, h]
    · simp [hx]
theorem Inv.put {W H L : List It} (h : Inv W H L) (x : It) : Inv (pt W x) H (drp L x.lba ++ [x]) := by
  refine ⟨pt_nodup x h.nw, h.nh, fun k => ?_⟩
  rw [fnd_pt, fnd_app, fnd_drp, fnd_cons, fnd_nil]
  by_cases e : k = x.lba
  · rw [if_pos e, if_pos e, if_pos e.symm]; rfl
  · rw [if_neg e, if_neg e, if_neg (fun h => e h.symm), h.eq k]
    cases fnd L k <;> rfl
/-- The first is drained. -/
theorem Inv.take {W H L : List It} {x : It} (h : Inv W H (x :: L)) (hn : ((x :: L).map (·.lba)).Nodup) : Inv W (pt H x) L := by
  refine ⟨h.nw, pt_nodup x h.nh, fun k => ?_⟩
  rw [h.eq k, fnd_cons, fnd_pt]
  by_cases e : k = x.lba
  · subst e
    rw [if_pos rfl, if_pos rfl]
    have : fnd L x.lba = none := by
      rw [List.map_cons, List.nodup_cons] at hn
      cases hf : fnd L x.lba with
      | none => rfl
      | some y => exact absurd (fnd_mem.1 (by rw [hf]; rfl)) hn.1
    rw [this]
    rfl
  · rw [if_neg (fun h => e h.symm), if_neg e]
/-- AT THE END. -/
theorem Inv.fin {W H : List It} (h : Inv W H []) : W.length = H.length ∧ ∀ i, i < W.length → ∃ j, j < H.length ∧ H[j]? = W[i]? := by
  have hkey : ∀ k, fnd W k = fnd H k := fun k => by rw [h.eq k]; rfl
  refine ⟨Nat.le_antisymm ?_ h.len, fun i hi => ?_⟩
  · have := sub_len h.nw (C := H.map (·.lba)) (fun k hk => by rw [← fnd_mem] at hk ⊢; rw [← hkey]; exact hk)
    rw [List.length_map, List.length_map] at this
    exact this
  · have hm : W[i] ∈ W := List.getElem_mem hi
    have hs : (fnd W W[i].lba).isSome = true := fnd_mem.2 (List.mem_map.2 ⟨_, hm, rfl⟩)
    cases hf : fnd W W[i].lba with
    | none => rw [hf] at hs; cases hs
    | some y =>
      obtain ⟨q1, q2⟩ := fnd_some hf
      have hy : y = W[i] := by
        obtain ⟨j, hj, e⟩ := List.getElem_of_mem q1
        have : j = i := by
          rcases Nat.lt_trichotomy j i with hlt | he | hgt
          · exfalso
            refine (List.pairwise_iff_getElem.1 h.nw j i (by simpa using hj) (by simpa using hi) hlt) ?_
            simp [e, q2]
          · exact he
          · exfalso
            refine (List.pairwise_iff_getElem.1 h.nw i j (by simpa using hi) (by simpa using hj) hgt) ?_
            simp [e, q2]
        subst this
        exact e.symm
      have hf2 : fnd H W[i].lba = some y := by rw [← hkey]; exact hf
      obtain ⟨j, hj, e⟩ := List.getElem_of_mem (fnd_some hf2).1
      refine ⟨j, hj, ?_⟩
      rw [List.getElem?_eq_getElem hj, List.getElem?_eq_getElem hi, e, hy]
end Go.Proofs.Ytphacdnepjpmoaf
