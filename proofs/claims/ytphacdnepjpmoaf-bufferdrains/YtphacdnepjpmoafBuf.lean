/-
  How a buffer lies; what its list's remove leaves.
-/
import Derived.Test.YtphacdnepjpmoafLrem
namespace Go.Proofs.Ytphacdnepjpmoaf
open Go.RowKit
set_option linter.unusedVariables false

def buC (most : Nat) (F La : Option Nat) (mb : Nat) : Array Value := #[.int .i64 most, ptr F, ptr La, .map (some mb)]
/-- Two pieces of a list, and what leads to them. -/
structure GG (w : World) (bb mb most : Nat) (A C : List Nd) (F La nA pC : Option Nat) : Prop where
  bk : w.heap[bb]? = some (.cells (buC most F La mb) 60 (0, 0))
  ca : Chain w none A nA
  cc : Chain w pC C none
theorem nd_cat {A C : List Nd} (h : ((A ++ C).map (·.g)).Nodup) : (A.map (·.g)).Nodup ∧ (C.map (·.g)).Nodup ∧ ∀ x ∈ A, ∀ y ∈ C, x.g ≠ y.g := by
  rw [List.map_append, List.nodup_append] at h
  exact ⟨h.1, h.2.1, fun x hx y hy => h.2.2 _ (List.mem_map.2 ⟨x, hx, rfl⟩) _ (List.mem_map.2 ⟨y, hy, rfl⟩)⟩
theorem ne_bb {w : World} {bb mb most : Nat} {F La : Option Nat} (h : w.heap[bb]? = some (.cells (buC most F La mb) 60 (0, 0))) {x : Nd} {p n : Option Nat} (hx : NodeAt w x p n) : x.g ≠ bb := fun e => by
  unfold NodeAt at hx
  rw [e, h] at hx
  injection hx with h1
  injection h1 with _ h2 _
  exact absurd h2 (by decide)
theorem ptr_at {w : World} {g j : Nat} {cs : Array Value} {t : TypeId} (h : w.heap[g]? = some (.cells cs t (0, 0))) : w.cell? ⟨g, j, none⟩ = cs[j]? := by simp [World.cell?, h]
/-- The one behind A is now n. -/
theorem GG.ahead {w : World} {bb mb most : Nat} {A C : List Nd} {La q pC : Option Nat} (n : Option Nat) (h : GG w bb mb most A C (hd A q) La q pC) (hd1 : ((A ++ C).map (·.g)).Nodup) :
    GG (w.setCell (pa bb (lst none A)) (ptr n)) bb mb most A C (hd A n) La n pC ∧ (w.frozen? (pa bb (lst none A)) = false ∧ ∃ u, w.cell? (pa bb (lst none A)) = some u) ∧ (∀ b, b = (pa bb (lst none A)).block → b = bb ∨ ∃ y ∈ A, b = y.g) := by
  rcases List.eq_nil_or_concat A with rfl | ⟨A', y, rfl⟩
  · have e : pa bb (lst none []) = ⟨bb, 1, none⟩ := rfl
    rw [e]
    have hk : Keep (fun b => b = bb) w (w.setCell ⟨bb, 1, none⟩ (ptr n)) := (Keep.refl _ _).set1 1 _
    refine ⟨⟨?_, trivial, h.cc.keep hk (fun x hx => ?_)⟩, ⟨row_free h.bk 1, ⟨_, (ptr_at h.bk).trans rfl⟩⟩, fun b hb => Or.inl hb⟩
    · rw [set_blk h.bk]; rfl
    · obtain ⟨p', n', hn⟩ := h.cc.node x hx
      exact ne_bb h.bk hn
  · rw [List.concat_eq_append] at *
    have e : lst none (A' ++ [y]) = some y.g := by rw [lst_app]; rfl
    rw [e]
    have hca := (chain_app _ _ _ _).1 h.ca
    obtain ⟨h1, h2, _⟩ := hca
    have hby := ne_bb h.bk h2
    obtain ⟨d1, d2, d3⟩ := nd_cat hd1
    obtain ⟨d4, d5, d6⟩ := nd_cat d1
    have hk : Keep (fun b => b = y.g) w (w.setCell ⟨y.g, 4, none⟩ (ptr n)) := (Keep.refl _ _).set1 4 _
    refine ⟨⟨?_, ?_, ?_⟩, ⟨row_free h2 4, ⟨_, (ptr_at h2).trans rfl⟩⟩, fun b hb => Or.inr ⟨y, by simp, hb⟩⟩
    · show (w.setCell ⟨y.g, 4, none⟩ (ptr n)).heap[bb]? = _
      rw [set_far _ (fun e => hby e.symm), h.bk]
      have e2 : ∀ m, hd (A' ++ [y]) m = hd A' (some y.g) := fun m => hd_app _ _ _
      rw [e2, e2]
    · refine (chain_app _ _ _ _).2 ⟨h1.keep hk (fun x hx e => d6 x hx y (by simp) e), ?_, trivial⟩
      show (w.setCell ⟨y.g, 4, none⟩ (ptr n)).heap[y.g]? = _
      unfold NodeAt at h2
      rw [set_blk h2]
      rfl
    · exact h.cc.keep hk (fun x hx e => d3 y (by simp) x hx e.symm)
/-- The one ahead of C is now p. -/
theorem GG.behind {w : World} {bb mb most : Nat} {A C : List Nd} {F q nA : Option Nat} (p : Option Nat) (h : GG w bb mb most A C F (lst q C) nA q) (hd1 : ((A ++ C).map (·.g)).Nodup) :
    GG (w.setCell (na bb (hd C none)) (ptr p)) bb mb most A C F (lst p C) nA p ∧ (w.frozen? (na bb (hd C none)) = false ∧ ∃ u, w.cell? (na bb (hd C none)) = some u) ∧ (∀ b, b = (na bb (hd C none)).block → b = bb ∨ ∃ y ∈ C, b = y.g) := by
  cases C with
  | nil =>
    have e : na bb (hd [] none) = ⟨bb, 2, none⟩ := rfl
    rw [e]
    have hk : Keep (fun b => b = bb) w (w.setCell ⟨bb, 2, none⟩ (ptr p)) := (Keep.refl _ _).set1 2 _
    refine ⟨⟨?_, h.ca.keep hk (fun x hx => ?_), trivial⟩, ⟨row_free h.bk 2, ⟨_, (ptr_at h.bk).trans rfl⟩⟩, fun b hb => Or.inl hb⟩
    · rw [set_blk h.bk]; rfl
    · obtain ⟨p', n', hn⟩ := h.ca.node x hx
      exact ne_bb h.bk hn
  | cons z C' =>
    have h2 := h.cc.1
    have h1 := h.cc.2
    have hby := ne_bb h.bk h2
    obtain ⟨d1, d2, d3⟩ := nd_cat hd1
    obtain ⟨d4, d5, d6⟩ := nd_cat (A := [z]) (C := C') d2
    have hk : Keep (fun b => b = z.g) w (w.setCell ⟨z.g, 3, none⟩ (ptr p)) := (Keep.refl _ _).set1 3 _
    refine ⟨⟨?_, ?_, ?_, ?_⟩, ⟨row_free h2 3, ⟨_, (ptr_at h2).trans rfl⟩⟩, fun b hb => Or.inr ⟨z, by simp, hb⟩⟩
    · show (w.setCell ⟨z.g, 3, none⟩ (ptr p)).heap[bb]? = _
      rw [set_far _ (fun e => hby e.symm), h.bk]
      rfl
    · exact h.ca.keep hk (fun x hx e => d3 x hx z (by simp) e)
    · show (w.setCell ⟨z.g, 3, none⟩ (ptr p)).heap[z.g]? = _
      unfold NodeAt at h2
      rw [set_blk h2]
      rfl
    · exact h1.keep hk (fun x hx e => d6 z (by simp) x hx e.symm)
/-- A BUFFER's LIST. -/
structure BC (w : World) (bb mb most : Nat) (N : List Nd) : Prop where
  bk : w.heap[bb]? = some (.cells (buC most (hd N none) (lst none N) mb) 60 (0, 0))
  ch : Chain w none N none
  dis : (N.map (·.g)).Nodup
theorem BC.keep {S : Nat → Prop} {w w' : World} {bb mb most : Nat} {N : List Nd} (h : BC w bb mb most N) (hk : Keep S w w') (h1 : ¬ S bb) (h2 : ∀ x ∈ N, ¬ S x.g) : BC w' bb mb most N :=
  ⟨(hk.block bb (heap_lt h.bk) h1).trans h.bk, h.ch.keep hk h2, h.dis⟩
theorem BC.cut {w : World} {bb mb most : Nat} {A C : List Nd} {x : Nd} (h : BC w bb mb most (A ++ x :: C)) : GG w bb mb most A C (hd A (some x.g)) (lst (some x.g) C) (some x.g) (some x.g) ∧ NodeAt w x (lst none A) (hd C none) := by
  obtain ⟨h1, h2, h3⟩ := (chain_app _ _ _ _).1 h.ch
  refine ⟨⟨?_, h1, h3⟩, h2⟩
  rw [h.bk, hd_app, lst_app]
  rfl
/-- Where x is not. -/
def NB (bb : Nat) (N : List Nd) (b : Nat) : Prop := b = bb ∨ ∃ y ∈ N, b = y.g
theorem lrem_any {w : World} {bb mb most : Nat} {A C : List Nd} {x : Nd} (h : BC w bb mb most (A ++ x :: C)) :
    Calls Try.prog 25 #[.pointer (some ⟨bb, 1, none⟩), ptr (some x.g)] w fun e w' => e = .returned (.tuple #[]) ∧ BC w' bb mb most (A ++ C) ∧ NodeAt w' x (lst none A) (hd C none) ∧ Keep (NB bb (A ++ C)) w w' := by
  obtain ⟨hG, hX⟩ := h.cut
  have hxb := ne_bb h.bk hX
  obtain ⟨d1, d2, d3⟩ := nd_cat h.dis
  obtain ⟨_, d5, d6⟩ := nd_cat (A := [x]) (C := C) d2
  have hdis : ((A ++ C).map (·.g)).Nodup := by
    rw [List.map_append, List.nodup_append]
    refine ⟨d1, d5, fun a ha b hb => ?_⟩
    obtain ⟨y, hy, rfl⟩ := List.mem_map.1 ha
    obtain ⟨z, hz, rfl⟩ := List.mem_map.1 hb
    exact d3 y hy z (by simp [hz])
  obtain ⟨g1, ⟨f1, u1, c1⟩, s1⟩ := hG.ahead (hd C none) hdis
  obtain ⟨g2, ⟨f2, u2, c2⟩, s2⟩ := g1.behind (lst none A) hdis
  have hxA : ∀ y ∈ A, x.g ≠ y.g := fun y hy e => d3 y hy x (by simp) e.symm
  have hxC : ∀ y ∈ C, x.g ≠ y.g := fun y hy => d6 x (by simp) y hy
  have hfin : ∀ w', (∃ q, w' = ((w.setCell (pa bb (lst none A)) (ptr (hd C none))).setCell (na bb (hd C none)) (ptr (lst none A))).drewN q) → BC w' bb mb most (A ++ C) ∧ NodeAt w' x (lst none A) (hd C none) ∧ Keep (NB bb (A ++ C)) w w' := by
    rintro w' ⟨q, rfl⟩
    have k1 : Keep (NB bb (A ++ C)) w ((w.setCell (pa bb (lst none A)) (ptr (hd C none))).setCell (na bb (hd C none)) (ptr (lst none A))) := by
      refine Keep.set (Keep.set (Keep.refl _ _) ?_ _) ?_ _
      · rcases s1 _ rfl with e | ⟨y, hy, e⟩
        · exact Or.inl e
        · exact Or.inr ⟨y, by simp [hy], e⟩
      · rcases s2 _ rfl with e | ⟨y, hy, e⟩
        · exact Or.inl e
        · exact Or.inr ⟨y, by simp [hy], e⟩
    have k2 := k1.drewN q
    refine ⟨⟨?_, ?_, hdis⟩, ?_, k2⟩
    · rw [hd_app, lst_app]; exact g2.bk
    · have kd : Keep (fun _ => False) ((w.setCell (pa bb (lst none A)) (ptr (hd C none))).setCell (na bb (hd C none)) (ptr (lst none A))) (((w.setCell (pa bb (lst none A)) (ptr (hd C none))).setCell (na bb (hd C none)) (ptr (lst none A))).drewN q) := (Keep.refl _ _).drewN q
      exact (chain_app _ _ _ _).2 ⟨g2.ca.keep kd (fun _ _ e => e), g2.cc.keep kd (fun _ _ e => e)⟩
    · refine (k2.block x.g (heap_lt hX) ?_).trans hX
      rintro (e | ⟨y, hy, e⟩)
      · exact hxb e
      · rw [List.mem_append] at hy
        rcases hy with hy | hy
        · exact hxA y hy e
        · exact hxC y hy e
  have x3 : w.cell? ⟨x.g, 3, none⟩ = some (ptr (lst none A)) := (ptr_at hX).trans rfl
  have x4 : w.cell? ⟨x.g, 4, none⟩ = some (ptr (hd C none)) := (ptr_at hX).trans rfl
  have f2' : w.frozen? (na bb (hd C none)) = false := by rw [World.frozen?_setCell] at f2; exact f2
  have hlst : ∀ y, lst none A = some y → x.g ≠ y ∧ bb ≠ y := by
    intro y hy
    rcases List.eq_nil_or_concat A with rfl | ⟨A', z, rfl⟩
    · cases hy
    · rw [List.concat_eq_append] at *
      rw [lst_app] at hy
      cases hy
      obtain ⟨p', n', hn⟩ := hG.ca.node z (by simp)
      exact ⟨hxA z (by simp), (ne_bb h.bk hn).symm⟩
  have hhd : ∀ z, hd C none = some z → x.g ≠ z ∧ bb ≠ z ∧ (∀ y, lst none A = some y → y ≠ z) := by
    intro z hz
    cases C with
    | nil => cases hz
    | cons z' C' =>
      cases hz
      obtain ⟨p', n', hn⟩ := hG.cc.node z' (by simp)
      refine ⟨hxC z' (by simp), (ne_bb h.bk hn).symm, fun y hy => ?_⟩
      rcases List.eq_nil_or_concat A with rfl | ⟨A', y', rfl⟩
      · cases hy
      · rw [List.concat_eq_append] at *
        rw [lst_app] at hy
        cases hy
        exact d3 y' (by simp) z' (by simp)
  clear hG g1 g2 s1 s2 hX d1 d2 d3 d5 d6 hdis hxA hxC f2
  generalize lst none A = P at *
  generalize hd C none = Q at *
  cases P with
  | none =>
    cases Q with
    | none =>
      have c2' : w.cell? ⟨bb, 2, none⟩ = some u2 := by
        have e : (w.setCell ⟨bb, 1, none⟩ (ptr none)).cell? ⟨bb, 2, none⟩ = some u2 := c2
        rw [far _ (by omega)] at e
        exact e
      exact (lrem_nn w bb x.g u1 u2 hxb x3 x4 c1 c2' f1 f2').mono fun e w' ⟨h1, h2⟩ => ⟨h1, hfin w' h2⟩
    | some z =>
      obtain ⟨z1, z2, _⟩ := hhd z rfl
      have c2' : w.cell? ⟨z, 3, none⟩ = some u2 := by
        have e : (w.setCell ⟨bb, 1, none⟩ (ptr (some z))).cell? ⟨z, 3, none⟩ = some u2 := c2
        rw [far _ (by omega)] at e
        exact e
      exact (lrem_ns w bb x.g z u1 u2 hxb z1 z2 x3 x4 c1 c2' f1 f2').mono fun e w' ⟨h1, h2⟩ => ⟨h1, hfin w' h2⟩
  | some y =>
    obtain ⟨y1, y2⟩ := hlst y rfl
    cases Q with
    | none =>
      have c2' : w.cell? ⟨bb, 2, none⟩ = some u2 := by
        have e : (w.setCell ⟨y, 4, none⟩ (ptr none)).cell? ⟨bb, 2, none⟩ = some u2 := c2
        rw [far _ (by omega)] at e
        exact e
      exact (lrem_sn w bb x.g y u1 u2 hxb y1 y2 x3 x4 c1 c2' f1 f2').mono fun e w' ⟨h1, h2⟩ => ⟨h1, hfin w' h2⟩
    | some z =>
      obtain ⟨z1, z2, z3⟩ := hhd z rfl
      have z4 := z3 y rfl
      have c2' : w.cell? ⟨z, 3, none⟩ = some u2 := by
        have e : (w.setCell ⟨y, 4, none⟩ (ptr (some z))).cell? ⟨z, 3, none⟩ = some u2 := c2
        rw [far _ (by omega)] at e
        exact e
      exact (lrem_ss w bb x.g y z u1 u2 y1 z1 z4 x3 x4 c1 c2' f1 f2').mono fun e w' ⟨h1, h2⟩ => ⟨h1, hfin w' h2⟩
end Go.Proofs.Ytphacdnepjpmoaf
