/- Part of the proof. -/
import Derived.Test.YtobpjijdebnaoaaDoorSim4
import Derived.Conc.CrowdTrace
import Derived.Conc.CrowdComm
namespace Go.Proofs.YtobpjijdebnaoaaDoor
open Go Go.Conc
open Go.ConcN (fork_knows)
def NewT (Atm Fz : Nat → Prop) (Own : Nat → Nat → Prop) (g b : Nat) (x : Touch) : Prop :=
  (Atm b ∧ x.kind ≠ .plain ∧ (x.kind = .said → g = 0)) ∨ (Own g b ∧ x.kind = .plain) ∨ (Fz b ∧ x.write = false ∧ x.kind = .plain)
/-- The kinds of blocks lie apart. -/
structure Sep (Sx Atm Fz : Nat → Prop) (Own : Nat → Nat → Prop) : Prop where
  own : ∀ g g' b, Own g b → Own g' b → g = g'
  oF : ∀ g b, Own g b → ¬ Fz b
  oA : ∀ g b, Own g b → ¬ Atm b
  oS : ∀ g b, Own g b → ¬ Sx b
  fA : ∀ b, Fz b → ¬ Atm b
  fS : ∀ b, Fz b → ¬ Sx b
  aS : ∀ b, Atm b → ¬ Sx b
def inCrowd (m0 j g : Nat) : Prop := g = 0 ∨ (m0 ≤ g ∧ g < m0 + j)
structure TI (m0 j tz : Nat) (Sx Atm Fz : Nat → Prop) (Own : Nat → Nat → Prop) (B : Nat) (t : Trace) : Prop where
  clean : ∀ said, ¬ Race said t
  len : tz ≤ t.size
  old : ∀ i x, i < tz → touchAt t i = some x → x.loc.isMemory = true → (∀ g, inCrowd m0 j g → Knows t g i) ∨ (ShunB Sx x.loc ∧ x.kind = .atomic)
  new : ∀ (i : Nat) op x, tz ≤ i → t[i]? = some op → op.act.touch? = some x → x.loc.isMemory = true → inCrowd m0 j op.g ∧ ∃ b, blk x.loc = some b ∧ NewT Atm Fz Own op.g b x
  over : ∀ i g, i < tz → t.g? i = some g → g ≠ 0 → t.counts i → ∃ k, t.g? k = some 0 ∧ HappensBefore t i k
  seen : ∀ op ∈ t, op.act.low B
section
variable {m0 j tz : Nat} {Sx Atm Fz : Nat → Prop} {Own Own' : Nat → Nat → Prop} {B B' : Nat} {t u : Trace}
theorem TI.mono (h : TI m0 j tz Sx Atm Fz Own B t) (hO : ∀ g b, Own g b → Own' g b) (hB : B ≤ B') : TI m0 j tz Sx Atm Fz Own' B' t :=
  ⟨h.clean, h.len, h.old, fun i op x hi ho hx hm => let ⟨h0, b, h1, h2⟩ := h.new i op x hi ho hx hm; ⟨h0, b, h1, h2.imp id fun y => y.imp (fun z => ⟨hO _ _ z.1, z.2⟩) id⟩, h.over, fun op hop => MemAct.low_mono hB (h.seen op hop)⟩
/-- What grows behind it keeps what was there. -/
theorem TI.grow (h : TI m0 j tz Sx Atm Fz Own B t) (hB : B ≤ B') (hc : ∀ said, ¬ Race said (t ++ u))
    (hu : ∀ op ∈ u, (∀ x, op.act.touch? = some x → x.loc.isMemory = true → inCrowd m0 j op.g ∧ ∃ b, blk x.loc = some b ∧ NewT Atm Fz Own op.g b x) ∧ op.act.low B') : TI m0 j tz Sx Atm Fz Own B' (t ++ u) := by
  have hl := h.len
  refine ⟨hc, by simp; omega, fun i x hi hx hm => ?_, fun i op x hi ho hx hm => ?_, fun i g hi hg hne hcn => ?_, fun op hop => ?_⟩
  · rw [touchAt_old (by omega)] at hx
    exact (h.old i x hi hx hm).imp (fun k g hg => (k g hg).app u) id
  · rcases getElem?_append_cases ho with ⟨_, ho'⟩ | ⟨_, hou⟩
    · exact h.new i op x hi ho' hx hm
    · exact (hu op hou).1 x hx hm
  · have hi' : i < t.size := by omega
    obtain ⟨k, hk, hb⟩ := h.over i g hi (by rw [← g?_old hi']; exact hg) hne ((counts_old hi').1 hcn)
    have hkl : k < t.size := by
      unfold Trace.g? at hk
      obtain ⟨z, hz, _⟩ := Option.map_eq_some_iff.1 hk
      exact lt_size_of_getElem? hz
    exact ⟨k, by rw [g?_old hkl]; exact hk, hb_app u hb⟩
  · rcases Array.mem_append.1 hop with hop | hop
    · exact MemAct.low_mono hB (h.seen op hop)
    · exact (hu op hop).2
theorem blk_of {l l' : Loc} {b b' : Nat} (h : blk l = some b) (h' : blk l' = some b') (e : l = l') : b = b' := by rw [e, h'] at h; exact (Option.some.inj h).symm
theorem TI.app (S : Sep Sx Atm Fz Own) (h : TI m0 j tz Sx Atm Fz Own B t) {g : Nat} (hg : inCrowd m0 j g) (hB : B ≤ B')
    (hu : ∀ op ∈ u, op.g = g ∧ (∀ x, op.act.touch? = some x → x.loc.isMemory = true → ∃ b, blk x.loc = some b ∧ NewT Atm Fz Own g b x) ∧ op.act.low B') : TI m0 j tz Sx Atm Fz Own B' (t ++ u) := by
  refine h.grow hB (fun said => noRace_append (h.clean said) (fun op hop => (hu op hop).1) fun i a ha op hop y hy hc => ?_) fun op hop => ⟨fun x hx hm => (hu op hop).1 ▸ ⟨hg, (hu op hop).2.1 x hx hm⟩, (hu op hop).2.2⟩
  obtain ⟨b', hb', hN⟩ := (hu op hop).2.1 y hy (hc.1 ▸ hc.2.1)
  by_cases hi : i < tz
  · rcases h.old i a hi ha hc.2.1 with k | ⟨⟨b, hb, hS⟩, _⟩
    · exact k g hg
    · obtain rfl := blk_of hb hb' hc.1
      rcases hN with ⟨x, _⟩ | ⟨x, _⟩ | ⟨x, _⟩
      · exact (S.aS _ x hS).elim
      · exact (S.oS _ _ x hS).elim
      · exact (S.fS _ x hS).elim
  · obtain ⟨op', ho', hta⟩ := touch_of ha
    obtain ⟨_, b, hb, hM⟩ := h.new i op' a (by omega) ho' hta hc.2.1
    obtain rfl := blk_of hb hb' hc.1
    have own : op'.g = g → Knows t g i := fun e => by
      have := knows_own ho'
      rwa [e] at this
    obtain ⟨hl, hm, hw, hk⟩ := hc
    rcases hM with ⟨m1, m2, m3⟩ | ⟨m1, m2⟩ | ⟨m1, m2, m3⟩ <;> rcases hN with ⟨n1, n2, n3⟩ | ⟨n1, n2⟩ | ⟨n1, n2, n3⟩
    · rcases hk with hk | hk | ⟨_, k1, k2⟩
      · exact (m2 hk).elim
      · exact (n2 hk).elim
      · exact own ((m3 k1).trans (n3 k2).symm)
    · exact (S.oA _ _ n1 m1).elim
    · exact (S.fA _ n1 m1).elim
    · exact (S.oA _ _ m1 n1).elim
    · exact own (S.own _ _ _ m1 n1)
    · exact (S.oF _ _ m1 n1).elim
    · exact (S.fA _ m1 n1).elim
    · exact (S.oF _ _ n1 m1).elim
    · rcases hw with hw | hw
      · rw [m2] at hw; cases hw
      · rw [n2] at hw; cases hw
/-- Whoever touches nothing. -/
theorem TI.mute (h : TI m0 j tz Sx Atm Fz Own B t) {g : Nat} (hB : B ≤ B') (hu : ∀ op ∈ u, op.g = g ∧ op.act.touch? = none ∧ op.act.low B') : TI m0 j tz Sx Atm Fz Own B' (t ++ u) :=
  h.grow hB (fun said => noRace_append (h.clean said) (fun op hop => (hu op hop).1) fun i a _ op hop y hy _ => by rw [(hu op hop).2.1] at hy; cases hy)
    fun op hop => ⟨fun x hx => (by rw [(hu op hop).2.1] at hx; cases hx), (hu op hop).2.2⟩
/-- One worker more. -/
theorem TI.fork (h : TI m0 j tz Sx Atm Fz Own B t) {x y : MemOp} (hx : x.g = 0 ∧ x.act = .go (m0 + j)) (hy : y.g = m0 + j ∧ y.act = .start) (h0 : Deaf t 0 = 0) (hk : Deaf t (m0 + j) = 0) : TI m0 (j + 1) tz Sx Atm Fz Own B (t ++ #[x, y]) := by
  have e : t ++ #[x, y] = (t ++ #[x]) ++ #[y] := by apply Array.ext'; simp
  have h1 : TI m0 j tz Sx Atm Fz Own B (t ++ #[x]) := h.mute (g := 0) (Nat.le_refl _) fun op hop => by
    have : op = x := by simpa using hop
    subst this
    exact ⟨hx.1, by rw [hx.2]; rfl, by rw [hx.2]; trivial⟩
  have h2 : TI m0 j tz Sx Atm Fz Own B (t ++ #[x, y]) := by
    rw [e]
    exact h1.mute (g := m0 + j) (Nat.le_refl _) fun op hop => by
      have : op = y := by simpa using hop
      subst this
      exact ⟨hy.1, by rw [hy.2]; rfl, by rw [hy.2]; trivial⟩
  refine ⟨h2.clean, h2.len, fun i a hi ha hm => ?_, fun i op a hi ho ha hm => let ⟨h0, h1⟩ := h2.new i op a hi ho ha hm; ⟨h0.imp id fun z => ⟨z.1, by omega⟩, h1⟩, h2.over, h2.seen⟩
  have hl := h.len
  rw [touchAt_old (by omega)] at ha
  rcases h.old i a hi ha hm with k | k
  · refine .inl fun g hg => ?_
    by_cases hgj : g = m0 + j
    · subst hgj
      exact fork_knows hx hy h0 hk (k 0 (.inl rfl))
    · exact (k g (hg.imp id fun z => ⟨z.1, by omega⟩)).app _
  · exact .inr k
/-- The beginning. -/
theorem ti_begin {Sx : Nat → Prop} (h : Past (ShunB Sx) B t) : TI m0 0 t.size Sx Atm Fz Own B t :=
  ⟨h.clean, Nat.le_refl _, fun i x _ hx hm => (h.known i x hx hm).imp (fun k g hg => by
      rcases hg with rfl | hg
      · exact k
      · omega) id,
    fun i op x hi ho _ _ => by have := lt_size_of_getElem? ho; omega, fun i g _ hg hne hc => h.over i g hg hne hc, h.seen⟩
end
end Go.Proofs.YtobpjijdebnaoaaDoor
namespace Go.Proofs.YtobpjijdebnaoaaDoor
open Go Go.Conc
def sA (Wg : Nat) : Addr := ⟨Wg, 0, none⟩
/-- Worker g has said its release at r; what it has touched since is the group's own, atomically, while it is deaf. -/
structure Rlsd (Wg g r : Nat) (t : Trace) : Prop where
  at_ : ∃ op, t[r]? = some op ∧ op.g = g ∧ op.act = .mark (.releaseMerge (sA Wg))
  heard : t.heard r
  late : ∀ (i : Nat) op x, r < i → t[i]? = some op → op.g = g → op.act.touch? = some x → x.kind = .atomic ∧ blk x.loc = some Wg ∧ ¬ t.heard i
section
variable {m0 j tz : Nat} {Sx Atm Fz : Nat → Prop} {Own Own' : Nat → Nat → Prop} {B B' : Nat} {t u : Trace} {Wg g r : Nat}
theorem Rlsd.lt (h : Rlsd Wg g r t) : r < t.size := by obtain ⟨op, h1, _⟩ := h.at_; exact lt_size_of_getElem? h1
theorem Rlsd.app (h : Rlsd Wg g r t) (hu : ∀ (i : Nat) op x, t.size ≤ i → (t ++ u)[i]? = some op → op.g = g → op.act.touch? = some x → x.kind = .atomic ∧ blk x.loc = some Wg ∧ ¬ (t ++ u).heard i) : Rlsd Wg g r (t ++ u) := by
  obtain ⟨op, h1, h2, h3⟩ := h.at_
  refine ⟨⟨op, by rw [getElem?_append_old h.lt]; exact h1, h2, h3⟩, (heard_old h.lt).2 h.heard, fun i op x hi ho hg hx => ?_⟩
  by_cases hlt : i < t.size
  · rw [getElem?_append_old hlt] at ho
    obtain ⟨a, b, c⟩ := h.late i op x hi ho hg hx
    exact ⟨a, b, fun hh => c ((heard_old hlt).1 hh)⟩
  · exact hu i op x (by omega) ho hg hx
/-- The others' doing. -/
theorem Rlsd.other (h : Rlsd Wg g r t) (hu : ∀ op ∈ u, op.g ≠ g) : Rlsd Wg g r (t ++ u) := h.app fun i op x hi ho hg _ => by
  rcases getElem?_append_cases ho with ⟨hlt, _⟩ | ⟨_, hm⟩
  · omega
  · exact (hu op hm hg).elim
/-- Its own, touching nothing. -/
theorem Rlsd.still (h : Rlsd Wg g r t) (hu : ∀ op ∈ u, op.act.touch? = none) : Rlsd Wg g r (t ++ u) := h.app fun i op x hi ho _ hx => by
  rcases getElem?_append_cases ho with ⟨hlt, _⟩ | ⟨_, hm⟩
  · omega
  · rw [hu op hm] at hx; cases hx
/-- Its own atomic steps on the group, while it is deaf. -/
theorem Rlsd.deaf (h : Rlsd Wg g r t) {fn : FuncId} {pos : String} {es : Array Event} (hd : 1 ≤ Deaf t g) (he : ∀ e ∈ es, e.sync = true ∧ ∃ a : Addr, e.loc = .cell a ∧ a.block = Wg) : Rlsd Wg g r (t ++ MemOp.ofEvents g fn pos es) := by
  have marks : ∀ e ∈ es, e.loc ≠ .mark .disable ∧ e.loc ≠ .mark .enable := fun e hx => by
    obtain ⟨_, a, h1, _⟩ := he e hx
    rw [h1]; exact ⟨by simp, by simp⟩
  refine h.app fun i op x hi ho hg hx => ?_
  rcases getElem?_append_cases ho with ⟨hlt, _⟩ | ⟨_, hm⟩
  · omega
  · obtain ⟨e, hes, rfl⟩ := Go.Conc.mem_ofEvents hm
    obtain ⟨h1, a, h2, h3⟩ := he e hes
    obtain ⟨loc, wr, sy⟩ := e
    simp only at h1 h2
    subst h1 h2
    simp only [MemAct.ofEvent, MemAct.touch?, Option.some.injEq] at hx
    subst hx
    refine ⟨rfl, by simp [blk, h3], fun ⟨g', hg', hdf⟩ => ?_⟩
    have e1 : g' = g := by
      have : (t ++ MemOp.ofEvents g fn pos es).g? i = some g := by simp only [Trace.g?, ho, Option.map_some]
      rw [this] at hg'
      exact (Option.some.inj hg').symm
    subst e1
    obtain ⟨k, rfl⟩ : ∃ k, i = t.size + k := ⟨i - t.size, by omega⟩
    have hk : k ≤ es.size := by
      have := lt_size_of_getElem? ho
      rw [Array.size_append, ofEvents_eq, Array.size_map] at this
      omega
    rw [deaf_inside t g' fn pos es k hk] at hdf
    have := deafBehind_still (es := es.extract 0 k) (fun e hx => marks e (by
      obtain ⟨q, hq, rfl⟩ := Array.mem_iff_getElem.1 hx
      rw [Array.getElem_extract]
      exact Array.getElem_mem _)) (Deaf t g')
    rw [this] at hdf
    omega
/-- Said now, by one who hears. -/
theorem Rlsd.new {y : MemOp} (hg : y.g = g) (hy : y.act = .mark (.releaseMerge (sA Wg))) (hd : Deaf t g = 0) : Rlsd Wg g t.size (t ++ #[y]) := by
  have hl : (t ++ #[y])[t.size]? = some y := by rw [Array.getElem?_append_right (Nat.le_refl _)]; simp
  refine ⟨⟨y, hl, hg, hy⟩, ⟨g, by simp only [Trace.g?, hl, Option.map_some, hg], by rw [deaf_old (Nat.le_refl _)]; exact hd⟩, fun i op x hi ho _ _ => ?_⟩
  have := lt_size_of_getElem? ho
  simp at this
  omega
/-- ALL IS HANDED OVER. -/
theorem past_end {n : Nat} (h : TI m0 n tz Sx Atm Fz Own B t) (hr : ∀ g, m0 ≤ g → g < m0 + n → ∃ r, Rlsd Wg g r t) (hn : NoRelease (sA Wg) t) (h0 : Deaf t 0 = 0) (hW : Wg < B) {y : MemOp} (hg : y.g = 0) (hy : y.act = .mark (.acquire (sA Wg))) :
    Past (ShunB fun b => Sx b ∨ b = Wg) B (t ++ #[y]) := by
  have hl : (t ++ #[y])[t.size]? = some y := by rw [Array.getElem?_append_right (Nat.le_refl _)]; simp
  have hnone : ∀ op ∈ #[y], op.act.touch? = none := fun op hop => by
    have : op = y := by simpa using hop
    subst this; rw [hy]; rfl
  have h1 : TI m0 n tz Sx Atm Fz Own B (t ++ #[y]) := h.mute (g := 0) (Nat.le_refl _) fun op hop => by
    have : op = y := by simpa using hop
    subst this
    exact ⟨hg, by rw [hy]; rfl, by rw [hy]; exact hW⟩
  have hhy : (t ++ #[y]).heard t.size := ⟨0, by simp only [Trace.g?, hl, Option.map_some, hg], by rw [deaf_old (Nat.le_refl _)]; exact h0⟩
  -- what a worker did ahead of its release happens before the acquire
  have edge : ∀ g r i op, Rlsd Wg g r t → t[i]? = some op → op.g = g → i < r → HappensBefore (t ++ #[y]) i t.size := by
    intro g r i op hR hi hgi hlt
    obtain ⟨o, o1, o2, o3⟩ := hR.at_
    have e1 : HappensBefore t i r := hb_po hlt hi o1 (by rw [hgi, o2])
    have o1' : (t ++ #[y])[r]? = some o := by rw [getElem?_append_old hR.lt]; exact o1
    refine (hb_app _ e1).trans (.single (.inr ⟨.marked (a := sA Wg) hR.lt (.inr (by rw [act?_of o1', o3])) (by rw [act?_of hl, hy]) (fun k k1 k2 e => ?_), (heard_old hR.lt).2 hR.heard, hhy⟩))
    rw [act?_old k2] at e
    exact hn k e
  refine ⟨h1.clean, fun i a ha hm => ?_, fun i g hgi hne hc => ?_, ?_, h1.seen⟩
  · by_cases hi : i < tz
    · rcases h1.old i a hi ha hm with k | ⟨⟨b, b1, b2⟩, k⟩
      · exact .inl (k 0 (.inl rfl))
      · exact .inr ⟨⟨b, b1, .inl b2⟩, k⟩
    · obtain ⟨op, ho, hta⟩ := touch_of ha
      obtain ⟨hcr, b, hb, hN⟩ := h1.new i op a (by omega) ho hta hm
      have hlt : i < t.size := by
        rcases getElem?_append_cases ho with ⟨z, _⟩ | ⟨_, hmem⟩
        · exact z
        · rw [hnone op hmem] at hta; cases hta
      have ho' : t[i]? = some op := by rw [← getElem?_append_old hlt]; exact ho
      rcases hcr with h00 | ⟨g1, g2⟩
      · have := knows_own ho
        rw [h00] at this
        exact .inl this
      · obtain ⟨r, hR⟩ := hr op.g g1 g2
        rcases Nat.lt_trichotomy i r with hir | hir | hir
        · exact .inl ⟨t.size, y, hl, hg, .inr (edge _ _ _ _ hR ho' rfl hir)⟩
        · subst hir
          obtain ⟨o, o1, _, o3⟩ := hR.at_
          rw [ho'] at o1
          cases o1
          rw [o3] at hta; cases hta
        · obtain ⟨k1, k2, _⟩ := hR.late i op a hir ho' rfl hta
          exact .inr ⟨⟨Wg, k2, .inr rfl⟩, k1⟩
  · by_cases hi : i < tz
    · exact h1.over i g hi hgi hne hc
    · obtain ⟨x, hx, hm, hcn⟩ := hc
      obtain ⟨op, ho, hta⟩ := touch_of hx
      obtain ⟨hcr, _⟩ := h1.new i op x (by omega) ho hta hm
      have hlt : i < t.size := by
        rcases getElem?_append_cases ho with ⟨z, _⟩ | ⟨_, hmem⟩
        · exact z
        · rw [hnone op hmem] at hta; cases hta
      have ho' : t[i]? = some op := by rw [← getElem?_append_old hlt]; exact ho
      have eg : op.g = g := by
        simp only [Trace.g?, ho, Option.map_some, Option.some.injEq] at hgi
        exact hgi
      rcases hcr with h00 | ⟨g1, g2⟩
      · exact (hne (by rw [← eg, h00])).elim
      · obtain ⟨r, hR⟩ := hr op.g g1 g2
        rcases Nat.lt_trichotomy i r with hir | hir | hir
        · exact ⟨t.size, by simp only [Trace.g?, hl, Option.map_some, hg], edge _ _ _ _ hR ho' rfl hir⟩
        · subst hir
          obtain ⟨o, o1, _, o3⟩ := hR.at_
          rw [ho'] at o1
          cases o1
          rw [o3] at hta; cases hta
        · obtain ⟨k1, _, k3⟩ := hR.late i op x hir ho' rfl hta
          rcases hcn with hcn | hcn
          · exact (hcn k1).elim
          · exact (k3 ((heard_old hlt).1 hcn)).elim
  · rw [Deaf_push]
    simp only [deafStep, hy]
    exact h0
end
/-- What the others may do: what is mine and what nobody writes stands; Ex: what else is known of them. -/
structure Rly (Fz : Nat → Prop) (Ex : World → World → Prop) (O : Nat → Prop) (w w₁ : World) : Prop where
  mine : ∀ b, O b → w₁.heap[b]? = w.heap[b]?
  fz : ∀ b, Fz b → w₁.heap[b]? = w.heap[b]?
  size : w.heap.size ≤ w₁.heap.size
  tape : w₁.tape = w.tape
  os : w₁.os = w.os
  output : w₁.output = w.output
  ex : Ex w w₁
/-- What a step of mine does. -/
structure Gua (O : Nat → Prop) (w w' : World) : Prop where
  keep : ∀ b, b < w.heap.size → ¬ O b → w'.heap[b]? = w.heap[b]?
  size : w.heap.size ≤ w'.heap.size
  tape : w'.tape = w.tape
  os : w'.os = w.os
  output : w'.output = w.output
/-- What is new is mine. -/
def grow (O : Nat → Prop) (w w' : World) (b : Nat) : Prop := O b ∨ (w.heap.size ≤ b ∧ b < w'.heap.size)
def EvC (Fz O : Nat → Prop) (e : Event) : Prop :=
  (∃ b, blk e.loc = some b ∧ e.sync = false ∧ (O b ∨ (Fz b ∧ e.write = false))) ∨ (∃ m, e.loc = .mark m ∧ benign m = true)
variable {P : Program} {main sil : Bool} {Fz : Nat → Prop} {Ex : World → World → Prop} {O O' : Nat → Prop} {Stop : (Nat → Prop) → Goroutine → World → Prop}
/-- (sil: it lists nothing on its way.) -/
def Co (P : Program) (main sil : Bool) (Fz : Nat → Prop) (Ex : World → World → Prop) (Stop : (Nat → Prop) → Goroutine → World → Prop) (O : Nat → Prop) (g : Goroutine) (w : World) : Prop :=
  ∀ M : (Nat → Prop) → Goroutine → World → Prop,
    (∀ O g w, g.status = .running → (∀ w₁, Rly Fz Ex O w w₁ → Stop O g w₁) → M O g w) →
    (∀ O g w, g.status = .running → (∀ w₁, Rly Fz Ex O w w₁ → ∃ g' w' es, stepG P main g w₁ = .go g' w' es ∧ Gua O w₁ w' ∧ (∀ e ∈ es, EvC Fz (grow O w₁ w') e) ∧ (sil = true → es = #[]) ∧ M (grow O w₁ w') g' w') → M O g w) → M O g w
theorem Co.stop {g : Goroutine} {w : World} (hr : g.status = .running) (h : ∀ w₁, Rly Fz Ex O w w₁ → Stop O g w₁) : Co P main sil Fz Ex Stop O g w := fun _ h1 _ => h1 O g w hr h
theorem Co.step {g : Goroutine} {w : World} (hr : g.status = .running) (h : ∀ w₁, Rly Fz Ex O w w₁ → ∃ g' w' es, stepG P main g w₁ = .go g' w' es ∧ Gua O w₁ w' ∧ (∀ e ∈ es, EvC Fz (grow O w₁ w') e) ∧ (sil = true → es = #[]) ∧ Co P main sil Fz Ex Stop (grow O w₁ w') g' w') : Co P main sil Fz Ex Stop O g w :=
  fun M h1 h2 => h2 O g w hr fun w₁ r => let ⟨g', w', es, a, b, c, s, d⟩ := h w₁ r; ⟨g', w', es, a, b, c, s, d M h1 h2⟩
theorem Co.cases {g : Goroutine} {w : World} (h : Co P main sil Fz Ex Stop O g w) : g.status = .running ∧ ((∀ w₁, Rly Fz Ex O w w₁ → Stop O g w₁) ∨ ∀ w₁, Rly Fz Ex O w w₁ → ∃ g' w' es, stepG P main g w₁ = .go g' w' es ∧ Gua O w₁ w' ∧ (∀ e ∈ es, EvC Fz (grow O w₁ w') e) ∧ (sil = true → es = #[]) ∧ Co P main sil Fz Ex Stop (grow O w₁ w') g' w') :=
  h (fun O g w => g.status = .running ∧ ((∀ w₁, Rly Fz Ex O w w₁ → Stop O g w₁) ∨ ∀ w₁, Rly Fz Ex O w w₁ → ∃ g' w' es, stepG P main g w₁ = .go g' w' es ∧ Gua O w₁ w' ∧ (∀ e ∈ es, EvC Fz (grow O w₁ w') e) ∧ (sil = true → es = #[]) ∧ Co P main sil Fz Ex Stop (grow O w₁ w') g' w'))
    (fun _ _ _ hr hs => ⟨hr, .inl hs⟩)
    (fun _ _ _ hr hs => ⟨hr, .inr fun w₁ r => by
      obtain ⟨g', w', es, a, b, c, s, hr', d⟩ := hs w₁ r
      refine ⟨g', w', es, a, b, c, s, ?_⟩
      rcases d with d | d
      · exact Co.stop hr' d
      · exact Co.step hr' d⟩)
/-- A step on the way, from where it was anchored. -/
def Cf (P : Program) (main : Bool) (Fz : Nat → Prop) (Ex : World → World → Prop) (Stop : (Nat → Prop) → Goroutine → World → Prop) (c' c : (Nat → Prop) × Goroutine × World) : Prop :=
  ¬ (∀ w₁, Rly Fz Ex c.1 c.2.2 w₁ → Stop c.1 c.2.1 w₁) ∧ ∃ w₁ es, Rly Fz Ex c.1 c.2.2 w₁ ∧ stepG P main c.2.1 w₁ = .go c'.2.1 c'.2.2 es ∧ c'.1 = grow c.1 w₁ c'.2.2
theorem Co.acc {g : Goroutine} {w : World} (h : Co P main sil Fz Ex Stop O g w) : Acc (Cf P main Fz Ex Stop) (O, g, w) :=
  h (fun O g w => Acc (Cf P main Fz Ex Stop) (O, g, w))
    (fun _ _ _ _ hs => Acc.intro _ fun _ hc => (hc.1 hs).elim)
    (fun O g w _ hs => Acc.intro _ fun c' hc => by
      obtain ⟨_, w₁, es, r, e, eO⟩ := hc
      obtain ⟨g', w', es', a, _, _, _, d⟩ := hs w₁ r
      simp only at e
      rw [e] at a
      cases a
      obtain ⟨O', g2, w2⟩ := c'
      simp only at eO d ⊢
      rw [eO]; exact d)
/-- What the others do does not unseat it. -/
theorem Rly.trans (hE : ∀ a b c, Ex a b → Ex b c → Ex a c) {w w₁ w₂ : World} (h : Rly Fz Ex O w w₁) (k : Rly Fz Ex O w₁ w₂) : Rly Fz Ex O w w₂ :=
  ⟨fun b x => (k.mine b x).trans (h.mine b x), fun b x => (k.fz b x).trans (h.fz b x), Nat.le_trans h.size k.size, k.tape.trans h.tape, k.os.trans h.os, k.output.trans h.output, hE _ _ _ h.ex k.ex⟩
theorem Rly.refl (hE : ∀ a, Ex a a) (w : World) : Rly Fz Ex O w w := ⟨fun _ _ => rfl, fun _ _ => rfl, Nat.le_refl _, rfl, rfl, rfl, hE w⟩
theorem Co.rely (hE : ∀ a b c, Ex a b → Ex b c → Ex a c) {g : Goroutine} {w w₁ : World} (h : Co P main sil Fz Ex Stop O g w) (hr : Rly Fz Ex O w w₁) : Co P main sil Fz Ex Stop O g w₁ := by
  obtain ⟨h0, h⟩ := h.cases
  rcases h with h | h
  · exact Co.stop h0 fun w₂ h₂ => h w₂ (hr.trans hE h₂)
  · exact Co.step h0 fun w₂ h₂ => h w₂ (hr.trans hE h₂)
theorem Gua.refl {w : World} : Gua O w w := ⟨fun _ _ _ => rfl, Nat.le_refl _, rfl, rfl, rfl⟩
theorem grow_same (w : World) : grow O w w = O := by
  funext b
  refine propext ⟨fun h => h.elim id fun x => ?_, .inl⟩
  omega
/-- A silent step, the same in every world. -/
theorem co_pure {g g' : Goroutine} {w : World} (hr : g.status = .running) (hs : ∀ w, stepG P main g w = .go g' w #[]) (h : ∀ w₁, Rly Fz Ex O w w₁ → Co P main sil Fz Ex Stop O g' w₁) : Co P main sil Fz Ex Stop O g w :=
  Co.step hr fun w₁ r => ⟨g', w₁, #[], hs w₁, Gua.refl, fun e he => by simp at he, fun _ => rfl, by rw [grow_same]; exact h w₁ r⟩
/-- As its ghost goes. -/
theorem co_inG {Z : Nat → Prop} {fns : Fx} {md : Bool} {Fin : Goroutine → World → Prop} {k0 : List Item} {K : List Frame} (hz : zeros P fns) (hdep : 0 < P.depth) (hp : okOne P fns) (hk : md = true → k0 = [])
    {Oi : Nat → Prop} (hstop : ∀ E g gh g' w, InG P fns Z md Fin k0 K E g gh g' w → atStop md [trapF] g → Fin g gh → Co P main false Fz Ex Stop (fun b => Oi b ∨ (¬ Fz b ∧ ∃ a, E a b)) g' w) :
    ∀ (c : Goroutine × World), Acc (Bf P md) c → ∀ (E : Nat → Nat → Prop) (g' : Goroutine) (w : World), InG P fns Z md Fin k0 K E c.1 c.2 g' w → (∀ a b, E a b → Z a → Fz b) → (∀ a b, E a b → ¬ Z a → ¬ Fz b) → (∀ b, Fz b → b < w.heap.size) →
      Co P main false Fz Ex Stop (fun b => Oi b ∨ (¬ Fz b ∧ ∃ a, E a b)) g' w := by
  intro c hacc
  induction hacc with
  | intro c _ ih =>
  intro E g' w hI hZ hnZ hFl
  rcases hI.runs.cases with ⟨h1, h2⟩ | ⟨hns, _⟩
  · exact hstop E c.1 c.2 g' w hI h1 h2
  · refine Co.step hI.gr.running fun w₁ r => ?_
    have hI1 : InG P fns Z md Fin k0 K E c.1 c.2 g' w₁ := hI.rely (fun a b x => by
      by_cases hf : Fz b
      · exact r.fz b hf
      · exact r.mine b (.inr ⟨hf, a, x⟩)) r.size
    rcases hI1.step (main := main) hz hdep hp hk with ⟨h1, _⟩ | ⟨E1, g1, wg1, g1', re', es', e1, e2, e3, e4, e5⟩
    · exact (hns h1).elim
    · have hfresh : ∀ a b, E1 a b → E a b ∨ (w₁.heap.size ≤ b ∧ ¬ Z a) := fun a b x => (e4.fresh a b x).imp id fun y => ⟨y.2, fun hz => by have := hI1.wr.zlow a hz; have e : (wOn c.2 w₁.tape w₁.drawn).heap.size = c.2.heap.size := rfl; omega⟩
      have hZ1 : ∀ a b, E1 a b → Z a → Fz b := fun a b x hz => (hfresh a b x).elim (fun y => hZ a b y hz) fun y => (y.2 hz).elim
      have hnZ1 : ∀ a b, E1 a b → ¬ Z a → ¬ Fz b := fun a b x hz => (hfresh a b x).elim (fun y => hnZ a b y hz) fun y hf => by
        have := hFl b hf; have := r.size; omega
      have hgrow : grow (fun b => Oi b ∨ (¬ Fz b ∧ ∃ a, E a b)) w₁ re' = fun b => Oi b ∨ (¬ Fz b ∧ ∃ a, E1 a b) := by
        funext b
        refine propext ⟨fun x => ?_, fun x => ?_⟩
        · rcases x with (x | ⟨hf, a, x⟩) | ⟨x, y⟩
          · exact .inl x
          · exact .inr ⟨hf, a, e4.up a b x⟩
          · have hn := e4.news (b - w₁.heap.size) (by
              have := e4.sizes
              have e : (wOn c.2 w₁.tape w₁.drawn).heap.size = c.2.heap.size := rfl
              omega)
            have eb : w₁.heap.size + (b - w₁.heap.size) = b := by omega
            rw [eb] at hn
            exact .inr ⟨fun hf => by have := hFl b hf; have := r.size; omega, _, hn⟩
        · rcases x with x | ⟨hf, a, x⟩
          · exact .inl (.inl x)
          · rcases hfresh a b x with y | y
            · exact .inl (.inr ⟨hf, a, y⟩)
            · exact .inr ⟨y.1, (e3.wr.lt x).2⟩
      refine ⟨g1', re', es', e1, ⟨fun b hb hno => ?_, e4.rsize, e4.rtape, e4.os, e4.output⟩, fun e he => ?_, fun x => (by cases x), ?_⟩
      · refine e4.keep b hb fun a x => Classical.byContradiction fun hnz => hno (.inr ⟨hnZ a b x hnz, a, x⟩)
      · rw [hgrow]
        rcases e5 e he with ⟨b, h1, h2, a, h3, h4⟩ | h
        · refine .inl ⟨b, h1, h2, ?_⟩
          by_cases hf : Fz b
          · refine .inr ⟨hf, ?_⟩
            cases hw : e.write with
            | false => rfl
            | true => exact (hnZ1 a b h3 (h4 hw) hf).elim
          · exact .inl (.inr ⟨hf, a, h3⟩)
        · exact .inr h
      · rw [hgrow]
        exact ih (g1, wg1) e2 E1 g1' re' e3 hZ1 hnZ1 (fun b hf => Nat.lt_of_lt_of_le (hFl b hf) (Nat.le_trans r.size e4.rsize))
/-- A walk that turns nothing and lists nothing. -/
theorem co_goes {R : World → World → Prop} {Stop' : Goroutine → World → Prop} (hR : ∀ w w₁, Rly Fz Ex O w w₁ → R w w₁) (hs : ∀ g w, Stop' g w → g.status = .running ∧ Stop O g w) (hE : ∀ a, Ex a a) : ∀ (n : Nat) {g : Goroutine} {w : World}, Goes P main R (fun w w' es => w' = w ∧ es = #[]) Stop' n g w → Co P main sil Fz Ex Stop O g w
  | 0, g, w, h => Co.stop (hs g w (h w (hR w w (Rly.refl hE w)))).1 fun w₁ r => (hs g w₁ (h w₁ (hR w w₁ r))).2
  | n + 1, g, w, h => by
    rcases h with h | ⟨hr, h⟩
    · exact Co.stop (hs g w (h w (hR w w (Rly.refl hE w)))).1 fun w₁ r => (hs g w₁ (h w₁ (hR w w₁ r))).2
    · refine Co.step hr fun w₁ r => ?_
      have h1 := h w₁ (hR w w₁ r)
      cases hst : stepG P main g w₁ with
      | go g' w' es =>
        rw [hst, goes_go] at h1
        obtain ⟨⟨rfl, rfl⟩, h2⟩ := h1
        exact ⟨g', _, #[], rfl, Gua.refl, fun e he => (by simp at he), fun _ => rfl, by rw [grow_same]; exact co_goes hR hs hE n h2⟩
      | _ => rw [hst] at h1; exact h1.elim
end Go.Proofs.YtobpjijdebnaoaaDoor
namespace Go.Proofs.YtobpjijdebnaoaaDoor
open Go Go.Conc
open Go.ConcN (sumTo upd sumTo_upd upd_ne upd_same)
structure Th where
  kind : Nat
  sil : Bool
  S : (Nat → Prop) → Goroutine → World → Prop
  O : Nat → Prop
  wa : World
  q : Nat
  d : Nat
def thI (P : Program) (Fz : Nat → Prop) (Ex : World → World → Prop) (main : Bool) (th : Th) (g : Goroutine) (w : World) : Prop :=
  (th.kind = 0 ∧ Co P main th.sil Fz Ex th.S th.O g th.wa ∧ Rly Fz Ex th.O th.wa w) ∨
  (th.kind = 1 ∧ main = false ∧ QuitsD P th.q th.d g) ∨
  (th.kind = 2 ∧ ∃ g0, g = { g0 with status := .blocked } ∧ g0.offers = none ∧ Co P main th.sil Fz Ex th.S th.O g0 th.wa ∧ Rly Fz Ex th.O th.wa w)
/-- Who sleeps may try again. -/
def wakeTh (b : Bool) (th : Th) : Th := { th with kind := if b = true ∧ th.kind = 2 then 0 else th.kind }
def wk (P : Program) (g g' : Goroutine) : Bool := mayWake P g && g'.status != .blocked && g'.status != .waiting
section
variable {P : Program} {Fz : Nat → Prop} {Ex : World → World → Prop} {main : Bool} {th : Th} {g x x' : Goroutine} {w w' : World}
theorem woken_wk (o : Goroutine) : woken P x x' w o = if wk P x x' then o.again w else o := rfl
theorem thI.status (h : thI P Fz Ex main th g w) : g.status = .running ∨ g.status = .blocked ∨ g.status = .finished := by
  rcases h with ⟨_, h, _⟩ | ⟨_, _, h⟩ | ⟨_, g0, rfl, _⟩
  · exact .inl h.cases.1
  · exact h.status.imp id .inr
  · exact .inr (.inl rfl)
theorem thI.wake (h : thI P Fz Ex main th g w) : thI P Fz Ex main (wakeTh (wk P x x') th) (woken P x x' w' g) w := by
  rcases h with ⟨hk, h1, h2⟩ | ⟨hk, hm, h1⟩ | ⟨hk, g0, rfl, ho, h1, h2⟩
  · rw [woken_run h1.cases.1]
    exact .inl ⟨by simp [wakeTh, hk], h1, h2⟩
  · rw [woken_quitsD h1]
    exact .inr (.inl ⟨by simp [wakeTh, hk], hm, h1⟩)
  · rw [woken_wk]
    cases hb : wk P x x' with
    | true =>
      have : ({ g0 with status := .blocked } : Goroutine).again w' = g0 := by
        have hr := h1.cases.1
        obtain ⟨f, c, s, d, o⟩ := g0
        simp only at hr ho
        subst hr ho
        rfl
      simp only [if_true, this]
      exact .inl ⟨by simp [wakeTh, hk], h1, h2⟩
    | false =>
      simp only [Bool.false_eq_true, if_false]
      exact .inr (.inr ⟨by simp [wakeTh, hk], g0, rfl, ho, h1, h2⟩)
/-- The others' step. -/
theorem thI.rely (hE : ∀ a b c, Ex a b → Ex b c → Ex a c) (h : thI P Fz Ex main th g w) (hr : Rly Fz Ex th.O w w') : thI P Fz Ex main th g w' := by
  rcases h with ⟨hk, h1, h2⟩ | h | ⟨hk, g0, e, ho, h1, h2⟩
  · exact .inl ⟨hk, h1, h2.trans hE hr⟩
  · exact .inr (.inl h)
  · exact .inr (.inr ⟨hk, g0, e, ho, h1, h2.trans hE hr⟩)
end
structure GI (P : Program) (m0 tz : Nat) (Sx Atm Fz Sh : Nat → Prop) (Ex : World → World → Prop) (j : Nat) (T : Nat → Th) (q : Nat → Nat) (gs : Array Goroutine) (w : World) (t : Trace) : Prop where
  pos : 1 ≤ m0
  sz : gs.size = m0 + j
  th : ∀ i, inCrowd m0 j i → ∃ g, gs[i]? = some g ∧ thI P Fz Ex (i == 0) (T i) g w ∧ Deaf t i = (T i).d
  lv : ∀ i g, 0 < i → i < m0 → gs[i]? = some g → QuitsD P (q i) (Deaf t i) g
  above : ∀ i, m0 + j ≤ i → Deaf t i = 0
  ti : TI m0 j tz Sx Atm Fz (fun g b => (T g).O b) w.heap.size t
  own : ∀ i i' b, (T i).O b → (T i').O b → i = i'
  olow : ∀ i b, (T i).O b → b < w.heap.size ∧ ¬ Fz b ∧ ¬ Sh b ∧ ¬ Sx b
  fzl : ∀ b, Fz b → b < w.heap.size ∧ ¬ Sh b ∧ ¬ Sx b
  shl : ∀ b, Sh b → b < w.heap.size ∧ ¬ Sx b
  sxl : ∀ b, Sx b → b < w.heap.size
  atm : ∀ b, Atm b → Sh b
  out : ∀ i, ¬ inCrowd m0 j i → ∀ b, ¬ (T i).O b
section
variable {P : Program} {m0 tz : Nat} {Sx Atm Fz Sh : Nat → Prop} {Ex : World → World → Prop} {j : Nat} {T : Nat → Th} {q : Nat → Nat} {gs : Array Goroutine} {w : World} {t : Trace}
theorem GI.sep (h : GI P m0 tz Sx Atm Fz Sh Ex j T q gs w t) : Sep Sx Atm Fz (fun g b => (T g).O b) :=
  ⟨h.own, fun g b x => (h.olow g b x).2.1, fun g b x y => (h.olow g b x).2.2.1 (h.atm b y), fun g b x => (h.olow g b x).2.2.2, fun b x y => (h.fzl b x).2.1 (h.atm b y), fun b x => (h.fzl b x).2.2, fun b x => (h.shl b (h.atm b x)).2⟩
theorem rly_at (hE : ∀ (w : World) d, Ex w (w.at d)) (O : Nat → Prop) (w : World) (d : Nat) : Rly Fz Ex O w (w.at d) := ⟨fun _ _ => rfl, fun _ _ => rfl, Nat.le_refl _, rfl, rfl, rfl, hE w d⟩
/-- The scheduler's draws. -/
theorem GI.at (h : GI P m0 tz Sx Atm Fz Sh Ex j T q gs w t) (hE : ∀ a b c, Ex a b → Ex b c → Ex a c) (hA : ∀ (w : World) d, Ex w (w.at d)) (d : Nat) : GI P m0 tz Sx Atm Fz Sh Ex j T q gs (w.at d) t :=
  { h with th := fun i hi => let ⟨g, a, b, c⟩ := h.th i hi; ⟨g, a, b.rely hE (rly_at hA _ w d), c⟩ }
theorem cr_lt (h : GI P m0 tz Sx Atm Fz Sh Ex j T q gs w t) {i : Nat} (hi : inCrowd m0 j i) : i < gs.size := by
  rw [h.sz]; have := h.pos; rcases hi with rfl | hi <;> omega
/-- What is kept by a step of goroutine i that goes on: its own new state is given. -/
theorem GI.go (h : GI P m0 tz Sx Atm Fz Sh Ex j T q gs w t) (hE : ∀ a b c, Ex a b → Ex b c → Ex a c) {i : Nat} (hi : inCrowd m0 j i) {g g' : Goroutine} {w' : World} {es : Array Event} {th' : Th}
    (hg : gs[i]? = some g) (hst : stepG P (i == 0) g w = .go g' w' es) (hI : thI P Fz Ex (i == 0) th' g' w')
    (hd : deafBehind (T i).d es = th'.d) (hO : ∀ b, (T i).O b → th'.O b) (hO' : ∀ b, th'.O b → (T i).O b ∨ (w.heap.size ≤ b ∧ b < w'.heap.size))
    (hkeep : ∀ b, b < w.heap.size → ¬ (T i).O b → ¬ Sh b → w'.heap[b]? = w.heap[b]?) (hsize : w.heap.size ≤ w'.heap.size) (htp : w'.tape = w.tape) (hos : w'.os = w.os) (hou : w'.output = w.output) (hEx : Ex w w')
    (hev : ∀ e ∈ es, (∀ x, (MemAct.ofEvent e).touch? = some x → x.loc.isMemory = true → ∃ b, blk x.loc = some b ∧ NewT Atm Fz (fun g b => (upd T i th' g).O b) i b x) ∧ (MemAct.ofEvent e).low w'.heap.size) (sl : Option (Nat × Nat)) :
    runT P (crowd gs w sl) i = (.next (crowd ((gs.map (woken P g g' w')).setIfInBounds i g') w' sl), MemOp.ofEvents i g.frame.fn g.frame.place es) ∧
      GI P m0 tz Sx Atm Fz Sh Ex j (upd (fun k => wakeTh (wk P g g') (T k)) i th') q ((gs.map (woken P g g' w')).setIfInBounds i g') w' (t ++ MemOp.ofEvents i g.frame.fn g.frame.place es) := by
  have hlt := cr_lt h hi
  have hlow : ∀ b, th'.O b → b < w'.heap.size ∧ ¬ Fz b ∧ ¬ Sh b ∧ ¬ Sx b := fun b x => by
    rcases hO' b x with y | ⟨y1, y2⟩
    · have := h.olow i b y; exact ⟨by omega, this.2⟩
    · refine ⟨y2, fun z => ?_, fun z => ?_, fun z => ?_⟩
      · have := (h.fzl b z).1; omega
      · have := (h.shl b z).1; omega
      · have := h.sxl b z; omega
  have hOw : ∀ k, (upd (fun k => wakeTh (wk P g g') (T k)) i th' k).O = (upd T i th' k).O := fun k => by
    by_cases hk : k = i
    · subst hk; rw [upd_same, upd_same]
    · rw [upd_ne _ _ hk, upd_ne _ _ hk]; rfl
  have hup : ∀ k b, (T k).O b → (upd T i th' k).O b := fun k b x => by
    by_cases hk : k = i
    · subst hk; rw [upd_same]; exact hO b x
    · rw [upd_ne _ _ hk]; exact x
  have hown : ∀ k k' b, (upd T i th' k).O b → (upd T i th' k').O b → k = k' := fun k k' b x y => by
    by_cases hk : k = i <;> by_cases hk' : k' = i
    · rw [hk, hk']
    · subst hk
      rw [upd_same] at x
      rw [upd_ne _ _ hk'] at y
      rcases hO' b x with z | ⟨z, _⟩
      · exact h.own _ _ b z y
      · have := (h.olow k' b y).1; omega
    · subst hk'
      rw [upd_same] at y
      rw [upd_ne _ _ hk] at x
      rcases hO' b y with z | ⟨z, _⟩
      · exact h.own _ _ b x z
      · have := (h.olow k b x).1; omega
    · rw [upd_ne _ _ hk] at x
      rw [upd_ne _ _ hk'] at y
      exact h.own _ _ b x y
  have rel : ∀ k, k ≠ i → Rly Fz Ex (T k).O w w' := fun k hk =>
    ⟨fun b x => hkeep b (h.olow k b x).1 (fun y => hk (h.own _ _ b x y)) (h.olow k b x).2.2.1, fun b x => hkeep b (h.fzl b x).1 (fun y => (h.olow i b y).2.1 x) (h.fzl b x).2.1, hsize, htp, hos, hou, hEx⟩
  have sep' : Sep Sx Atm Fz (fun g b => (upd T i th' g).O b) := by
    have hl : ∀ k b, (upd T i th' k).O b → ¬ Fz b ∧ ¬ Sh b ∧ ¬ Sx b := fun k b x => by
      by_cases hk : k = i
      · subst hk; rw [upd_same] at x; exact (hlow b x).2
      · rw [upd_ne _ _ hk] at x; exact (h.olow k b x).2
    exact ⟨hown, fun g b x => (hl g b x).1, fun g b x y => (hl g b x).2.1 (h.atm b y), fun g b x => (hl g b x).2.2, fun b x y => (h.fzl b x).2.1 (h.atm b y), fun b x => (h.fzl b x).2.2, fun b x => (h.shl b (h.atm b x)).2⟩
  have others : ∀ k, k ≠ i → Deaf (t ++ MemOp.ofEvents i g.frame.fn g.frame.place es) k = Deaf t k := fun k hk => Deaf_other t (fun e => hk e.symm) _ (fun op hop => by obtain ⟨e, _, rfl⟩ := Go.Conc.mem_ofEvents hop; rfl)
  refine ⟨runT_crowd_go (P := P) (sl := sl) hg hst, h.pos, by simp [h.sz], fun k hk => ?_, fun k x hk1 hk2 hx => ?_, fun k hk => ?_, ?_, ?_, ?_, ?_, ?_, ?_, h.atm, fun k hk b => ?_⟩
  · by_cases hki : k = i
    · subst hki
      refine ⟨g', by rw [Array.getElem?_setIfInBounds_self_of_lt (by simpa using hlt)], by rw [upd_same]; exact hI, ?_⟩
      obtain ⟨_, _, _, hdk⟩ := h.th k hk
      rw [upd_same, Deaf_own, hdk, hd]
    · obtain ⟨x, hx, hxI, hdx⟩ := h.th k hk
      refine ⟨woken P g g' w' x, by rw [Array.getElem?_setIfInBounds_ne (fun e => hki e.symm), Array.getElem?_map, hx]; rfl, ?_, ?_⟩
      · rw [upd_ne _ _ hki]
        have := (hxI.rely hE (rel k hki)).wake (x := g) (x' := g') (w' := w') (P := P)
        exact this
      · rw [upd_ne _ _ hki, others k hki, hdx]; rfl
  · have hki : k ≠ i := by rcases hi with rfl | hi <;> omega
    rw [Array.getElem?_setIfInBounds_ne (fun e => hki e.symm), Array.getElem?_map] at hx
    obtain ⟨y, hy, rfl⟩ := Option.map_eq_some_iff.1 hx
    have hq := h.lv k y hk1 hk2 hy
    rw [woken_quitsD hq, others k hki]
    exact hq
  · have hki : k ≠ i := by have := h.pos; rcases hi with rfl | hi <;> omega
    rw [others k hki]; exact h.above k hk
  · have e : (fun g_1 b => (upd (fun k => wakeTh (wk P g g') (T k)) i th' g_1).O b) = fun g_1 b => (upd T i th' g_1).O b := by funext k; rw [hOw]
    rw [e]
    refine (h.ti.mono hup (Nat.le_refl _)).app sep' hi hsize fun op hop => ?_
    obtain ⟨e, he, rfl⟩ := Go.Conc.mem_ofEvents hop
    exact ⟨rfl, (hev e he).1, (hev e he).2⟩
  · intro k k' b x y
    rw [hOw] at x y
    exact hown k k' b x y
  · intro k b x
    rw [hOw] at x
    by_cases hk : k = i
    · subst hk; rw [upd_same] at x; exact hlow b x
    · rw [upd_ne _ _ hk] at x
      have := h.olow k b x
      exact ⟨by omega, this.2⟩
  · intro b x; have := h.fzl b x; exact ⟨by omega, this.2⟩
  · intro b x; have := h.shl b x; exact ⟨by omega, this.2⟩
  · intro b x; have := h.sxl b x; omega
  · have hki : k ≠ i := fun e => hk (e ▸ hi)
    rw [hOw, upd_ne _ _ hki]
    exact h.out k hk b
end
section
variable {P : Program} {m0 tz : Nat} {Sx Atm Fz Sh : Nat → Prop} {Ex : World → World → Prop} {j : Nat} {T : Nat → Th} {q : Nat → Nat} {gs : Array Goroutine} {w : World} {t : Trace}
theorem evC_marks {O : Nat → Prop} {e : Event} (h : EvC Fz O e) : e.loc ≠ .mark .disable ∧ e.loc ≠ .mark .enable := by
  rcases h with ⟨b, h, _⟩ | ⟨m, h, hb⟩
  · exact ⟨fun e' => (by rw [e'] at h; simp [blk] at h), fun e' => (by rw [e'] at h; simp [blk] at h)⟩
  · exact ⟨fun e' => (by rw [h] at e'; cases e'; cases hb), fun e' => (by rw [h] at e'; cases e'; cases hb)⟩
theorem evC_new {O : Nat → Prop} {Own : Nat → Nat → Prop} {g B : Nat} {e : Event} (h : EvC Fz O e) (hO : ∀ b, O b → Own g b) (hB : ∀ b, O b ∨ Fz b → b < B) :
    (∀ x, (MemAct.ofEvent e).touch? = some x → x.loc.isMemory = true → ∃ b, blk x.loc = some b ∧ NewT Atm Fz Own g b x) ∧ (MemAct.ofEvent e).low B := by
  obtain ⟨loc, wr, sy⟩ := e
  rcases h with ⟨b, h1, h2, h3⟩ | ⟨m, h1, h2⟩
  · simp only at h1 h2 h3
    subst h2
    have hb : b < B := hB b (h3.imp id (·.1))
    have acc : MemAct.ofEvent ⟨loc, wr, false⟩ = .access ⟨loc, wr, false⟩ := by
      cases loc <;> first | rfl | (cases wr <;> rfl) | (simp [blk] at h1)
    rw [acc]
    refine ⟨fun x hx _ => ?_, ?_⟩
    · simp only [MemAct.touch?, Option.some.injEq] at hx
      subst hx
      refine ⟨b, h1, ?_⟩
      rcases h3 with h3 | ⟨h3, h4⟩
      · exact .inr (.inl ⟨hO b h3, rfl⟩)
      · exact .inr (.inr ⟨h3, h4, rfl⟩)
    · cases loc with
      | cell a => simp only [blk, Option.some.injEq] at h1; subst h1; exact hb
      | obj r => simp only [blk, Option.some.injEq] at h1; subst h1; exact hb
      | _ => simp [blk] at h1
  · simp only at h1
    subst h1
    cases m <;> first | (cases h2; done) | exact ⟨fun x hx => (by simp [MemAct.ofEvent, MemAct.touch?] at hx), by simp [MemAct.ofEvent, MemAct.low]⟩
/-- On its way. -/
theorem GI.walk (h : GI P m0 tz Sx Atm Fz Sh Ex j T q gs w t) (hE : ∀ a b c, Ex a b → Ex b c → Ex a c) (hX : ∀ w w' : World, (∀ b, Sh b → w'.heap[b]? = w.heap[b]?) → Ex w w') {i : Nat} (hi : inCrowd m0 j i) {g : Goroutine} (hg : gs[i]? = some g) (hk : (T i).kind = 0)
    (hns : ¬ ∀ w₁, Rly Fz Ex (T i).O (T i).wa w₁ → (T i).S (T i).O g w₁) (sl : Option (Nat × Nat)) :
    ∃ g' w' es, runT P (crowd gs w sl) i = (.next (crowd ((gs.map (woken P g g' w')).setIfInBounds i g') w' sl), MemOp.ofEvents i g.frame.fn g.frame.place es) ∧
      GI P m0 tz Sx Atm Fz Sh Ex j (upd (fun k => wakeTh (wk P g g') (T k)) i { T i with O := grow (T i).O w w', wa := w' }) q ((gs.map (woken P g g' w')).setIfInBounds i g') w' (t ++ MemOp.ofEvents i g.frame.fn g.frame.place es) ∧
      Cf P (i == 0) Fz Ex (T i).S (grow (T i).O w w', g', w') ((T i).O, g, (T i).wa) ∧ g'.status = .running ∧ (∀ b, Sh b → w'.heap[b]? = w.heap[b]?) ∧ (∀ e ∈ es, EvC Fz (grow (T i).O w w') e) ∧ ((T i).sil = true → es = #[]) := by
  obtain ⟨g0, hg0, hI, hd⟩ := h.th i hi
  rw [hg] at hg0
  cases hg0
  have hco : Co P (i == 0) (T i).sil Fz Ex (T i).S (T i).O g (T i).wa ∧ Rly Fz Ex (T i).O (T i).wa w := by
    rcases hI with ⟨_, x⟩ | ⟨x, _⟩ | ⟨x, _⟩
    · exact x
    · rw [hk] at x; cases x
    · rw [hk] at x; cases x
  obtain ⟨g', w', es, e1, e2, e3, e4, e5⟩ := (hco.1.cases.2.resolve_left hns) w hco.2
  have hsh : ∀ b, Sh b → w'.heap[b]? = w.heap[b]? := fun b x => e2.keep b (h.shl b x).1 fun y => (h.olow i b y).2.2.1 x
  have hrl : Rly Fz Ex (grow (T i).O w w') w' w' := Rly.refl (fun a => hX a a fun _ _ => rfl) w'
  obtain ⟨f1, f2⟩ := h.go hE hi (th' := { T i with O := grow (T i).O w w', wa := w' }) hg e1 (.inl ⟨hk, e5, hrl⟩) (deafBehind_still (fun e he => evC_marks (e3 e he)) _) (fun b x => .inl x) (fun b x => x) (fun b hb hno _ => e2.keep b hb hno) e2.size e2.tape e2.os e2.output (hX w w' hsh)
    (fun e he => evC_new (e3 e he) (fun b x => by rw [upd_same]; exact x) fun b x => by
      rcases x with (x | x) | x
      · have := (h.olow i b x).1; have := e2.size; omega
      · exact x.2
      · have := (h.fzl b x).1; have := e2.size; omega) sl
  exact ⟨g', w', es, f1, f2, ⟨hns, w, es, hco.2, e1, rfl⟩, e5.cases.1, hsh, e3, e4⟩
/-- It only leaves. -/
theorem GI.quit (h : GI P m0 tz Sx Atm Fz Sh Ex j T q gs w t) (hE : ∀ a b c, Ex a b → Ex b c → Ex a c) (hX : ∀ w w' : World, (∀ b, Sh b → w'.heap[b]? = w.heap[b]?) → Ex w w') {i : Nat} (hi : inCrowd m0 j i) {g : Goroutine} (hg : gs[i]? = some g) (hr : g.status = .running) (hk : (T i).kind = 1) (sl : Option (Nat × Nat)) :
    ∃ g' es k, (T i).q = k + 1 ∧ (∀ e ∈ es, e.mute = true) ∧ runT P (crowd gs w sl) i = (.next (crowd ((gs.map (woken P g g' w)).setIfInBounds i g') w sl), MemOp.ofEvents i g.frame.fn g.frame.place es) ∧
      GI P m0 tz Sx Atm Fz Sh Ex j (upd (fun k => wakeTh (wk P g g') (T k)) i { T i with q := k, d := deafBehind (T i).d es }) q ((gs.map (woken P g g' w)).setIfInBounds i g') w (t ++ MemOp.ofEvents i g.frame.fn g.frame.place es) := by
  obtain ⟨g0, hg0, hI, hd⟩ := h.th i hi
  rw [hg] at hg0
  cases hg0
  have hq : (i == 0) = false ∧ QuitsD P (T i).q (T i).d g := by
    rcases hI with ⟨x, _⟩ | ⟨_, x⟩ | ⟨x, _⟩
    · rw [hk] at x; cases x
    · exact x
    · rw [hk] at x; cases x
  cases hqi : (T i).q with
  | zero => rw [hqi] at hq; rw [hq.2.1] at hr; cases hr
  | succ k =>
    rw [hqi] at hq
    rcases hq.2 with ⟨hf, _⟩ | ⟨_, g', es, hm, hstp, hq'⟩
    · rw [hf] at hr; cases hr
    · obtain ⟨f1, f2⟩ := h.go hE hi (th' := { T i with q := k, d := deafBehind (T i).d es }) hg (by rw [hq.1]; exact hstp w) (.inr (.inl ⟨hk, hq.1, hq'⟩)) rfl (fun b x => x) (fun b x => .inl x) (fun _ _ _ _ => rfl) (Nat.le_refl _) rfl rfl rfl (hX w w fun _ _ => rfl)
        (fun e he => ⟨fun x hx => (by rw [touch_mute (hm e he)] at hx; cases hx), low_mute (hm e he) _⟩) sl
      exact ⟨g', es, k, rfl, hm, f1, f2⟩
/-- An elder one leaves. -/
theorem GI.leave (h : GI P m0 tz Sx Atm Fz Sh Ex j T q gs w t) {i : Nat} (h0 : 0 < i) (hm0 : i < m0) {g : Goroutine} (hg : gs[i]? = some g) (hr : g.status = .running) (sl : Option (Nat × Nat)) :
    ∃ g' es k, q i = k + 1 ∧ (∀ e ∈ es, e.mute = true) ∧ runT P (crowd gs w sl) i = (.next (crowd ((gs.map (woken P g g' w)).setIfInBounds i g') w sl), MemOp.ofEvents i g.frame.fn g.frame.place es) ∧
      GI P m0 tz Sx Atm Fz Sh Ex j (fun k => wakeTh (wk P g g') (T k)) (upd q i k) ((gs.map (woken P g g' w)).setIfInBounds i g') w (t ++ MemOp.ofEvents i g.frame.fn g.frame.place es) := by
  have hq := h.lv i g h0 hm0 hg
  have hi0 : (i == 0) = false := by simp; omega
  have hlt : i < gs.size := by rw [h.sz]; omega
  cases hqi : q i with
  | zero => rw [hqi] at hq; rw [hq.1] at hr; cases hr
  | succ k =>
    rw [hqi] at hq
    rcases hq with ⟨hf, _⟩ | ⟨_, g', es, hm, hstp, hq'⟩
    · rw [hf] at hr; cases hr
    · have hnc : ∀ x, inCrowd m0 j x → x ≠ i := fun x hx e => by subst e; rcases hx with rfl | hx <;> omega
      have others : ∀ k, k ≠ i → Deaf (t ++ MemOp.ofEvents i g.frame.fn g.frame.place es) k = Deaf t k := fun k hk => Deaf_other t (fun e => hk e.symm) _ (fun op hop => by obtain ⟨e, _, rfl⟩ := Go.Conc.mem_ofEvents hop; rfl)
      refine ⟨g', es, k, rfl, hm, runT_crowd_go (P := P) (sl := sl) hg (by rw [hi0]; exact hstp w), h.pos, by simp [h.sz], fun x hx => ?_, fun x y hx1 hx2 hy => ?_, fun x hx => ?_, ?_, h.own, h.olow, h.fzl, h.shl, h.sxl, h.atm, h.out⟩
      · obtain ⟨z, hz, hzI, hdz⟩ := h.th x hx
        refine ⟨woken P g g' w z, by rw [Array.getElem?_setIfInBounds_ne (fun e => hnc x hx e.symm), Array.getElem?_map, hz]; rfl, hzI.wake, ?_⟩
        rw [others x (hnc x hx), hdz]; rfl
      · by_cases hxi : x = i
        · subst hxi
          rw [Array.getElem?_setIfInBounds_self_of_lt (by simpa using hlt)] at hy
          obtain rfl := Option.some.inj hy
          rw [upd_same, Deaf_own]
          exact hq'
        · rw [Array.getElem?_setIfInBounds_ne (fun e => hxi e.symm), Array.getElem?_map] at hy
          obtain ⟨z, hz, rfl⟩ := Option.map_eq_some_iff.1 hy
          have hqz := h.lv x z hx1 hx2 hz
          rw [woken_quitsD hqz, upd_ne _ _ hxi, others x hxi]
          exact hqz
      · rw [others x (by omega)]; exact h.above x hx
      · exact h.ti.mute (g := i) (Nat.le_refl _) fun op hop => by
          obtain ⟨e, he, rfl⟩ := Go.Conc.mem_ofEvents hop
          exact ⟨rfl, touch_mute (hm e he), low_mute (hm e he) _⟩
end
end Go.Proofs.YtobpjijdebnaoaaDoor
