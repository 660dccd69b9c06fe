/- Part of the proof. -/
import Derived.Test.YtobpjijdebnaoaaDoorSim3
import Derived.Conc.Beside
namespace Go.Proofs.YtobpjijdebnaoaaDoor
open Go Go.Conc
variable {P : Program} {E E' E'' : Nat → Nat → Prop} {Z : Nat → Prop} {fns : Fx} {main md : Bool} {gh re : World} {Fin : Goroutine → World → Prop}
theorem lone_go {fr fr1 : Frame} {cs cs1 : List Frame} {w w1 : World} {es : Array Event} (h : stepG P true (G fr cs) w = .go (G fr1 cs1) w1 es) : step P (lone fr cs w) = .next (lone fr1 cs1 w1) :=
  step_lone_go (by
    have : ({ frame := fr, callers := cs, status := .running, dying := none } : Goroutine) = G fr cs := rfl
    rw [this, h]; rfl)
theorem lone_end {fr : Frame} {cs : List Frame} {w w1 : World} {o : Outcome} {es : Array Event} (h : stepG P true (G fr cs) w = .ended o w1 es) : step P (lone fr cs w) = .ended o w1 :=
  step_lone_ended (by
    have : ({ frame := fr, callers := cs, status := .running, dying := none } : Goroutine) = G fr cs := rfl
    rw [this, h]; rfl)
theorem lone_inj {fr fr' : Frame} {cs cs' : List Frame} {w w' : World} (h : lone fr cs w = lone fr' cs' w') : fr = fr' ∧ cs = cs' ∧ w = w' := by
  simp only [lone, Machine.mk.injEq, Array.mk.injEq, List.cons.injEq, Goroutine.mk.injEq, and_true] at h
  exact ⟨h.2.1, h.2.2, h.1⟩
theorem runN_nx {m m1 : Machine} (n : Nat) (h : step P m = .next m1) : runN P (n + 1) m = runN P n m1 := by simp only [runN, h]
theorem runN_en {m : Machine} {o : Outcome} {w : World} (n : Nat) (h : step P m = .ended o w) : runN P (n + 1) m = .ended o w := by simp only [runN, h]
/-- Nobody comes back from the trap. -/
theorem trap_ends (w : World) (vs : List PanicEntry) : (∃ o es, stepG P true (G trapF []) w = .ended o w es) ∧ ∃ o es, stepG P true (G (trapF.raise vs) []) w = .ended o w es := by
  constructor
  · exact ⟨_, _, rfl⟩
  · exact ⟨_, _, rfl⟩
/-- Where the trap is, or what comes to it, no end lies. -/
theorem doomed_never : ∀ (n : Nat) {g : Goroutine} {w w' : World} {fr' : Frame}, (Doomed P [trapF] g ∨ g = G trapF []) → runN P n (lone g.frame g.callers w) = .next (lone fr' [trapF] w') → atStop md [trapF] (G fr' [trapF]) → False
  | 0, g, w, w', fr', hd, h, hm => by
    have := lone_inj (Stepped.next.inj h)
    rcases hd with ⟨fr, L, chain, rfl, h1, _⟩ | rfl
    · have e : fr = fr' := this.1
      subst e
      have hm := hm.2
      cases md with
      | true => simp only [if_true, G] at hm; rw [h1] at hm; cases hm
      | false => simp only [Bool.false_eq_true, if_false, G] at hm; rw [h1] at hm; cases hm.1
    · cases this.2.1
  | n + 1, g, w, w', fr', hd, h, hm => by
    rcases hd with hd | rfl
    · have hg : g = G g.frame g.callers := by obtain ⟨fr, L, chain, rfl, _⟩ := hd; rfl
      rcases doomed_step hd w with ⟨g1, hs, hd1⟩ | ⟨fr, chain, e, _, hs⟩
      · have hg1 : g1 = G g1.frame g1.callers := by obtain ⟨fr, L, chain, rfl, _⟩ := hd1; rfl
        rw [hg, hg1] at hs
        rw [runN_nx _ (lone_go hs)] at h
        exact doomed_never n (.inl hd1) h hm
      · have hs := hs trapF [] rfl
        rw [hg] at hs
        rw [runN_nx _ (lone_go hs)] at h
        cases n with
        | zero =>
          have := lone_inj (Stepped.next.inj h)
          cases this.2.1
        | succ n =>
          obtain ⟨o, es, he⟩ := (trap_ends (P := P) w chain).2
          rw [runN_en _ (lone_end he)] at h
          cases h
    · obtain ⟨o, es, he⟩ := (trap_ends (P := P) w []).1
      have h2 : runN P (n + 1) (lone trapF [] w) = .next (lone fr' [trapF] w') := h
      rw [runN_en _ (lone_end he)] at h2
      cases h2
/-- From a return to the trap no end lies. -/
theorem ret_zero {fr fr2 fr' : Frame} {w w' : World} (hF : FR P fns E [] fr fr2) (hm : fr.mode = .returning) : ∀ n, runN P n (lone fr [trapF] w) = .next (lone fr' [trapF] w') → n = 0 := by
  intro n h
  obtain ⟨f, hf⟩ := hF.func
  cases n with
  | zero => rfl
  | succ n =>
    exfalso
    have e : (∃ v w1 es, stepG P true (G fr [trapF]) w = .go (G (trapF.finish v) []) w1 es) ∨ ∃ o w1 es, stepG P true (G fr [trapF]) w = .ended o w1 es := by
      rw [stepG_unw hm]
      unfold unwind
      simp only [hF.d, hm, hf, Sem.runT_eq, doReturn, hF.k]
      cases (results f fr.tmps).run P w with
      | ok v w1 => exact .inl ⟨v, w1, _, rfl⟩
      | halt h w1 => cases h <;> exact .inr ⟨_, _, _, rfl⟩
    rcases e with ⟨v, w1, es, e⟩ | ⟨o, w1, es, e⟩
    · rw [runN_nx _ (lone_go e)] at h
      cases n with
      | zero =>
        have := lone_inj (Stepped.next.inj h)
        cases this.2.1
      | succ n =>
        obtain ⟨o, es, he⟩ := (trap_ends (P := P) w1 []).1
        have ht : trapF.finish v = trapF := rfl
        rw [ht] at h
        rw [runN_en _ (lone_end he)] at h
        cases h
    · rw [runN_en _ (lone_end e)] at h
      cases h
/-- At its end the run has come to its end. -/
theorem stop_zero {g : Goroutine} {w w' : World} {fr' : Frame} (hg : GR P fns E [] [trapF] [trapF] g g) (hs : atStop md [trapF] g) (hs' : atStop md [trapF] (G fr' [trapF])) : ∀ n, runN P n (lone g.frame g.callers w) = .next (lone fr' [trapF] w') → n = 0 := by
  obtain ⟨fr, fr2, L, e, _, hF, hL⟩ := hg
  obtain ⟨hcs, hm⟩ := hs
  subst e
  have hL0 : L = [] := by
    simp only [G] at hcs
    cases L with
    | nil => rfl
    | cons p L =>
      have := congrArg List.length hcs
      simp at this
  subst hL0
  rw [kap_nil] at hF
  intro n h
  have h2 : runN P n (lone fr [trapF] w) = .next (lone fr' [trapF] w') := h
  cases md with
  | true => simp only [if_true, G] at hm; exact ret_zero hF hm n h2
  | false =>
    simp only [Bool.false_eq_true, if_false, G] at hm
    cases n with
    | zero => rfl
    | succ n =>
      exfalso
      have e : stepG P true (G fr [trapF]) w = .go (G { fr with mode := .returning } [trapF]) w := by
        rw [stepG_run hm.1]
        simp only [stepG.exec, hm.2, hF.r, if_true]
        rfl
      rw [runN_nx _ (lone_go e)] at h2
      have := ret_zero (fr := { fr with mode := .returning }) (fr2 := { fr2 with mode := .returning }) { hF with mode := rfl, runs := .inr rfl } rfl n h2
      subst this
      have := (lone_inj (Stepped.next.inj h2)).1
      have hs2 := hs'.2
      simp only [Bool.false_eq_true, if_false, G] at hs2
      rw [← this] at hs2
      cases hs2.1
/-- A run on another tape whose answers agree from here on. -/
theorem run_retape (hz : zeros P fns) (hdep : 0 < P.depth) (hp : okOne P fns) : ∀ (n : Nat) {g : Goroutine} {w w' : World} {fr' : Frame}, Cl P fns Z [trapF] g w → runN P n (lone g.frame g.callers w) = .next (lone fr' [trapF] w') → atStop md [trapF] (G fr' [trapF]) →
    ∀ t d, (∀ j, t (d + j) = w.tape (w.drawn + j)) → ∃ d', runN P n (lone g.frame g.callers (wOn w t d)) = .next (lone fr' [trapF] (wOn w' t d'))
  | 0, g, w, w', fr', hc, h, hm, t, d, ht => by
    obtain ⟨e1, e2, e3⟩ := lone_inj (Stepped.next.inj h)
    subst e1 e3
    exact ⟨d, by simp only [runN]; rw [e2]⟩
  | n + 1, g, w, w', fr', hc, h, hm, t, d, ht => by
    have hg : g = G g.frame g.callers := by obtain ⟨_, _, ⟨fr, _, L, rfl, _⟩, _⟩ := hc; rfl
    have hns : ¬ atStop md [trapF] g := fun hs => by
      obtain ⟨_, _, hG, _⟩ := hc
      have := stop_zero hG hs hm _ h
      omega
    obtain ⟨E, hE, hG, hW⟩ := hc
    have hok := step_sim (main := true) (K := [trapF]) (md := md) hz hdep hp.1 (fun _ => rfl) hG hW hns
    cases hs : stepG P true g w with
    | go g1 w1 es =>
      have hc : Cl P fns Z [trapF] g w := ⟨E, hE, hG, hW⟩
      have hgg : ∀ g1, ((Doomed P [trapF] g1 ∨ g1 = G trapF []) ∨ Cl P fns Z [trapF] g1 w1) → g1 = G g1.frame g1.callers := by
        rintro g1 ((⟨_, _, _, rfl, _⟩ | rfl) | ⟨_, _, ⟨fr, _, L, rfl, _⟩, _⟩) <;> rfl
      rcases retape hz hdep hp hc hns hs with hd | ⟨hc1, hdr, htp, hall⟩
      · exfalso
        have hg1 := hgg g1 (.inl hd)
        rw [hg, hg1] at hs
        rw [runN_nx _ (lone_go hs)] at h
        exact doomed_never n hd h hm
      · have hg1 := hgg g1 (.inr hc1)
        obtain ⟨es', hs2⟩ := hall t d (fun j _ => ht j)
        rw [hg, hg1] at hs hs2
        rw [runN_nx _ (lone_go hs)] at h
        rw [runN_nx _ (lone_go hs2)]
        have ih := run_retape hz hdep hp n hc1 h hm t (d + (w1.drawn - w.drawn)) (fun j => by
          rw [htp]
          have := ht (w1.drawn - w.drawn + j)
          have e1 : d + (w1.drawn - w.drawn) + j = d + (w1.drawn - w.drawn + j) := by omega
          have e2 : w1.drawn + j = w.drawn + (w1.drawn - w.drawn + j) := by omega
          rw [e1, e2]; exact this)
        exact ih
    | ended o w1 es =>
      rw [hg] at hs
      rw [runN_en _ (lone_end hs)] at h
      cases h
    | _ => rw [hs] at hok; exact hok.elim
/-- It ends on every tape. -/
def Ends (P : Program) (fns : Fx) (Z : Nat → Prop) (md : Bool) (Fin : Goroutine → World → Prop) (g : Goroutine) (w : World) : Prop :=
  Cl P fns Z [trapF] g w ∧ ∀ t d, ∃ N fr' w', runN P N (lone g.frame g.callers (wOn w t d)) = .next (lone fr' [trapF] w') ∧ atStop md [trapF] (G fr' [trapF]) ∧ Fin (G fr' [trapF]) w'
/-- One step of what ends on every tape. -/
theorem Ends.step (hz : zeros P fns) (hdep : 0 < P.depth) (hp : okOne P fns) (hFin : ∀ g w t d, Fin g w → Fin g (wOn w t d)) {g : Goroutine} {w : World} (h : Ends P fns Z md Fin g w) :
    (atStop md [trapF] g ∧ Fin g w) ∨ (¬ atStop md [trapF] g ∧ ∀ t d, ∃ g1 w1 es, stepG P true g (wOn w t d) = .go g1 w1 es ∧ Ends P fns Z md Fin g1 w1 ∧ d ≤ w1.drawn ∧ w1.tape = t ∧
      ∀ t2 d2, (∀ j, d + j < w1.drawn → t2 (d2 + j) = t (d + j)) → ∃ es', stepG P true g (wOn w t2 d2) = .go g1 (wOn w1 t2 (d2 + (w1.drawn - d))) es') := by
  obtain ⟨hc, hall⟩ := h
  have hg : g = G g.frame g.callers := by obtain ⟨_, _, ⟨fr, _, L, rfl, _⟩, _⟩ := hc; rfl
  by_cases hs : atStop md [trapF] g
  · refine .inl ⟨hs, ?_⟩
    obtain ⟨N, fr', w', h1, h2, h3⟩ := hall w.tape w.drawn
    obtain ⟨_, _, hG, _⟩ := hc
    have := stop_zero hG hs h2 _ h1
    subst this
    obtain ⟨e1, e2, e3⟩ := lone_inj (Stepped.next.inj h1)
    subst e1
    have e4 : w' = w := by rw [← e3]; rfl
    rw [hg, hs.1, ← e4]
    exact h3
  · refine .inr ⟨hs, fun t d => ?_⟩
    have hct := hc.on t d
    obtain ⟨N, fr', w', h1, h2, h3⟩ := hall t d
    cases N with
    | zero =>
      obtain ⟨e1, e2, e3⟩ := lone_inj (Stepped.next.inj h1)
      exact (hs (by rw [hg, e1, e2]; exact h2)).elim
    | succ N =>
      obtain ⟨E, hE, hG, hW⟩ := hct
      have hok := step_sim (main := true) (K := [trapF]) (md := md) hz hdep hp.1 (fun _ => rfl) hG hW hs
      cases hst : stepG P true g (wOn w t d) with
      | go g1 w1 es =>
        have hct : Cl P fns Z [trapF] g (wOn w t d) := ⟨E, hE, hG, hW⟩
        rcases retape hz hdep hp hct hs hst with hd | ⟨hc1, hdr, htp, hre⟩
        · exfalso
          have hg1 : g1 = G g1.frame g1.callers := by rcases hd with ⟨_, _, _, rfl, _⟩ | rfl <;> rfl
          rw [hg, hg1] at hst
          rw [runN_nx _ (lone_go hst)] at h1
          exact doomed_never N hd h1 h2
        · have hg1 : g1 = G g1.frame g1.callers := by obtain ⟨_, _, ⟨fr, _, L, rfl, _⟩, _⟩ := hc1; rfl
          have hre2 : ∀ t2 d2, (∀ j, d + j < w1.drawn → t2 (d2 + j) = t (d + j)) → ∃ es', stepG P true g (wOn w t2 d2) = .go g1 (wOn w1 t2 (d2 + (w1.drawn - d))) es' := fun t2 d2 h => hre t2 d2 h
          refine ⟨g1, w1, es, rfl, ⟨hc1, fun t2 d2 => ?_⟩, hdr, htp, hre2⟩
          -- a tape that answers as t for this step, then as t2
          obtain ⟨m, hm⟩ : ∃ m, w1.drawn = d + m := ⟨w1.drawn - d, by have : (wOn w t d).drawn = d := rfl; omega⟩
          let t3 : Nat → Question → Nat := fun i => if i < m then t (d + i) else t2 (d2 + (i - m))
          obtain ⟨N3, fr3, w3, k1, k2, k3⟩ := hall t3 0
          obtain ⟨es3, hs3⟩ := hre2 t3 0 (fun j hj => by
            have : j < m := by omega
            simp only [t3, Nat.zero_add, if_pos this])
          have e0 : 0 + (w1.drawn - d) = m := by omega
          rw [e0] at hs3
          cases N3 with
          | zero =>
            obtain ⟨e1, e2, e3⟩ := lone_inj (Stepped.next.inj k1)
            exact (hs (by rw [hg, e1, e2]; exact k2)).elim
          | succ N3 =>
            have hst3 := hs3
            rw [hg, hg1] at hst3
            rw [runN_nx _ (lone_go hst3)] at k1
            obtain ⟨d', hfin⟩ := run_retape hz hdep hp N3 (hc1.on t3 m) k1 k2 t2 d2 (fun j => by
              have : ¬ (m + j < m) := by omega
              show t2 (d2 + j) = t3 (m + j)
              simp only [t3, if_neg this]
              congr 1
              omega)
            exact ⟨N3, fr3, _, hfin, k2, hFin _ _ _ _ k3⟩
      | ended o w1 es =>
        rw [hg] at hst
        rw [runN_en _ (lone_end hst)] at h1
        cases h1
      | _ => rw [hst] at hok; exact hok.elim
variable {P : Program} {Z : Nat → Prop} {fns : Fx} {md : Bool} {Fin : Goroutine → World → Prop}
/-- The least property of what has ended well and of what comes to it by one step, whatever the tape answers. -/
def Runs (P : Program) (md : Bool) (Fin : Goroutine → World → Prop) (g : Goroutine) (w : World) : Prop :=
  ∀ M : Goroutine → World → Prop, (∀ g w, atStop md [trapF] g → Fin g w → M g w) →
    (∀ g w, ¬ atStop md [trapF] g → (∀ t d, ∃ g1 w1 es, stepG P true g (wOn w t d) = .go g1 w1 es ∧ M g1 w1) → M g w) → M g w
theorem Runs.stop {g : Goroutine} {w : World} (hs : atStop md [trapF] g) (h : Fin g w) : Runs P md Fin g w := fun _ h1 _ => h1 g w hs h
theorem Runs.step {g : Goroutine} {w : World} (hs : ¬ atStop md [trapF] g) (h : ∀ t d, ∃ g1 w1 es, stepG P true g (wOn w t d) = .go g1 w1 es ∧ Runs P md Fin g1 w1) : Runs P md Fin g w :=
  fun M h1 h2 => h2 g w hs fun t d => let ⟨g1, w1, es, e, r⟩ := h t d; ⟨g1, w1, es, e, r M h1 h2⟩
open Classical in
/-- An infinite way would be a lone run on some tape. -/
theorem Ends.runs (hz : zeros P fns) (hdep : 0 < P.depth) (hp : okOne P fns) (hFin : ∀ g w t d, Fin g w → Fin g (wOn w t d)) {g : Goroutine} {w : World} (h : Ends P fns Z md Fin g w) : Runs P md Fin g w := by
  intro M hstop hstep
  refine Classical.byContradiction fun hno => ?_
  -- from each state that is not in M a step to another
  let S := { c : Goroutine × World // Ends P fns Z md Fin c.1 c.2 ∧ ¬ M c.1 c.2 }
  have nx : ∀ c : S, ∃ (t : Nat → Question → Nat) (d : Nat) (c1 : S), d ≤ c1.1.2.drawn ∧ c1.1.2.tape = t ∧ ¬ atStop md [trapF] c.1.1 ∧
      ∀ t2 d2, (∀ j, d + j < c1.1.2.drawn → t2 (d2 + j) = t (d + j)) → ∃ es', stepG P true c.1.1 (wOn c.1.2 t2 d2) = .go c1.1.1 (wOn c1.1.2 t2 (d2 + (c1.1.2.drawn - d))) es' := by
    rintro ⟨⟨g, w⟩, hE, hM⟩
    rcases hE.step hz hdep hp hFin with ⟨hs, hf⟩ | ⟨hs, hall⟩
    · exact (hM (hstop g w hs hf)).elim
    · have : ¬ ∀ t d, ∃ g1 w1 es, stepG P true g (wOn w t d) = .go g1 w1 es ∧ M g1 w1 := fun x => hM (hstep g w hs x)
      obtain ⟨t, ht⟩ := Classical.not_forall.1 this
      obtain ⟨d, hd⟩ := Classical.not_forall.1 ht
      obtain ⟨g1, w1, es, e1, e2, e3, e4, e5⟩ := hall t d
      exact ⟨t, d, ⟨(g1, w1), e2, fun hm => hd ⟨g1, w1, es, e1, hm⟩⟩, e3, e4, hs, e5⟩
  let c0 : S := ⟨(g, w), h, hno⟩
  let ft : S → (Nat → Question → Nat) := fun c => Classical.choose (nx c)
  let fd : S → Nat := fun c => Classical.choose (Classical.choose_spec (nx c))
  let fc : S → S := fun c => Classical.choose (Classical.choose_spec (Classical.choose_spec (nx c)))
  have fs : ∀ c : S, fd c ≤ (fc c).1.2.drawn ∧ (fc c).1.2.tape = ft c ∧ ¬ atStop md [trapF] c.1.1 ∧ ∀ t2 d2, (∀ j, fd c + j < (fc c).1.2.drawn → t2 (d2 + j) = ft c (fd c + j)) → ∃ es', stepG P true c.1.1 (wOn c.1.2 t2 d2) = .go (fc c).1.1 (wOn (fc c).1.2 t2 (d2 + ((fc c).1.2.drawn - fd c))) es' :=
    fun c => Classical.choose_spec (Classical.choose_spec (Classical.choose_spec (nx c)))
  -- the way
  let sq : Nat → S := fun k => Nat.rec c0 (fun _ c => fc c) k
  have sq0 : sq 0 = c0 := rfl
  have sqs : ∀ k, sq (k + 1) = fc (sq k) := fun _ => rfl
  let mk : Nat → Nat := fun k => (fc (sq k)).1.2.drawn - fd (sq k)
  let D : Nat → Nat := fun k => Nat.rec 0 (fun k s => s + mk k) k
  have D0 : D 0 = 0 := rfl
  have Ds : ∀ k, D (k + 1) = D k + mk k := fun _ => rfl
  have Dmono : ∀ k j, k ≤ j → D k ≤ D j := fun k j hkj => by
    induction hkj with
    | refl => exact Nat.le_refl _
    | step _ ih => exact Nat.le_trans ih (by rw [Nat.succ_eq_add_one, Ds]; omega)
  -- the tape that answers so
  have tx : ∃ tt : Nat → Question → Nat, ∀ k j, j < mk k → tt (D k + j) = ft (sq k) (fd (sq k) + j) := by
    refine ⟨fun i => if hk : ∃ k, D k ≤ i ∧ i < D (k + 1) then ft (sq (Classical.choose hk)) (fd (sq (Classical.choose hk)) + (i - D (Classical.choose hk))) else fun _ => 0, fun k j hj => ?_⟩
    have hk : ∃ k', D k' ≤ D k + j ∧ D k + j < D (k' + 1) := ⟨k, by omega, by rw [Ds]; omega⟩
    simp only [dif_pos hk]
    have hu : Classical.choose hk = k := by
      obtain ⟨h1, h2⟩ := Classical.choose_spec hk
      rcases Nat.lt_trichotomy (Classical.choose hk) k with hlt | he | hgt
      · have := Dmono _ _ (Nat.succ_le_of_lt hlt)
        rw [Nat.succ_eq_add_one] at this
        omega
      · exact he
      · have := Dmono _ _ (Nat.succ_le_of_lt hgt)
        rw [Nat.succ_eq_add_one, Ds] at this
        omega
    rw [hu]
    congr 1
    omega
  obtain ⟨tt, htt⟩ := tx
  have hG : ∀ c : S, c.1.1 = G c.1.1.frame c.1.1.callers := fun c => by
    obtain ⟨⟨_, _⟩, ⟨⟨_, _, ⟨fr, _, L, e, _⟩, _⟩, _⟩, _⟩ := c
    simp only at e ⊢
    rw [e]; rfl
  have way : ∀ k, Go.step P (lone (sq k).1.1.frame (sq k).1.1.callers (wOn (sq k).1.2 tt (D k))) = .next (lone (sq (k + 1)).1.1.frame (sq (k + 1)).1.1.callers (wOn (sq (k + 1)).1.2 tt (D (k + 1)))) := fun k => by
    obtain ⟨es', hs⟩ := (fs (sq k)).2.2.2 tt (D k) (fun j hj => htt k j (by show j < (fc (sq k)).1.2.drawn - fd (sq k); omega))
    rw [hG (sq k), hG (fc (sq k))] at hs
    have := lone_go hs
    exact this
  have run : ∀ n k, runN P n (lone (sq k).1.1.frame (sq k).1.1.callers (wOn (sq k).1.2 tt (D k))) = .next (lone (sq (k + n)).1.1.frame (sq (k + n)).1.1.callers (wOn (sq (k + n)).1.2 tt (D (k + n)))) := fun n => by
    induction n with
    | zero => intro k; rfl
    | succ n ih =>
      intro k
      rw [runN_nx _ (way k), ih (k + 1)]
      have e : k + 1 + n = k + (n + 1) := by omega
      rw [e]
  obtain ⟨N, fr', w', h1, h2, _⟩ := h.2 tt 0
  have h3 := run N 0
  rw [Nat.zero_add] at h3
  have h4 : runN P N (lone g.frame g.callers (wOn w tt 0)) = .next (lone (sq N).1.1.frame (sq N).1.1.callers (wOn (sq N).1.2 tt (D N))) := h3
  rw [h4] at h1
  obtain ⟨e1, e2, _⟩ := lone_inj (Stepped.next.inj h1)
  exact (fs (sq N)).2.2.1 (by rw [hG (sq N), e1, e2]; exact h2)
end Go.Proofs.YtobpjijdebnaoaaDoor
namespace Go.Proofs.YtobpjijdebnaoaaDoor
open Go Go.Conc
open Go.ConcN (sumTo upd sumTo_upd upd_ne upd_same)
variable {P : Program} {Z : Nat → Prop} {fns : Fx} {md main : Bool} {Fin : Goroutine → World → Prop} {E E' : Nat → Nat → Prop} {k0 : List Item} {K : List Frame}
theorem Runs.cases {g : Goroutine} {w : World} (h : Runs P md Fin g w) : (atStop md [trapF] g ∧ Fin g w) ∨ (¬ atStop md [trapF] g ∧ ∀ t d, ∃ g1 w1 es, stepG P true g (wOn w t d) = .go g1 w1 es ∧ Runs P md Fin g1 w1) :=
  h (fun g w => (atStop md [trapF] g ∧ Fin g w) ∨ (¬ atStop md [trapF] g ∧ ∀ t d, ∃ g1 w1 es, stepG P true g (wOn w t d) = .go g1 w1 es ∧ Runs P md Fin g1 w1))
    (fun _ _ hs hf => .inl ⟨hs, hf⟩)
    (fun _ _ hs hall => .inr ⟨hs, fun t d => by
      obtain ⟨g1, w1, es, e, hm⟩ := hall t d
      refine ⟨g1, w1, es, e, ?_⟩
      rcases hm with ⟨a, b⟩ | ⟨a, b⟩
      · exact Runs.stop a b
      · exact Runs.step a b⟩)
/-- A step of a ghost, on some tape. -/
def Bf (P : Program) (md : Bool) (c' c : Goroutine × World) : Prop := ¬ atStop md [trapF] c.1 ∧ ∃ t d es, stepG P true c.1 (wOn c.2 t d) = .go c'.1 c'.2 es
theorem Runs.acc {g : Goroutine} {w : World} (h : Runs P md Fin g w) : Acc (Bf P md) (g, w) :=
  h (fun g w => Acc (Bf P md) (g, w))
    (fun _ _ hs _ => Acc.intro _ fun _ hb => (hb.1 hs).elim)
    (fun _ _ _ hall => Acc.intro _ fun c' hb => by
      obtain ⟨_, t, d, es, e⟩ := hb
      obtain ⟨g1, w1, es1, e1, ha⟩ := hall t d
      simp only at e
      rw [e] at e1
      cases e1
      exact ha)
/-- A real goroutine and its ghost. -/
structure InG (P : Program) (fns : Fx) (Z : Nat → Prop) (md : Bool) (Fin : Goroutine → World → Prop) (k0 : List Item) (K : List Frame) (E : Nat → Nat → Prop) (g : Goroutine) (gh : World) (g' : Goroutine) (re : World) : Prop where
  gr : GR P fns E k0 [trapF] K g g'
  wr : WR P fns E Z gh re
  runs : Runs P md Fin g gh
theorem GR.running {g g' : Goroutine} (h : GR P fns E k0 [trapF] K g g') : g'.status = .running := by obtain ⟨_, _, _, _, rfl, _⟩ := h; rfl
/-- What the others may do: what E knows stands. -/
theorem InG.rely {g g' : Goroutine} {gh re re₁ : World} (h : InG P fns Z md Fin k0 K E g gh g' re) (hs : ∀ a b, E a b → re₁.heap[b]? = re.heap[b]?) (hl : re.heap.size ≤ re₁.heap.size) : InG P fns Z md Fin k0 K E g gh g' re₁ :=
  ⟨h.gr, ⟨h.wr.zlow, h.wr.lonz, h.wr.gbig, Nat.lt_of_lt_of_le h.wr.rbig hl, h.wr.glob, h.wr.inj, fun a b x => by rw [hs a b x]; exact h.wr.cells a b x⟩, h.runs⟩
theorem WR.gtape {gh re : World} (h : WR P fns E Z gh re) (t : Nat → Question → Nat) (d : Nat) : WR P fns E Z (wOn gh t d) re := ⟨h.zlow, h.lonz, h.gbig, h.rbig, h.glob, h.inj, h.cells⟩
/-- One step. -/
theorem InG.stepJ (hz : zeros P fns) (hdep : 0 < P.depth) (hp : okProg P fns) (hk : md = true → k0 = []) {g g' : Goroutine} {gh re : World} (h : InG P fns Z md Fin k0 K E g gh g' re) :
    (atStop md [trapF] g ∧ Fin g gh) ∨ ∃ E' g1 w1 g1' re' es', stepG (fns.re P) main g' re = .go g1' re' es' ∧ Bf P md (g1, w1) (g, gh) ∧ (InG P fns Z md Fin k0 K E' g1 w1 g1' re' ∨ (JR P fns E' k0 [trapF] K g1 g1' ∧ WR P fns E' Z w1 re' ∧ Runs P md Fin g1 w1)) ∧ Out P fns E E' Z (wOn gh re.tape re.drawn) re w1 re' ∧ ∀ e ∈ es', EvOK E' Z e := by
  rcases h.runs.cases with h1 | ⟨hs, hall⟩
  · exact .inl h1
  · right
    obtain ⟨g1, w1, es, e1, hr⟩ := hall re.tape re.drawn
    have hok := step_sim (main := main) (md := md) hz hdep hp hk h.gr (h.wr.gtape re.tape re.drawn) hs
    rw [e1] at hok
    rcases hok with ha | hd
    · obtain ⟨E', g1', re', es', a1, a2, a3, a4⟩ := ha (fun j _ => rfl)
      exact ⟨E', g1, w1, g1', re', es', a1, ⟨hs, _, _, _, e1⟩, a3.imp (fun a3 => ⟨a3, a2.wr, hr⟩) (fun a3 => ⟨a3, a2.wr, hr⟩), a2, a4⟩
    · exfalso
      have hd : Doomed P [trapF] g1 ∨ g1 = G trapF [] := by
        rcases hd with hd | ⟨c, v, e, hd⟩
        · exact .inl hd
        · cases e; exact .inr hd
      -- what is doomed does not run to its end
      have never : ∀ g w, Runs P md Fin g w → (Doomed P [trapF] g ∨ g = G trapF [] ∨ ∃ vs, g = G (trapF.raise vs) []) → False := by
        intro g w hr
        refine hr (fun g w => (Doomed P [trapF] g ∨ g = G trapF [] ∨ ∃ vs, g = G (trapF.raise vs) []) → False) ?_ ?_
        · intro g w hs _ hd
          rcases hd with hd | rfl | ⟨vs, rfl⟩
          · obtain ⟨fr, L, chain, rfl, h1, _⟩ := hd
            have hm := hs.2
            cases md with
            | true => simp only [if_true, G] at hm; rw [h1] at hm; cases hm
            | false => simp only [Bool.false_eq_true, if_false, G] at hm; rw [h1] at hm; cases hm.1
          · cases hs.1
          · cases hs.1
        · intro g w _ hall hd
          obtain ⟨g1, w1, es, e, hm⟩ := hall w.tape w.drawn
          rcases hd with hd | rfl | ⟨vs, rfl⟩
          · rcases doomed_step hd (wOn w w.tape w.drawn) with ⟨g2, hs, hd1⟩ | ⟨fr, chain, _, _, hs⟩
            · rw [hs] at e
              cases e
              exact hm (.inl hd1)
            · rw [hs trapF [] rfl] at e
              cases e
              exact hm (.inr (.inr ⟨chain, rfl⟩))
          · obtain ⟨o, es, he⟩ := (trap_ends (P := P) (wOn w w.tape w.drawn) []).1
            rw [he] at e
            cases e
          · obtain ⟨o, es, he⟩ := (trap_ends (P := P) (wOn w w.tape w.drawn) vs).2
            rw [he] at e
            cases e
      exact never g1 w1 hr (hd.imp id .inl)
/-- One step, of one program. -/
theorem InG.step (hz : zeros P fns) (hdep : 0 < P.depth) (hp : okOne P fns) (hk : md = true → k0 = []) {g g' : Goroutine} {gh re : World} (h : InG P fns Z md Fin k0 K E g gh g' re) :
    (atStop md [trapF] g ∧ Fin g gh) ∨ ∃ E' g1 w1 g1' re' es', stepG P main g' re = .go g1' re' es' ∧ Bf P md (g1, w1) (g, gh) ∧ InG P fns Z md Fin k0 K E' g1 w1 g1' re' ∧ Out P fns E E' Z (wOn gh re.tape re.drawn) re w1 re' ∧ ∀ e ∈ es', EvOK E' Z e := by
  rcases h.stepJ (main := main) hz hdep hp.1 hk with h | ⟨E', g1, w1, g1', re', es', a1, a2, a3, a4⟩
  · exact .inl h
  · rw [hp.2.1] at a1
    exact .inr ⟨E', g1, w1, g1', re', es', a1, a2, a3.resolve_right fun x => jr_none hp x.1, a4⟩
variable {P : Program} {Z : Nat → Prop} {fns : Fx} {md main : Bool} {Fin : Goroutine → World → Prop} {E E' : Nat → Nat → Prop} {k0 : List Item} {K : List Frame}
/-- What has become of the real world: what E does not know, or Z holds, stands. -/
structure Far (E E' : Nat → Nat → Prop) (Z : Nat → Prop) (re re' : World) : Prop where
  up : ∀ a b, E a b → E' a b
  fresh : ∀ a b, E' a b → E a b ∨ re.heap.size ≤ b
  size : re.heap.size ≤ re'.heap.size
  tape : re'.tape = re.tape
  os : re'.os = re.os
  output : re'.output = re.output
  keep : ∀ b, b < re.heap.size → (∀ a, E a b → Z a) → re'.heap[b]? = re.heap[b]?
theorem Far.refl (re : World) : Far E E Z re re := ⟨fun _ _ x => x, fun _ _ x => .inl x, Nat.le_refl _, rfl, rfl, rfl, fun _ _ _ => rfl⟩
theorem Far.trans {E'' : Nat → Nat → Prop} {re re' re'' : World} (h : Far E E' Z re re') (k : Far E' E'' Z re' re'') : Far E E'' Z re re'' := by
  refine ⟨fun a b x => k.up a b (h.up a b x), fun a b x => ?_, Nat.le_trans h.size k.size, k.tape.trans h.tape, k.os.trans h.os, k.output.trans h.output, fun b hb hz => ?_⟩
  · rcases k.fresh a b x with x | x
    · exact h.fresh a b x
    · exact .inr (Nat.le_trans h.size x)
  · rw [k.keep b (Nat.lt_of_lt_of_le hb h.size) fun a x => ?_, h.keep b hb hz]
    rcases h.fresh a b x with x | x
    · exact hz a x
    · omega
theorem Out.far {gh re gh' re' : World} (h : Out P fns E E' Z gh re gh' re') : Far E E' Z re re' :=
  ⟨h.up, fun a b x => (h.fresh a b x).imp id (·.2), h.rsize, h.rtape, h.os, h.output, h.keep⟩
theorem Far.at {re re' : World} {d : Nat} (h : Far E E' Z (re.at d) re') : Far E E' Z re re' := ⟨h.up, h.fresh, h.size, h.tape, h.os, h.output, h.keep⟩
def ShunB (S : Nat → Prop) (l : Loc) : Prop := ∃ b, blk l = some b ∧ S b
theorem evL_of {S : Nat → Prop} {B : Nat} {e : Event} (h : EvOK E Z e) (hS : ∀ a b, E a b → ¬ S b) (hB : ∀ a b, E a b → b < B) : EvL (ShunB S) B e := by
  obtain ⟨loc, wr, sy⟩ := e
  rcases h with ⟨b, h1, h2, a, h3, _⟩ | ⟨m, h1, h2⟩
  · cases loc with
    | cell c =>
      simp only [blk, Option.some.injEq] at h1
      subst h1
      refine ⟨fun x hx hs => ?_, by simp, by simp, hB _ _ h3⟩
      have : x.loc = .cell c := by
        simp only [MemAct.ofEvent, MemAct.touch?, Option.some.injEq] at hx
        rw [← hx]
      rw [this] at hs
      obtain ⟨b', e1, e2⟩ := hs
      simp only [blk, Option.some.injEq] at e1
      exact (hS _ _ h3 (e1 ▸ e2)).elim
    | obj r =>
      simp only [blk, Option.some.injEq] at h1 h2
      subst h1
      subst h2
      refine ⟨fun x hx hs => ?_, by simp, by simp, by cases wr <;> exact hB _ _ h3⟩
      have : x.loc = .obj r := by
        cases wr <;> (simp only [MemAct.ofEvent, MemAct.touch?, Option.some.injEq] at hx; rw [← hx])
      rw [this] at hs
      obtain ⟨b', e1, e2⟩ := hs
      simp only [blk, Option.some.injEq] at e1
      exact (hS _ _ h3 (e1 ▸ e2)).elim
    | _ => simp [blk] at h1
  · simp only at h1
    subst h1
    cases m <;> first | (cases h2; done) | exact ⟨fun x hx => by simp [MemAct.ofEvent, MemAct.touch?] at hx, by simp, by simp, by simp [MemAct.ofEvent, MemAct.low]⟩
theorem InG.at {g g' : Goroutine} {gh w : World} (h : InG P fns Z md Fin k0 K E g gh g' w) (d : Nat) : InG P fns Z md Fin k0 K E g gh g' (w.at d) := h.rely (fun _ _ _ => rfl) (Nat.le_refl _)
theorem runs_beside (hz : zeros P fns) (hdep : 0 < P.depth) (hp : okOne P fns) (hk : md = true → k0 = []) {S : Nat → Prop} : ∀ (c : Goroutine × World), Acc (Bf P md) c →
    ∀ (M : Nat) (E : Nat → Nat → Prop) (gs : Array Goroutine) (a : Goroutine) (w : World) (sl : Option (Nat × Nat)) (t : Trace) (q : Nat → Nat), sumTo gs.size q ≤ M →
      InG P fns Z md Fin k0 K E c.1 c.2 a w → gs[0]? = some a → Leavers P t gs q → Past (ShunB S) w.heap.size t → (∀ a b, E a b → ¬ S b) → (∀ b, S b → b < w.heap.size) →
      ∃ (N : Nat) (gs' : Array Goroutine) (a' : Goroutine) (w' : World) (sl' : Option (Nat × Nat)) (t' : Trace) (q' : Nat → Nat) (E' : Nat → Nat → Prop) (g1 : Goroutine) (gh1 : World),
        runNT P N (crowd gs w sl) t = (.next (crowd gs' w' sl'), t') ∧ gs'.size = gs.size ∧ gs'[0]? = some a' ∧ InG P fns Z md Fin k0 K E' g1 gh1 a' w' ∧ atStop md [trapF] g1 ∧ Fin g1 gh1 ∧
        Leavers P t' gs' q' ∧ Past (ShunB S) w'.heap.size t' ∧ (∀ a b, E' a b → ¬ S b) ∧ Far E E' Z w w' := by
  intro c hacc
  induction hacc with
  | intro c _ ih =>
  intro M
  induction M using Nat.strongRecOn with
  | _ M ihM =>
    intro E gs a w sl t q hM hI h0 hL hP hS hSb
    rcases hI.runs.cases with ⟨hst, hfin⟩ | ⟨hns, _⟩
    · exact ⟨0, gs, a, w, sl, t, q, E, c.1, c.2, rfl, rfl, h0, hI, hst, hfin, hL, hP, hS, Far.refl w⟩
    have hrun : a.status = .running := hI.gr.running
    have haw : ∀ g ∈ gs, awake g := by
      intro g hg
      obtain ⟨i, hi, rfl⟩ := Array.mem_iff_getElem.1 hg
      rcases Nat.eq_zero_or_pos i with rfl | hpos
      · have : gs[0] = a := by simpa [Array.getElem?_eq_getElem hi] using h0
        rw [this]; exact awake_of (.inl hrun)
      · exact awake_of ((hL.old i _ hpos (Array.getElem?_eq_getElem hi)).status.elim .inl fun x => .inr (.inr x))
    obtain ⟨i, g, d, sl', hi, hg, hst⟩ := crowd_pick (P := P) (w := w) (sl := sl) haw ⟨0, a, h0, hrun⟩
    rcases Nat.eq_zero_or_pos i with rfl | hpos
    · -- goroutine 0 goes as its ghost does
      obtain rfl : g = a := by rw [h0] at hi; exact (Option.some.inj hi).symm
      rcases (hI.at d).step (main := true) hz hdep hp hk with ⟨h1, h2⟩ | ⟨E1, g1, w1, g1', re', es', e1, e2, e3, e4, e5⟩
      · exact (hns h1).elim
      · have hrunT := runT_crowd_go (P := P) (sl := sl') (i := 0) hi (show stepG P (0 == 0) g (w.at d) = _ from e1)
        have hsz : ((gs.map (woken P g g1' re')).setIfInBounds 0 g1').size = gs.size := by simp
        have hlt : 0 < gs.size := (Array.getElem?_eq_some_iff.1 h0).1
        have hS1 : ∀ a b, E1 a b → ¬ S b := fun a b x hb => by
          rcases e4.fresh a b x with y | ⟨_, y⟩
          · exact hS a b y hb
          · have := hSb b hb
            have e : (w.at d).heap.size = w.heap.size := rfl
            omega
        have hP1 : Past (ShunB S) re'.heap.size (t ++ MemOp.ofEvents 0 g.frame.fn g.frame.place es') :=
          (hP.mono e4.rsize).own fun e he => evL_of (e5 e he) hS1 fun a b x => (e3.wr.lt x).2
        obtain ⟨N, gs', a', w', sl'', t', q', E', g2, gh2, f1, f2, f3, f4, f5, f6, f7, f8, f9, f10⟩ := ih (g1, w1) e2 (sumTo gs.size q) E1 ((gs.map (woken P g g1' re')).setIfInBounds 0 g1') g1' re' sl' (t ++ MemOp.ofEvents 0 g.frame.fn g.frame.place es') q (by rw [hsz]; exact Nat.le_refl _) e3 (by simp [hlt])
          ⟨fun j x hj hx => by
            have hne : 0 ≠ j := by omega
            rw [Array.getElem?_setIfInBounds_ne hne, Array.getElem?_map] at hx
            obtain ⟨y, hy, rfl⟩ := Option.map_eq_some_iff.1 hx
            have hq := hL.old j y hj hy
            rw [woken_quitsD hq, Deaf_other t (by omega) _ (fun op hop => by obtain ⟨e, _, rfl⟩ := Go.Conc.mem_ofEvents hop; rfl)]
            exact hq, fun j hj => by
            rw [Deaf_other t (g' := 0) (by simp at hj; omega) _ (fun op hop => by obtain ⟨e, _, rfl⟩ := Go.Conc.mem_ofEvents hop; rfl)]
            exact hL.above j (by simpa using hj)⟩ hP1 hS1 (fun b hb => Nat.lt_of_lt_of_le (hSb b hb) e4.rsize)
        exact ⟨N + 1, gs', a', w', sl'', t', q', E', g2, gh2, by simp only [runNT, hst, hrunT]; exact f1, f2.trans hsz, f3, f4, f5, f6, f7, f8, f9, (Out.far e4).at.trans f10⟩
    · -- somebody slips
      have hq := hL.old i g hpos hi
      have hi0 : (i == 0) = false := by simp; omega
      have hlt : i < gs.size := (Array.getElem?_eq_some_iff.1 hi).1
      cases hqi : q i with
      | zero => rw [hqi] at hq; rw [hq.1] at hg; cases hg
      | succ k =>
        rw [hqi] at hq
        rcases hq with ⟨hf, _⟩ | ⟨_, g', es, hm, hstp, hq'⟩
        · rw [hf] at hg; cases hg
        have hrunT := runT_crowd_go (P := P) (sl := sl') (i := i) hi (by rw [hi0]; exact hstp (w.at d))
        have hsz : ((gs.map (woken P g g' (w.at d))).setIfInBounds i g').size = gs.size := by simp
        have hsum : sumTo gs.size (upd q i k) + (k + 1) = sumTo gs.size q + k := by
          have := sumTo_upd q k id hlt
          simpa [hqi] using this
        obtain ⟨N, gs', a', w', sl'', t', q', E', g2, gh2, f1, f2, f3, f4, f5, f6, f7, f8, f9, f10⟩ := ihM (sumTo gs.size (upd q i k)) (by omega) E ((gs.map (woken P g g' (w.at d))).setIfInBounds i g') a (w.at d) sl' (t ++ MemOp.ofEvents i g.frame.fn g.frame.place es) (upd q i k) (by rw [hsz]; exact Nat.le_refl _) (hI.at d)
          (by
            have hne : i ≠ 0 := by omega
            rw [Array.getElem?_setIfInBounds_ne hne, Array.getElem?_map, h0]
            simp [woken_run hrun])
          ⟨fun j x hj hx => by
            by_cases hji : i = j
            · subst hji
              rw [Array.getElem?_setIfInBounds_self_of_lt (by simpa using hlt)] at hx
              obtain rfl := Option.some.inj hx
              rw [upd_same, Deaf_own]
              exact hq'
            · rw [Array.getElem?_setIfInBounds_ne hji, Array.getElem?_map] at hx
              obtain ⟨y, hy, rfl⟩ := Option.map_eq_some_iff.1 hx
              have hqj := hL.old j y hj hy
              rw [woken_quitsD hqj, upd_ne q k (Ne.symm hji), Deaf_other t hji _ (fun op hop => by obtain ⟨e, _, rfl⟩ := Go.Conc.mem_ofEvents hop; rfl)]
              exact hqj, fun j hj => by
            rw [Deaf_other t (g' := i) (by simp at hj; omega) _ (fun op hop => by obtain ⟨e, _, rfl⟩ := Go.Conc.mem_ofEvents hop; rfl)]
            exact hL.above j (by simpa using hj)⟩
          (hP.mute (by omega) hm) hS hSb
        exact ⟨N + 1, gs', a', w', sl'', t', q', E', g2, gh2, by simp only [runNT, hst, hrunT]; exact f1, f2.trans hsz, f3, f4, f5, f6, f7, f8, f9, f10.at⟩
end Go.Proofs.YtobpjijdebnaoaaDoor
namespace Go.Proofs.YtobpjijdebnaoaaDoor
open Go Go.Conc
variable {P : Program} {Z : Nat → Prop} {fns : Fx} {md main : Bool} {E E' : Nat → Nat → Prop} {k0 : List Item} {K : List Frame}
/-- What E knows on the ghost's side. -/
def dom (E : Nat → Nat → Prop) (a b : Nat) : Prop := a = b ∧ ∃ x, E a x
theorem AR.dom {a b : Addr} (h : AR fns E a b) : AR fns (dom E) a a := ⟨⟨rfl, _, h.1⟩, rfl, rfl, h.2.2.2⟩
theorem OA.dom {a b : Option Addr} (h : OA fns E a b) : OA fns (dom E) a a := by
  cases a with
  | none => trivial
  | some a => obtain ⟨b', rfl, g⟩ := oa_some.1 h; exact AR.dom g
theorem AS.dom {a b : Addr} (h : AS fns E a b) : AS fns (dom E) a a := ⟨⟨rfl, _, h.1⟩, rfl, rfl, h.2.2.2⟩
theorem OS.dom {a b : Option Addr} (h : OS fns E a b) : OS fns (dom E) a a := by
  cases a with
  | none => trivial
  | some a => obtain ⟨b', rfl, g⟩ := os_some.1 h; exact AS.dom g
theorem SR.dom {l c : Nat} {a b : Option Addr} (h : SR fns E l c a b) : SR fns (dom E) l c a a := h.imp (fun x => x.dom) fun x => ⟨x.1, x.2.1, rfl⟩
theorem VR.domN : ∀ (n : Nat) (v v' : Value), SizeOf.sizeOf v < n → VR fns E v v' → VR fns (dom E) v v := by
  intro n
  induction n with
  | zero => intro v v' h; omega
  | succ n ih =>
    have arr : ∀ x x' : Array Value, (∀ i (h : i < x.size), SizeOf.sizeOf x[i] < n) → AllR fns E x x' → AllR fns (dom E) x x :=
      fun x x' h2 h3 => ⟨rfl, fun i h _ => ih _ _ (h2 i h) (h3.2 i h (h3.1 ▸ h))⟩
    intro v v' hn hv
    cases v with
    | pointer a => obtain ⟨b, rfl, h⟩ := vr_pointer.1 hv; exact vr_pointer.2 ⟨_, rfl, h.dom⟩
    | slice a l c => obtain ⟨b, rfl, h⟩ := vr_slice.1 hv; exact vr_slice.2 ⟨_, rfl, h.dom⟩
    | map r => obtain ⟨rfl, rfl⟩ := vr_map.1 hv; exact vr_map.2 ⟨rfl, rfl⟩
    | chan r => obtain ⟨rfl, rfl⟩ := vr_chan.1 hv; exact vr_chan.2 ⟨rfl, rfl⟩
    | func f x y =>
      obtain ⟨x', y', rfl, h2, h3, h4⟩ := vr_func.1 hv
      exact vr_func.2 ⟨_, _, rfl, h2, arr _ _ (fun i h => by have := Array.sizeOf_getElem x i h; simp at hn; omega) h3, arr _ _ (fun i h => by have := Array.sizeOf_getElem y i h; simp at hn; omega) h4⟩
    | iface t u => obtain ⟨u', rfl, h⟩ := vr_iface.1 hv; exact vr_iface.2 ⟨_, rfl, ih _ _ (by simp at hn; omega) h⟩
    | agg x => obtain ⟨x', rfl, h⟩ := vr_agg.1 hv; exact vr_agg.2 ⟨_, rfl, arr _ _ (fun i h => by have := Array.sizeOf_getElem x i h; simp at hn; omega) h⟩
    | tuple x => obtain ⟨x', rfl, h⟩ := vr_tuple.1 hv; exact vr_tuple.2 ⟨_, rfl, arr _ _ (fun i h => by have := Array.sizeOf_getElem x i h; simp at hn; omega) h⟩
    | float => exact (vr_float hv).elim
    | complex => exact (vr_complex hv).elim
    | _ => rw [VR]
theorem VR.dom {v v' : Value} (h : VR fns E v v') : VR fns (dom E) v v := VR.domN (SizeOf.sizeOf v + 1) v v' (by omega) h
theorem AllR.dom {x x' : Array Value} (h : AllR fns E x x') : AllR fns (dom E) x x := ⟨rfl, fun i a _ => (h.2 i a (h.1 ▸ a)).dom⟩
theorem VZ.dom {v v' : Value} (h : VZ fns E v v') : VZ fns (dom E) v v := by
  rcases h with h | ⟨a, b, rfl, rfl, h⟩
  · exact .inl h.dom
  · exact .inr ⟨a, a, rfl, rfl, h.dom⟩
theorem TR.dom {ia : Nat → Bool} {x x' : Array Value} (h : TR fns ia E x x') : TR fns ia (dom E) x x := ⟨rfl, fun i a _ => (h.2 i a (h.1 ▸ a)).imp (·.dom) fun y => ⟨y.1, y.2.dom⟩⟩
theorem CR.dom {z : Prop} {lo : Nat} {c c' : Array Value} (h : CR fns E z lo c c') : CR fns (dom E) z lo c c := ⟨Nat.le_refl _, fun _ => rfl, fun i a _ l => (h.at_ i a (by have := h.le; omega) l).dom⟩
theorem FR.dom {fr fr' : Frame} (h : FR P fns E k0 fr fr') : FR P fns (dom E) [] fr fr :=
  ⟨rfl, h.tmps.dom, by rw [List.append_nil], h.ok, h.d, h.d, rfl, h.runs, h.k, h.k, h.r, h.r, h.func, h.same, fun g hg => ⟨⟨rfl, _, (h.gs g hg).1⟩, (h.gs g hg).2⟩⟩
theorem FL.dom : ∀ {L : List (Frame × Frame)}, FL P fns E k0 L → ∃ L', L'.map (·.1) = L.map (·.1) ∧ L'.map (·.2) = L.map (·.1) ∧ FL P fns (dom E) [] L'
  | [], _ => ⟨[], rfl, rfl, trivial⟩
  | p :: L, h => by
    obtain ⟨L', h1, h2, h3⟩ := FL.dom h.2
    refine ⟨(p.1, p.1) :: L', by simp [h1], by simp [h2], ⟨?_, h.1.2⟩, h3⟩
    rw [kap_nil]
    exact h.1.1.dom
theorem GR.dom {T : List Frame} {g g' : Goroutine} (h : GR P fns E k0 T K g g') : GR P fns (dom E) [] T T g g := by
  obtain ⟨fr, fr', L, rfl, rfl, hF, hL⟩ := h
  obtain ⟨L', h1, h2, h3⟩ := hL.dom
  refine ⟨fr, fr, L', by rw [h1], by rw [h2], ?_, h3⟩
  rw [kap_nil]
  exact hF.dom
theorem WR.dom {gh re : World} (h : WR P fns E Z gh re) : WR P fns (dom E) Z gh gh := by
  refine ⟨h.zlow, h.lonz, h.gbig, h.gbig, fun a b x _ => x.1, fun a b a' b' x y => ?_, fun a b x => ?_⟩
  · rw [← x.1, ← y.1]
    exact ⟨fun e => e, fun e _ => e⟩
  · obtain ⟨rfl, y, hy⟩ := x
    rcases h.cells _ _ hy with ⟨c, c', el, fr, fr', k1, k2, k3, k4, k5⟩ | ⟨x, x', l, k1, k2, k3⟩
    · exact .inl ⟨c, c, el, fr, fr, k1, k1, k3.dom, fun _ => rfl, k5⟩
    · exact .inr ⟨x, x, l, k1, k1, k3.dom⟩
theorem cl_of {g g' : Goroutine} {gh re : World} (hg : GR P fns E k0 [trapF] K g g') (hw : WR P fns E Z gh re) : Cl P fns Z [trapF] g gh := ⟨dom E, fun _ _ x => x.1, hg.dom, hw.dom⟩
/-- Where a piece of code falls through, its slots and the world (on some tape) are so. -/
def FinP (b : Frame) (Q : Act → World → Prop) (g : Goroutine) (w : World) : Prop := ∃ a', g.frame = b.at a' [] ∧ ∃ t d, Q a' (wOn w t d)
theorem FinP.on {b : Frame} {Q : Act → World → Prop} (g : Goroutine) (w : World) (t : Nat → Question → Nat) (d : Nat) (h : FinP b Q g w) : FinP b Q g (wOn w t d) :=
  let ⟨a', h1, t', d', h2⟩ := h; ⟨a', h1, t', d', h2⟩
theorem ends_piece {c : Code} {b : Frame} {a : Act} {gh : World} {Q : Act → World → Prop} (hc : Cl P fns Z [trapF] (G (b.at a [.code c]) [trapF]) gh) (h : ∀ t d, c.wp P (fun e a' w' => e = .normal ∧ Q a' w') a (wOn gh t d)) :
    Ends P fns Z false (FinP b Q) (G (b.at a [.code c]) [trapF]) gh := by
  refine ⟨hc, fun t d => ?_⟩
  obtain ⟨e, a', w', ⟨rfl, hq⟩, N, hN⟩ := h t d b [] [trapF]
  exact ⟨N, b.at a' [], w', hN, ⟨rfl, by simp only [Bool.false_eq_true, if_false]; exact ⟨rfl, rfl⟩⟩, a', rfl, w'.tape, w'.drawn, hq⟩
/-- Where a call is about to return: what it returns, and the world (on some tape). -/
def FinC (P : Program) (Q : Value → World → Prop) (g : Goroutine) (w : World) : Prop :=
  ∃ fn v t d, P.funcs[g.frame.fn]? = some fn ∧ (results fn g.frame.tmps).run P (wOn w t d) = .ok v (wOn w t d) ∧ Q v (wOn w t d)
theorem FinC.on {Q : Value → World → Prop} (g : Goroutine) (w : World) (t : Nat → Question → Nat) (d : Nat) (h : FinC P Q g w) : FinC P Q g (wOn w t d) :=
  let ⟨fn, v, t', d', h⟩ := h; ⟨fn, v, t', d', h⟩
theorem ends_calls {f : FuncId} {args : Array Value} {gh : World} {Q : Value → World → Prop} (hc : Cl P fns Z [trapF] (G (Frame.enter P f args .normal) [trapF]) gh) (h : ∀ t d, Calls P f args (wOn gh t d) (fun e w' => ∃ v, e = .returned v ∧ Q v w')) :
    Ends P fns Z true (FinC P Q) (G (Frame.enter P f args .normal) [trapF]) gh := by
  refine ⟨hc, fun t d => ?_⟩
  obtain ⟨e, w', fr, ⟨v, rfl, hq⟩, ⟨N, hN⟩, hfn, hm, hd, hk, fn, hf, hr⟩ := h t d [trapF]
  exact ⟨N, fr, w', hN, ⟨rfl, by simp only [if_true]; exact hm⟩, fn, v, w'.tape, w'.drawn, hf, hr, hq⟩
end Go.Proofs.YtobpjijdebnaoaaDoor
