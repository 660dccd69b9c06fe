/- Part of the proof. -/
import Derived.Test.YtobpjijdebnaoaaDoorCo3
import Derived.KernelRfl
import Derived.Test.YtobpjijdebnaoaaDoorSim4
import Derived.Conc.CrowdSpec
namespace Go.Proofs.YtobpjijdebnaoaaDoor
open Go Go.Conc
/-! ### silent steps -/
def nx (P : Program) (main : Bool) (g : Goroutine) : Goroutine := match stepG P main g default with | .go g' _ _ => g' | _ => g
def nxN (P : Program) (main : Bool) : Nat → Goroutine → Goroutine
  | 0, g => g
  | n + 1, g => nxN P main n (nx P main g)
def Pur (P : Program) (main : Bool) : Nat → Goroutine → Prop
  | 0, _ => True
  | n + 1, g => (g.status = .running ∧ ∀ w, stepG P main g w = .go (nx P main g) w #[]) ∧ Pur P main n (nx P main g)
theorem Pur.step {P : Program} {main : Bool} {n : Nat} {g : Goroutine} (hr : g.status = .running) (h : ∀ w, stepG P main g w = .go (nx P main g) w #[]) (k : Pur P main n (nx P main g)) : Pur P main (n + 1) g := ⟨⟨hr, h⟩, k⟩
theorem Pur.nil {P : Program} {main : Bool} {g : Goroutine} : Pur P main 0 g := trivial
variable {P : Program} {main sil : Bool} {Fz : Nat → Prop} {Ex : World → World → Prop} {O : Nat → Prop} {Stop : (Nat → Prop) → Goroutine → World → Prop} {K : World → Prop}
/-- Wherever K holds it goes on its way in company. -/
def CK (P : Program) (main sil : Bool) (Fz : Nat → Prop) (Ex : World → World → Prop) (Stop : (Nat → Prop) → Goroutine → World → Prop) (K : World → Prop) (O : Nat → Prop) (g : Goroutine) : Prop := ∀ w, K w → Co P main sil Fz Ex Stop O g w
/-- The others keep it. -/
def Stb (Fz : Nat → Prop) (Ex : World → World → Prop) (K : World → Prop) (O : Nat → Prop) : Prop := ∀ w w₁, Rly Fz Ex O w w₁ → K w → K w₁
theorem ck_pur (hK : Stb Fz Ex K O) : ∀ (n : Nat) {g : Goroutine}, Pur P main n g → CK P main sil Fz Ex Stop K O (nxN P main n g) → CK P main sil Fz Ex Stop K O g
  | 0, _, _, h => h
  | n + 1, _, hp, h => fun w hw => co_pure hp.1.1 hp.1.2 fun w₁ r => ck_pur hK n hp.2 h w₁ (hK w w₁ r hw)
theorem ck_stop (hK : Stb Fz Ex K O) {g : Goroutine} (hr : g.status = .running) (h : ∀ w, K w → Stop O g w) : CK P main sil Fz Ex Stop K O g := fun w hw => Co.stop hr fun w₁ r => h w₁ (hK w w₁ r hw)
theorem ck_step (hK : Stb Fz Ex K O) {g : Goroutine} (hr : g.status = .running) (h : ∀ w, K w → ∃ g' w' es, stepG P main g w = .go g' w' es ∧ Gua O w w' ∧ (∀ e ∈ es, EvC Fz (grow O w w') e) ∧ (sil = true → es = #[]) ∧ Co P main sil Fz Ex Stop (grow O w w') g' w') : CK P main sil Fz Ex Stop K O g :=
  fun w hw => Co.step hr fun w₁ r => h w₁ (hK w w₁ r hw)
/-- A silent step where K holds. -/
theorem ck_one (hK : Stb Fz Ex K O) {g g' : Goroutine} (hr : g.status = .running) (hs : ∀ w, K w → stepG P main g w = .go g' w #[]) (h : CK P main sil Fz Ex Stop K O g') : CK P main sil Fz Ex Stop K O g :=
  ck_step hK hr fun w hw => ⟨g', w, #[], hs w hw, Gua.refl, fun e he => by simp at he, fun _ => rfl, by rw [grow_same]; exact h w hw⟩
/-- A load of what is mine or of what nobody writes. -/
theorem ck_read (hK : Stb Fz Ex K O) {g g' : Goroutine} {es : Array Event} (hr : g.status = .running) (hs : ∀ w, K w → stepG P main g w = .go g' w es) (he : ∀ e ∈ es, EvC Fz O e) (h : CK P main false Fz Ex Stop K O g') : CK P main false Fz Ex Stop K O g :=
  ck_step hK hr fun w hw => ⟨g', w, es, hs w hw, Gua.refl, fun e hm => by rw [grow_same]; exact he e hm, fun x => (by cases x), by rw [grow_same]; exact h w hw⟩
/-- To somewhat else that is known. -/
theorem ck_know {K' : World → Prop} {g : Goroutine} (h : CK P main sil Fz Ex Stop K' O g) (hk : ∀ w, K w → K' w) : CK P main sil Fz Ex Stop K O g := fun w hw => h w (hk w hw)
theorem ck_bind {S1 : (Nat → Prop) → Goroutine → World → Prop} (hX : ∀ a, Ex a a) (h2 : ∀ O g w, S1 O g w → Co P main sil Fz Ex Stop O g w) {g : Goroutine} (h : CK P main sil Fz Ex S1 K O g) : CK P main sil Fz Ex Stop K O g := fun w hw => (h w hw).bind hX h2
/-! ### questions -/
structure An where
  v : Value := .nilFunc
  sh : Option (TypeId × Nat) := none
  b : Bool := false
  n : Nat := 0
structure Qa where
  k : Nat
  ad : Addr := default
  v : Value := .nilFunc
  sy : Bool := false
  sh : Option (TypeId × Nat) := none
  b : Bool := false
  o : Obj := default
  m : Mark := default
def cellV : Value → Bool
  | .agg _ | .tuple _ => false
  | _ => true
def askS (P : Program) {α : Type} : Sem α → List An → Option (α × List Qa)
  | .pure a, l => if l.isEmpty then some (a, []) else none
  | .load m a k, l => (askS P (k (l.headD {}).v) l.tail).map fun r => (r.1, { k := 0, ad := a, v := (l.headD {}).v, sy := m == .atomic } :: r.2)
  | .store m a v k, l => if cellV v then (askS P k l).map fun r => (r.1, { k := 1, ad := a, v := v, sy := m == .atomic } :: r.2) else none
  | .new o k, l => (askS P (k (l.headD {}).n) l.tail).map fun r => (r.1, { k := 4, ad := ⟨(l.headD {}).n, 0, none⟩, o := o } :: r.2)
  | .shape b k, l => (askS P (k (l.headD {}).sh) l.tail).map fun r => (r.1, { k := 2, ad := ⟨b, 0, none⟩, sh := (l.headD {}).sh } :: r.2)
  | .frozen a k, l => (askS P (k (l.headD {}).b) l.tail).map fun r => (r.1, { k := 3, ad := a, b := (l.headD {}).b } :: r.2)
  | .program k, l => askS P (k P) l
  | .mark m k, l => (askS P k l).map fun r => (r.1, { k := 5, m := m } :: r.2)
  | .choose q k, l => if q.forced then askS P (k 0) l else none
  | .freeze _ _ _, _ => none
  | .getObj _ _, _ => none
  | .setObj _ _ _, _ => none
  | .sys _ _, _ => none
  | .halt _, _ => none
/-- The world answers so, and is then w'. -/
def OkQ : List Qa → World → World → Prop
  | [], w, w' => w' = w
  | q :: l, w, w' =>
    if q.k = 0 then w.cell? q.ad = some q.v ∧ OkQ l w w'
    else if q.k = 1 then (w.cell? q.ad).isSome = true ∧ w.frozen? q.ad = false ∧ OkQ l (w.setCell q.ad q.v) w'
    else if q.k = 2 then w.shape? q.ad.block = q.sh ∧ OkQ l w w'
    else if q.k = 3 then w.frozen? q.ad = q.b ∧ OkQ l w w'
    else if q.k = 4 then w.heap.size = q.ad.block ∧ OkQ l { w with heap := w.heap.push q.o } w'
    else OkQ l w w'
def evQ (q : Qa) : Option Event := if q.k = 0 then some ⟨.cell q.ad, false, q.sy⟩ else if q.k = 1 then some ⟨.cell q.ad, true, q.sy⟩ else if q.k = 5 then some ⟨.mark q.m, false, true⟩ else none
theorem askS_run {α : Type} : ∀ (s : Sem α) (l : List An) (x : α) (qs : List Qa) (w w' : World) (es : Array Event), askS P s l = some (x, qs) → OkQ qs w w' → s.runT P w es = (.ok x w', es ++ (qs.filterMap evQ).toArray) := by
  intro s
  induction s with
  | pure a =>
    intro l x qs w w' es h hq
    simp only [askS] at h
    split at h
    · cases h
      simp only [OkQ] at hq
      subst hq
      simp [Sem.runT]
    · cases h
  | load m a k ih =>
    intro l x qs w w' es h hq
    simp only [askS, Option.map_eq_some_iff] at h
    obtain ⟨⟨x1, q1⟩, h1, h2⟩ := h
    cases h2
    simp only [OkQ, if_true] at hq
    simp only [Sem.runT, hq.1]
    rw [ih _ _ _ _ _ _ _ h1 hq.2]
    simp [evQ]
  | store m a v k ih =>
    intro l x qs w w' es h hq
    simp only [askS] at h
    split at h
    · rename_i hv
      simp only [Option.map_eq_some_iff] at h
      obtain ⟨⟨x1, q1⟩, h1, h2⟩ := h
      cases h2
      simp only [OkQ, Nat.one_ne_zero, if_false, if_true] at hq
      obtain ⟨hc, hf, hq⟩ := hq
      obtain ⟨u, hu⟩ := Option.isSome_iff_exists.1 hc
      have e : (Sem.store m a v k).runT P w es = k.runT P (w.setCell a v) (es.push ⟨.cell a, true, m == .atomic⟩) := by
        cases v <;> first | (cases hv; done) | (simp only [Sem.runT, hu, hf]; rfl)
      rw [e, ih _ _ _ _ _ _ h1 hq]
      simp [evQ]
    · cases h
  | new o k ih =>
    intro l x qs w w' es h hq
    simp only [askS, Option.map_eq_some_iff] at h
    obtain ⟨⟨x1, q1⟩, h1, h2⟩ := h
    cases h2
    simp only [OkQ, show ¬ (4 : Nat) = 0 by decide, show ¬ (4 : Nat) = 1 by decide, show ¬ (4 : Nat) = 2 by decide, show ¬ (4 : Nat) = 3 by decide, if_false, if_true] at hq
    simp only [Sem.runT, hq.1]
    rw [ih _ _ _ _ _ _ _ h1 hq.2]
    simp [evQ]
  | shape b k ih =>
    intro l x qs w w' es h hq
    simp only [askS, Option.map_eq_some_iff] at h
    obtain ⟨⟨x1, q1⟩, h1, h2⟩ := h
    cases h2
    simp only [OkQ, show ¬ (2 : Nat) = 0 by decide, show ¬ (2 : Nat) = 1 by decide, if_false, if_true] at hq
    simp only [Sem.runT, hq.1]
    rw [ih _ _ _ _ _ _ _ h1 hq.2]
    simp [evQ]
  | frozen a k ih =>
    intro l x qs w w' es h hq
    simp only [askS, Option.map_eq_some_iff] at h
    obtain ⟨⟨x1, q1⟩, h1, h2⟩ := h
    cases h2
    simp only [OkQ, show ¬ (3 : Nat) = 0 by decide, show ¬ (3 : Nat) = 1 by decide, show ¬ (3 : Nat) = 2 by decide, if_false, if_true] at hq
    simp only [Sem.runT, hq.1]
    rw [ih _ _ _ _ _ _ _ h1 hq.2]
    simp [evQ]
  | program k ih =>
    intro l x qs w w' es h hq
    simp only [askS] at h
    simp only [Sem.runT]
    exact ih _ _ _ _ _ _ _ h hq
  | mark m k ih =>
    intro l x qs w w' es h hq
    simp only [askS, Option.map_eq_some_iff] at h
    obtain ⟨⟨x1, q1⟩, h1, h2⟩ := h
    cases h2
    simp only [OkQ, show ¬ (5 : Nat) = 0 by decide, show ¬ (5 : Nat) = 1 by decide, show ¬ (5 : Nat) = 2 by decide, show ¬ (5 : Nat) = 3 by decide, show ¬ (5 : Nat) = 4 by decide, if_false] at hq
    simp only [Sem.runT]
    rw [ih _ _ _ _ _ _ h1 hq]
    simp [evQ]
  | choose q k ih =>
    intro l x qs w w' es h hq
    simp only [askS] at h
    split at h
    · rename_i hf
      simp only [Sem.runT, hf, if_true]
      exact ih _ _ _ _ _ _ _ h hq
    · cases h
  | freeze => intro l x qs w w' es h; simp [askS] at h
  | getObj => intro l x qs w w' es h; simp [askS] at h
  | setObj => intro l x qs w w' es h; simp [askS] at h
  | sys => intro l x qs w w' es h; simp [askS] at h
  | halt => intro l x qs w w' es h; simp [askS] at h
/-- The operation that it stands at, as what it asks. -/
def semOf (g : Goroutine) : Sem Next := match g.frame.oper? with
  | some o => execOp g.frame.eval o
  | none => Go.stuck ""
/-- It stands at an operation. -/
def AtOper (P : Program) (main : Bool) (g : Goroutine) : Prop := (g.frame.kind == .early) = false ∧ ∀ w, stepG P main g w = stepG.apply P true g.frame g.callers none (semOf g) w
def upon (P : Program) (g : Goroutine) : Next → Option Goroutine
  | .value v => some (G (g.frame.finish v) g.callers)
  | .skip => some (G (g.frame.finish undef) g.callers)
  | .enter f a => some (G (Frame.enter P f a .normal) (g.frame :: g.callers))
  | _ => none
def noCall (g : Goroutine) : Bool := match g.frame.todo with
  | .call _ _ _ _ :: _ => false
  | _ => true
theorem noCall_of {g : Goroutine} (h : noCall g = true) (d : Deferred) (a : Bool) (b : String) (c : Array Value) (k : List Item) : g.frame.todo ≠ .call d a b c :: k := by
  intro e
  unfold noCall at h
  rw [e] at h
  cases h
theorem step_ask {g g' : Goroutine} {w w' : World} {l : List An} {x : Next} {qs : List Qa} (ha : AtOper P main g) (hn : ∀ d a b c k, g.frame.todo ≠ .call d a b c :: k) (h : askS P (semOf g) l = some (x, qs)) (hu : upon P g x = some g') (hq : OkQ qs w w') :
    stepG P main g w = .go g' w' (seen P g.frame.fn (qs.filterMap evQ).toArray) := by
  rw [ha.2 w]
  unfold stepG.apply
  simp only [if_true, askS_run _ _ _ _ _ _ #[] h hq, Array.empty_append, ha.1, Bool.false_eq_true, if_false]
  cases x with
  | value v =>
    simp only [upon, Option.some.injEq] at hu
    subst hu
    simp [GStep.after, G]
  | skip =>
    simp only [upon, Option.some.injEq] at hu
    subst hu
    simp [GStep.after, G]
  | enter f a =>
    simp only [upon, Option.some.injEq] at hu
    subst hu
    simp only [GStep.after, Array.append_empty, G]
    congr 2
    split
    · rename_i he
      exact absurd he (hn _ _ _ _ _)
    · rfl
  | _ => cases hu
end Go.Proofs.YtobpjijdebnaoaaDoor
namespace Go.Proofs.YtobpjijdebnaoaaDoor
open Go Go.Conc
open Go.ConcN (sumTo upd sumTo_upd upd_ne upd_same)
/-- All that is held of the machine beside goroutine 0. -/
structure Bx (P : Program) (S : Nat → Prop) (B0 : Nat) (g : Goroutine) (w : World) (gs : Array Goroutine) (t : Trace) (q : Nat → Nat) : Prop where
  at0 : gs[0]? = some g
  lv : Leavers P t gs q
  past : Past (ShunB S) w.heap.size t
  nor : ∀ b, B0 ≤ b → NoRelease (sA b) t
def Bs (P : Program) (S : Nat → Prop) (B0 : Nat) (g : Goroutine) (w : World) (g' : Goroutine) (w' : World) : Prop :=
  ∀ (gs : Array Goroutine) (d : Nat) (sl : Option (Nat × Nat)) (t : Trace) (q : Nat → Nat), Bx P S B0 g w gs t q →
    ∃ (N : Nat) (gs' : Array Goroutine) (d' : Nat) (sl' : Option (Nat × Nat)) (t' : Trace) (q' : Nat → Nat),
      runNT P N (crowd gs (w.at d) sl) t = (.next (crowd gs' (w'.at d') sl'), t') ∧ gs'.size = gs.size ∧ Bx P S B0 g' w' gs' t' q'
section
variable {P : Program} {S : Nat → Prop} {B0 : Nat} {g g' g'' : Goroutine} {w w' w'' : World}
theorem runNT_add : ∀ (N M : Nat) (m : Machine) (t : Trace) {m' : Machine} {t' : Trace}, runNT P N m t = (.next m', t') → runNT P (N + M) m t = runNT P M m' t'
  | 0, M, m, t, m', t', h => by
    simp only [runNT] at h
    cases h
    rw [Nat.zero_add]
  | N + 1, M, m, t, m', t', h => by
    rw [show N + 1 + M = (N + M) + 1 by omega]
    simp only [runNT] at h ⊢
    split at h
    · exact runNT_add N M _ _ h
    · rename_i hx _
      cases h
      exact absurd rfl (hx _)
theorem Bs.refl : Bs P S B0 g w g w := fun gs d sl t q h => ⟨0, gs, d, sl, t, q, rfl, rfl, h⟩
theorem Bs.trans (h : Bs P S B0 g w g' w') (k : Bs P S B0 g' w' g'' w'') : Bs P S B0 g w g'' w'' := fun gs d sl t q hx => by
  obtain ⟨N, gs1, d1, sl1, t1, q1, a1, a2, a3⟩ := h gs d sl t q hx
  obtain ⟨M, gs2, d2, sl2, t2, q2, b1, b2, b3⟩ := k gs1 d1 sl1 t1 q1 a3
  exact ⟨N + M, gs2, d2, sl2, t2, q2, by rw [runNT_add N M _ _ a1]; exact b1, b2.trans a2, b3⟩
/-- Goroutine 0's turn comes: a leaver ends within its steps. -/
theorem bs_turn (hrun : g.status = .running)
    (H : ∀ (gs : Array Goroutine) (d : Nat) (sl : Option (Nat × Nat)) (t : Trace) (q : Nat → Nat), Bx P S B0 g w gs t q → ∃ gs' d' u q', runT P (crowd gs (w.at d) sl) 0 = (.next (crowd gs' (w'.at d') sl), u) ∧ gs'.size = gs.size ∧ Bx P S B0 g' w' gs' (t ++ u) q') :
    Bs P S B0 g w g' w' := by
  have main : ∀ (M : Nat) (gs : Array Goroutine) (d : Nat) (sl : Option (Nat × Nat)) (t : Trace) (q : Nat → Nat), sumTo gs.size q ≤ M → Bx P S B0 g w gs t q →
      ∃ (N : Nat) (gs' : Array Goroutine) (d' : Nat) (sl' : Option (Nat × Nat)) (t' : Trace) (q' : Nat → Nat), runNT P N (crowd gs (w.at d) sl) t = (.next (crowd gs' (w'.at d') sl'), t') ∧ gs'.size = gs.size ∧ Bx P S B0 g' w' gs' t' q' := by
    intro M
    induction M using Nat.strongRecOn with
    | _ M ihM =>
      intro gs d0 sl t q hM hB
      have haw : ∀ x ∈ gs, awake x := by
        intro x hx
        obtain ⟨i, hi, rfl⟩ := Array.mem_iff_getElem.1 hx
        rcases Nat.eq_zero_or_pos i with rfl | hpos
        · have : gs[0] = g := by simpa [Array.getElem?_eq_getElem hi] using hB.at0
          rw [this]; exact awake_of (.inl hrun)
        · exact awake_of ((hB.lv.old i _ hpos (Array.getElem?_eq_getElem hi)).status.elim .inl fun x => .inr (.inr x))
      obtain ⟨i, x, d, sl', hi, hg, hst⟩ := crowd_pick (P := P) (w := w.at d0) (sl := sl) haw ⟨0, g, hB.at0, hrun⟩
      have hat : (w.at d0).at d = w.at d := rfl
      rw [hat] at hst
      rcases Nat.eq_zero_or_pos i with rfl | hpos
      · obtain ⟨gs', d', u, q', h1, h2, h3⟩ := H gs d sl' t q hB
        exact ⟨1, gs', d', sl', t ++ u, q', by simp only [runNT, hst, h1], h2, h3⟩
      · have hq := hB.lv.old i x hpos hi
        have hi0 : (i == 0) = false := by simp; omega
        have hlt : i < gs.size := (Array.getElem?_eq_some_iff.1 hi).1
        cases hqi : q i with
        | zero => rw [hqi] at hq; rw [hq.1] at hg; cases hg
        | succ k =>
          rw [hqi] at hq
          rcases hq with ⟨hf, _⟩ | ⟨_, x', es, hm, hstp, hq'⟩
          · rw [hf] at hg; cases hg
          have hrunT := runT_crowd_go (P := P) (sl := sl') (i := i) hi (by rw [hi0]; exact hstp (w.at d))
          have hsz : ((gs.map (woken P x x' (w.at d))).setIfInBounds i x').size = gs.size := by simp
          have hsum : sumTo gs.size (upd q i k) + (k + 1) = sumTo gs.size q + k := by
            have := sumTo_upd q k id hlt
            simpa [hqi] using this
          obtain ⟨N, gs', d', sl'', t', q', f1, f2, f3⟩ := ihM (sumTo gs.size (upd q i k)) (by omega) ((gs.map (woken P x x' (w.at d))).setIfInBounds i x') d sl' (t ++ MemOp.ofEvents i x.frame.fn x.frame.place es) (upd q i k) (by rw [hsz]; exact Nat.le_refl _)
            ⟨by
              have hne : i ≠ 0 := by omega
              rw [Array.getElem?_setIfInBounds_ne hne, Array.getElem?_map, hB.at0]
              simp [woken_run hrun], ⟨fun j y hj hy => by
              by_cases hji : i = j
              · subst hji
                rw [Array.getElem?_setIfInBounds_self_of_lt (by simpa using hlt)] at hy
                obtain rfl := Option.some.inj hy
                rw [upd_same, Deaf_own]
                exact hq'
              · rw [Array.getElem?_setIfInBounds_ne hji, Array.getElem?_map] at hy
                obtain ⟨z, hz, rfl⟩ := Option.map_eq_some_iff.1 hy
                have hqj := hB.lv.old j z hj hz
                rw [woken_quitsD hqj, upd_ne q k (Ne.symm hji), Deaf_other t hji _ (fun op hop => by obtain ⟨e, _, rfl⟩ := Go.Conc.mem_ofEvents hop; rfl)]
                exact hqj, fun j hj => by
              rw [Deaf_other t (g' := i) (by simp at hj; omega) _ (fun op hop => by obtain ⟨e, _, rfl⟩ := Go.Conc.mem_ofEvents hop; rfl)]
              exact hB.lv.above j (by simpa using hj)⟩, hB.past.mute (by omega) hm, fun b hb => (hB.nor b hb).app fun op hop => by obtain ⟨e, he, rfl⟩ := Go.Conc.mem_ofEvents hop; exact mute_nor (hm e he) _⟩
          exact ⟨N + 1, gs', d', sl'', t', q', by simp only [runNT, hst, hrunT]; exact f1, f2.trans hsz, f3⟩
  intro gs d sl t q hB
  exact main _ gs d sl t q (Nat.le_refl _) hB
/-- One step of its own. -/
theorem bs_step {es : Array Event} (hr : g.status = .running) (hs : ∀ d, ∃ d', stepG P true g (w.at d) = .go g' (w'.at d') es) (he : ∀ e ∈ es, EvL (ShunB S) w'.heap.size e ∧ ∀ a, MemAct.ofEvent e ≠ .mark (.release a)) (hsz : w.heap.size ≤ w'.heap.size) : Bs P S B0 g w g' w' := by
  refine bs_turn hr fun gs d sl t q hB => ?_
  obtain ⟨d', hst⟩ := hs d
  have hlt : 0 < gs.size := (Array.getElem?_eq_some_iff.1 hB.at0).1
  have hrunT := runT_crowd_go (P := P) (sl := sl) (i := 0) hB.at0 (show stepG P (0 == 0) g (w.at d) = _ from hst)
  refine ⟨_, d', _, q, hrunT, by simp, ⟨by simp [hlt], ⟨fun j x hj hx => ?_, fun j hj => ?_⟩, (hB.past.mono hsz).own fun e h => (he e h).1, fun b hb => (hB.nor b hb).app fun op hop => by obtain ⟨e, h, rfl⟩ := Go.Conc.mem_ofEvents hop; exact (he e h).2 _⟩⟩
  · have hne : 0 ≠ j := by omega
    rw [Array.getElem?_setIfInBounds_ne hne, Array.getElem?_map] at hx
    obtain ⟨y, hy, rfl⟩ := Option.map_eq_some_iff.1 hx
    have hq := hB.lv.old j y hj hy
    rw [woken_quitsD hq, Deaf_other t (by omega) _ (fun op hop => by obtain ⟨e, _, rfl⟩ := Go.Conc.mem_ofEvents hop; rfl)]
    exact hq
  · rw [Deaf_other t (g' := 0) (by simp at hj; omega) _ (fun op hop => by obtain ⟨e, _, rfl⟩ := Go.Conc.mem_ofEvents hop; rfl)]
    exact hB.lv.above j (by simpa using hj)
theorem bs_pur : ∀ (n : Nat) {g : Goroutine}, Pur P true n g → Bs P S B0 g w (nxN P true n g) w
  | 0, _, _ => Bs.refl
  | n + 1, _, h => (bs_step (es := #[]) h.1.1 (fun d => ⟨d, h.1.2 _⟩) (fun e he => by simp at he) (Nat.le_refl _)).trans (bs_pur n h.2)
theorem okQ_at : ∀ (qs : List Qa) {w w' : World} (d : Nat), OkQ qs w w' → OkQ qs (w.at d) (w'.at d)
  | [], _, _, d, h => by simp only [OkQ] at h ⊢; rw [h]
  | q :: l, w, w', d, h => by
    simp only [OkQ] at h ⊢
    split at h
    · rename_i e; rw [if_pos e]; exact ⟨h.1, okQ_at l d h.2⟩
    · rename_i e0; rw [if_neg e0]
      split at h
      · rename_i e; rw [if_pos e]; exact ⟨h.1, h.2.1, okQ_at l d h.2.2⟩
      · rename_i e1; rw [if_neg e1]
        split at h
        · rename_i e; rw [if_pos e]; exact ⟨h.1, okQ_at l d h.2⟩
        · rename_i e2; rw [if_neg e2]
          split at h
          · rename_i e; rw [if_pos e]; exact ⟨h.1, okQ_at l d h.2⟩
          · rename_i e3; rw [if_neg e3]
            split at h
            · rename_i e; rw [if_pos e]; exact ⟨h.1, okQ_at l d h.2⟩
            · rename_i e; rw [if_neg e]; exact okQ_at l d h
end
/-- Where it goes from an operation whose answer is x. -/
def go1 (P : Program) (g : Goroutine) (x : Next) : Goroutine := (upon P g x).getD g
def okN : Next → Bool
  | .value _ | .skip | .enter _ _ => true
  | _ => false
theorem upon_go1 (P : Program) (g : Goroutine) {x : Next} (h : okN x = true) : upon P g x = some (go1 P g x) := by
  unfold go1
  cases x <;> first | (cases h; done) | rfl
/-- What is closed of an operation: it is one, it asks these questions, lists these events. -/
structure Asks (P : Program) (main : Bool) (g : Goroutine) (l : List An) (x : Next) (qs : List Qa) (es : Array Event) : Prop where
  run : g.status = .running
  kind : (g.frame.kind == .early) = false
  at_ : ∀ w, stepG P main g w = stepG.apply P true g.frame g.callers none (semOf g) w
  nocall : noCall g = true
  asks : askS P (semOf g) l = some (x, qs)
  ok : okN x = true
  ev : seen P g.frame.fn (qs.filterMap evQ).toArray = es
theorem Asks.step {P : Program} {main : Bool} {g : Goroutine} {l : List An} {x : Next} {qs : List Qa} {es : Array Event} (h : Asks P main g l x qs es) {w w' : World} (hq : OkQ qs w w') : stepG P main g w = .go (go1 P g x) w' es := by
  rw [step_ask ⟨h.kind, h.at_⟩ (noCall_of h.nocall) h.asks (upon_go1 P g h.ok) hq, h.ev]
theorem bs_ask {P : Program} {S : Nat → Prop} {B0 : Nat} {g : Goroutine} {l : List An} {x : Next} {qs : List Qa} {es : Array Event} (h : Asks P true g l x qs es) {w w' : World} (hq : OkQ qs w w') (he : ∀ e ∈ es, EvL (ShunB S) w'.heap.size e ∧ ∀ a, MemAct.ofEvent e ≠ .mark (.release a)) (hsz : w.heap.size ≤ w'.heap.size) : Bs P S B0 g w (go1 P g x) w' :=
  bs_step h.run (fun d => ⟨d, h.step (okQ_at qs d hq)⟩) he hsz
end Go.Proofs.YtobpjijdebnaoaaDoor
namespace Go.Proofs.YtobpjijdebnaoaaDoor
open Go Go.Conc
variable {P : Program} {Z : Nat → Prop} {fns : Fx} {main sil : Bool} {E : Nat → Nat → Prop} {Fz : Nat → Prop} {Ex : World → World → Prop} {O : Nat → Prop} {Stop : (Nat → Prop) → Goroutine → World → Prop}
/-- The ghost is about to return: so does the real one, to its own caller. -/
theorem inG_ret {Q : Value → World → Prop} {c : Frame} {cs : List Frame} {g g' : Goroutine} {gh w : World} (h : InG P fns Z true (FinC P Q) [] (c :: cs) E g gh g' w) (hs : atStop true [trapF] g) (hf : FinC P Q g gh) :
    ∃ E1 v v' gh1 w1 es, gh1.heap = gh.heap ∧ Q v gh1 ∧ VR fns E1 v v' ∧ stepG (fns.re P) main g' w = .go (G (c.finish v') cs) w1 es ∧ Out P fns E E1 Z gh1 w gh1 w1 ∧ ∀ e ∈ es, EvOK E1 Z e := by
  obtain ⟨fr, fr', L, rfl, rfl, hF, hL⟩ := h.gr
  have hL0 : L = [] := by
    have := hs.1
    simp only [G] at this
    have h2 := congrArg List.length this
    simp at h2
    exact List.eq_nil_of_length_eq_zero (by simpa using h2)
  subst hL0
  have hk : kap ([] : List (Frame × Frame)) [] = [] := rfl
  rw [hk] at hF
  have hm : fr.mode = .returning := by
    have := hs.2
    simpa [G] using this
  obtain ⟨fn, v, t, d, hfn, hr, hq⟩ := hf
  simp only [G] at hfn hr
  have hres : fn.results.all (okRes (iaF P fr.fn)) = true := by
    obtain ⟨fn2, h2, h3⟩ := hF.func
    rw [hfn] at h2
    cases h2
    exact h3
  have hf' : (fns.re P).funcs[fr'.fn]? = some fn := by rw [hF.fn]; exact hF.same.trans hfn
  have hm' : fr'.mode = .returning := hF.mode.trans hm
  have hsim := Sim.results (P := P) (Z := Z) fn hres hF.tmps (wOn gh t d) w (h.wr.gtape t d)
  rw [hr] at hsim
  obtain ⟨E1, v', w1, e1, e2, e3, e4⟩ := hsim (fun j hj => absurd hj (by omega))
  refine ⟨E1, v, v', wOn gh t d, w1, seen (fns.re P) fr'.fn (Sem.events (fns.re P) (results fn fr'.tmps) w #[]) ++ #[], rfl, hq, e3, ?_, e2, ?_⟩
  · simp only [List.map_nil, List.nil_append]
    rw [stepG_unw hm']
    unfold unwind
    simp only [hF.d', hm', hf', Sem.runT_eq, e1, doReturn, hF.k']
    rfl
  · intro e he
    exact (e4 #[] e (mem_seen (by simpa [GStep.after] using he))).resolve_left (by simp)
theorem co_callG (hz : zeros P fns) (hdep : 0 < P.depth) (hp : okOne P fns) {Q : Value → World → Prop} {c : Frame} {cs : List Frame} {Oi : Nat → Prop} {K : World → Prop} {Hold : Nat → Prop} {B0 : Nat} {E0 : Nat → Nat → Prop}
    (hKr : ∀ O w w₁, Rly Fz Ex O w w₁ → K w → K w₁) (hKg : ∀ w w', K w → (∀ b, Hold b → w'.heap[b]? = w.heap[b]?) → w.heap.size ≤ w'.heap.size → K w')
    (next : ∀ E1 v v' gh1 w1, Q v gh1 → VR fns E1 v v' → WR P fns E1 Z gh1 w1 → K w1 → (∀ a b, E1 a b → E0 a b ∨ B0 ≤ b) → Co P main false Fz Ex Stop (fun b => Oi b ∨ (¬ Fz b ∧ ∃ a, E1 a b)) (G (c.finish v') cs) w1) :
    ∀ (x : Goroutine × World), Acc (Bf P true) x → ∀ (E : Nat → Nat → Prop) (g' : Goroutine) (w : World), InG P fns Z true (FinC P Q) [] (c :: cs) E x.1 x.2 g' w → (∀ a b, E a b → Z a → Fz b) → (∀ a b, E a b → ¬ Z a → ¬ Fz b) → (∀ b, Fz b → b < w.heap.size) →
      K w → (∀ b, Hold b → b < w.heap.size ∧ (Fz b ∨ ∀ a, ¬ E a b)) → (∀ a b, E a b → E0 a b ∨ B0 ≤ b) → B0 ≤ w.heap.size →
      Co P main false Fz Ex Stop (fun b => Oi b ∨ (¬ Fz b ∧ ∃ a, E a b)) g' w := by
  intro x hacc
  induction hacc with
  | intro x _ ih =>
  intro E g' w hI hZ hnZ hFl hK hH hE0 hB0
  refine Co.step hI.gr.running fun w₁ r => ?_
  have hI1 : InG P fns Z true (FinC P Q) [] (c :: cs) E x.1 x.2 g' w₁ := hI.rely (fun a b y => by
    by_cases hf : Fz b
    · exact r.fz b hf
    · exact r.mine b (.inr ⟨hf, a, y⟩)) r.size
  have hK1 : K w₁ := hKr _ w w₁ r hK
  -- what every step of its own keeps
  have common : ∀ {E1 : Nat → Nat → Prop} {gh1 gh2 w2 : World} {es : Array Event}, gh1.heap.size = x.2.heap.size → Out P fns E E1 Z gh1 w₁ gh2 w2 → (∀ e ∈ es, EvOK E1 Z e) →
      Gua (fun b => Oi b ∨ (¬ Fz b ∧ ∃ a, E a b)) w₁ w2 ∧ (∀ a b, E1 a b → Z a → Fz b) ∧ (∀ a b, E1 a b → ¬ Z a → ¬ Fz b) ∧ grow (fun b => Oi b ∨ (¬ Fz b ∧ ∃ a, E a b)) w₁ w2 = (fun b => Oi b ∨ (¬ Fz b ∧ ∃ a, E1 a b)) ∧
      (∀ e ∈ es, EvC Fz (fun b => Oi b ∨ (¬ Fz b ∧ ∃ a, E1 a b)) e) ∧ K w2 ∧ (∀ b, Hold b → b < w2.heap.size ∧ (Fz b ∨ ∀ a, ¬ E1 a b)) ∧ (∀ a b, E1 a b → E0 a b ∨ B0 ≤ b) := by
    intro E1 gh1 gh2 w2 es hgs e4 e5
    have hfresh : ∀ a b, E1 a b → E a b ∨ (w₁.heap.size ≤ b ∧ ¬ Z a) := fun a b y => (e4.fresh a b y).imp id fun y => ⟨y.2, fun hz => by have := hI1.wr.zlow a hz; omega⟩
    have hZ1 : ∀ a b, E1 a b → Z a → Fz b := fun a b y hz => (hfresh a b y).elim (fun y => hZ a b y hz) fun y => (y.2 hz).elim
    have hnZ1 : ∀ a b, E1 a b → ¬ Z a → ¬ Fz b := fun a b y hz => (hfresh a b y).elim (fun y => hnZ a b y hz) fun y hf => by
      have := hFl b hf; have := r.size; omega
    refine ⟨⟨fun b hb hno => ?_, e4.rsize, e4.rtape, e4.os, e4.output⟩, hZ1, hnZ1, ?_, fun e he => ?_, ?_, fun b hb => ?_, fun a b y => ?_⟩
    · exact e4.keep b hb fun a y => Classical.byContradiction fun hnz => hno (.inr ⟨hnZ a b y hnz, a, y⟩)
    · funext b
      refine propext ⟨fun y => ?_, fun y => ?_⟩
      · rcases y with (y | ⟨hf, a, y⟩) | ⟨y, z⟩
        · exact .inl y
        · exact .inr ⟨hf, a, e4.up a b y⟩
        · have hn := e4.news (b - w₁.heap.size) (by have := e4.sizes; omega)
          have eb : w₁.heap.size + (b - w₁.heap.size) = b := by omega
          rw [eb] at hn
          exact .inr ⟨fun hf => by have := hFl b hf; have := r.size; omega, _, hn⟩
      · rcases y with y | ⟨hf, a, y⟩
        · exact .inl (.inl y)
        · rcases hfresh a b y with z | z
          · exact .inl (.inr ⟨hf, a, z⟩)
          · exact .inr ⟨z.1, (e4.wr.lt y).2⟩
    · rcases e5 e he with ⟨b, h1, h2, a, h3, h4⟩ | h
      · refine .inl ⟨b, h1, h2, ?_⟩
        by_cases hf : Fz b
        · refine .inr ⟨hf, ?_⟩
          cases hw : e.write with
          | false => rfl
          | true => exact (hnZ1 a b h3 (h4 hw) hf).elim
        · exact .inl (.inr ⟨hf, a, h3⟩)
      · exact .inr h
    · refine hKg w₁ w2 hK1 (fun b hb => e4.keep b (by have := (hH b hb).1; have := r.size; omega) fun a y => ?_) e4.rsize
      rcases (hH b hb).2 with hf | hf
      · exact Classical.byContradiction fun hnz => hnZ a b y hnz hf
      · exact (hf a y).elim
    · refine ⟨by have := (hH b hb).1; have := r.size; have := e4.rsize; omega, (hH b hb).2.imp id fun hf a y => ?_⟩
      rcases hfresh a b y with z | z
      · exact hf a z
      · have := (hH b hb).1; have := r.size; omega
    · rcases hfresh a b y with z | z
      · exact hE0 a b z
      · exact .inr (by have := r.size; omega)
  rcases hI1.step (main := main) hz hdep hp (fun _ => rfl) with ⟨h1, h2⟩ | ⟨E1, g1, wg1, g1', re', es', e1, e2, e3, e4, e5⟩
  · obtain ⟨E1, v, v', gh1, w1, es, hg1, hq, hv, hst, hout, hev⟩ := inG_ret (main := main) hI1 h1 h2
    rw [hp.2.1] at hst
    obtain ⟨a1, a2, a3, a4, a5, a6, a7, a8⟩ := common (by rw [hg1]) hout hev
    refine ⟨_, w1, es, hst, a1, by rw [a4]; exact a5, fun y => (by cases y), ?_⟩
    rw [a4]
    exact next E1 v v' gh1 w1 hq hv hout.wr a6 a8
  · obtain ⟨a1, a2, a3, a4, a5, a6, a7, a8⟩ := common (gh1 := wOn x.2 w₁.tape w₁.drawn) rfl e4 e5
    refine ⟨g1', re', es', e1, a1, by rw [a4]; exact a5, fun y => (by cases y), ?_⟩
    rw [a4]
    exact ih (g1, wg1) e2 E1 g1' re' e3 a2 a3 (fun b hf => by have := hFl b hf; have := r.size; have := e4.rsize; omega) a6 a7 a8 (by have := r.size; have := e4.rsize; omega)
end Go.Proofs.YtobpjijdebnaoaaDoor
namespace Go.Proofs.YtobpjijdebnaoaaDoor
open Go Go.Conc
open Go.ConcN (WgLive)
open Go.ConcR (DC0)
/-- The k-th statement of a text and what is behind it. -/
def tlN : Nat → Code → Code
  | 0, c => c
  | n + 1, .seq _ b => tlN n b
  | _ + 1, c => c
def bodyOf (P : Program) (f : FuncId) : Code := ((P.funcs[f]?).bind (·.body)).getD .skip
/-- At the k-th statement of function f, its slots T. -/
def atC (P : Program) (f : FuncId) (k : Nat) (T : Array Value) (cs : List Frame) : Goroutine := G { fn := f, tmps := T, todo := [.code (tlN k (bodyOf P f))], defers := [], mode := .run, kind := .normal } cs
variable {P : Program} {main sil : Bool} {Fz : Nat → Prop} {Ex : World → World → Prop} {O : Nat → Prop} {Stop : (Nat → Prop) → Goroutine → World → Prop} {K : World → Prop}
/-- A walk of the library's, and silent steps: it stands behind them. -/
theorem goes_skip {R : World → World → Prop} {D : World → World → Array Event → Prop} {S : Goroutine → World → Prop} (hR : ∀ w, R w w) (hS : ∀ g w, S g w → ∃ g' es, stepG P main g w = .go g' w es ∧ es ≠ #[]) :
    ∀ (n : Nat) {m : Nat} {g : Goroutine} {w : World}, Pur P main n g → Goes P main R D S m g w → ∃ m', Goes P main R D S m' (nxN P main n g) w
  | 0, m, _, _, _, h => ⟨m, h⟩
  | n + 1, m, g, w, hp, h => by
    have hno : ∀ w, ¬ S g w := fun w hs => by
      obtain ⟨g', es, e1, e2⟩ := hS g w hs
      rw [hp.1.2 w] at e1
      cases e1
      exact e2 rfl
    cases m with
    | zero => exact absurd (h w (hR w)) (hno w)
    | succ m =>
      rcases h with h | ⟨_, h⟩
      · exact absurd (h w (hR w)) (hno w)
      · have := h w (hR w)
        rw [hp.1.2 w, goes_go] at this
        exact goes_skip hR hS n hp.2 this.2
theorem quits_pur : ∀ (n : Nat) {g : Goroutine}, Pur P false n g → (nxN P false n g).status = .finished → QuitsD P n 0 g
  | 0, _, _, h => ⟨h, rfl⟩
  | n + 1, g, hp, h => .inr ⟨hp.1.1, nx P false g, #[], fun e he => by simp at he, hp.1.2, by
    have : deafBehind 0 #[] = 0 := rfl
    rw [this]
    exact quits_pur n hp.2 h⟩
/-- An operation that only reads. -/
theorem ck_ask (hK : Stb Fz Ex K O) {g : Goroutine} {l : List An} {x : Next} {qs : List Qa} {es : Array Event} (h : Asks P main g l x qs es) (hq : ∀ w, K w → OkQ qs w w) (he : ∀ e ∈ es, EvC Fz O e) (hn : CK P main false Fz Ex Stop K O (go1 P g x)) : CK P main false Fz Ex Stop K O g :=
  ck_read hK h.run (fun w hw => h.step (hq w hw)) he hn
/-- An operation that asks nothing. -/
theorem ck_val (hK : Stb Fz Ex K O) {g : Goroutine} {x : Next} (h : Asks P main g [] x [] #[]) (hn : CK P main sil Fz Ex Stop K O (go1 P g x)) : CK P main sil Fz Ex Stop K O g :=
  ck_one hK h.run (fun w _ => h.step (show OkQ [] w w from rfl)) hn
/-- A new variable. -/
theorem ck_new (hK : Stb Fz Ex K O) {g : Goroutine} {ob : Obj} (h : ∀ n, Asks P main g [{ n := n }] (.value (.pointer (some ⟨n, 0, none⟩))) [{ k := 4, ad := ⟨n, 0, none⟩, o := ob }] #[])
    (hn : ∀ w, K w → CK P main sil Fz Ex Stop (fun w' => Gua O w w' ∧ w'.heap.size = w'.heap.size ∧ (∀ b, b < w.heap.size → w'.heap[b]? = w.heap[b]?) ∧ w.heap.size < w'.heap.size ∧ w'.heap[w.heap.size]? = some ob) (fun b => O b ∨ b = w.heap.size) (go1 P g (.value (.pointer (some ⟨w.heap.size, 0, none⟩))))) : CK P main sil Fz Ex Stop K O g :=
  ck_step hK (h 0).run fun w hw => by
    have hg : grow O w { w with heap := w.heap.push ob } = fun b => O b ∨ b = w.heap.size := by
      funext b
      refine propext ⟨fun y => y.imp id fun z => ?_, fun y => y.imp id fun z => ?_⟩
      · have := z.2; simp only [Array.size_push] at this; omega
      · subst z; simp
    have hk : ∀ b, b < w.heap.size → ({ w with heap := w.heap.push ob } : World).heap[b]? = w.heap[b]? := fun b hb => by
      simp only [Array.getElem?_push]; rw [if_neg (by omega)]
    have hG : Gua O w { w with heap := w.heap.push ob } := ⟨fun b hb _ => hk b hb, by simp, rfl, rfl, rfl⟩
    refine ⟨_, { w with heap := w.heap.push ob }, #[], (h w.heap.size).step (show OkQ _ _ _ from ⟨rfl, rfl⟩), hG, fun e he => by simp at he, fun _ => rfl, ?_⟩
    rw [hg]
    exact hn w hw _ ⟨hG, rfl, hk, by simp, by simp⟩
/-- An operation that writes what is one's own. -/
theorem ck_write (hK : Stb Fz Ex K O) {g : Goroutine} {l : List An} {x : Next} {qs : List Qa} {es : Array Event} {K' : World → Prop} (h : Asks P main g l x qs es)
    (hq : ∀ w, K w → ∃ w', OkQ qs w w' ∧ Gua O w w' ∧ w'.heap.size = w.heap.size ∧ K' w') (he : ∀ e ∈ es, EvC Fz O e) (hn : CK P main false Fz Ex Stop K' O (go1 P g x)) : CK P main false Fz Ex Stop K O g :=
  ck_step hK h.run fun w hw => by
    obtain ⟨w', h1, h2, h3, h4⟩ := hq w hw
    have hg : grow O w w' = O := by
      funext b
      refine propext ⟨fun y => y.elim id fun z => ?_, .inl⟩
      omega
    exact ⟨_, w', es, h.step h1, h2, fun e hm => by rw [hg]; exact he e hm, fun y => (by cases y), by rw [hg]; exact hn w' h4⟩
/-- What it asks before it must wait. -/
def askB (P : Program) {α : Type} : Sem α → List An → Option (List Qa)
  | .load m a k, l => (askB P (k (l.headD {}).v) l.tail).map fun r => { k := 0, ad := a, v := (l.headD {}).v, sy := m == .atomic } :: r
  | .program k, l => askB P (k P) l
  | .mark m k, l => (askB P k l).map fun r => { k := 5, m := m } :: r
  | .halt .blocked, _ => some []
  | _, _ => none
theorem askB_run {α : Type} : ∀ (s : Sem α) (l : List An) (qs : List Qa) (w : World) (es : Array Event), askB P s l = some qs → OkQ qs w w → ∃ es', s.runT P w es = (.halt .blocked w, es') := by
  intro s
  induction s with
  | load m a k ih =>
    intro l qs w es h hq
    simp only [askB, Option.map_eq_some_iff] at h
    obtain ⟨q1, h1, rfl⟩ := h
    simp only [OkQ, if_true] at hq
    simp only [Sem.runT, hq.1]
    exact ih _ _ _ _ _ h1 hq.2
  | program k ih =>
    intro l qs w es h hq
    simp only [askB] at h
    simp only [Sem.runT]
    exact ih _ _ _ _ _ h hq
  | mark m k ih =>
    intro l qs w es h hq
    simp only [askB, Option.map_eq_some_iff] at h
    obtain ⟨q1, h1, rfl⟩ := h
    simp only [OkQ, show ¬ (5 : Nat) = 0 by decide, show ¬ (5 : Nat) = 1 by decide, show ¬ (5 : Nat) = 2 by decide, show ¬ (5 : Nat) = 3 by decide, show ¬ (5 : Nat) = 4 by decide, if_false] at hq
    simp only [Sem.runT]
    exact ih _ _ _ _ h1 hq
  | halt h =>
    intro l qs w es h1 hq
    cases h <;> first | (simp [askB] at h1; done) | exact ⟨es, rfl⟩
  | _ => intro l qs w es h1; simp [askB] at h1
theorem step_block {g : Goroutine} {w : World} {l : List An} {qs : List Qa} (ha : AtOper P main g) (hr : g.status = .running) (hd : g.dying = none) (ho : g.offers = none) (h : askB P (semOf g) l = some qs) (hq : OkQ qs w w) : stepG P main g w = .go { g with status := .blocked } w #[] := by
  obtain ⟨es', he⟩ := askB_run (semOf g) l qs w #[] h hq
  rw [ha.2 w]
  unfold stepG.apply
  simp only [if_true, he]
  obtain ⟨f, c, s, d, o⟩ := g
  simp only at hr hd ho
  subst hr hd ho
  split <;> simp [GStep.after, seen]
theorem asks_eq {g : Goroutine} {l : List An} {x x' : Next} {qs : List Qa} {es : Array Event} (h : Asks P main g l x qs es) (e : x = x') : Asks P main g l x' qs es := e ▸ h
end Go.Proofs.YtobpjijdebnaoaaDoor
