/- Part of the proof. -/
import Derived.Test.YtobpjijdebnaoaaDoorCo1
import Derived.Conc.CrowdSpec
namespace Go.Proofs.YtobpjijdebnaoaaDoor
open Go Go.Conc
open Go.ConcN (sumTo upd sumTo_upd upd_ne upd_same)
theorem deaf_hush (t : Trace) (g : Nat) (u : Trace) (hu : ∀ op ∈ u, op.act ≠ .mark .disable ∧ op.act ≠ .mark .enable) : Deaf (t ++ u) g = Deaf t g := by
  obtain ⟨l⟩ := u
  induction l generalizing t with
  | nil => simp
  | cons y l ih =>
    have e : t ++ (y :: l).toArray = (t ++ #[y]) ++ l.toArray := by simp
    have hy := hu y (by simp)
    rw [e, ih (t ++ #[y]) (fun op hop => hu op (by simp at hop; simp [hop])), Deaf_push]
    unfold deafStep
    split
    · exact absurd ‹_› hy.1
    · exact absurd ‹_› hy.2
    · rfl
theorem mem_two {x y op : MemOp} (h : op ∈ #[x, y]) : op = x ∨ op = y := by simpa using h
section
variable {P : Program} {m0 tz : Nat} {Sx Atm Fz Sh : Nat → Prop} {Ex : World → World → Prop} {j : Nat} {T : Nat → Th} {q : Nat → Nat} {gs : Array Goroutine} {w : World} {t : Trace}
theorem GI.spawn (h : GI P m0 tz Sx Atm Fz Sh Ex j T q gs w t) {g g' child : Goroutine} {th' c' : Th} (hg : gs[0]? = some g) (hst : stepG P true g w = .spawn g' child w #[])
    (hI : thI P Fz Ex true th' g' w) (hO : th'.O = (T 0).O) (h0 : (T 0).d = 0) (hd : th'.d = 0) (hc : thI P Fz Ex false c' child w) (hcO : ∀ b, ¬ c'.O b) (hcd : c'.d = 0) (sl : Option (Nat × Nat)) :
    ∃ gs' u, runT P (crowd gs w sl) 0 = (.next (crowd gs' w sl), u) ∧ (∀ op ∈ u, op.act.touch? = none ∧ (op.g = 0 ∨ op.g = m0 + j) ∧ ∀ m, op.act ≠ .mark m) ∧
      GI P m0 tz Sx Atm Fz Sh Ex (j + 1) (upd (upd T 0 th') (m0 + j) c') q gs' w (t ++ u) ∧ gs'[0]? = some g' ∧ gs'[m0 + j]? = some child := by
  have hp := h.pos
  have hlt : 0 < gs.size := by rw [h.sz]; omega
  have hne : m0 + j ≠ 0 := by omega
  have hOw : ∀ k, (upd (upd T 0 th') (m0 + j) c' k).O = (T k).O := fun k => by
    by_cases hk : k = m0 + j
    · subst hk; rw [upd_same]; funext b; exact propext ⟨fun y => (hcO b y).elim, fun y => (h.out _ (fun z => by rcases z with z | z <;> omega) b y).elim⟩
    · rw [upd_ne _ _ hk]
      by_cases hk0 : k = 0
      · subst hk0; rw [upd_same]; exact hO
      · rw [upd_ne _ _ hk0]
  have hOe : (fun g b => (upd (upd T 0 th') (m0 + j) c' g).O b) = fun g b => (T g).O b := by funext k; rw [hOw]
  obtain ⟨g0, hg0, _, hd0⟩ := h.th 0 (.inl rfl)
  rw [h0] at hd0
  have hdj : Deaf t (m0 + j) = 0 := h.above _ (Nat.le_refl _)
  have hrun := runT_crowd_spawn (P := P) (sl := sl) (i := 0) hg hst
  rw [h.sz] at hrun
  have eu : ((MemOp.ofEvents 0 g.frame.fn g.frame.place #[]).push { g := 0, fn := g.frame.fn, pos := g.frame.place, act := .go (m0 + j) }).push { g := m0 + j, fn := child.frame.fn, pos := g.frame.place, act := .start } = #[({ g := 0, fn := g.frame.fn, pos := g.frame.place, act := .go (m0 + j) } : MemOp), { g := m0 + j, fn := child.frame.fn, pos := g.frame.place, act := .start }] := by
    simp [ofEvents_eq]
  rw [eu] at hrun
  have hush : ∀ k, Deaf (t ++ #[({ g := 0, fn := g.frame.fn, pos := g.frame.place, act := .go (m0 + j) } : MemOp), { g := m0 + j, fn := child.frame.fn, pos := g.frame.place, act := .start }]) k = Deaf t k := fun k => deaf_hush t k _ fun op hop => by
    rcases mem_two hop with rfl | rfl <;> exact ⟨fun e => (by cases e), fun e => (by cases e)⟩
  have at0 : ((gs.setIfInBounds 0 g').push child)[0]? = some g' := by
    rw [Array.getElem?_push, if_neg (by simp; omega), Array.getElem?_setIfInBounds_self_of_lt hlt]
  have atj : ((gs.setIfInBounds 0 g').push child)[m0 + j]? = some child := by
    rw [Array.getElem?_push, if_pos (by simp [h.sz])]
  have atk : ∀ k, k ≠ 0 → k ≠ m0 + j → ((gs.setIfInBounds 0 g').push child)[k]? = gs[k]? := fun k h1 h2 => by
    rw [Array.getElem?_push, if_neg (by simp [h.sz]; omega), Array.getElem?_setIfInBounds_ne (by omega)]
  refine ⟨_, _, hrun, fun op hop => ?_, ⟨hp, by simp [h.sz]; omega, fun i hi => ?_, fun i x h1 h2 hx => ?_, fun i hi => ?_, ?_, fun i i' b x y => ?_, fun i b x => ?_, h.fzl, h.shl, h.sxl, h.atm, fun i hi b => ?_⟩, at0, atj⟩
  · rcases mem_two hop with rfl | rfl
    · exact ⟨rfl, .inl rfl, fun _ e => (by cases e)⟩
    · exact ⟨rfl, .inr rfl, fun _ e => (by cases e)⟩
  · by_cases hij : i = m0 + j
    · subst hij
      refine ⟨child, atj, ?_, ?_⟩
      · rw [upd_same, show (m0 + j == 0) = false by simp; omega]; exact hc
      · rw [upd_same, hush, hdj, hcd]
    · by_cases hi0 : i = 0
      · subst hi0
        refine ⟨g', at0, ?_, ?_⟩
        · rw [upd_ne _ _ hij, upd_same]; exact hI
        · rw [upd_ne _ _ hij, upd_same, hush, hd0, hd]
      · obtain ⟨x, hx, hxI, hdx⟩ := h.th i (hi.imp id fun z => ⟨z.1, by omega⟩)
        refine ⟨x, by rw [atk i hi0 hij]; exact hx, ?_, ?_⟩
        · rw [upd_ne _ _ hij, upd_ne _ _ hi0]; exact hxI
        · rw [upd_ne _ _ hij, upd_ne _ _ hi0, hush, hdx]
  · rw [atk i (by omega) (by omega)] at hx
    rw [hush]
    exact h.lv i x h1 h2 hx
  · rw [hush]; exact h.above i (by omega)
  · rw [hOe]; exact h.ti.fork ⟨rfl, rfl⟩ ⟨rfl, rfl⟩ hd0 hdj
  · rw [hOw] at x y; exact h.own _ _ b x y
  · rw [hOw] at x; exact h.olow i b x
  · rw [hOw]
    by_cases hij : i = m0 + j
    · exact (hi (.inr ⟨by omega, by omega⟩)).elim
    · exact h.out i (fun y => hi (y.imp id fun z => ⟨z.1, by omega⟩)) b
/-- A send that has room: the channel is of the shared blocks, and nobody touches it but so. -/
theorem GI.send (h : GI P m0 tz Sx Atm Fz Sh Ex j T q gs w t) (hE : ∀ a b c, Ex a b → Ex b c → Ex a c) {i : Nat} (hi : inCrowd m0 j i) {g g₂ : Goroutine} {th' : Th} {Ch cap s r : Nat} {buf : Array Value} {v z : Value} {tm : Bool}
    (hg : gs[i]? = some g) (hst : stepG P (i == 0) g w = .comm g₂ #[scase Ch v z] true .send w #[]) (hch : w.heap[Ch]? = some (.chan cap buf false s r tm)) (hroom : buf.size < cap) (hS : Sh Ch)
    (hX : Ex w (w.setChan Ch cap (buf.push v) false (s + 1) r tm))
    (hI : thI P Fz Ex (i == 0) th' (Conc.served g₂ undef) (w.setChan Ch cap (buf.push v) false (s + 1) r tm)) (hO : th'.O = (T i).O) (hd : th'.d = (T i).d) (sl : Option (Nat × Nat)) :
    ∃ gs' u, runT P (crowd gs w sl) i = (.next (crowd gs' (w.setChan Ch cap (buf.push v) false (s + 1) r tm) sl), u) ∧ (∀ op ∈ u, op.act.touch? = none ∧ op.g = i ∧ ∀ m, op.act ≠ .mark m) ∧
      GI P m0 tz Sx Atm Fz Sh Ex j (upd T i th') q gs' (w.setChan Ch cap (buf.push v) false (s + 1) r tm) (t ++ u) ∧ gs'[i]? = some (Conc.served g₂ undef) := by
  have hlt := cr_lt h hi
  have hp : partners (gs.setIfInBounds i ph) Ch false = [] := partners_nil fun k x hx => by
    rcases getElem?_stand gs i k x hx with ⟨_, rfl⟩ | ⟨hk, hx⟩
    · exact offersAt_ph _ _
    · have hks : k < gs.size := (Array.getElem?_eq_some_iff.1 hx).1
      rw [h.sz] at hks
      by_cases hc : inCrowd m0 j k
      · obtain ⟨y, hy, hyI, _⟩ := h.th k hc
        rw [hx] at hy
        cases hy
        rcases hyI with ⟨_, y1, _⟩ | ⟨_, _, y1⟩ | ⟨_, g0, rfl, ho, _⟩
        · exact offersAt_of_not_blocked (by rw [y1.cases.1]; intro e; cases e) _ _
        · exact offersAt_of_not_blocked (by intro e; rcases y1.status with y | y <;> rw [y] at e <;> cases e) _ _
        · simp [offersAt, ho]
      · have hkm : 0 < k ∧ k < m0 := by
          by_cases hk0 : k = 0
          · exact (hc (.inl hk0)).elim
          · refine ⟨by omega, Nat.lt_of_not_le fun hle => hc (.inr ⟨hle, hks⟩)⟩
        have := h.lv k x hkm.1 hkm.2 hx
        exact offersAt_of_not_blocked (by intro e; rcases this.status with y | y <;> rw [y] at e <;> cases e) _ _
  have hrun := crowd_send_room (P := P) (sl := sl) hg hst hch hroom hp
  rw [finishComm_send, show MemOp.ofEvents i g.frame.fn g.frame.place #[] = #[] by simp [ofEvents_eq], Array.empty_append] at hrun
  have hCh := h.shl Ch hS
  have hsz : (w.setChan Ch cap (buf.push v) false (s + 1) r tm).heap.size = w.heap.size := by simp [World.setChan]
  have hkeep : ∀ b, b ≠ Ch → (w.setChan Ch cap (buf.push v) false (s + 1) r tm).heap[b]? = w.heap[b]? := fun b hb => by
    simp only [World.setChan]
    exact Array.getElem?_setIfInBounds_ne (fun e => hb e.symm)
  have hush : ∀ k, Deaf (t ++ #[({ g := i, fn := g₂.frame.fn, pos := g₂.frame.place, act := .send Ch s } : MemOp), { g := i, fn := g₂.frame.fn, pos := g₂.frame.place, act := .sendDone Ch s }]) k = Deaf t k := fun k => deaf_hush t k _ fun op hop => by
    rcases mem_two hop with rfl | rfl <;> exact ⟨fun e => (by cases e), fun e => (by cases e)⟩
  have hops : ∀ op ∈ #[({ g := i, fn := g₂.frame.fn, pos := g₂.frame.place, act := .send Ch s } : MemOp), { g := i, fn := g₂.frame.fn, pos := g₂.frame.place, act := .sendDone Ch s }], op.act.touch? = none ∧ op.g = i ∧ op.act.low w.heap.size ∧ ∀ m, op.act ≠ .mark m := fun op hop => by
    rcases mem_two hop with rfl | rfl
    · exact ⟨rfl, rfl, hCh.1, fun _ e => (by cases e)⟩
    · exact ⟨rfl, rfl, hCh.1, fun _ e => (by cases e)⟩
  have hOw : ∀ k, (upd T i th' k).O = (T k).O := fun k => by
    by_cases hk : k = i
    · subst hk; rw [upd_same]; exact hO
    · rw [upd_ne _ _ hk]
  have hOe : (fun g b => (upd T i th' g).O b) = fun g b => (T g).O b := by funext k; rw [hOw]
  refine ⟨_, _, hrun, fun op hop => ⟨(hops op hop).1, (hops op hop).2.1, (hops op hop).2.2.2⟩, ⟨h.pos, by simp [h.sz], fun k hk => ?_, fun k x h1 h2 hx => ?_, fun k hk => ?_, ?_, fun k k' b x y => ?_, fun k b x => ?_, fun b x => ?_, fun b x => ?_, fun b x => ?_, h.atm, fun k hk b => ?_⟩, ?_⟩
  · by_cases hki : k = i
    · subst hki
      refine ⟨_, Array.getElem?_setIfInBounds_self_of_lt hlt, by rw [upd_same]; exact hI, ?_⟩
      obtain ⟨_, _, _, hdk⟩ := h.th k hk
      rw [upd_same, hush, hdk, hd]
    · obtain ⟨x, hx, hxI, hdx⟩ := h.th k hk
      refine ⟨x, by rw [Array.getElem?_setIfInBounds_ne (fun e => hki e.symm)]; exact hx, ?_, ?_⟩
      · rw [upd_ne _ _ hki]
        refine hxI.rely hE ⟨fun b x => hkeep b fun e => ?_, fun b x => hkeep b fun e => ?_, Nat.le_of_eq hsz.symm, rfl, rfl, rfl, hX⟩
        · subst e; exact (h.olow k b x).2.2.1 hS
        · subst e; exact (h.fzl b x).2.1 hS
      · rw [upd_ne _ _ hki, hush, hdx]
  · have hki : k ≠ i := by rcases hi with rfl | hi <;> omega
    rw [Array.getElem?_setIfInBounds_ne (fun e => hki e.symm)] at hx
    rw [hush]
    exact h.lv k x h1 h2 hx
  · rw [hush]; exact h.above k hk
  · rw [hOe, hsz]
    exact h.ti.mute (g := i) (Nat.le_refl _) fun op hop => ⟨(hops op hop).2.1, (hops op hop).1, (hops op hop).2.2.1⟩
  · rw [hOw] at x y; exact h.own _ _ b x y
  · rw [hOw] at x; rw [hsz]; exact h.olow k b x
  · rw [hsz]; exact h.fzl b x
  · rw [hsz]; exact h.shl b x
  · rw [hsz]; exact h.sxl b x
  · rw [hOw]; exact h.out k hk b
  · exact Array.getElem?_setIfInBounds_self_of_lt hlt
end
end Go.Proofs.YtobpjijdebnaoaaDoor
namespace Go.Proofs.YtobpjijdebnaoaaDoor
open Go Go.Conc
open Go.ConcN (sumTo upd sumTo_upd upd_ne upd_same sumTo_congr)
theorem acc_fam {α : Type} (R : Nat → α → α → Prop) : ∀ (N : Nat) (a : Nat → α), (∀ i, i < N → Acc (R i) (a i)) → Acc (fun a' a : Nat → α => ∃ i, i < N ∧ R i (a' i) (a i) ∧ ∀ k, k ≠ i → a' k = a k) a
  | 0, _, _ => Acc.intro _ fun _ ⟨_, h, _⟩ => absurd h (Nat.not_lt_zero _)
  | N + 1, a, h => by
    have outer : ∀ x, Acc (R N) x → ∀ a : Nat → α, a N = x → (∀ i, i < N → Acc (R i) (a i)) → Acc (fun a' a : Nat → α => ∃ i, i < N + 1 ∧ R i (a' i) (a i) ∧ ∀ k, k ≠ i → a' k = a k) a := by
      intro x hx
      induction hx with
      | intro x _ ihx =>
        intro a ha hacc
        have inner : ∀ a : Nat → α, Acc (fun a' a : Nat → α => ∃ i, i < N ∧ R i (a' i) (a i) ∧ ∀ k, k ≠ i → a' k = a k) a → a N = x → (∀ i, i < N → Acc (R i) (a i)) → Acc (fun a' a : Nat → α => ∃ i, i < N + 1 ∧ R i (a' i) (a i) ∧ ∀ k, k ≠ i → a' k = a k) a := by
          intro a hA
          induction hA with
          | intro a _ ihA =>
            intro ha hacc
            refine Acc.intro _ fun a' ⟨i, hi, hR, hk⟩ => ?_
            have hacc' : ∀ k, k < N → Acc (R k) (a' k) := fun k hkN => by
              by_cases hki : k = i
              · subst hki; exact (hacc k hkN).inv hR
              · rw [hk k hki]; exact hacc k hkN
            by_cases hiN : i = N
            · subst hiN
              exact ihx (a' i) (ha ▸ hR) a' rfl hacc'
            · exact ihA a' ⟨i, by omega, hR, hk⟩ (by rw [hk N (Ne.symm hiN)]; exact ha) hacc'
        exact inner a (acc_fam R N a hacc) ha hacc
    exact outer (a N) (h N (by omega)) a rfl fun i hi => h i (by omega)
structure Pro (σ : Type) where
  Φ : σ → Nat
  J : σ → Nat
  S : σ → Nat → (Nat → Prop) → Goroutine → World → Prop
  sil : σ → Nat → Bool
  qu : σ → Nat → Prop
  d : σ → Nat → Nat
  W : σ → World → Prop
  rel : σ → Nat → Prop
  slp : σ → Prop
/-- As the protocol has it. -/
structure PI {σ : Type} (pr : Pro σ) (Wg m0 : Nat) (s : σ) (j : Nat) (T : Nat → Th) (w : World) (t : Trace) : Prop where
  cnt : pr.J s = j
  tag : ∀ i, inCrowd m0 j i → (T i).S = pr.S s i ∧ (T i).sil = pr.sil s i ∧ ((T i).kind = 1 ↔ pr.qu s i) ∧ ((T i).kind = 2 → i = 0 ∧ pr.slp s) ∧ ((T i).kind ≠ 1 → (T i).d = pr.d s i)
  wld : pr.W s w
  rel : ∀ i, inCrowd m0 j i → pr.rel s i → ∃ r, Rlsd Wg i r t
  nor : NoRelease (sA Wg) t
section
variable {σ : Type} {pr : Pro σ} {Wg m0 : Nat} {s : σ} {j : Nat} {T : Nat → Th} {w w' : World} {t : Trace} {Fz Sh : Nat → Prop}
theorem wakeTh_kind (b : Bool) (th : Th) : ((wakeTh b th).kind = 1 ↔ th.kind = 1) ∧ ((wakeTh b th).kind = 2 → th.kind = 2) := by
  unfold wakeTh
  constructor
  · constructor
    · intro h; simp only at h; split at h
      · cases h
      · exact h
    · intro h; simp [h]
  · intro h; simp only at h; split at h
    · cases h
    · exact h
theorem PI.wake (h : PI pr Wg m0 s j T w t) (b : Bool) : PI pr Wg m0 s j (fun k => wakeTh b (T k)) w t := by
  refine ⟨h.cnt, fun i hi => ?_, h.wld, h.rel, h.nor⟩
  obtain ⟨h1, h2, h3, h4, h5⟩ := h.tag i hi
  have hk := wakeTh_kind b (T i)
  exact ⟨h1, h2, hk.1.trans h3, fun x => h4 (hk.2 x), fun x => h5 fun y => x (hk.1.2 y)⟩
theorem PI.world (hW : ∀ s w w', (∀ b, Sh b → w'.heap[b]? = w.heap[b]?) → pr.W s w → pr.W s w') (h : PI pr Wg m0 s j T w t) (hs : ∀ b, Sh b → w'.heap[b]? = w.heap[b]?) : PI pr Wg m0 s j T w' t :=
  { h with wld := hW s w w' hs h.wld }
theorem PI.own (h : PI pr Wg m0 s j T w t) {i : Nat} {th' : Th} (h1 : th'.S = (T i).S) (h2 : th'.sil = (T i).sil) (h3 : th'.kind = 1 ↔ (T i).kind = 1) (h4 : th'.kind = 2 → i = 0 ∧ pr.slp s) (h5 : th'.kind ≠ 1 → th'.d = (T i).d) : PI pr Wg m0 s j (upd T i th') w t := by
  refine ⟨h.cnt, fun k hk => ?_, h.wld, h.rel, h.nor⟩
  obtain ⟨a1, a2, a3, a4, a5⟩ := h.tag k hk
  by_cases hki : k = i
  · subst hki
    rw [upd_same]
    exact ⟨h1.trans a1, h2.trans a2, h3.trans a3, h4, fun x => (h5 x).trans (a5 fun y => x (h3.2 y))⟩
  · rw [upd_ne _ _ hki]; exact ⟨a1, a2, a3, a4, a5⟩
theorem PI.turn (h : PI pr Wg m0 s j T w t) (b : Bool) {i : Nat} {th' : Th} (h1 : th'.S = (T i).S) (h2 : th'.sil = (T i).sil) (h3 : th'.kind = 1 ↔ (T i).kind = 1) (h4 : th'.kind = 2 → i = 0 ∧ pr.slp s) (h5 : th'.kind ≠ 1 → th'.d = (T i).d) : PI pr Wg m0 s j (upd (fun k => wakeTh b (T k)) i th') w t :=
  (h.wake b).own h1 h2 (h3.trans (wakeTh_kind b _).1.symm) h4 h5
theorem evC_nor {O : Nat → Prop} {e : Event} (h : EvC Fz O e) (a : Addr) : MemAct.ofEvent e ≠ .mark (.release a) := by
  obtain ⟨loc, wr, sy⟩ := e
  rcases h with ⟨b, h, hs, _⟩ | ⟨m, h, hb⟩
  · simp only at h hs
    subst hs
    cases loc with
    | cell a => simp [MemAct.ofEvent]
    | obj r => cases wr <;> simp [MemAct.ofEvent]
    | _ => simp [blk] at h
  · simp only at h
    subst h
    cases m <;> first | (cases hb; done) | simp [MemAct.ofEvent]
theorem mute_nor {e : Event} (h : e.mute = true) (a : Addr) : MemAct.ofEvent e ≠ .mark (.release a) := by
  obtain ⟨loc, wr, sy⟩ := e
  cases loc with
  | mark m => cases m <;> first | (simp [Event.mute] at h; done) | simp [MemAct.ofEvent]
  | _ => simp [Event.mute] at h
theorem PI.walk {O : Nat → Prop} (h : PI pr Wg m0 s j T w t) {i : Nat} {fn : FuncId} {pos : String} {es : Array Event} (he : ∀ e ∈ es, EvC Fz O e) (hs : pr.rel s i → es = #[]) : PI pr Wg m0 s j T w (t ++ MemOp.ofEvents i fn pos es) :=
  { h with
    rel := fun k hk hr => by
      obtain ⟨r, x⟩ := h.rel k hk hr
      by_cases hki : k = i
      · subst hki
        exact ⟨r, x.still fun op hop => by rw [hs hr] at hop; simp [ofEvents_eq] at hop⟩
      · exact ⟨r, x.other fun op hop => by obtain ⟨e, _, rfl⟩ := Go.Conc.mem_ofEvents hop; exact fun z => hki z.symm⟩
    nor := h.nor.app fun op hop => by obtain ⟨e, x, rfl⟩ := Go.Conc.mem_ofEvents hop; exact evC_nor (he e x) _ }
theorem PI.mute (h : PI pr Wg m0 s j T w t) {i : Nat} {fn : FuncId} {pos : String} {es : Array Event} (he : ∀ e ∈ es, e.mute = true) : PI pr Wg m0 s j T w (t ++ MemOp.ofEvents i fn pos es) :=
  { h with
    rel := fun k hk hr => let ⟨r, x⟩ := h.rel k hk hr; ⟨r, x.still fun op hop => by obtain ⟨e, x, rfl⟩ := Go.Conc.mem_ofEvents hop; exact touch_mute (he e x)⟩
    nor := h.nor.app fun op hop => by obtain ⟨e, x, rfl⟩ := Go.Conc.mem_ofEvents hop; exact mute_nor (he e x) _ }
/-- Where each that is on its way stands. -/
def anc (dc : ∀ p : Prop, Decidable p) (pr : Pro σ) (m0 : Nat) (s : σ) (j : Nat) (T : Nat → Th) (gs : Array Goroutine) (i : Nat) : (Nat → Prop) × Goroutine × World :=
  @ite _ (inCrowd m0 j i ∧ ¬ pr.qu s i) (dc _) ((T i).O, { (gs[i]?.getD default) with status := .running }, (T i).wa) (fun _ => False, default, default)
theorem run_again (w : World) (x : Goroutine) : { x.again w with status := .running } = { x with status := .running } := by
  unfold Goroutine.again
  split
  · dsimp only; split <;> rfl
  · rfl
  · rfl
  · rfl
theorem run_woken (P : Program) (g g' : Goroutine) (w : World) (x : Goroutine) : { woken P g g' w x with status := .running } = { x with status := .running } := by
  rw [woken_wk]
  split
  · exact run_again w x
  · rfl
theorem anc_go {P : Program} {T' : Nat → Th} {gs : Array Goroutine} {g g' : Goroutine} {i k : Nat} (hk : k ≠ i) (hO : (T' k).O = (T k).O) (hw : (T' k).wa = (T k).wa) : anc Classical.propDecidable pr m0 s j T' ((gs.map (woken P g g' w)).setIfInBounds i g') k = anc Classical.propDecidable pr m0 s j T gs k := by
  unfold anc
  rw [Array.getElem?_setIfInBounds_ne (fun e => hk e.symm), Array.getElem?_map, hO, hw]
  split
  · cases gs[k]? with
    | none => rfl
    | some x => simp only [Option.map_some, Option.getD_some, run_woken]
  · rfl
theorem run_run {g : Goroutine} (h : g.status = .running) : ({ g with status := .running } : Goroutine) = g := by
  obtain ⟨f, c, st, d, o⟩ := g
  simp only at h
  subst h
  rfl
theorem sumq {b : Bool} {i : Nat} {th' : Th} (hq : th'.q = (T i).q) : sumTo j (fun k => (upd (fun k => wakeTh b (T k)) i th' (m0 + k)).q) = sumTo j (fun k => (T (m0 + k)).q) := sumTo_congr fun k _ => by
  by_cases hk : m0 + k = i
  · rw [hk, upd_same, hq]
  · rw [upd_ne _ _ hk]; rfl
theorem anc_out {T' : Nat → Th} {gs' gs : Array Goroutine} {k : Nat} (hk : inCrowd m0 j k → pr.qu s k) : anc Classical.propDecidable pr m0 s j T' gs' k = anc Classical.propDecidable pr m0 s j T gs k := by
  unfold anc
  rw [if_neg fun x => x.2 (hk x.1), if_neg fun x => x.2 (hk x.1)]
theorem anc_at {gs : Array Goroutine} {g : Goroutine} {k : Nat} (hc : inCrowd m0 j k) (hq : ¬ pr.qu s k) (hg : gs[k]? = some g) : anc Classical.propDecidable pr m0 s j T gs k = ((T k).O, { g with status := .running }, (T k).wa) := by
  unfold anc
  rw [if_pos ⟨hc, hq⟩, hg]
  rfl
end
section
variable {P : Program} {σ : Type} {pr : Pro σ} {Wg m0 tz : Nat} {Sx Atm Fz Sh : Nat → Prop} {Ex : World → World → Prop}
theorem engine (hE : ∀ a b c, Ex a b → Ex b c → Ex a c) (hX : ∀ w w' : World, (∀ b, Sh b → w'.heap[b]? = w.heap[b]?) → Ex w w')
    (hW : ∀ s w w', (∀ b, Sh b → w'.heap[b]? = w.heap[b]?) → pr.W s w → pr.W s w') (hrel : ∀ s i, pr.rel s i → pr.sil s i = true) (hmain : ∀ s, ¬ pr.qu s 0) (Fin : Array Goroutine → World → Trace → Prop)
    (hlive : ∀ s j T q gs w t, GI P m0 tz Sx Atm Fz Sh Ex j T q gs w t → PI pr Wg m0 s j T w t → (T 0).kind = 2 → ∃ i, inCrowd m0 j i ∧ (T i).kind = 0)
    (hstop : ∀ s j T q gs w t sl i g, GI P m0 tz Sx Atm Fz Sh Ex j T q gs w t → PI pr Wg m0 s j T w t → inCrowd m0 j i → gs[i]? = some g → (T i).kind = 0 → Co P (i == 0) (T i).sil Fz Ex (T i).S (T i).O g w → (T i).S (T i).O g w →
      (i = 0 ∧ stepG P true g w = .go { g with status := .blocked } w #[] ∧ g.offers = none ∧ pr.slp s) ∨
      ∃ gs' w' u, runT P (crowd gs w sl) i = (.next (crowd gs' w' sl), u) ∧ (Fin gs' w' (t ++ u) ∨ ∃ s' j' T' q', pr.Φ s' < pr.Φ s ∧ GI P m0 tz Sx Atm Fz Sh Ex j' T' q' gs' w' (t ++ u) ∧ PI pr Wg m0 s' j' T' w' (t ++ u))) :
    ∀ (F : Nat) (s : σ), pr.Φ s = F → ∀ j T q gs w t sl, GI P m0 tz Sx Atm Fz Sh Ex j T q gs w t → PI pr Wg m0 s j T w t →
      ∃ N gs' w' sl' t', runNT P N (crowd gs w sl) t = (.next (crowd gs' w' sl'), t') ∧ Fin gs' w' t' := by
  intro F
  induction F using Nat.strongRecOn with
  | _ F ihF =>
  intro s hF j T₀ q₀ gs₀ w₀ t₀ sl₀ hG₀ hP₀
  have hXr : ∀ a : World, Ex a a := fun a => hX a a fun _ _ => rfl
  have inner : ∀ A, Acc (fun a' a : Nat → (Nat → Prop) × Goroutine × World => ∃ i, i < m0 + j ∧ ((inCrowd m0 j i ∧ ¬ pr.qu s i) ∧ Cf P (i == 0) Fz Ex (pr.S s i) (a' i) (a i)) ∧ ∀ k, k ≠ i → a' k = a k) A →
      ∀ (M b : Nat) T q gs w t sl, anc Classical.propDecidable pr m0 s j T gs = A → sumTo m0 q + sumTo j (fun k => (T (m0 + k)).q) = M → (if (T 0).kind = 2 then 0 else 1) = b → GI P m0 tz Sx Atm Fz Sh Ex j T q gs w t → PI pr Wg m0 s j T w t →
        ∃ N gs' w' sl' t', runNT P N (crowd gs w sl) t = (.next (crowd gs' w' sl'), t') ∧ Fin gs' w' t' := by
    intro A hA
    induction hA with
    | intro A _ ihA =>
    intro M
    induction M using Nat.strongRecOn with
    | _ M ihM =>
    intro b
    induction b using Nat.strongRecOn with
    | _ b ihb =>
    intro T q gs w t sl hanc hM hb hG hP
    have hm0 := hG.pos
    have h0c : inCrowd m0 j 0 := .inl rfl
    have haw : ∀ g ∈ gs, awake g := by
      intro g hg
      obtain ⟨i, hi, rfl⟩ := Array.mem_iff_getElem.1 hg
      by_cases hc : inCrowd m0 j i
      · obtain ⟨y, hy, hI, _⟩ := hG.th i hc
        have : gs[i] = y := by simpa [Array.getElem?_eq_getElem hi] using hy
        rw [this]; exact awake_of hI.status
      · have hsz := hG.sz
        have h1 : 0 < i := Nat.pos_of_ne_zero fun e => hc (.inl e)
        have h2 : i < m0 := Nat.lt_of_not_le fun hle => hc (.inr ⟨hle, by omega⟩)
        exact awake_of ((hG.lv i _ h1 h2 (Array.getElem?_eq_getElem hi)).status.elim .inl fun x => .inr (.inr x))
    have hsome : ∃ (i : Nat) (g : Goroutine), gs[i]? = some g ∧ g.status = .running := by
      have one : ∀ i, inCrowd m0 j i → (T i).kind = 0 → ∃ (i : Nat) (g : Goroutine), gs[i]? = some g ∧ g.status = .running := fun i hc hk => by
        obtain ⟨g, hg, hI, _⟩ := hG.th i hc
        refine ⟨i, g, hg, ?_⟩
        rcases hI with ⟨_, h, _⟩ | ⟨x, _⟩ | ⟨x, _⟩
        · exact h.cases.1
        · rw [hk] at x; cases x
        · rw [hk] at x; cases x
      obtain ⟨_, _, a3, _⟩ := hP.tag 0 h0c
      obtain ⟨g, hg, hI, _⟩ := hG.th 0 h0c
      rcases hI with ⟨hk, _⟩ | ⟨hk, _⟩ | ⟨hk, _⟩
      · exact one 0 h0c hk
      · exact (hmain s (a3.1 hk)).elim
      · obtain ⟨i, hc, hk⟩ := hlive s j T q gs w t hG hP hk
        exact one i hc hk
    obtain ⟨i, g, d, sl', hi, hr, hst⟩ := crowd_pick (P := P) (w := w) (sl := sl) haw hsome
    have hG1 := hG.at hE (fun w d => hX w (w.at d) fun _ _ => rfl) d
    have hP1 : PI pr Wg m0 s j T (w.at d) t := hP.world hW fun _ _ => rfl
    have fin : ∀ {gs' w' u}, runT P (crowd gs (w.at d) sl') i = (.next (crowd gs' w' sl'), u) → (∃ N gs'' w'' sl'' t'', runNT P N (crowd gs' w' sl') (t ++ u) = (.next (crowd gs'' w'' sl''), t'') ∧ Fin gs'' w'' t'') → ∃ N gs' w' sl' t', runNT P N (crowd gs w sl) t = (.next (crowd gs' w' sl'), t') ∧ Fin gs' w' t' := by
      rintro gs' w' u hrun ⟨N, gs'', w'', sl'', t'', h1, h2⟩
      exact ⟨N + 1, gs'', w'', sl'', t'', by simp only [runNT, hst, hrun]; exact h1, h2⟩
    by_cases hc : inCrowd m0 j i
    · obtain ⟨a1, a2, a3, a4, a5⟩ := hP.tag i hc
      obtain ⟨g', hg', hI, _⟩ := hG1.th i hc
      rw [hi] at hg'
      cases hg'
      rcases hI with ⟨hk, hco, hrl⟩ | ⟨hk, hi0, hqd⟩ | ⟨hk, g0, rfl, _⟩
      · have hnq : ¬ pr.qu s i := fun x => by rw [a3.2 x] at hk; cases hk
        by_cases hs : ∀ w₁, Rly Fz Ex (T i).O (T i).wa w₁ → (T i).S (T i).O g w₁
        · -- at a stop
          rcases hstop s j T q gs (w.at d) t sl' i g hG1 hP1 hc hi hk (hco.rely hE hrl) (hs _ hrl) with ⟨rfl, hsl, hof, hslp⟩ | ⟨gs', w', u, hrun, hfin | ⟨s', j', T', q', hΦ, hG', hP'⟩⟩
          · obtain ⟨f1, f2⟩ := hG1.go hE hc (w' := w.at d) (es := #[]) (th' := { T 0 with kind := 2 }) hi (show stepG P (0 == 0) g (w.at d) = _ from hsl) (.inr (.inr ⟨rfl, g, rfl, hof, hco, hrl⟩)) rfl (fun b x => x) (fun b x => .inl x) (fun _ _ _ _ => rfl) (Nat.le_refl _) rfl rfl rfl (hXr _) (fun e he => (by simp at he)) sl'
            have hlt : 0 < gs.size := (Array.getElem?_eq_some_iff.1 hi).1
            have hb1 : b = 1 := by rw [← hb, if_neg (by rw [hk]; decide)]
            refine fin f1 (ihb 0 (by omega) _ q _ _ _ sl' (funext fun k => ?_) (by rw [sumq (T := T) (i := 0) (th' := { T 0 with kind := 2 }) rfl]; exact hM) (by rw [upd_same]; rfl) f2 ((hP1.turn (i := 0) (th' := { T 0 with kind := 2 }) _ rfl rfl (by simp [hk]) (fun _ => ⟨rfl, hslp⟩) fun _ => rfl).mute fun e he => (by simp at he)))
            rw [← hanc]
            by_cases hk0 : k = 0
            · subst hk0
              rw [anc_at h0c (hmain s) (Array.getElem?_setIfInBounds_self_of_lt (by simpa using hlt)), anc_at h0c (hmain s) hi, upd_same]
            · exact anc_go hk0 (by rw [upd_ne _ _ hk0]; rfl) (by rw [upd_ne _ _ hk0]; rfl)
          · exact fin hrun ⟨0, gs', w', sl', _, rfl, hfin⟩
          · exact fin hrun (ihF (pr.Φ s') (by omega) s' rfl j' T' q' gs' w' (t ++ u) sl' hG' hP')
        · -- on its way
          obtain ⟨g', w', es, f1, f2, f3, f4, f5, f6, f7⟩ := hG1.walk hE hX hc hi hk hs sl'
          have hlt : i < gs.size := (Array.getElem?_eq_some_iff.1 hi).1
          refine fin f1 (ihA _ ⟨i, by have := hG.sz; omega, ⟨⟨hc, hnq⟩, ?_⟩, fun k hki => ?_⟩ _ _ _ q _ _ _ sl' rfl rfl rfl f2 (((hP1.world hW f5).turn (i := i) (th' := { T i with O := grow (T i).O (w.at d) w', wa := w' }) _ rfl rfl Iff.rfl a4 fun _ => rfl).walk f6 fun x => f7 (by rw [a2]; exact hrel s i x)))
          · rw [anc_at hc hnq (Array.getElem?_setIfInBounds_self_of_lt (by simpa using hlt)), ← hanc, anc_at hc hnq hi, upd_same, run_run f4, run_run hr, ← a1]
            exact f3
          · rw [← hanc]
            exact anc_go hki (by rw [upd_ne _ _ hki]; rfl) (by rw [upd_ne _ _ hki]; rfl)
      · -- it leaves
        obtain ⟨g', es, k, f1, f2, f3, f4⟩ := hG1.quit hE hX hc hi hr hk sl'
        have hij : m0 ≤ i ∧ i < m0 + j := hc.resolve_left fun e => by rw [e] at hi0; cases hi0
        have hsum : sumTo j (fun x => (upd (fun k => wakeTh (wk P g g') (T k)) i { T i with q := k, d := deafBehind (T i).d es } (m0 + x)).q) + (k + 1) = sumTo j (fun x => (T (m0 + x)).q) + k := by
          have := sumTo_upd (fun x => (T (m0 + x)).q) k id (i := i - m0) (j := j) (by omega)
          have ei : m0 + (i - m0) = i := by omega
          simp only [id, ei, f1] at this
          rw [← this]
          congr 1
          refine sumTo_congr fun x _ => ?_
          by_cases hx : m0 + x = i
          · have hx' : x = i - m0 := by omega
            rw [hx, upd_same, hx', upd_same]
          · rw [upd_ne _ _ hx, upd_ne _ _ (by omega)]; rfl
        refine fin f3 (ihM _ (by omega) _ _ q _ _ _ sl' (funext fun x => ?_) rfl rfl f4 ((hP1.turn (i := i) (th' := { T i with q := k, d := deafBehind (T i).d es }) _ rfl rfl Iff.rfl a4 fun x => (x hk).elim).mute f2))
        rw [← hanc]
        by_cases hx : x = i
        · subst hx; exact anc_out fun _ => a3.1 hk
        · exact anc_go hx (by rw [upd_ne _ _ hx]; rfl) (by rw [upd_ne _ _ hx]; rfl)
      · cases hr
    · -- an elder one leaves
      have hsz := hG.sz
      have hlt : i < gs.size := (Array.getElem?_eq_some_iff.1 hi).1
      have h1 : 0 < i := Nat.pos_of_ne_zero fun e => hc (.inl e)
      have h2 : i < m0 := Nat.lt_of_not_le fun hle => hc (.inr ⟨hle, by omega⟩)
      obtain ⟨g', es, k, f1, f2, f3, f4⟩ := hG1.leave h1 h2 hi hr sl'
      have hsum : sumTo m0 (upd q i k) + (k + 1) = sumTo m0 q + k := by
        have := sumTo_upd q k id h2
        simpa [f1] using this
      have hq : sumTo j (fun k => (wakeTh (wk P g g') (T (m0 + k))).q) = sumTo j (fun k => (T (m0 + k)).q) := rfl
      refine fin f3 (ihM _ (by omega) _ _ (upd q i k) _ _ _ sl' (funext fun x => ?_) rfl rfl f4 ((hP1.wake _).mute f2))
      rw [← hanc]
      by_cases hx : x = i
      · subst hx; exact anc_out fun y => (hc y).elim
      · exact anc_go hx rfl rfl
  refine inner _ (acc_fam (fun i x' x => (inCrowd m0 j i ∧ ¬ pr.qu s i) ∧ Cf P (i == 0) Fz Ex (pr.S s i) x' x) (m0 + j) (anc Classical.propDecidable pr m0 s j T₀ gs₀) fun i _ => ?_) _ _ T₀ q₀ gs₀ w₀ t₀ sl₀ rfl rfl rfl hG₀ hP₀
  by_cases hc : inCrowd m0 j i ∧ ¬ pr.qu s i
  · obtain ⟨g, hg, hI, _⟩ := hG₀.th i hc.1
    obtain ⟨a1, _, a3, _⟩ := hP₀.tag i hc.1
    rw [anc_at hc.1 hc.2 hg]
    have hacc : Acc (Cf P (i == 0) Fz Ex (pr.S s i)) ((T₀ i).O, { g with status := .running }, (T₀ i).wa) := by
      rcases hI with ⟨_, h, _⟩ | ⟨hk, _⟩ | ⟨_, g0, rfl, ho, h, _⟩
      · have e : ({ g with status := .running } : Goroutine) = g := by
          have := h.cases.1
          obtain ⟨f, c, st, d, o⟩ := g
          simp only at this
          subst this
          rfl
        rw [e, ← a1]
        exact h.acc
      · exact (hc.2 (a3.1 hk)).elim
      · have e : ({ ({ g0 with status := .blocked } : Goroutine) with status := .running } : Goroutine) = g0 := by
          have := h.cases.1
          obtain ⟨f, c, st, d, o⟩ := g0
          simp only at this
          subst this
          rfl
        rw [e, ← a1]
        exact h.acc
    have mono : ∀ x, Acc (Cf P (i == 0) Fz Ex (pr.S s i)) x → Acc (fun x' x => (inCrowd m0 j i ∧ ¬ pr.qu s i) ∧ Cf P (i == 0) Fz Ex (pr.S s i) x' x) x := fun x hx => by
      induction hx with
      | intro x _ ih => exact Acc.intro _ fun y hy => ih y hy.2
    exact mono _ hacc
  · exact Acc.intro _ fun y hy => (hc hy.1).elim
end
end Go.Proofs.YtobpjijdebnaoaaDoor
namespace Go.Proofs.YtobpjijdebnaoaaDoor
open Go Go.Conc
open Go.ConcN (sumTo upd sumTo_upd upd_ne upd_same sumTo_congr WgLive AtR0 AtK1 AtD1 AtD2 AtD3 AtD4 RW PayAt Has)
open Go.ConcR (KK wgBlock WgAt stA smA rd wr Payload DC0)
theorem Co.bind {P : Program} {main sil : Bool} {Fz : Nat → Prop} {Ex : World → World → Prop} {S1 S2 : (Nat → Prop) → Goroutine → World → Prop} (hX : ∀ a, Ex a a) (h2 : ∀ O g w, S1 O g w → Co P main sil Fz Ex S2 O g w) {O : Nat → Prop} {g : Goroutine} {w : World} (h : Co P main sil Fz Ex S1 O g w) : Co P main sil Fz Ex S2 O g w :=
  h (fun O g w => Co P main sil Fz Ex S2 O g w) (fun O g w _ hs => h2 O g w (hs w (Rly.refl hX w))) (fun _ _ _ hr hs => Co.step hr hs)
/-- The places and the words. -/
structure Cx where
  P : Program
  ty : TypeId
  tN : TypeId
  Wg : Nat
  Nx : Nat
  Ch : Nat
  C : Nat
  nC : Nat
  val : Value
  len : Nat
  n : Nat
  m0 : Nat
  sight : Nat → Value
  Fz : Nat → Prop
  AnchT : (Nat → Prop) → Goroutine → World → Prop
  AnchW : (Nat → Prop) → Goroutine → World → Prop
  Next : (Nat → Prop) → Goroutine → World → Prop
section
variable [Payload] (x : Cx)
def Cx.Ex (w w' : World) : Prop := WgLive x.ty x.Wg w → WgLive x.ty x.Wg w'
def Cx.Sh (b : Nat) : Prop := b = x.Wg ∨ b = x.Nx ∨ b = x.Ch
def Cx.Atm (b : Nat) : Prop := b = x.Wg ∨ b = x.Nx
def Cx.nxA : Addr := ⟨x.Nx, 0, none⟩
abbrev Cx.CoW (sil : Bool) (S : (Nat → Prop) → Goroutine → World → Prop) := Co x.P false sil x.Fz x.Ex S
abbrev Cx.CoM (S : (Nat → Prop) → Goroutine → World → Prop) := Co x.P true false x.Fz x.Ex S
abbrev Cx.R := Rly x.Fz x.Ex
/-! ### a worker -/
def Cx.AtD4 (_ : Nat → Prop) (g : Goroutine) (w : World) : Prop := ConcN.AtD4 x.P x.ty x.Wg g w
def Cx.AtD3 (_ : Nat → Prop) (g : Goroutine) (w : World) : Prop := ConcN.AtD3 x.P x.ty x.Wg x.C x.nC 0 1 g w
def Cx.AtD2 (_ : Nat → Prop) (g : Goroutine) (w : World) : Prop := ConcN.AtD2 x.P x.ty x.Wg x.C x.nC 0 1 g w
def Cx.AtD1 (_ : Nat → Prop) (g : Goroutine) (w : World) : Prop := ConcN.AtD1 x.P x.ty x.Wg x.C x.nC 0 1 g w
def Cx.AtK1 (_ : Nat → Prop) (g : Goroutine) (w : World) : Prop := ConcN.AtK1 x.P x.ty x.Wg x.C x.nC 0 1 g w
def Cx.AtRel (_ : Nat → Prop) (g : Goroutine) (w : World) : Prop := ConcN.AtR0 x.P x.ty x.Wg x.C x.nC 0 1 x.val g w
def Cx.AtSend (p : Nat) (O : Nat → Prop) (g : Goroutine) (w : World) : Prop :=
  ∃ g₂ z, stepG x.P false g w = .comm g₂ #[scase x.Ch (x.sight p) z] true .send w #[] ∧ ∀ w', x.R O w w' → x.CoW false x.AnchT O (Conc.served g₂ undef) w'
def Cx.AtTake (O : Nat → Prop) (g : Goroutine) (w : World) : Prop :=
  ∀ c : Nat, c < 4611686018427387904 → w.cell? x.nxA = some (.int .i64 c) → w.frozen? x.nxA = false →
    ∃ g', stepG x.P false g w = .go g' (w.setCell x.nxA (.int .i64 (c + 1 : Nat))) #[rd x.nxA, wr x.nxA] ∧
      ∀ w', x.R O w w' → (c < x.len → x.CoW false (x.AtSend c) O g' w') ∧ (x.len ≤ c → x.CoW false x.AtRel O g' w')
/-! ### the starter -/
def Cx.AtMk (m : Mark) (S : (Nat → Prop) → Goroutine → World → Prop) (O : Nat → Prop) (g : Goroutine) (w : World) : Prop :=
  ∃ g', stepG x.P true g w = .go g' w #[ConcR.mk m] ∧ ∀ w', x.R O w w' → x.CoM S O g' w'
def Cx.AtAcq := x.AtMk (.acquire (stA x.Wg)) x.Next
def Cx.AtKe := x.AtMk .enable x.AtAcq
def Cx.AtW4 (O : Nat → Prop) (g : Goroutine) (w : World) : Prop :=
  WgAt x.ty x.Wg w 0 0 → ∃ g', stepG x.P true g w = .go g' w #[rd (stA x.Wg)] ∧ ∀ w', x.R O w w' → x.CoM x.AtKe O g' w'
def Cx.AtW3 (O : Nat → Prop) (g : Goroutine) (w : World) : Prop :=
  g.offers = none ∧ ((∃ st, WgAt x.ty x.Wg w st 0) → stepG x.P true g w = .go { g with status := .blocked } w #[]) ∧
    (WgAt x.ty x.Wg w 0 1 → ∃ g', stepG x.P true g w = .go g' (w.setCell (smA x.Wg) (.int .u32 0)) (semEvents (smA x.Wg)) ∧ ∀ w', x.R O w w' → x.CoM x.AtW4 O g' w')
def Cx.AtWr := x.AtMk (.write (smA x.Wg)) x.AtW3
def Cx.AtW2 (vs : Nat) (O : Nat → Prop) (g : Goroutine) (w : World) : Prop :=
  ∀ v : Nat, v ≤ x.n → WgAt x.ty x.Wg w (v * KK) 0 →
    (v = vs → ∃ g', stepG x.P true g w = .go g' (w.setCell (stA x.Wg) (.int .u64 (v * KK + 1))) #[rd (stA x.Wg), wr (stA x.Wg)] ∧ ∀ w', x.R O w w' → x.CoM x.AtWr O g' w') ∧
    (v ≠ vs → ∃ g', stepG x.P true g w = .go g' w #[rd (stA x.Wg)] ∧ ∀ w', x.R O w w' → x.CoM x.AnchW O g' w')
def Cx.AtW1 (O : Nat → Prop) (g : Goroutine) (w : World) : Prop :=
  ∀ v : Nat, v ≤ x.n → WgAt x.ty x.Wg w (v * KK) 0 → ∃ g', stepG x.P true g w = .go g' w #[rd (stA x.Wg)] ∧ ∀ w', x.R O w w' → (v = 0 → x.CoM x.AtKe O g' w') ∧ (v ≠ 0 → x.CoM (x.AtW2 v) O g' w')
def Cx.AtKd := x.AtMk .disable x.AnchW
def Cx.AtGo : Nat → (Nat → Prop) → Goroutine → World → Prop
  | 0 => x.AtKd
  | r + 1 => fun O g w => ∃ g' child, stepG x.P true g w = .spawn g' child w #[] ∧ (∀ w', x.R O w w' → x.CoM (Cx.AtGo r) O g' w') ∧ ∀ w', x.R (fun _ => False) w w' → x.CoW false x.AtTake (fun _ => False) child w'
def Cx.AtAe := x.AtMk .enable (x.AtGo x.n)
def Cx.AtAs := x.AtMk (.read (smA x.Wg)) x.AtAe
def Cx.AtAa (O : Nat → Prop) (g : Goroutine) (w : World) : Prop :=
  WgAt x.ty x.Wg w 0 0 → ∃ g', stepG x.P true g w = .go g' (w.setCell (stA x.Wg) (.int .u64 (x.n * KK))) #[rd (stA x.Wg), wr (stA x.Wg)] ∧ ∀ w', x.R O w w' → x.CoM x.AtAs O g' w'
def Cx.AtAd := x.AtMk .disable x.AtAa
/-! ### the protocol -/
structure Sg where
  j : Nat
  c : Nat
  ph : Nat → Nat
  hd : Nat → Nat
  mp : Nat
  vs : Nat
  lp : Nat
  bl : List Nat
def cnt (s : Sg) : Nat := sumTo s.j fun i => if s.ph i ≤ 4 then 1 else 0
def Cx.v (s : Sg) : Nat := (x.n - s.j) + cnt s
def wgt (p : Nat) : Nat := if p = 0 then 10 else if p = 1 then 11 else if p ≤ 7 then 11 - p else 0
def Cx.mw (s : Sg) : Nat := if s.mp ≤ 4 then 3 * x.n + 16 - s.mp else if s.mp = 5 then 3 * x.v s + 10 else if s.mp = 6 then 3 * s.vs + 9 else 17 - s.mp
def Cx.pot (s : Sg) : Nat := 2 * (x.len - min s.c x.len) + 12 * (x.n - s.j) + sumTo s.j (fun i => wgt (s.ph i)) + x.mw s
def Cx.stv (s : Sg) : Int := if s.mp ≤ 1 then 0 else if s.mp ≤ 6 then x.v s * KK else if s.mp ≤ 8 then (if s.lp = 0 then x.v s * KK + 1 else if s.lp ≤ 6 then 1 else 0) else 0
def smv (s : Sg) : Int := if (s.mp = 7 ∨ s.mp = 8) ∧ s.lp = 8 then 1 else 0
def hands (s : Sg) : List Nat := (List.range s.j).filterMap fun i => if s.ph i = 1 then some (s.hd i) else none
structure Cx.ok (s : Sg) : Prop where
  jn : s.j ≤ x.n
  j0 : s.mp < 4 → s.j = 0
  jN : 4 < s.mp → s.j = x.n
  mp : s.mp ≤ 11
  ph8 : ∀ i, i < s.j → s.ph i ≤ 8
  late : ∀ i, i < s.j → 2 ≤ s.ph i → x.len ≤ s.c
  last : ∀ i, i < s.j → 5 ≤ s.ph i → s.ph i ≤ 7 → (s.mp = 7 ∨ s.mp = 8) ∧ s.lp = s.ph i ∧ ∀ i', i' < s.j → i' ≠ i → s.ph i' = 8
  reg : (s.mp = 7 ∨ s.mp = 8) → (s.lp = 0 ∧ 0 < x.v s) ∨ (5 ≤ s.lp ∧ s.lp ≤ 7 ∧ ∃ i, i < s.j ∧ s.ph i = s.lp) ∨ (s.lp = 8 ∧ ∀ i, i < s.j → s.ph i = 8)
  fin : 9 ≤ s.mp → ∀ i, i < s.j → s.ph i = 8
  cas : s.mp = 6 → 1 ≤ s.vs ∧ x.v s ≤ s.vs
  perm : (s.bl ++ hands s).Perm (List.range (min s.c x.len))
  big : s.c + x.pot s < 4611686018427387904
def Cx.NxAt (w : World) (c : Nat) : Prop := w.heap[x.Nx]? = some (.cells #[.int .i64 c] x.tN)
def Cx.Sm (s : Sg) : (Nat → Prop) → Goroutine → World → Prop := match s.mp with
  | 0 => x.AtAd | 1 => x.AtAa | 2 => x.AtAs | 3 => x.AtAe | 4 => x.AtGo (x.n - s.j) | 5 => x.AtW1 | 6 => x.AtW2 s.vs | 7 => x.AtWr | 8 => x.AtW3 | 9 => x.AtW4 | 10 => x.AtKe | _ => x.AtAcq
def Cx.Sw (s : Sg) (k : Nat) : (Nat → Prop) → Goroutine → World → Prop := match s.ph k with
  | 0 => x.AtTake | 1 => x.AtSend (s.hd k) | 2 => x.AtRel | 3 => x.AtK1 | 4 => x.AtD1 | 5 => x.AtD2 | 6 => x.AtD3 | _ => x.AtD4
def Cx.pro : Pro Sg where
  Φ := x.pot
  J := (·.j)
  S s i := if i = 0 then x.Sm s else x.Sw s (i - x.m0)
  sil s i := i != 0 && decide (3 ≤ s.ph (i - x.m0))
  qu s i := i ≠ 0 ∧ s.ph (i - x.m0) = 8
  d s i := if i = 0 then (if s.mp = 0 ∨ s.mp = 4 ∨ s.mp = 11 then 0 else 1) else (if s.ph (i - x.m0) ≤ 3 then 0 else 1)
  W s w := x.ok s ∧ WgAt x.ty x.Wg w (x.stv s) (smv s) ∧ x.NxAt w s.c ∧ ∃ a r tm, w.heap[x.Ch]? = some (.chan x.len (s.bl.map x.sight).toArray false a r tm)
  rel s i := i ≠ 0 ∧ 3 ≤ s.ph (i - x.m0)
  slp s := s.mp = 8 ∧ s.lp ≠ 8
end
end Go.Proofs.YtobpjijdebnaoaaDoor
namespace Go.Proofs.YtobpjijdebnaoaaDoor
open Go Go.Conc
open Go.ConcN (sumTo upd sumTo_upd upd_ne upd_same sumTo_congr WgLive RW PayAt Has)
open Go.ConcR (KK wgBlock WgAt stA smA rd wr Payload DC0)
/-! ### what is listed -/
section
variable {Atm Fz : Nat → Prop} {Own : Nat → Nat → Prop} {g B : Nat}
def EvN (Atm Fz : Nat → Prop) (Own : Nat → Nat → Prop) (g B : Nat) (e : Event) : Prop :=
  (∀ x, (MemAct.ofEvent e).touch? = some x → x.loc.isMemory = true → ∃ b, blk x.loc = some b ∧ NewT Atm Fz Own g b x) ∧ (MemAct.ofEvent e).low B
theorem evN_at {a : Addr} {b : Bool} (ha : Atm a.block) (hb : a.block < B) : EvN Atm Fz Own g B ⟨.cell a, b, true⟩ := by
  refine ⟨fun x hx _ => ?_, hb⟩
  simp only [MemAct.ofEvent, MemAct.touch?, Option.some.injEq] at hx
  subst hx
  exact ⟨a.block, rfl, .inl ⟨ha, by simp, fun h => by simp at h⟩⟩
theorem evN_rd {a : Addr} (ha : Atm a.block) (hb : a.block < B) : EvN Atm Fz Own g B (rd a) := evN_at ha hb
theorem evN_wr {a : Addr} (ha : Atm a.block) (hb : a.block < B) : EvN Atm Fz Own g B (wr a) := evN_at ha hb
theorem evN_mk {m : Mark} (h1 : (MemAct.mark m).touch? = none) (h2 : (MemAct.mark m).low B) : EvN Atm Fz Own g B (ConcR.mk m) :=
  ⟨fun x hx _ => (by rw [show MemAct.ofEvent (ConcR.mk m) = .mark m from rfl, h1] at hx; cases hx), h2⟩
theorem evN_said {a : Addr} {m : Mark} (hm : m = .read a ∨ m = .write a) (ha : Atm a.block) (hb : a.block < B) : EvN Atm Fz Own 0 B (ConcR.mk m) := by
  rcases hm with rfl | rfl
  all_goals
    refine ⟨fun x hx _ => ?_, hb⟩
    simp only [ConcR.mk, MemAct.ofEvent, MemAct.touch?, Option.some.injEq] at hx
    subst hx
    exact ⟨a.block, rfl, .inl ⟨ha, by simp, fun _ => rfl⟩⟩
theorem evN_sem {a : Addr} (ha : Atm a.block) (hb : a.block < B) : ∀ e ∈ semEvents a, EvN Atm Fz Own g B e := fun e he => by
  have : e = ConcR.mk .disable ∨ e = rd a ∨ e = wr a ∨ e = ConcR.mk .enable := by simpa [semEvents, ConcR.mk, rd, wr] using he
  rcases this with rfl | rfl | rfl | rfl
  · exact evN_mk rfl trivial
  · exact evN_rd ha hb
  · exact evN_wr ha hb
  · exact evN_mk rfl trivial
end
/-! ### a cell is set -/
theorem cell_other (w : World) (a : Addr) (v : Value) {b : Nat} (h : b ≠ a.block) : (w.setCell a v).heap[b]? = w.heap[b]? := (aside_setCell w a v).block b h
theorem cell_size (w : World) (a : Addr) (v : Value) : (w.setCell a v).heap.size = w.heap.size := (aside_setCell w a v).size
/-! ### who holds what -/
theorem fm_same {f f' : Nat → Option Nat} {j : Nat} (h : ∀ i, i < j → f' i = f i) : (List.range j).filterMap f' = (List.range j).filterMap f := by
  induction j with
  | zero => rfl
  | succ j ih =>
    rw [List.range_succ, List.filterMap_append, List.filterMap_append, ih fun i hi => h i (by omega)]
    congr 1
    simp only [List.filterMap_cons, List.filterMap_nil, h j (by omega)]
theorem fm_put {f f' : Nat → Option Nat} {k c : Nat} : ∀ {j : Nat}, k < j → (∀ i, i < j → i ≠ k → f' i = f i) → f k = none → f' k = some c → ((List.range j).filterMap f').Perm (c :: (List.range j).filterMap f)
  | j + 1, hk, h, h1, h2 => by
    rw [List.range_succ, List.filterMap_append, List.filterMap_append]
    by_cases hkj : k = j
    · subst hkj
      rw [fm_same (f := f) (f' := f') fun i hi => h i (by omega) (by omega)]
      simp only [List.filterMap_cons, List.filterMap_nil, h1, h2, List.append_nil]
      exact List.perm_append_singleton _ _
    · have := fm_put (j := j) (by omega) (fun i hi hne => h i (by omega) hne) h1 h2
      have e : [j].filterMap f' = [j].filterMap f := by simp only [List.filterMap_cons, List.filterMap_nil, h j (by omega) (Ne.symm hkj)]
      rw [e]
      exact this.append_right _
theorem hands_same {s s' : Sg} (hj : s'.j = s.j) (h : ∀ i, i < s.j → (s'.ph i = 1 ↔ s.ph i = 1) ∧ (s.ph i = 1 → s'.hd i = s.hd i)) : hands s' = hands s := by
  unfold hands
  rw [hj]
  refine fm_same fun i hi => ?_
  by_cases hp : s.ph i = 1
  · rw [if_pos hp, if_pos ((h i hi).1.2 hp), (h i hi).2 hp]
  · rw [if_neg hp, if_neg fun y => hp ((h i hi).1.1 y)]
theorem hands_put {s s' : Sg} {k c : Nat} (hk : k < s.j) (hj : s'.j = s.j) (h : ∀ i, i < s.j → i ≠ k → s'.ph i = s.ph i ∧ s'.hd i = s.hd i) (h0 : s.ph k ≠ 1) (h1 : s'.ph k = 1) (h2 : s'.hd k = c) : (hands s').Perm (c :: hands s) := by
  unfold hands
  rw [hj]
  refine fm_put hk (fun i hi hne => ?_) (by rw [if_neg h0]) (by rw [if_pos h1, h2])
  rw [(h i hi hne).1, (h i hi hne).2]
/-! ### the counts -/
theorem cnt_upd {s : Sg} {k p : Nat} (hk : k < s.j) : cnt { s with ph := upd s.ph k p } + (if s.ph k ≤ 4 then 1 else 0) = cnt s + (if p ≤ 4 then 1 else 0) :=
  sumTo_upd s.ph p (fun p => if p ≤ 4 then 1 else 0) hk
theorem wgt_upd {f : Nat → Nat} {j k p : Nat} (hk : k < j) : sumTo j (fun i => wgt (upd f k p i)) + wgt (f k) = sumTo j (fun i => wgt (f i)) + wgt p := sumTo_upd f p wgt hk
theorem cnt_zero {s : Sg} (h : ∀ i, i < s.j → s.ph i = 8) : cnt s = 0 := by
  unfold cnt
  have : ∀ j, j ≤ s.j → sumTo j (fun i => if s.ph i ≤ 4 then 1 else 0) = 0 := by
    intro j
    induction j with
    | zero => intro _; rfl
    | succ j ih => intro hj; rw [sumTo, ih (by omega), h j (by omega)]; rfl
  exact this _ (Nat.le_refl _)
theorem zero_cnt {s : Sg} (h : cnt s = 0) : ∀ i, i < s.j → 5 ≤ s.ph i := by
  intro i hi
  have := ConcN.le_sumTo (f := fun i => if s.ph i ≤ 4 then 1 else 0) hi
  unfold cnt at h
  rw [h] at this
  split at this <;> omega
theorem cnt_le (s : Sg) : cnt s ≤ s.j := by
  unfold cnt
  have : ∀ j, sumTo j (fun i => if s.ph i ≤ 4 then 1 else 0) ≤ j := by
    intro j
    induction j with
    | zero => exact Nat.le_refl _
    | succ j ih => rw [sumTo]; split <;> omega
  exact this _
section
variable [Payload] {x : Cx}
/-! ### the library's walks -/
theorem rw_of (hC : x.Fz x.C) (O : Nat → Prop) (w w₁ : World) (r : x.R O w w₁) : RW x.ty x.Wg x.C x.nC 0 (1 - 1) w w₁ :=
  ⟨fun b hb => absurd hb (Nat.not_lt_zero _), r.ex, fun ⟨cs, h1, h2⟩ => ⟨cs, (r.fz _ hC).trans h1, h2⟩, by unfold World.cell?; rw [r.fz _ hC]⟩
theorem co_lib (hC : x.Fz x.C) {S : Goroutine → World → Prop} (hS : ∀ g w, S g w → g.status = .running) {sil : Bool} {O : Nat → Prop} {m : Nat} {g : Goroutine} {w : World} (h : Goes x.P false (RW x.ty x.Wg x.C x.nC 0 (1 - 1)) DC0 S m g w) : x.CoW sil (fun _ => S) O g w :=
  co_goes (rw_of hC O) (fun g w hs => ⟨hS g w hs, hs⟩) (fun _ h => h) m h
end
theorem wakeTh_false (th : Th) : wakeTh false th = th := by unfold wakeTh; simp
theorem PI.next {σ : Type} {pr : Pro σ} {Wg m0 j i : Nat} {s s' : σ} {T : Nat → Th} {w w' : World} {t u : Trace} {th' : Th} {b : Bool} (h : PI pr Wg m0 s j T w t) (hj : pr.J s' = j)
    (ho : ∀ k, inCrowd m0 j k → k ≠ i → pr.S s' k = pr.S s k ∧ pr.sil s' k = pr.sil s k ∧ (pr.qu s' k ↔ pr.qu s k) ∧ pr.d s' k = pr.d s k ∧ (pr.rel s' k → pr.rel s k))
    (hsl : i = 0 ∨ b = true ∨ (pr.slp s → pr.slp s'))
    (hi : th'.S = pr.S s' i ∧ th'.sil = pr.sil s' i ∧ (th'.kind = 1 ↔ pr.qu s' i) ∧ (th'.kind = 2 → i = 0 ∧ pr.slp s') ∧ (th'.kind ≠ 1 → th'.d = pr.d s' i))
    (hW : pr.W s' w') (hr : pr.rel s' i → ∃ r, Rlsd Wg i r (t ++ u)) (hu : ∀ op ∈ u, op.g = i ∧ op.act ≠ .mark (.release (sA Wg))) :
    PI pr Wg m0 s' j (upd (fun k => wakeTh b (T k)) i th') w' (t ++ u) := by
  refine ⟨hj, fun k hk => ?_, hW, fun k hk hrel => ?_, h.nor.app fun op hop => (hu op hop).2⟩
  · by_cases hki : k = i
    · subst hki; rw [upd_same]; exact hi
    · rw [upd_ne _ _ hki]
      obtain ⟨a1, a2, a3, a4, a5⟩ := h.tag k hk
      obtain ⟨b1, b2, b3, b4, _⟩ := ho k hk hki
      have hw := wakeTh_kind b (T k)
      refine ⟨a1.trans b1.symm, a2.trans b2.symm, (hw.1.trans a3).trans b3.symm, fun y => ?_, fun y => (a5 fun z => y (hw.1.2 z)).trans b4.symm⟩
      have := a4 (hw.2 y)
      refine ⟨this.1, ?_⟩
      rcases hsl with rfl | rfl | hsl
      · exact (hki this.1).elim
      · exfalso
        unfold wakeTh at y
        simp [hw.2 y] at y
      · exact hsl this.2
  · by_cases hki : k = i
    · subst hki; exact hr hrel
    · obtain ⟨r, y⟩ := h.rel k hk ((ho k hk hki).2.2.2.2 hrel)
      exact ⟨r, y.other fun op hop => by rw [(hu op hop).1]; exact fun e => hki e.symm⟩
/-- Its own step on the semaphore, while it is deaf. -/
theorem Rlsd.sem {Wg g r : Nat} {t : Trace} (h : Rlsd Wg g r t) {fn : FuncId} {pos : String} : Rlsd Wg g r (t ++ MemOp.ofEvents g fn pos (semEvents (smA Wg))) := by
  have e : MemOp.ofEvents g fn pos (semEvents (smA Wg)) = MemOp.ofEvents g fn pos #[ConcR.mk .disable] ++ (MemOp.ofEvents g fn pos #[rd (smA Wg), wr (smA Wg)] ++ MemOp.ofEvents g fn pos #[ConcR.mk .enable]) := by
    simp [ofEvents_eq, semEvents, ConcR.mk, rd, wr]
  rw [e, ← Array.append_assoc, ← Array.append_assoc]
  have mute : ∀ {t : Trace} (m : Mark), (MemAct.mark m).touch? = none → Rlsd Wg g r t → Rlsd Wg g r (t ++ MemOp.ofEvents g fn pos #[ConcR.mk m]) := fun m hm hr => hr.still fun op hop => by
    obtain ⟨e, he, rfl⟩ := Go.Conc.mem_ofEvents hop
    have : e = ConcR.mk m := by simpa using he
    subst this
    exact hm
  refine mute .enable rfl ((mute .disable rfl h).deaf ?_ fun e he => ?_)
  · rw [Deaf_own]
    show 1 ≤ deafBehind (Deaf t g) #[⟨.mark .disable, false, true⟩]
    simp [deafBehind]
  · have : e = rd (smA Wg) ∨ e = wr (smA Wg) := by simpa using he
    rcases this with rfl | rfl
    · exact ⟨rfl, smA Wg, rfl, rfl⟩
    · exact ⟨rfl, smA Wg, rfl, rfl⟩
/-- The places are apart; the numbers are small. -/
structure Cx.Fit (x : Cx) : Prop where
  wn : x.Wg ≠ x.Nx
  wc : x.Wg ≠ x.Ch
  nc : x.Nx ≠ x.Ch
  C : x.Fz x.C
  n0 : 0 < x.n
  n1 : x.n < 2147483647
section
variable {x : Cx}
theorem ex_trans (a b c : World) (h : x.Ex a b) (h' : x.Ex b c) : x.Ex a c := fun y => h' (h y)
theorem ex_of (w w' : World) (h : ∀ b, x.Sh b → w'.heap[b]? = w.heap[b]?) : x.Ex w w' := fun ⟨st, sm, y⟩ => ⟨st, sm, (h _ (.inl rfl)).trans y⟩
theorem w_of [Payload] (s : Sg) (w w' : World) (h : ∀ b, x.Sh b → w'.heap[b]? = w.heap[b]?) (hw : x.pro.W s w) : x.pro.W s w' := by
  obtain ⟨h1, h2, h3, a, r, tm, h4⟩ := hw
  exact ⟨h1, (h _ (.inl rfl)).trans h2, (h _ (.inr (.inl rfl))).trans h3, a, r, tm, (h _ (.inr (.inr rfl))).trans h4⟩
variable {tz : Nat} {Sx : Nat → Prop} {s : Sg} {j : Nat} {T : Nat → Th} {q : Nat → Nat} {gs : Array Goroutine} {w : World} {t : Trace}
/-- What becomes of it. -/
def Cx.Goes [Payload] (x : Cx) (tz : Nat) (Sx : Nat → Prop) (s : Sg) (gs : Array Goroutine) (w : World) (t : Trace) (sl : Option (Nat × Nat)) (i : Nat) : Prop :=
  ∃ gs' w' u, runT x.P (crowd gs w sl) i = (.next (crowd gs' w' sl), u) ∧ ∃ s' j' T' q', x.pot s' < x.pot s ∧ GI x.P x.m0 tz Sx x.Atm x.Fz x.Sh x.Ex j' T' q' gs' w' (t ++ u) ∧ PI x.pro x.Wg x.m0 s' j' T' w' (t ++ u)
/-- What a step does to the world: only what is shared turns. -/
structure Cx.Only (x : Cx) (w w' : World) : Prop where
  keep : ∀ b, ¬ x.Sh b → w'.heap[b]? = w.heap[b]?
  size : w'.heap.size = w.heap.size
  tape : w'.tape = w.tape
  os : w'.os = w.os
  output : w'.output = w.output
  ex : x.Ex w w'
theorem Cx.Only.refl (w : World) : x.Only w w := ⟨fun _ _ => rfl, rfl, rfl, rfl, rfl, fun h => h⟩
theorem Cx.Only.rly (hG : GI x.P x.m0 tz Sx x.Atm x.Fz x.Sh x.Ex j T q gs w t) {w' : World} (h : x.Only w w') (i : Nat) : x.R (T i).O w w' :=
  ⟨fun b y => h.keep b (hG.olow i b y).2.2.1, fun b y => h.keep b (hG.fzl b y).2.1, Nat.le_of_eq h.size.symm, h.tape, h.os, h.output, h.ex⟩
theorem wstep [Payload] (hG : GI x.P x.m0 tz Sx x.Atm x.Fz x.Sh x.Ex j T q gs w t) (hP : PI x.pro x.Wg x.m0 s j T w t) {k : Nat} (hk : k < s.j) {g g' : Goroutine} {w' : World} {es : Array Event} (hg : gs[x.m0 + k]? = some g)
    (hst : stepG x.P false g w = .go g' w' es) (hw : x.Only w w') {s' : Sg} {p' : Nat} (e1 : s'.j = s.j) (e2 : s'.mp = s.mp) (e3 : s'.vs = s.vs) (e4 : s'.ph = upd s.ph k p') (e5 : ∀ i, i ≠ k → s'.hd i = s.hd i)
    (hΦ : x.pot s' < x.pot s) (hW : x.pro.W s' w') (hev : ∀ e ∈ es, EvN x.Atm x.Fz (fun g b => (T g).O b) (x.m0 + k) w'.heap.size e ∧ MemAct.ofEvent e ≠ .mark (.release (sA x.Wg)))
    (hsl : wk x.P g g' = true ∨ (s.lp ≠ 8 → s'.lp ≠ 8)) {th' : Th} (hI : thI x.P x.Fz x.Ex false th' g' w') (hO : th'.O = (T (x.m0 + k)).O)
    (hS : th'.S = x.Sw s' k ∧ th'.sil = decide (3 ≤ p') ∧ (th'.kind = 1 ↔ p' = 8) ∧ th'.kind ≠ 2 ∧ (th'.kind ≠ 1 → th'.d = if p' ≤ 3 then 0 else 1))
    (hd : deafBehind (T (x.m0 + k)).d es = th'.d) (hr : 3 ≤ p' → ∃ r, Rlsd x.Wg (x.m0 + k) r (t ++ MemOp.ofEvents (x.m0 + k) g.frame.fn g.frame.place es)) (sl : Option (Nat × Nat)) : x.Goes tz Sx s gs w t sl (x.m0 + k) := by
  have hp := hG.pos
  have hj : s.j = j := hP.cnt
  have hi0 : x.m0 + k ≠ 0 := by omega
  have hb : (x.m0 + k == 0) = false := by simp; omega
  have hi : inCrowd x.m0 j (x.m0 + k) := .inr ⟨by omega, by omega⟩
  have hOe : (fun g b => (upd T (x.m0 + k) th' g).O b) = fun g b => (T g).O b := by
    funext g
    by_cases hgi : g = x.m0 + k
    · subst hgi; rw [upd_same, hO]
    · rw [upd_ne _ _ hgi]
  obtain ⟨f1, f2⟩ := hG.go ex_trans hi (th' := th') hg (by rw [hb]; exact hst) (by rw [hb]; exact hI) hd (fun b y => by rw [hO]; exact y) (fun b y => .inl (by rw [← hO]; exact y)) (fun b _ _ h => hw.keep b h) (Nat.le_of_eq hw.size.symm) hw.tape hw.os hw.output hw.ex
    (fun e he => by rw [hOe]; exact (hev e he).1) sl
  refine ⟨_, _, _, f1, s', j, _, q, hΦ, f2, hP.next (i := x.m0 + k) (e1.trans hj) (fun i hic hne => ?_) (.inr (hsl.imp id fun y z => ⟨e2.trans z.1, y z.2⟩)) ?_ hW (fun y => ?_) fun op hop => ?_⟩
  · by_cases h0 : i = 0
    · subst h0
      refine ⟨?_, rfl, Iff.rfl.trans (by simp [Cx.pro]), ?_, fun y => absurd rfl y.1⟩
      · show x.Sm s' = x.Sm s
        unfold Cx.Sm; rw [e2, e1, e3]
      · show (if s'.mp = 0 ∨ _ then 0 else 1) = _
        rw [e2]; rfl
    · have hm : x.m0 ≤ i := by rcases hic with y | y <;> omega
      have hk' : i - x.m0 ≠ k := by omega
      have hph : s'.ph (i - x.m0) = s.ph (i - x.m0) := by rw [e4, upd_ne _ _ hk']
      simp only [Cx.pro, if_neg h0, hph]
      refine ⟨?_, trivial, trivial, trivial, fun y => y⟩
      unfold Cx.Sw
      rw [hph, e5 _ hk']
  · have hph : s'.ph (x.m0 + k - x.m0) = p' := by rw [e4, show x.m0 + k - x.m0 = k by omega, upd_same]
    simp only [Cx.pro, if_neg hi0, hph]
    refine ⟨by rw [hS.1, show x.m0 + k - x.m0 = k by omega], by rw [hS.2.1, show (x.m0 + k != 0) = true by simp; omega, Bool.true_and], hS.2.2.1.trans ⟨fun y => ⟨hi0, y⟩, fun y => y.2⟩, fun y => absurd y hS.2.2.2.1, hS.2.2.2.2⟩
  · refine hr ?_
    have hph : s'.ph (x.m0 + k - x.m0) = p' := by rw [e4, show x.m0 + k - x.m0 = k by omega, upd_same]
    have := y.2
    rw [hph] at this
    exact this
  · obtain ⟨e, he, rfl⟩ := Go.Conc.mem_ofEvents hop
    exact ⟨rfl, (hev e he).2⟩
theorem mstep [Payload] (hG : GI x.P x.m0 tz Sx x.Atm x.Fz x.Sh x.Ex j T q gs w t) (hP : PI x.pro x.Wg x.m0 s j T w t) {g g' : Goroutine} {w' : World} {es : Array Event} (hg : gs[0]? = some g) (hk0 : (T 0).kind = 0)
    (hst : stepG x.P true g w = .go g' w' es) (hw : x.Only w w') {s' : Sg} (e1 : s'.j = s.j) (e4 : s'.ph = s.ph) (e5 : s'.hd = s.hd)
    (hΦ : x.pot s' < x.pot s) (hW : x.pro.W s' w') (hev : ∀ e ∈ es, EvN x.Atm x.Fz (fun g b => (T g).O b) 0 w'.heap.size e ∧ MemAct.ofEvent e ≠ .mark (.release (sA x.Wg)))
    (hco : ∀ w', x.R (T 0).O w w' → x.CoM (x.Sm s') (T 0).O g' w')
    (hd : deafBehind (if s.mp = 0 ∨ s.mp = 4 ∨ s.mp = 11 then 0 else 1) es = if s'.mp = 0 ∨ s'.mp = 4 ∨ s'.mp = 11 then 0 else 1) (sl : Option (Nat × Nat)) : x.Goes tz Sx s gs w t sl 0 := by
  have hj : s.j = j := hP.cnt
  have hi : inCrowd x.m0 j 0 := .inl rfl
  have hd0 : (T 0).d = if s.mp = 0 ∨ s.mp = 4 ∨ s.mp = 11 then 0 else 1 := (hP.tag 0 hi).2.2.2.2 (by rw [hk0]; decide)
  have hOe : (fun g b => (upd T 0 ⟨0, false, x.Sm s', (T 0).O, w', 0, if s'.mp = 0 ∨ s'.mp = 4 ∨ s'.mp = 11 then 0 else 1⟩ g).O b) = fun g b => (T g).O b := by
    funext g
    by_cases hgi : g = 0
    · subst hgi; rw [upd_same]
    · rw [upd_ne _ _ hgi]
  obtain ⟨f1, f2⟩ := hG.go ex_trans hi (w' := w') (th' := ⟨0, false, x.Sm s', (T 0).O, w', 0, if s'.mp = 0 ∨ s'.mp = 4 ∨ s'.mp = 11 then 0 else 1⟩) hg hst (.inl ⟨rfl, hco w' (hw.rly hG 0), Rly.refl (fun _ h => h) w'⟩) (by rw [hd0]; exact hd) (fun b y => y) (fun b y => .inl y) (fun b _ _ h => hw.keep b h) (Nat.le_of_eq hw.size.symm) hw.tape hw.os hw.output hw.ex
    (fun e he => by rw [hOe]; exact (hev e he).1) sl
  refine ⟨_, _, _, f1, s', j, _, q, hΦ, f2, ?_⟩
  refine hP.next (i := 0) (e1.trans hj) (fun i _ hne => ?_) (.inl rfl) ⟨rfl, rfl, ?_, fun y => (by cases y), fun _ => rfl⟩ hW (fun y => absurd rfl y.1) fun op hop => ?_
  · simp only [Cx.pro, if_neg hne, e4]
    refine ⟨?_, trivial, trivial, trivial, fun y => y⟩
    unfold Cx.Sw
    rw [e4, e5]
  · simp [Cx.pro]
  · obtain ⟨e, he, rfl⟩ := Go.Conc.mem_ofEvents hop
    exact ⟨rfl, (hev e he).2⟩
end
end Go.Proofs.YtobpjijdebnaoaaDoor
