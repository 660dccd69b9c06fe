/- Part of the proof. -/
import Derived.Test.YtobpjijdebnaoaaDoorKr1
import Derived.Laws.MakeOwn
import Derived.Conc.SmallLaws
import Derived.Conc.CrowdComm
namespace Go.Proofs.YtobpjijdebnaoaaDoor
open Go Go.Conc
open Go.ConcN (sumTo upd sumTo_upd upd_ne upd_same)
section
variable {P : Program} {S : Nat → Prop} {B0 : Nat} {g g' : Goroutine} {w w' : World}
/-- What has been heard names no block that is not there. -/
theorem nor_of {Sh : Loc → Prop} {B b : Nat} {t : Trace} (h : Past Sh B t) (hb : B ≤ b) : NoRelease (sA b) t := fun i hi => by
  unfold Trace.act? at hi
  obtain ⟨op, h1, h2⟩ := Option.map_eq_some_iff.1 hi
  have := h.seen op (Array.mem_of_getElem? h1)
  rw [h2] at this
  have hlt : b < B := this
  omega
/-! ### an operation reckoned by hand -/
structure At1 (P : Program) (main : Bool) (g : Goroutine) (s : Sem Next) : Prop where
  run : g.status = .running
  kind : (g.frame.kind == .early) = false
  at_ : ∀ w, stepG P main g w = stepG.apply P true g.frame g.callers none (semOf g) w
  nocall : noCall g = true
  sem : semOf g = s
theorem seen_sub (fn : FuncId) (es : Array Event) : ∀ e ∈ seen P fn es, e ∈ es := by
  intro e he
  unfold seen at he
  simp only [← Array.foldl_toList] at he
  have main : ∀ (l : List Event) (q : Bool) (k : Array Event), e ∈ (l.foldl (fun (x : Bool × Array Event) e => match e.loc with
      | .mark (.extern f) => ((P.funcs[f]?).any (·.norace), x.2)
      | _ => (x.1, if x.1 && !e.sync then x.2 else x.2.push e)) (q, k)).2 → e ∈ k ∨ e ∈ l := by
    intro l
    induction l with
    | nil => intro q k h; exact .inl h
    | cons a l ih =>
      intro q k h
      rw [List.foldl_cons] at h
      have step : ∀ (k' : Array Event), e ∈ k' ∨ e ∈ l → (e ∈ k' → e ∈ k ∨ e = a) → e ∈ k ∨ e ∈ a :: l := fun k' h1 h2 => by
        rcases h1 with h1 | h1
        · rcases h2 h1 with z | z
          · exact .inl z
          · exact .inr (z ▸ List.mem_cons_self)
        · exact .inr (List.mem_cons_of_mem _ h1)
      split at h
      · exact step _ (ih _ _ h) fun z => .inl z
      · refine step _ (ih _ _ h) fun z => ?_
        split at z
        · exact .inl z
        · exact (Array.mem_push.1 z).imp id id
  have := main es.toList _ #[] he
  rcases this with h | h
  · simp at h
  · exact Array.mem_toList_iff.1 h
theorem At1.step {main : Bool} {s : Sem Next} (h : At1 P main g s) {x : Next} {es : Array Event} (hr : s.runT P w #[] = (.ok x w', es)) (ok : okN x = true) : stepG P main g w = .go (go1 P g x) w' (seen P g.frame.fn es) := by
  rw [h.at_ w, h.sem]
  unfold stepG.apply
  simp only [if_true, hr, h.kind, Bool.false_eq_true, if_false]
  have hu := upon_go1 P g ok
  cases x with
  | value v =>
    simp only [upon, Option.some.injEq] at hu
    rw [← hu]
    simp [GStep.after, G]
  | skip =>
    simp only [upon, Option.some.injEq] at hu
    rw [← hu]
    simp [GStep.after, G]
  | enter f a =>
    simp only [upon, Option.some.injEq] at hu
    rw [← hu]
    simp only [GStep.after, Array.append_empty, G]
    congr 2
    split
    · rename_i he
      exact absurd he (noCall_of h.nocall _ _ _ _ _)
    · rfl
  | _ => cases ok
theorem bs_at1 {s : Sem Next} (h : At1 P true g s) {x : Next} {es : Array Event} (hr : ∀ d, ∃ d', s.runT P (w.at d) #[] = (.ok x (w'.at d'), es)) (ok : okN x = true) (he : ∀ e ∈ es, EvL (ShunB S) w'.heap.size e ∧ ∀ a, MemAct.ofEvent e ≠ .mark (.release a)) (hsz : w.heap.size ≤ w'.heap.size) : Bs P S B0 g w (go1 P g x) w' :=
  bs_step h.run (fun d => let ⟨d', hd⟩ := hr d; ⟨d', h.step hd ok⟩) (fun e hm => he e (seen_sub _ _ e hm)) hsz
/-- It closes a channel. -/
theorem bs_close {ats : Array TypeId} {ty : TypeId} {r room s rc : Nat} {buf : Array Value} {tm : Bool} (h : At1 P true g (do pure (.value (← Builtin.close_ ats ty #[.chan (some r)])))) (hc : w.heap[r]? = some (.chan room buf false s rc tm)) :
    Bs P S B0 g w (go1 P g (.value (.tuple #[]))) { w with heap := w.heap.setIfInBounds r (.chan room buf true s rc tm) } := by
  have hlt : r < w.heap.size := (Array.getElem?_eq_some_iff.1 hc).1
  refine bs_at1 h (es := #[⟨.obj r, false, true⟩, ⟨.obj r, true, true⟩]) (fun d => ⟨d, ?_⟩) rfl (fun e he => ?_) (by simp)
  · have h1 : (w.at d).heap[r]? = some (.chan room buf false s rc tm) := hc
    rw [Sem.runT_eq]
    simp [run_close_open ats ty h1, events_close_open (es := #[]) ats ty h1]
    rfl
  · have key : ∀ wr, EvL (ShunB S) (w.heap.setIfInBounds r (.chan room buf true s rc tm)).size ⟨.obj r, wr, true⟩ ∧ ∀ a, MemAct.ofEvent ⟨.obj r, wr, true⟩ ≠ .mark (.release a) := fun wr => by
      refine ⟨⟨fun x hx hs => ?_, by simp, by simp, ?_⟩, fun a => ?_⟩
      · cases wr <;> simp [MemAct.ofEvent, MemAct.touch?] at hx <;> subst hx <;> simp
      · cases wr <;> simp [MemAct.ofEvent, MemAct.low, Loc.low, hlt]
      · cases wr <;> simp [MemAct.ofEvent]
    simp at he
    rcases he with rfl | rfl
    · exact key false
    · exact key true
/-- It makes a channel. -/
theorem bs_makeChan {t e : TypeId} {dir : ChanDir} {i : TypeInfo} {n : Nat} (h : At1 P true g (do pure (.value (← Instr.makeChan t (.int .i64 n))))) (ht : P.underlying t = some (.chan dir e)) (hi : P.info? e = some i) (h63 : (n : Int) ≤ 9223372036854775807) (hb : (i.bytes : Int) * n ≤ 281474976710544) :
    Bs P S B0 g w (go1 P g (.value (.chan (some w.heap.size)))) { w with heap := w.heap.push (.chan n #[] false 0 0 false) } := by
  refine bs_at1 h (es := #[]) (fun d => ⟨d, ?_⟩) rfl (fun e he => by simp at he) (by simp)
  rw [Sem.runT_eq]
  simp [run_makeChan (w := w.at d) ht hi .i64 n h63 hb, events_makeChan (w := w.at d) ht hi .i64 n h63 hb]
  exact ⟨rfl, rfl⟩
theorem bind_eq' {α β : Type} (x : Sem α) (f : α → Sem β) : (x >>= f) = x.bind f := rfl
theorem pure_eq' {α : Type} (a : α) : (Pure.pure a : Sem α) = Sem.pure a := rfl
/-- It makes a row. -/
theorem runT_make {t e : TypeId} {i : TypeInfo} {z : Value} (ht : P.underlying t = some (.slice e)) (hi : P.info? e = some i) (hz : i.zero = some z) (n : Nat) (hn : n ≤ 4096) (hb : i.bytes ≤ 1024) (w : World) :
    (Instr.makeSlice t (.int .i64 n) (.int .i64 n)).runT P w #[] = (.ok (.slice (some ⟨w.heap.size, 0, none⟩) n n) { w with heap := w.heap.push (.cells (madeCells z.cells (n * i.size)) e) }, #[]) := by
  have hbn : i.bytes * n ≤ 4194304 := Nat.mul_le_mul hb hn
  have hbi : (i.bytes : Int) * n ≤ 4194304 := by rw [← Int.natCast_mul]; exact Int.ofNat_le.2 hbn
  have hr := run_make w t e i z ht hi hz .i64 .i64 (n : Int) (n : Int) (by omega) (by omega) (by omega) (by omega)
  rw [Int.toNat_natCast] at hr
  have wl : IntKind.i64.wrap (n : Int) = n := by rw [IntKind.wrap_i64]; omega
  have n1 : ¬ (n : Int) < 0 := by omega
  have n2 : ¬ (281474976710656 < (i.bytes : Int) * n) := by omega
  have n5 : ¬ (n * i.bytes > roomBytes) := by rw [Nat.mul_comm]; have : roomBytes = 140737488355328 := rfl; omega
  have he : ((Instr.makeSlice t (.int .i64 n) (.int .i64 n)).runT P w #[]).2 = #[] := by
    simp [-Sem.runT_eq, Instr.makeSlice, bind_eq', pure_eq', underlying, typeInfo, sizeOf, program, asInt, asIntOf, Sem.bind, Sem.runT, ht, hi, wl, n1, n2, askRoom, n5]
    split
    · simp [-Sem.runT_eq, newRow, newObj, Sem.bind, Sem.runT, bind_eq', pure_eq']
    · simp [-Sem.runT_eq, zeroValue, typeInfo, program, hi, hz, newRow, newObj, Sem.bind, Sem.runT, bind_eq', pure_eq']
  have h1 := Sem.runT_fst P (Instr.makeSlice t (.int .i64 n) (.int .i64 n)) w #[]
  exact Prod.ext (h1.trans hr) he
theorem bs_make {t e : TypeId} {i : TypeInfo} {z : Value} {n : Nat} (h : At1 P true g (do pure (.value (← Instr.makeSlice t (.int .i64 n) (.int .i64 n))))) (ht : P.underlying t = some (.slice e)) (hi : P.info? e = some i) (hz : i.zero = some z) (hn : n ≤ 4096) (hb : i.bytes ≤ 1024) :
    Bs P S B0 g w (go1 P g (.value (.slice (some ⟨w.heap.size, 0, none⟩) n n))) { w with heap := w.heap.push (.cells (madeCells z.cells (n * i.size)) e) } := by
  refine bs_at1 h (es := #[]) (fun d => ⟨d, ?_⟩) rfl (fun e he => by simp at he) (by simp)
  rw [bind_eq', Sem.runT_bind', runT_make ht hi hz n hn hb (w.at d)]
  rfl
/-! ### it receives -/
structure AtRecv (P : Program) (g g₂ : Goroutine) (c : Nat) (z : Value) (bl : Bool) (sh : CommShape) : Prop where
  run : g.status = .running
  comm : ∀ w, stepG P true g w = .comm g₂ #[rcase c z] bl sh w #[]
def got (P : Program) (g₂ : Goroutine) (c : Nat) (z : Value) (sh : CommShape) (v : Value) (b : Bool) : Goroutine := g₂.finishComm P #[rcase c z] sh 0 v b
theorem bx_alone {gs : Array Goroutine} {t : Trace} {q : Nat → Nat} (hB : Bx P S B0 g w gs t q) (c : Nat) : partners (gs.setIfInBounds 0 ph) c true = [] := by
  refine partners_nil fun j x hx => ?_
  rcases Nat.eq_zero_or_pos j with rfl | hpos
  · have hlt : 0 < gs.size := (Array.getElem?_eq_some_iff.1 hB.at0).1
    rw [Array.getElem?_setIfInBounds_self_of_lt hlt] at hx
    rw [← Option.some.inj hx]
    exact offersAt_ph _ _
  · rw [Array.getElem?_setIfInBounds_ne (by omega)] at hx
    refine offersAt_of_not_blocked (fun hb => ?_) _ _
    rcases (hB.lv.old j x hpos hx).status with h | h <;> rw [h] at hb <;> cases hb
theorem bx_own {gs : Array Goroutine} {t u : Trace} {q : Nat → Nat} (hB : Bx P S B0 g w gs t q) (hsz : w.heap.size ≤ w'.heap.size) (hu : ∀ op ∈ u, op.g = 0 ∧ op.act.touch? = none ∧ op.act.low w'.heap.size ∧ ∀ a, op.act ≠ .mark (.release a)) (hd : Deaf (t ++ u) 0 = Deaf t 0) :
    Bx P S B0 g' w' (gs.setIfInBounds 0 g') (t ++ u) q := by
  have hlt : 0 < gs.size := (Array.getElem?_eq_some_iff.1 hB.at0).1
  refine ⟨by simp [hlt], ⟨fun j x hj hx => ?_, fun j hj => ?_⟩, (hB.past.mono hsz).app0 (fun op h => (hu op h).1) (fun op h b hb => by rw [(hu op h).2.1] at hb; cases hb) hd (fun op h => (hu op h).2.2.1), fun b hb => (hB.nor b hb).app fun op hop => (hu op hop).2.2.2 _⟩
  · rw [Array.getElem?_setIfInBounds_ne (by omega)] at hx
    rw [Deaf_other t (g' := 0) (by omega) _ (fun op h => (hu op h).1)]
    exact hB.lv.old j x hj hx
  · simp at hj
    rw [Deaf_other t (g' := 0) (by omega) _ (fun op h => (hu op h).1)]
    exact hB.lv.above j hj
theorem bs_recv {g₂ : Goroutine} {c cap s r : Nat} {z v : Value} {bl closed tm : Bool} {sh : CommShape} {l : List Value} (h : AtRecv P g g₂ c z bl sh) (hc : w.heap[c]? = some (.chan cap (v :: l).toArray closed s r tm)) :
    Bs P S B0 g w (got P g₂ c z sh v true) (w.setChan c cap l.toArray closed s (r + 1) tm) := by
  have hlt : c < w.heap.size := (Array.getElem?_eq_some_iff.1 hc).1
  refine bs_turn h.run fun gs d sl t q hB => ?_
  have hrun := crowd_recv_buf (P := P) (sl := sl) hB.at0 (h.comm (w.at d)) (show (w.at d).heap[c]? = _ from hc) (by simp) (bx_alone hB c)
  have e1 : (v :: l).toArray.extract 1 (v :: l).toArray.size = l.toArray := by simp
  have e2 : (v :: l).toArray.getD 0 undef = v := by simp
  rw [e1, e2] at hrun
  refine ⟨_, d, _, q, hrun, by simp, bx_own hB (by simp [World.setChan]) (fun op hop => ?_) ?_⟩
  · simp [MemOp.ofEvents] at hop
    rcases hop with rfl | rfl
    · exact ⟨rfl, rfl, by simpa [MemAct.low, World.setChan] using hlt, fun a => by simp⟩
    · exact ⟨rfl, rfl, by simpa [MemAct.low, World.setChan] using hlt, fun a => by simp⟩
  · simp [MemOp.ofEvents, Deaf_append, deafStep]
theorem bs_recv_end {g₂ : Goroutine} {c cap s r : Nat} {z : Value} {bl tm : Bool} {sh : CommShape} (h : AtRecv P g g₂ c z bl sh) (hc : w.heap[c]? = some (.chan cap #[] true s r tm)) :
    Bs P S B0 g w (got P g₂ c z sh z false) w := by
  have hlt : c < w.heap.size := (Array.getElem?_eq_some_iff.1 hc).1
  refine bs_turn h.run fun gs d sl t q hB => ?_
  have hrun := crowd_recv_closed (P := P) (sl := sl) hB.at0 (h.comm (w.at d)) (show (w.at d).heap[c]? = _ from hc) (bx_alone hB c)
  refine ⟨_, d, _, q, hrun, by simp, bx_own hB (Nat.le_refl _) (fun op hop => ?_) ?_⟩
  · simp [MemOp.ofEvents] at hop
    subst hop
    exact ⟨rfl, rfl, hlt, fun a => by simp⟩
  · rw [show MemOp.ofEvents 0 g.frame.fn g.frame.place #[] = #[] from by simp [MemOp.ofEvents], Array.empty_append, Deaf_push]
    rfl
/-! ### its way to a stop -/
theorem bs_until (hrun : g.status = .running) {R : Nat → Machine → Trace → Prop}
    (H : ∀ (gs : Array Goroutine) (d : Nat) (sl : Option (Nat × Nat)) (t : Trace) (q : Nat → Nat), Bx P S B0 g w gs t q → ∃ m' u, runT P (crowd gs (w.at d) sl) 0 = (.next m', u) ∧ R gs.size m' (t ++ u)) :
    ∀ (gs : Array Goroutine) (d : Nat) (sl : Option (Nat × Nat)) (t : Trace) (q : Nat → Nat), Bx P S B0 g w gs t q → ∃ (N : Nat) (m' : Machine) (t' : Trace), runNT P N (crowd gs (w.at d) sl) t = (.next m', t') ∧ R gs.size m' t' := by
  have main : ∀ (M : Nat) (gs : Array Goroutine) (d : Nat) (sl : Option (Nat × Nat)) (t : Trace) (q : Nat → Nat), sumTo gs.size q ≤ M → Bx P S B0 g w gs t q →
      ∃ (N : Nat) (m' : Machine) (t' : Trace), runNT P N (crowd gs (w.at d) sl) t = (.next m', t') ∧ R gs.size m' t' := by
    intro M
    induction M using Nat.strongRecOn with
    | _ M ihM =>
      intro gs d0 sl t q hM hB
      have haw : ∀ x ∈ gs, awake x := by
        intro x hx
        obtain ⟨i, hi, rfl⟩ := Array.mem_iff_getElem.1 hx
        rcases Nat.eq_zero_or_pos i with rfl | hpos
        · have : gs[0] = g := by simpa [Array.getElem?_eq_getElem hi] using hB.at0
          rw [this]; exact awake_of (.inl hrun)
        · exact awake_of ((hB.lv.old i _ hpos (Array.getElem?_eq_getElem hi)).status.elim .inl fun x => .inr (.inr x))
      obtain ⟨i, x, d, sl', hi, hg, hst⟩ := crowd_pick (P := P) (w := w.at d0) (sl := sl) haw ⟨0, g, hB.at0, hrun⟩
      have hat : (w.at d0).at d = w.at d := rfl
      rw [hat] at hst
      rcases Nat.eq_zero_or_pos i with rfl | hpos
      · obtain ⟨m', u, h1, h2⟩ := H gs d sl' t q hB
        exact ⟨1, m', t ++ u, by simp only [runNT, hst, h1], h2⟩
      · have hq := hB.lv.old i x hpos hi
        have hi0 : (i == 0) = false := by simp; omega
        have hlt : i < gs.size := (Array.getElem?_eq_some_iff.1 hi).1
        cases hqi : q i with
        | zero => rw [hqi] at hq; rw [hq.1] at hg; cases hg
        | succ k =>
          rw [hqi] at hq
          rcases hq with ⟨hf, _⟩ | ⟨_, x', es, hm, hstp, hq'⟩
          · rw [hf] at hg; cases hg
          have hrunT := runT_crowd_go (P := P) (sl := sl') (i := i) hi (by rw [hi0]; exact hstp (w.at d))
          have hsz : ((gs.map (woken P x x' (w.at d))).setIfInBounds i x').size = gs.size := by simp
          have hsum : sumTo gs.size (upd q i k) + (k + 1) = sumTo gs.size q + k := by
            have := sumTo_upd q k id hlt
            simpa [hqi] using this
          obtain ⟨N, m', t', f1, f2⟩ := ihM (sumTo gs.size (upd q i k)) (by omega) ((gs.map (woken P x x' (w.at d))).setIfInBounds i x') d sl' (t ++ MemOp.ofEvents i x.frame.fn x.frame.place es) (upd q i k) (by rw [hsz]; exact Nat.le_refl _)
            ⟨by
              have hne : i ≠ 0 := by omega
              rw [Array.getElem?_setIfInBounds_ne hne, Array.getElem?_map, hB.at0]
              simp [woken_run hrun], ⟨fun j y hj hy => by
              by_cases hji : i = j
              · subst hji
                rw [Array.getElem?_setIfInBounds_self_of_lt (by simpa using hlt)] at hy
                obtain rfl := Option.some.inj hy
                rw [upd_same, Deaf_own]
                exact hq'
              · rw [Array.getElem?_setIfInBounds_ne hji, Array.getElem?_map] at hy
                obtain ⟨z, hz, rfl⟩ := Option.map_eq_some_iff.1 hy
                have hqj := hB.lv.old j z hj hz
                rw [woken_quitsD hqj, upd_ne q k (Ne.symm hji), Deaf_other t hji _ (fun op hop => by obtain ⟨e, _, rfl⟩ := Go.Conc.mem_ofEvents hop; rfl)]
                exact hqj, fun j hj => by
              rw [Deaf_other t (g' := i) (by simp at hj; omega) _ (fun op hop => by obtain ⟨e, _, rfl⟩ := Go.Conc.mem_ofEvents hop; rfl)]
              exact hB.lv.above j (by simpa using hj)⟩, hB.past.mute (by omega) hm, fun b hb => (hB.nor b hb).app fun op hop => by obtain ⟨e, he, rfl⟩ := Go.Conc.mem_ofEvents hop; exact mute_nor (hm e he) _⟩
          exact ⟨N + 1, m', t', by simp only [runNT, hst, hrunT]; exact f1, hsz ▸ f2⟩
  intro gs d sl t q hB
  exact main _ gs d sl t q (Nat.le_refl _) hB
theorem bx_step {gs : Array Goroutine} {t : Trace} {q : Nat → Nat} {w₁ : World} {es : Array Event} (hB : Bx P S B0 g w gs t q) (he : ∀ e ∈ es, EvL (ShunB S) w'.heap.size e ∧ ∀ a, MemAct.ofEvent e ≠ .mark (.release a)) (hsz : w.heap.size ≤ w'.heap.size) :
    Bx P S B0 g' w' ((gs.map (woken P g g' w₁)).setIfInBounds 0 g') (t ++ MemOp.ofEvents 0 g.frame.fn g.frame.place es) q := by
  have hlt : 0 < gs.size := (Array.getElem?_eq_some_iff.1 hB.at0).1
  refine ⟨by simp [hlt], ⟨fun j x hj hx => ?_, fun j hj => ?_⟩, (hB.past.mono hsz).own fun e h => (he e h).1, fun b hb => (hB.nor b hb).app fun op hop => by obtain ⟨e, h, rfl⟩ := Go.Conc.mem_ofEvents hop; exact (he e h).2 _⟩
  · have hne : 0 ≠ j := by omega
    rw [Array.getElem?_setIfInBounds_ne hne, Array.getElem?_map] at hx
    obtain ⟨y, hy, rfl⟩ := Option.map_eq_some_iff.1 hx
    have hq := hB.lv.old j y hj hy
    rw [woken_quitsD hq, Deaf_other t (by omega) _ (fun op hop => by obtain ⟨e, _, rfl⟩ := Go.Conc.mem_ofEvents hop; rfl)]
    exact hq
  · rw [Deaf_other t (g' := 0) (by simp at hj; omega) _ (fun op hop => by obtain ⟨e, _, rfl⟩ := Go.Conc.mem_ofEvents hop; rfl)]
    exact hB.lv.above j (by simpa using hj)
theorem evL_evC {Fz O : Nat → Prop} {B : Nat} {e : Event} (h : EvC Fz O e) (hO : ∀ b, O b → b < B ∧ ¬ S b) (hF : ∀ b, Fz b → b < B ∧ ¬ S b) : EvL (ShunB S) B e := by
  refine evL_of (E := fun _ b => O b ∨ Fz b) (Z := fun _ => False) ?_ (fun _ b x => (x.elim (hO b) (hF b)).2) (fun _ b x => (x.elim (hO b) (hF b)).1)
  rcases h with ⟨b, h1, h2, h3⟩ | h
  · exact .inl ⟨b, h1, h2, 0, h3.imp id fun z => z.1, fun _ z => z⟩
  · exact .inr h
theorem co_beside {Fz O : Nat → Prop} {Ex : World → World → Prop} {Stop : (Nat → Prop) → Goroutine → World → Prop} {sil : Bool} (hX : ∀ w d, Ex w (w.at d)) (hF : ∀ b, Fz b → ¬ S b) (h : Co P true sil Fz Ex Stop O g w) :
    (∀ b, O b → b < w.heap.size ∧ ¬ S b) → (∀ b, Fz b → b < w.heap.size) → (∀ b, S b → b < w.heap.size) → ∀ (gs : Array Goroutine) (d : Nat) (sl : Option (Nat × Nat)) (t : Trace) (q : Nat → Nat), Bx P S B0 g w gs t q →
      ∃ (N : Nat) (gs' : Array Goroutine) (O' : Nat → Prop) (g' : Goroutine) (w' : World) (sl' : Option (Nat × Nat)) (t' : Trace) (q' : Nat → Nat),
        runNT P N (crowd gs (w.at d) sl) t = (.next (crowd gs' w' sl'), t') ∧ gs'.size = gs.size ∧ Bx P S B0 g' w' gs' t' q' ∧ Stop O' g' w' ∧
        (∀ b, b < w.heap.size → ¬ O b → w'.heap[b]? = w.heap[b]?) ∧ w.heap.size ≤ w'.heap.size ∧ w'.tape = w.tape ∧ w'.os = w.os ∧ w'.output = w.output := by
  refine h (fun O g w => (∀ b, O b → b < w.heap.size ∧ ¬ S b) → (∀ b, Fz b → b < w.heap.size) → (∀ b, S b → b < w.heap.size) → ∀ (gs : Array Goroutine) (d : Nat) (sl : Option (Nat × Nat)) (t : Trace) (q : Nat → Nat), Bx P S B0 g w gs t q →
      ∃ (N : Nat) (gs' : Array Goroutine) (O' : Nat → Prop) (g' : Goroutine) (w' : World) (sl' : Option (Nat × Nat)) (t' : Trace) (q' : Nat → Nat),
        runNT P N (crowd gs (w.at d) sl) t = (.next (crowd gs' w' sl'), t') ∧ gs'.size = gs.size ∧ Bx P S B0 g' w' gs' t' q' ∧ Stop O' g' w' ∧
        (∀ b, b < w.heap.size → ¬ O b → w'.heap[b]? = w.heap[b]?) ∧ w.heap.size ≤ w'.heap.size ∧ w'.tape = w.tape ∧ w'.os = w.os ∧ w'.output = w.output) ?_ ?_
  · intro O g w hr hs hO hf hS gs d sl t q hB
    exact ⟨0, gs, O, g, w.at d, sl, t, q, rfl, rfl, ⟨hB.at0, hB.lv, hB.past, hB.nor⟩, hs _ ⟨fun _ _ => rfl, fun _ _ => rfl, Nat.le_refl _, rfl, rfl, rfl, hX w d⟩, fun _ _ _ => rfl, Nat.le_refl _, rfl, rfl, rfl⟩
  · intro O g w hr hs hO hf hS gs d sl t q hB
    obtain ⟨N, m', t', h1, h2⟩ := bs_until hr (R := fun n m t => ∃ (N : Nat) (gs' : Array Goroutine) (O' : Nat → Prop) (g' : Goroutine) (w' : World) (sl' : Option (Nat × Nat)) (t' : Trace) (q' : Nat → Nat),
        runNT P N m t = (.next (crowd gs' w' sl'), t') ∧ gs'.size = n ∧ Bx P S B0 g' w' gs' t' q' ∧ Stop O' g' w' ∧
        (∀ b, b < w.heap.size → ¬ O b → w'.heap[b]? = w.heap[b]?) ∧ w.heap.size ≤ w'.heap.size ∧ w'.tape = w.tape ∧ w'.os = w.os ∧ w'.output = w.output) (fun gs d sl t q hB => by
      obtain ⟨g', w', es, e1, e2, e3, _, e5⟩ := hs (w.at d) ⟨fun _ _ => rfl, fun _ _ => rfl, Nat.le_refl _, rfl, rfl, rfl, hX w d⟩
      have hsz : w.heap.size ≤ w'.heap.size := e2.size
      have hO' : ∀ b, grow O (w.at d) w' b → b < w'.heap.size ∧ ¬ S b := fun b hb => by
        rcases hb with hb | ⟨hb, hb'⟩
        · exact ⟨Nat.lt_of_lt_of_le (hO b hb).1 hsz, (hO b hb).2⟩
        · exact ⟨hb', fun hs => absurd (hS b hs) (Nat.not_lt.2 hb)⟩
      have hf' : ∀ b, Fz b → b < w'.heap.size := fun b hb => Nat.lt_of_lt_of_le (hf b hb) hsz
      have hrun := runT_crowd_go (P := P) (sl := sl) (i := 0) hB.at0 (show stepG P (0 == 0) g (w.at d) = _ from e1)
      have hB' := bx_step (w₁ := w') (es := es) (g' := g') (w' := w') hB (fun e he => ⟨evL_evC (e3 e he) hO' fun b hb => ⟨hf' b hb, hF b hb⟩, fun a => evC_nor (e3 e he) a⟩) hsz
      obtain ⟨N, gs', O', g'', w'', sl', t', q', a1, a2, a3, a4, a5, a6, a7, a8, a9⟩ := e5 hO' hf' (fun b hb => Nat.lt_of_lt_of_le (hS b hb) hsz) _ w'.drawn sl _ q hB'
      exact ⟨_, _, hrun, N, gs', O', g'', w'', sl', t', q', a1, by rw [a2]; simp, a3, a4, fun b hb hn => by
        rw [a5 b (Nat.lt_of_lt_of_le hb hsz) (fun z => z.elim hn fun z => absurd hb (Nat.not_lt.2 z.1))]
        exact e2.keep b hb hn, Nat.le_trans hsz a6, a7.trans e2.tape, a8.trans e2.os, a9.trans e2.output⟩) gs d sl t q hB
    obtain ⟨M, gs', O', g', w', sl', t'', q', b1, b2, b3, b4, b5⟩ := h2
    exact ⟨N + M, gs', O', g', w', sl', t'', q', by rw [runNT_add N M _ _ h1]; exact b1, b2, b3, b4, b5⟩
end
end Go.Proofs.YtobpjijdebnaoaaDoor
