/- Part of the proof. -/
import Derived.Test.YtobpjijdebnaoaaDoorTw2
import Derived.Test.YtobpjijdebnaoaaDoorKr5
namespace Go.Proofs.YtobpjijdebnaoaaDoor
open Go Go.Conc
open Go.Proofs.YtobpjijdebnaoaaDoorM
theorem gdepth : 0 < (YtobpjijdebnaoaaDoorQ.Al.progOf Tryd.prog).depth := of_decide_eq_true (by kernel_rfl)
abbrev lookFr : Frame := { fn := 25, tmps := #[], todo := [], defers := [], mode := .run, kind := .normal }
theorem look_enter (pv nv : Value) : Frame.enter (YtobpjijdebnaoaaDoorQ.Al.progOf Tryd.prog) 25 #[pv, nv] .normal = lookFr.at ⟨#[pv, nv] ++ Array.replicate 46 undef, []⟩ [.code YtobpjijdebnaoaaDoorQ.Al.lookB] := by kernel_rfl
theorem two_args {a : Array Value} (h : a.size = 2) : ∃ x y, a = #[x, y] := by
  obtain ⟨l⟩ := a
  match l, h with
  | [x, y], _ => exact ⟨x, y, rfl⟩
theorem look_params : ((YtobpjijdebnaoaaDoorQ.Al.progOf Tryd.prog).funcs[(25 : Nat)]?).map (·.params.size) = some 2 := by kernel_rfl
theorem arOK_size {P : Program} {fns : Fx} {f : FuncId} {n m : Nat} (hp : (P.funcs[f]?).map (·.params.size) = some m) (hj : fns.jf f = true) (h : arOK P fns f n = true) : n = m := by
  unfold arOK at h
  cases hf : P.funcs[f]? with
  | none => rw [hf] at hp; cases hp
  | some fn =>
    rw [hf] at hp h
    simp only [Option.map_some, Option.some.injEq] at hp
    simp only [hj, Bool.not_true, Bool.false_or, beq_iff_eq] at h
    omega
theorem look_arity (fns : Fx) {n : Nat} (hj : fns.jf 25 = true) (h : arOK (YtobpjijdebnaoaaDoorQ.Al.progOf Tryd.prog) fns 25 n = true) : n = 2 := arOK_size look_params hj h
/-- What the ghost's look leaves, said of the heap. -/
def GhOut (gh : World) (L : List YtobpjijdebnaoaaDoorQ.Pg) (v : Value) (u : World) : Prop :=
  v = .tuple #[.slice (some ⟨gh.heap.size, 0, none⟩) L.length L.length, .nilIface] ∧ gh.heap.size ≤ u.heap.size ∧ (∀ b, b < gh.heap.size → u.heap[b]? = gh.heap[b]?) ∧
    ∃ cs, u.heap[gh.heap.size]? = some (.cells cs 66 (0, 0)) ∧ cs.size = 5 * L.length ∧ ∀ i, i < L.length → YtobpjijdebnaoaaDoorQ.SAt cs i (YtobpjijdebnaoaaDoorQ.gP L i).p
theorem scalar_row {l : Nat} {cs : Array Value} {f : Nat → List Nat} (hs : cs.size = 5 * l) (h : ∀ i, i < l → YtobpjijdebnaoaaDoorQ.SAt cs i (f i)) : cs.all scalar = true := by
  rw [Array.all_eq_true]
  intro j hj
  have hi := h (j / 5) (by omega)
  have e : j = 5 * (j / 5) ∨ j = 5 * (j / 5) + 1 ∨ j = 5 * (j / 5) + 2 ∨ j = 5 * (j / 5) + 3 ∨ j = 5 * (j / 5) + 4 := by omega
  have get : ∀ {v : Value}, cs[j]? = some v → cs[j] = v := fun h => by rw [Array.getElem?_eq_getElem hj] at h; exact Option.some.inj h
  rcases e with e | e | e | e | e
  · rw [get (by rw [e]; exact hi.c0)]; rfl
  · rw [get (by rw [e]; exact hi.c1)]; rfl
  · rw [get (by rw [e]; exact hi.c2)]; rfl
  · rw [get (by rw [e]; exact hi.c3)]; rfl
  · rw [get (by rw [e]; exact hi.c4)]; rfl
theorem same_row {l : Nat} {cs cells : Array Value} {f : Nat → List Nat} (hs : cs.size = 5 * l) (h : ∀ i, i < l → YtobpjijdebnaoaaDoorQ.SAt cs i (f i)) (hs2 : cells.size = 5 * l) (h2 : ∀ i, i < l → YtobpjijdebnaoaaDoorQ.SAt cells i (f i)) : cells = cs := by
  refine Array.ext (by omega) fun j h3 h4 => ?_
  have a := h (j / 5) (by omega)
  have b := h2 (j / 5) (by omega)
  have e : j = 5 * (j / 5) ∨ j = 5 * (j / 5) + 1 ∨ j = 5 * (j / 5) + 2 ∨ j = 5 * (j / 5) + 3 ∨ j = 5 * (j / 5) + 4 := by omega
  have key : cells[j]? = cs[j]? := by
    rcases e with e | e | e | e | e
    · rw [e, a.c0, b.c0]
    · rw [e, a.c1, b.c1]
    · rw [e, a.c2, b.c2]
    · rw [e, a.c3, b.c3]
    · rw [e, a.c4, b.c4]
  rw [Array.getElem?_eq_getElem h3, Array.getElem?_eq_getElem h4] at key
  exact Option.some.inj key
section
variable {fns : Fx} {Z : Nat → Prop} {Fin : Goroutine → World → Prop} {E : Nat → Nat → Prop} {gh w : World}
theorem start_own {a a' : Array Value} (ha : AllR fns E a a') (hgs : ∀ g, fns.gl g = true → E g g ∧ fns.pt g = true) (hw : WR (YtobpjijdebnaoaaDoorQ.Al.progOf Tryd.prog) fns E Z gh w) : Start (YtobpjijdebnaoaaDoorQ.Al.progOf Tryd.prog) (fns.own (YtobpjijdebnaoaaDoorQ.Al.progOf Tryd.prog)) Z (dom E) a gh :=
  ⟨ha.dom.own, hw.dom.own, fun g hg => ⟨⟨rfl, _, (hgs g hg).1⟩, (hgs g hg).2⟩, fun _ _ x => x.1⟩
/-- The ghost comes back from its look. -/
theorem ghost_look (hz : zeros (YtobpjijdebnaoaaDoorQ.Al.progOf Tryd.prog) (fns.own (YtobpjijdebnaoaaDoorQ.Al.progOf Tryd.prog))) (hp : okOne (YtobpjijdebnaoaaDoorQ.Al.progOf Tryd.prog) (fns.own (YtobpjijdebnaoaaDoorQ.Al.progOf Tryd.prog))) (hfo : fns.ok 25 = true) {pa : Option Addr} {pc : Nat} {n : Int} {L : List YtobpjijdebnaoaaDoorQ.Pg} {c : Frame} {cs k : List Frame} (hcs : cs = k ++ [trapF]) (hst : Start (YtobpjijdebnaoaaDoorQ.Al.progOf Tryd.prog) (fns.own (YtobpjijdebnaoaaDoorQ.Al.progOf Tryd.prog)) Z (dom E) #[.slice pa L.length pc, .int .i64 n] gh) (h0 : ¬ n < 1) (h8 : ¬ n > 8) (hl : L.length ≤ 4096) (hL : YtobpjijdebnaoaaDoorQ.Pgs gh pa L)
    (hR : Runs (YtobpjijdebnaoaaDoorQ.Al.progOf Tryd.prog) true Fin (G (Frame.enter (YtobpjijdebnaoaaDoorQ.Al.progOf Tryd.prog) 25 #[.slice pa L.length pc, .int .i64 n] .normal) (c :: cs)) gh) :
    ∃ v gh1, Relation.TransGen (Bf (YtobpjijdebnaoaaDoorQ.Al.progOf Tryd.prog) true) (G (c.finish v) cs, gh1) (G (Frame.enter (YtobpjijdebnaoaaDoorQ.Al.progOf Tryd.prog) 25 #[.slice pa L.length pc, .int .i64 n] .normal) (c :: cs), gh) ∧ Runs (YtobpjijdebnaoaaDoorQ.Al.progOf Tryd.prog) true Fin (G (c.finish v) cs) gh1 ∧ GhOut gh L v gh1 := by
  have hP : ∀ t d, YtobpjijdebnaoaaDoorQ.Pgs (wOn gh t d) pa L := fun t d => by
    rcases hL with e | ⟨b, off, e, hat⟩
    · exact .inl e
    · exact .inr ⟨b, off, e, fun i hi => ⟨(hat i hi).1, ⟨(hat i hi).2.all, (hat i hi).2.lies, (hat i hi).2.cap, (hat i hi).2.most⟩⟩⟩
  obtain ⟨v, gh1, t1, r1, u, hu, he⟩ := runs_call (f := 25) (Q := fun v u => GhOut gh L v u) hz gdepth hp hcs hfo hst (fun t d => (YtobpjijdebnaoaaDoorQ.lookq_any pa pc L n (wOn gh t d) h0 h8 hl (hP t d)).mono (fun e w' ⟨h1, h2⟩ => ⟨_, h1, rfl, h2.bel.size, h2.bel.block, h2.row⟩)) hR
  exact ⟨v, gh1, t1, r1, hu.1, by rw [← he]; exact hu.2.1, by rw [← he]; exact hu.2.2.1, by rw [← he]; exact hu.2.2.2⟩
theorem ghost_err (hz : zeros (YtobpjijdebnaoaaDoorQ.Al.progOf Tryd.prog) (fns.own (YtobpjijdebnaoaaDoorQ.Al.progOf Tryd.prog))) (hp : okOne (YtobpjijdebnaoaaDoorQ.Al.progOf Tryd.prog) (fns.own (YtobpjijdebnaoaaDoorQ.Al.progOf Tryd.prog))) (hfo : fns.ok 25 = true) {a : Array Value} {x : Value} {c : Frame} {cs k : List Frame} (hcs : cs = k ++ [trapF]) (hst : Start (YtobpjijdebnaoaaDoorQ.Al.progOf Tryd.prog) (fns.own (YtobpjijdebnaoaaDoorQ.Al.progOf Tryd.prog)) Z (dom E) a gh)
    (hc : ∀ t d, Calls (YtobpjijdebnaoaaDoorQ.Al.progOf Tryd.prog) 25 a (wOn gh t d) fun e w' => e = .returned x ∧ w' = wOn gh t d)
    (hR : Runs (YtobpjijdebnaoaaDoorQ.Al.progOf Tryd.prog) true Fin (G (Frame.enter (YtobpjijdebnaoaaDoorQ.Al.progOf Tryd.prog) 25 a .normal) (c :: cs)) gh) :
    ∃ gh1, Relation.TransGen (Bf (YtobpjijdebnaoaaDoorQ.Al.progOf Tryd.prog) true) (G (c.finish x) cs, gh1) (G (Frame.enter (YtobpjijdebnaoaaDoorQ.Al.progOf Tryd.prog) 25 a .normal) (c :: cs), gh) ∧ Runs (YtobpjijdebnaoaaDoorQ.Al.progOf Tryd.prog) true Fin (G (c.finish x) cs) gh1 ∧ gh1.heap = gh.heap := by
  obtain ⟨v, gh1, t1, r1, u, ⟨rfl, hu⟩, he⟩ := runs_call (f := 25) (Q := fun v u => v = x ∧ u.heap = gh.heap) hz gdepth hp hcs hfo hst (fun t d => (hc t d).mono (fun e w' ⟨h1, h2⟩ => ⟨_, h1, rfl, by rw [h2]; rfl⟩)) hR
  exact ⟨gh1, t1, r1, by rw [← he]; exact hu⟩
end
end Go.Proofs.YtobpjijdebnaoaaDoor
namespace Go.Proofs.YtobpjijdebnaoaaDoor
open Go Go.Conc
open Go.Proofs.YtobpjijdebnaoaaDoorM
open Go.ConcR (Payload)
section
variable {fns : Fx} {Z : Nat → Prop} {E : Nat → Nat → Prop} {gh w : World}
theorem vr_err (E : Nat → Nat → Prop) (e : Int) : VR fns E (.tuple #[.slice none 0 0, .iface 47 (.int .i64 e)]) (.tuple #[.slice none 0 0, .iface 47 (.int .i64 e)]) := by
  refine vr_tuple.2 ⟨_, rfl, rfl, fun i h _ => ?_⟩
  simp only [List.size_toArray, List.length_cons, List.length_nil] at h
  match i, h with
  | 0, _ => exact vr_slice.2 ⟨none, rfl, .inl trivial⟩
  | 1, _ => exact vr_iface.2 ⟨_, rfl, vr_scalar rfl⟩
/-- A page of the ghost's is a page of the real one's. -/
theorem real_page (hw : WR (YtobpjijdebnaoaaDoorQ.Al.progOf Tryd.prog) fns E Z gh w) {ha ha' : Option Addr} {p : List Nat} (hOS : p = [] ∨ OS fns E ha ha') (h : YtobpjijdebnaoaaDoorQ.Lies gh ha p) : YtobpjijdebnaoaaDoorF.Lies w ha' p ∧ ∀ ad, ha' = some ad → p ≠ [] → ad.spot = none ∧ (∃ a, E a ad.block) := by
  rcases h with rfl | ⟨b, off, rfl, h⟩
  · exact ⟨.inl rfl, fun _ _ h => (h rfl).elim⟩
  · by_cases hp0 : p = []
    · subst hp0; exact ⟨.inl rfl, fun _ _ h => (h rfl).elim⟩
    obtain ⟨ad', rfl, hAS⟩ := os_some.1 (hOS.resolve_left hp0)
    have hsp : ad'.spot = none := hAS.2.2.1.symm
    have hoff : ad'.off = off := hAS.2.1.symm
    refine ⟨.inr ⟨ad'.block, ad'.off, by cases ad'; simp only at hsp; subst hsp; rfl, fun i hi => ?_⟩, fun ad e _ => ?_⟩
    · obtain ⟨v', h1, h2⟩ := hw.cell (a := ⟨b, off + i, none⟩) (a' := ⟨ad'.block, ad'.off + i, none⟩) ⟨hAS.1, by rw [hoff], rfl, Nat.le_trans hAS.2.2.2 (Nat.le_add_right _ _)⟩ (h i hi)
      rw [vr_int] at h2
      rw [h1, h2]
    · obtain rfl := Option.some.inj e
      exact ⟨hsp, b, hAS.1⟩
/-- The call's blocks behind w's. -/
def lkOf (w : World) (pa : Option Addr) (l pc n m0 : Nat) (F : Nat → Prop) (p : Nat → List Nat) (hc : Nat → Nat) (ha : Nat → Option Addr) (cs : List Frame) : Lk :=
  { b2 := w.heap.size, b6 := w.heap.size + 1, b7 := w.heap.size + 2, bc := w.heap.size + 3, b8 := w.heap.size + 4, pa := pa, len := l, pc := pc, n := n, m0 := m0, w0 := lk0 w (.slice pa l pc) l, Fz := fun b => F b ∨ b = w.heap.size ∨ b = w.heap.size + 4, st := fun i => stP (p i), kd := fun i => kdP (p i), lb := fun i => lbP (p i), sq := fun i => sqP (p i), cs := cs, ha := ha, hl := fun i => (p i).length, hc := hc }
theorem lkOf_at (w : World) (pa : Option Addr) (l pc n m0 : Nat) (F : Nat → Prop) (p : Nat → List Nat) (hc : Nat → Nat) (ha : Nat → Option Addr) (cs : List Frame) : (lkOf w pa l pc n m0 F p hc ha cs).At w := ⟨rfl, rfl, rfl, rfl, rfl, rfl⟩
/-- The rows are emptied: what is left are the blocks. -/
def emptyO : Obj → Obj
  | .cells _ el _ => .cells #[] el (0, 0)
  | o => o
def emptied (gh : World) : World := { gh with heap := gh.heap.map emptyO }
/-- A page without bytes, wherever it points. -/
theorem pgOk_empty {y : Lk} {i : Nat} {av : Option Addr} (hw : WR (YtobpjijdebnaoaaDoorQ.Al.progOf Tryd.prog) fns E Z gh y.w0) (hEF : ∀ a b, E a b → y.Fz b) (hOS : SR fns E 0 (y.hc i) av (y.ha i)) (hl : y.hl i = 0) (opens : ∀ w : World, Calls Tryd.prog 9 #[.slice av 0 (y.hc i)] w (fun e _ => ∃ a d c, e = .returned (fv (y.kd i) (y.lb i) (y.sq i) a d c (y.st i)))) : PgOk Tryd.prog y i := by
  have hsz : (emptied gh).heap.size = gh.heap.size := by simp [emptied]
  have hget : ∀ a : Nat, (emptied gh).heap[a]? = (gh.heap[a]?).map emptyO := fun a => by simp [emptied]
  have hAR : ∀ a b, AR fns E a b → AR (openFx Tryd.prog fun _ => 0) (fun a b => E a b ∧ (fns.pt a = true ∨ ∃ x, av = some x ∧ a = x.block)) a b := fun a b h => ⟨⟨h.1, .inl h.2.2.2⟩, h.2.1, h.2.2.1, rfl⟩
  refine ⟨fun _ => 0, fun a b => E a b ∧ (fns.pt a = true ∨ ∃ x, av = some x ∧ a = x.block), emptied gh, .slice av 0 (y.hc i), fun a b x => hEF a b x.1, ⟨fun a hz => ?_, fun _ _ => rfl, by rw [hsz]; exact hw.gbig, hw.rbig, fun a b x => hw.glob a b x.1, fun a b a' b' x y => ?_, fun a b x => ?_⟩, ?_, fun w _ => opens w⟩
  · obtain ⟨b, hb⟩ := hz
    rw [hsz]
    exact (hw.lt hb.1).1
  · refine ⟨(hw.inj _ _ _ _ x.1 y.1).1, fun e _ => ?_⟩
    rcases x.2 with h | ⟨z, hz, rfl⟩
    · exact (hw.inj _ _ _ _ x.1 y.1).2 e h
    · rcases y.2 with h' | ⟨z', hz', rfl⟩
      · exact ((hw.inj _ _ _ _ y.1 x.1).2 e.symm h').symm
      · rw [hz] at hz'
        rw [Option.some.inj hz']
  · rcases hw.cells a b x.1 with ⟨c, c', el, fr, fr', k1, k2, _, _, _⟩ | ⟨x1, x2, l, k1, k2, k3⟩
    · exact .inl ⟨#[], c', el, (0, 0), fr', by rw [hget, k1]; rfl, k2, ⟨Nat.zero_le _, fun hz => (hz ⟨b, x⟩).elim, fun i h => by simp at h⟩, fun hz => (hz ⟨b, x⟩).elim, fun _ i h => by simp at h⟩
    · exact .inr ⟨x1, x2, l, by rw [hget, k1]; rfl, k2, hAR _ _ k3⟩
  · rw [hl]
    refine vr_slice.2 ⟨_, rfl, ?_⟩
    rcases hOS with hOS | ⟨e1, e2, e3⟩
    · refine .inl ?_
      cases av with
      | none => rw [os_none] at hOS; rw [hOS]; trivial
      | some a => obtain ⟨b, e, h⟩ := os_some.1 hOS; rw [e]; exact ⟨⟨h.1, .inr ⟨a, rfl, rfl⟩⟩, h.2.1, h.2.2.1, Nat.zero_le _⟩
    · exact .inr ⟨rfl, e2, e3⟩
/-- What is asked of the pages. -/
structure RPg (fns : Fx) (E : Nat → Nat → Prop) (w : World) (pa : Option Addr) (i : Nat) (av x : Option Addr) (p : List Nat) (c : Nat) : Prop where
  cell : ∃ b o, pa = some ⟨b, o, none⟩ ∧ (∃ a, E a b) ∧ w.cell? ⟨b, o + i, none⟩ = some (.slice x p.length c)
  os : SR fns E p.length c av x
  all : AllB p
  lies : YtobpjijdebnaoaaDoorF.Lies w x p
  cap : p.length ≤ c
  most : p.length ≤ 9223372036854775807
theorem lkOf_ok {w : World} {F : Nat → Prop} {pa : Option Addr} {l pc n m0 : Nat} {p : Nat → List Nat} {hc : Nat → Nat} {av ha : Nat → Option Addr} {cs : List Frame} (hw : WR (YtobpjijdebnaoaaDoorQ.Al.progOf Tryd.prog) fns E Z gh w) (hEF : ∀ a b, E a b → F b) (hF : ∀ b, F b → b < w.heap.size) (hl : l ≤ 4096) (hp : ∀ i, i < l → RPg fns E w pa i (av i) (ha i) (p i) (hc i)) : (lkOf w pa l pc n m0 F p hc ha cs).Ok Tryd.prog := by
  have hg : Tryd.prog.globals.size < w.heap.size := hw.rbig
  have k0 := lk0_ok w (.slice pa l pc) l
  have kcell : ∀ x : Addr, x.block < w.heap.size → (lk0 w (.slice pa l pc) l).cell? x = w.cell? x := fun x hx => by unfold World.cell?; rw [k0.old _ hx]
  have ks := k0.size
  refine ⟨k0.h2, k0.h8, .inr (.inl rfl), .inr (.inr rfl), fun b hb => ?_, ⟨?_, ?_, ?_⟩, ?_, fun i hi => ?_, fun i hi => ?_, hl⟩
  · show b < (lk0 w (.slice pa l pc) l).heap.size ∧ b ≠ w.heap.size + 1 ∧ b ≠ w.heap.size + 2 ∧ b ≠ w.heap.size + 3
    rcases hb with hb | hb | hb
    · have := hF b hb; omega
    · omega
    · omega
  · show w.heap.size + 1 < (lk0 w (.slice pa l pc) l).heap.size
    omega
  · show w.heap.size + 2 < (lk0 w (.slice pa l pc) l).heap.size
    omega
  · show w.heap.size + 3 < (lk0 w (.slice pa l pc) l).heap.size
    omega
  · show Tryd.prog.globals.size < (lk0 w (.slice pa l pc) l).heap.size
    omega
  · obtain ⟨b, o, e, hb, hcell⟩ := (hp i hi).cell
    obtain ⟨a, hb⟩ := hb
    exact ⟨b, o, e, .inl (hEF a b hb), (kcell _ (hF b (hEF a b hb))).trans hcell⟩
  · have hpi := hp i hi
    have hopen : ∀ (z : Option Addr) (wx : World), YtobpjijdebnaoaaDoorF.Lies wx z (p i) → Calls Tryd.prog 9 #[.slice z (p i).length (hc i)] wx (fun e _ => ∃ a d c, e = .returned (fv (kdP (p i)) (lbP (p i)) (sqP (p i)) a d c (stP (p i)))) := fun z wx hz => (YtobpjijdebnaoaaDoorF.open_sight z (p i) (hc i) wx hpi.all hz hpi.cap hpi.most).mono fun e w' ⟨a, d, c, h, _⟩ => ⟨a, d, c, h⟩
    by_cases h0 : p i = []
    · have hwr : WR (YtobpjijdebnaoaaDoorQ.Al.progOf Tryd.prog) fns E Z gh (lk0 w (.slice pa l pc) l) := hw.ext (fun _ _ _ => rfl) (fun a b x => k0.old b (hw.lt x).2) (Nat.le_refl _) (by omega)
      refine pgOk_empty (y := lkOf w pa l pc n m0 F p hc ha cs) (av := av i) hwr (fun a b x => .inl (hEF a b x)) (by have := hpi.os; rw [h0] at this; exact this) (by show (p i).length = 0; rw [h0]; rfl) (fun wx => ?_)
      have := hopen (av i) wx (.inl h0)
      rw [show (p i).length = 0 by rw [h0]; rfl] at this
      exact this
    · obtain ⟨b, o, e, hby⟩ := hpi.lies.resolve_left h0
      have hpos : 0 < (p i).length := List.length_pos_iff.2 h0
      have hEb : F b := by
        have hos := hpi.os.resolve_right (fun x => by omega)
        rw [e] at hos
        cases hav : av i with
        | none => rw [hav] at hos; exact hos.elim
        | some a => rw [hav] at hos; exact hEF _ _ hos.1
      have hc0 := hby 0 hpos
      obtain ⟨cc, el, fr, hcc⟩ : ∃ cc el fr, w.heap[b]? = some (.cells cc el fr) := by
        unfold World.cell? at hc0
        cases hh : w.heap[b]? with
        | none => simp [hh] at hc0
        | some ob =>
          cases ob with
          | cells cc el fr => exact ⟨cc, el, fr, rfl⟩
          | _ => simp [hh] at hc0
      have hcl : ∀ j, j < (p i).length → cc[o + j]? = some (.int .u8 (((p i)[j]?.getD 0 : Nat) : Int)) := fun j hj => by
        have := hby j hj
        simpa [World.cell?, hcc] using this
      have hlast := hcl ((p i).length - 1) (by omega)
      have hsz := (Array.getElem?_eq_some_iff.1 hlast).1
      refine pgOk_row (y := lkOf w pa l pc n m0 F p hc ha cs) (ad := ⟨b, o, none⟩) (cc := cc) (el := el) (fr := fr) e (.inl hEb) (by show Tryd.prog.globals.size < (lk0 w (.slice pa l pc) l).heap.size; omega) ((k0.old b (hF b hEb)).trans hcc) (by show o + (p i).length ≤ cc.size; omega) (fun j hj => ⟨_, hcl j hj⟩) (fun wx hx => ?_)
      refine hopen (ha i) wx (.inr ⟨b, o, e, fun j hj => ?_⟩)
      exact (hx j hj).trans ((kcell ⟨b, o + j, none⟩ (hF b hEb)).trans (hby j hj))
end
section
variable {fns : Fx} {Z : Nat → Prop} {Fin : Goroutine → World → Prop} {E : Nat → Nat → Prop} {gh w : World} {c c' : Frame} {cs cs' k : List Frame} {S : Nat → Prop} {gs : Array Goroutine} {d : Nat} {sl : Option (Nat × Nat)} {t : Trace} {q : Nat → Nat}
/-- How it comes back. -/
def Came (fns : Fx) (Z : Nat → Prop) (Fin : Goroutine → World → Prop) (E : Nat → Nat → Prop) (gh w : World) (a : Array Value) (c c' : Frame) (cs cs' : List Frame) (S : Nat → Prop) (gs : Array Goroutine) (d : Nat) (sl : Option (Nat × Nat)) (t : Trace) : Prop :=
  ∃ (v : Value) (gh1 : World), Relation.TransGen (Bf (YtobpjijdebnaoaaDoorQ.Al.progOf Tryd.prog) true) (G (c.finish v) cs, gh1) (G (Frame.enter (YtobpjijdebnaoaaDoorQ.Al.progOf Tryd.prog) 25 a .normal) (c :: cs), gh) ∧ Runs (YtobpjijdebnaoaaDoorQ.Al.progOf Tryd.prog) true Fin (G (c.finish v) cs) gh1 ∧
      ∃ (N : Nat) (gs' : Array Goroutine) (w' : World) (sl' : Option (Nat × Nat)) (t' : Trace) (q' : Nat → Nat) (S' : Nat → Prop) (E1 : Nat → Nat → Prop) (v' : Value),
        runNT Tryd.prog N (crowd gs (w.at d) sl) t = (.next (crowd gs' w' sl'), t') ∧ Bx Tryd.prog S' w'.heap.size (G (c'.finish v') cs') w' gs' t' q' ∧
        VR fns E1 v v' ∧ WR (YtobpjijdebnaoaaDoorQ.Al.progOf Tryd.prog) fns E1 Z gh1 w' ∧ (∀ a b, E a b → E1 a b) ∧ (∀ a b, E1 a b → ¬ S' b) ∧ (∀ b, S' b → b < w'.heap.size) ∧ Stood E Z S w w' E1 S'
theorem came_err {a : Array Value} {o : Obj} {e : Int} {g0 : Goroutine} (hw : WR (YtobpjijdebnaoaaDoorQ.Al.progOf Tryd.prog) fns E Z gh w) (hS : ∀ a b, E a b → ¬ S b) (hSb : ∀ b, S b → b < w.heap.size)
    (hg : ∃ gh1, Relation.TransGen (Bf (YtobpjijdebnaoaaDoorQ.Al.progOf Tryd.prog) true) (G (c.finish (.tuple #[.slice none 0 0, .iface 47 (.int .i64 e)])) cs, gh1) (G (Frame.enter (YtobpjijdebnaoaaDoorQ.Al.progOf Tryd.prog) 25 a .normal) (c :: cs), gh) ∧ Runs (YtobpjijdebnaoaaDoorQ.Al.progOf Tryd.prog) true Fin (G (c.finish (.tuple #[.slice none 0 0, .iface 47 (.int .i64 e)])) cs) gh1 ∧ gh1.heap = gh.heap)
    (hbs : Bs Tryd.prog S w.heap.size g0 w (G (c'.finish (.tuple #[.slice none 0 0, .iface 47 (.int .i64 e)])) cs') { w with heap := w.heap.push o }) (hB : Bx Tryd.prog S w.heap.size g0 w gs t q) : Came fns Z Fin E gh w a c c' cs cs' S gs d sl t := by
  obtain ⟨gh1, t1, r1, hh⟩ := hg
  obtain ⟨N, gs', d', sl', t', q', r, _, hB'⟩ := hbs gs d sl t q hB
  refine ⟨_, gh1, t1, r1, N, gs', _, sl', t', q', S, E, _, r, ⟨hB'.at0, hB'.lv, hB'.past, fun b hb => nor_of hB'.past hb⟩, vr_err E e, ?_, fun _ _ x => x, hS, fun b hb => ?_, ⟨fun b hb _ _ => ?_, by simp [World.at], fun _ _ x => .inl x, fun _ x => .inl x, rfl, rfl, rfl⟩⟩
  · refine hw.ext (fun a b _ => by rw [hh]) (fun a b x => ?_) (by rw [hh]; exact Nat.le_refl _) (by simp [World.at])
    have := (hw.lt x).2
    simp [World.at, Array.getElem?_push, Nat.ne_of_lt this]
  · have := hSb b hb
    simp [World.at]
    omega
  · simp [World.at, Array.getElem?_push, Nat.ne_of_lt hb]
theorem came_pages {L : List YtobpjijdebnaoaaDoorQ.Pg} {pa pa' : Option Addr} {pc m : Nat} (hw : WR (YtobpjijdebnaoaaDoorQ.Al.progOf Tryd.prog) fns E Z gh w) (hS : ∀ a b, E a b → ¬ S b) (hSb : ∀ b, S b → b < w.heap.size) (m1 : 1 ≤ m) (m8 : m ≤ 8) (hl : L.length ≤ 4096) (hL : YtobpjijdebnaoaaDoorQ.Pgs gh pa L) (hOS : SR fns E L.length pc pa pa')
    (hg : ∃ v gh1, Relation.TransGen (Bf (YtobpjijdebnaoaaDoorQ.Al.progOf Tryd.prog) true) (G (c.finish v) cs, gh1) (G (Frame.enter (YtobpjijdebnaoaaDoorQ.Al.progOf Tryd.prog) 25 #[.slice pa L.length pc, .int .i64 (m : Int)] .normal) (c :: cs), gh) ∧ Runs (YtobpjijdebnaoaaDoorQ.Al.progOf Tryd.prog) true Fin (G (c.finish v) cs) gh1 ∧ GhOut gh L v gh1)
    (hB : Bx Tryd.prog S w.heap.size (G (Frame.enter Tryd.prog 25 #[.slice pa' L.length pc, .int .i64 (m : Int)] .normal) (c' :: cs')) w gs t q) : Came fns Z Fin E gh w #[.slice pa L.length pc, .int .i64 (m : Int)] c c' cs cs' S gs d sl t := by
  obtain ⟨v, gh1, t1, r1, hv, hgs1, hgk, gcs, hgrow, hgsz, hgat⟩ := hg
  -- the pages as the real world has them
  have hpg : ∀ i : Nat, ∃ x : Option Addr, i < L.length → RPg fns E w pa' i (YtobpjijdebnaoaaDoorQ.gP L i).a x (YtobpjijdebnaoaaDoorQ.gP L i).p (YtobpjijdebnaoaaDoorQ.gP L i).c := fun i => by
    by_cases hi : i < L.length
    · rcases hL with e | ⟨b, off, rfl, hat⟩
      · rw [e] at hi; cases hi
      · obtain ⟨ad', rfl, hAS⟩ := os_some.1 (hOS.resolve_right (fun x => by omega))
        obtain ⟨hc1, hpg⟩ := hat i hi
        have hoff : ad'.off = off := hAS.2.1.symm
        have hsp : ad'.spot = none := hAS.2.2.1.symm
        obtain ⟨v', g1, g2⟩ := hw.cell (a := ⟨b, off + i, none⟩) (a' := ⟨ad'.block, ad'.off + i, none⟩) ⟨hAS.1, by rw [hoff], rfl, Nat.le_trans hAS.2.2.2 (Nat.le_add_right _ _)⟩ hc1
        obtain ⟨x, rfl, hx⟩ := vr_slice.1 g2
        exact ⟨x, fun _ => ⟨⟨ad'.block, ad'.off, by cases ad'; simp only at hsp; subst hsp; rfl, ⟨b, hAS.1⟩, g1⟩, hx, hpg.all, (real_page hw (hx.elim .inr fun x => .inl (List.eq_nil_of_length_eq_zero x.1)) hpg.lies).1, hpg.cap, hpg.most⟩⟩
    · exact ⟨none, fun x => absurd x hi⟩
  obtain ⟨hax, hax1⟩ := Classical.axiomOfChoice hpg
  have ok := lkOf_ok (pc := pc) (n := m) (m0 := gs.size) (cs := c' :: cs') (p := fun i => (YtobpjijdebnaoaaDoorQ.gP L i).p) (hc := fun i => (YtobpjijdebnaoaaDoorQ.gP L i).c) (av := fun i => (YtobpjijdebnaoaaDoorQ.gP L i).a) (ha := hax) (F := fun b => b < w.heap.size ∧ ¬ S b) hw (fun a b x => ⟨(hw.lt x).2, hS a b x⟩) (fun b h => h.1) hl hax1
  haveI : Payload := ⟨42⟩
  have hElt : ∀ a b, E a b → a < gh.heap.size ∧ b < w.heap.size := fun a b x => hw.lt x
  obtain ⟨N, gs', w', sl', t', q', br, r, _, hB', ho⟩ := look_call (S := S) (B0 := w.heap.size) (d := d) (sl := sl) ok (lkOf_at w pa' L.length pc m gs.size (fun b => b < w.heap.size ∧ ¬ S b) (fun i => (YtobpjijdebnaoaaDoorQ.gP L i).p) (fun i => (YtobpjijdebnaoaaDoorQ.gP L i).c) hax (c' :: cs')) m1 m8 hSb (fun b hb hs => by
    have := hSb b hs
    rcases hb with hb | hb | hb
    · exact hb.2 hs
    · omega
    · omega) (c := c') (k := cs') rfl rfl hB
  obtain ⟨cells, hrow, hcsz, hcat⟩ := ho.row
  have hsame : cells = gcs := same_row (l := L.length) (f := fun i => (YtobpjijdebnaoaaDoorQ.gP L i).p) hgsz hgat hcsz (fun i hi => by
    obtain ⟨c0, c1, c2, c3, c4⟩ := hcat i hi
    exact ⟨c0, c1, c2, c3, c4⟩)
  rw [hsame] at hrow
  have hnew := ho.new
  have hb7 : (lkOf w pa' L.length pc m gs.size (fun b => b < w.heap.size ∧ ¬ S b) (fun i => (YtobpjijdebnaoaaDoorQ.gP L i).p) (fun i => (YtobpjijdebnaoaaDoorQ.gP L i).c) hax (c' :: cs')).b7 = w.heap.size + 2 := rfl
  rw [hb7] at hnew hB'
  have hw1 : WR (YtobpjijdebnaoaaDoorQ.Al.progOf Tryd.prog) fns E Z gh1 w' := hw.ext (fun a b x => hgk a (hElt a b x).1) (fun a b x => ho.keep b (hElt a b x).2 (.inl ⟨(hElt a b x).2, hS a b x⟩)) hgs1 (by omega)
  have hw2 := hw1.row (fun z => Nat.lt_irrefl _ (hw.zlow _ z)) hgrow hrow (fun a b x e => by have := (hElt a b x).1; omega) (fun a b x e => by have := (hElt a b x).2; omega) hw.gbig (Nat.lt_of_lt_of_le hw.rbig hnew.1) (scalar_row hgsz hgat)
  refine ⟨v, gh1, t1, r1, N, gs', w', sl', t', q', _, _, _, r, hB', ?_, hw2, fun a b x => .inl x, fun a b x hs => ?_, fun b hs => ?_, ⟨fun b hb _ hs => ho.keep b hb (.inl ⟨hb, hs⟩), by omega, fun a b x => ?_, fun b hs => ?_, ho.rest⟩⟩
  · rw [hv]
    refine vr_tuple.2 ⟨_, rfl, rfl, fun i h _ => ?_⟩
    simp only [List.size_toArray, List.length_cons, List.length_nil] at h
    match i, h with
    | 0, _ => exact vr_slice.2 ⟨_, rfl, .inl <| os_some.2 ⟨_, rfl, .inr ⟨rfl, rfl⟩, rfl, rfl, Nat.le_of_eq (fns.pl _ (hw.lonz _ fun z => Nat.lt_irrefl _ (hw.zlow _ z)))⟩⟩
    | 1, _ => exact vr_nilIface.2 rfl
  · rcases x with x | ⟨rfl, rfl⟩
    · have := (hElt a b x).2
      exact hs.elim (hS a b x) (by omega)
    · exact hs.elim (fun h => by have := hSb _ h; omega) hnew.2.2.1
  · rcases hs with hs | hs
    · have := hSb b hs; omega
    · omega
  · rcases x with x | ⟨rfl, rfl⟩
    · exact .inl x
    · exact .inr hnew.1
  · rcases hs with hs | hs
    · exact .inl hs
    · exact .inr (by omega)
theorem came_range {pa pa' : Option Addr} {l pc : Nat} {n : Int} (hz : zeros (YtobpjijdebnaoaaDoorQ.Al.progOf Tryd.prog) (fns.own (YtobpjijdebnaoaaDoorQ.Al.progOf Tryd.prog))) (hp : okOne (YtobpjijdebnaoaaDoorQ.Al.progOf Tryd.prog) (fns.own (YtobpjijdebnaoaaDoorQ.Al.progOf Tryd.prog))) (hfo : fns.ok 25 = true) (hw : WR (YtobpjijdebnaoaaDoorQ.Al.progOf Tryd.prog) fns E Z gh w) (hS : ∀ a b, E a b → ¬ S b) (hSb : ∀ b, S b → b < w.heap.size) (hcs : cs = k ++ [trapF]) (hst : Start (YtobpjijdebnaoaaDoorQ.Al.progOf Tryd.prog) (fns.own (YtobpjijdebnaoaaDoorQ.Al.progOf Tryd.prog)) Z (dom E) #[.slice pa l pc, .int .i64 n] gh) (hn : n < 1 ∨ n > 8)
    (hR : Runs (YtobpjijdebnaoaaDoorQ.Al.progOf Tryd.prog) true Fin (G (Frame.enter (YtobpjijdebnaoaaDoorQ.Al.progOf Tryd.prog) 25 #[.slice pa l pc, .int .i64 n] .normal) (c :: cs)) gh)
    (hB : Bx Tryd.prog S w.heap.size (G (Frame.enter Tryd.prog 25 #[.slice pa' l pc, .int .i64 n] .normal) (c' :: cs')) w gs t q) : Came fns Z Fin E gh w #[.slice pa l pc, .int .i64 n] c c' cs cs' S gs d sl t := by
  have hbs := look_range (S := S) (B0 := w.heap.size) (w := w) (y := lkOf w pa' l pc 0 0 (fun _ => False) (fun _ => []) (fun _ => 0) (fun _ => none) (c' :: cs')) rfl hn rfl
  have hg := ghost_err hz hp hfo hcs hst (fun t d => YtobpjijdebnaoaaDoorQ.lookq_range pa l pc n (wOn gh t d) hn) hR
  exact came_err hw hS hSb hg hbs hB
theorem came_full {pa pa' : Option Addr} {l pc m : Nat} (hz : zeros (YtobpjijdebnaoaaDoorQ.Al.progOf Tryd.prog) (fns.own (YtobpjijdebnaoaaDoorQ.Al.progOf Tryd.prog))) (hp : okOne (YtobpjijdebnaoaaDoorQ.Al.progOf Tryd.prog) (fns.own (YtobpjijdebnaoaaDoorQ.Al.progOf Tryd.prog))) (hfo : fns.ok 25 = true) (hw : WR (YtobpjijdebnaoaaDoorQ.Al.progOf Tryd.prog) fns E Z gh w) (hS : ∀ a b, E a b → ¬ S b) (hSb : ∀ b, S b → b < w.heap.size) (hcs : cs = k ++ [trapF]) (hst : Start (YtobpjijdebnaoaaDoorQ.Al.progOf Tryd.prog) (fns.own (YtobpjijdebnaoaaDoorQ.Al.progOf Tryd.prog)) Z (dom E) #[.slice pa l pc, .int .i64 (m : Int)] gh) (h0 : ¬ (m : Int) < 1) (h8 : ¬ (m : Int) > 8) (hl : 4096 < l)
    (hR : Runs (YtobpjijdebnaoaaDoorQ.Al.progOf Tryd.prog) true Fin (G (Frame.enter (YtobpjijdebnaoaaDoorQ.Al.progOf Tryd.prog) 25 #[.slice pa l pc, .int .i64 (m : Int)] .normal) (c :: cs)) gh)
    (hB : Bx Tryd.prog S w.heap.size (G (Frame.enter Tryd.prog 25 #[.slice pa' l pc, .int .i64 (m : Int)] .normal) (c' :: cs')) w gs t q) : Came fns Z Fin E gh w #[.slice pa l pc, .int .i64 (m : Int)] c c' cs cs' S gs d sl t := by
  have hbs := look_full (S := S) (B0 := w.heap.size) (w := w) (y := lkOf w pa' l pc 0 0 (fun _ => False) (fun _ => []) (fun _ => 0) (fun _ => none) (c' :: cs')) rfl (n := m) (by omega) (by omega) hl hSb rfl
  have hg := ghost_err hz hp hfo hcs hst (fun t d => YtobpjijdebnaoaaDoorQ.lookq_full pa l pc m (wOn gh t d) h0 h8 (by omega)) hR
  exact came_err hw hS hSb hg hbs hB
theorem look_all (hz : zeros (YtobpjijdebnaoaaDoorQ.Al.progOf Tryd.prog) (fns.own (YtobpjijdebnaoaaDoorQ.Al.progOf Tryd.prog))) (hp : okOne (YtobpjijdebnaoaaDoorQ.Al.progOf Tryd.prog) (fns.own (YtobpjijdebnaoaaDoorQ.Al.progOf Tryd.prog))) (hfo : fns.ok 25 = true) {pv nv pv' nv' : Value} (hw : WR (YtobpjijdebnaoaaDoorQ.Al.progOf Tryd.prog) fns E Z gh w) (hpv : VR fns E pv pv') (hnv : VR fns E nv nv') (hst : Start (YtobpjijdebnaoaaDoorQ.Al.progOf Tryd.prog) (fns.own (YtobpjijdebnaoaaDoorQ.Al.progOf Tryd.prog)) Z (dom E) #[pv, nv] gh) (hcs : cs = k ++ [trapF]) (hR : Runs (YtobpjijdebnaoaaDoorQ.Al.progOf Tryd.prog) true Fin (G (Frame.enter (YtobpjijdebnaoaaDoorQ.Al.progOf Tryd.prog) 25 #[pv, nv] .normal) (c :: cs)) gh)
    (hS : ∀ a b, E a b → ¬ S b) (hSb : ∀ b, S b → b < w.heap.size) (hB : Bx Tryd.prog S w.heap.size (G (Frame.enter Tryd.prog 25 #[pv', nv'] .normal) (c' :: cs')) w gs t q) : Came fns Z Fin E gh w #[pv, nv] c c' cs cs' S gs d sl t := by
  have hne : c :: cs ≠ [trapF] := by rw [hcs]; intro h; have := congrArg List.length h; simp at this
  have hRT : RT (YtobpjijdebnaoaaDoorQ.Al.progOf Tryd.prog) Fin lookFr (c :: cs) ⟨#[pv, nv] ++ Array.replicate 46 undef, []⟩ [.code YtobpjijdebnaoaaDoorQ.Al.lookB] gh := ⟨hne, rfl, by rw [← look_enter]; exact hR⟩
  have hsl : Sl ⟨#[pv, nv] ++ Array.replicate 46 undef, []⟩ pv nv := ⟨by simp, by kernel_rfl, by kernel_rfl⟩
  have hmet := look_met hw hpv hsl hRT
  clear hRT hsl
  obtain ⟨n, pa, l, pc, e1, e2, hcase⟩ := hmet
  subst e1
  subst e2
  rw [vr_int] at hnv
  subst hnv
  obtain ⟨pa', rfl, hOS⟩ := vr_slice.1 hpv
  rcases hcase with hcase | ⟨h0, h8, hcase⟩
  · exact came_range hz hp hfo hw hS hSb hcs hst hcase hR hB
  · obtain ⟨m, rfl⟩ : ∃ m : Nat, n = (m : Int) := ⟨n.toNat, by omega⟩
    rcases hcase with hcase | ⟨hl, hmet⟩
    · exact came_full hz hp hfo hw hS hSb hcs hst h0 h8 hcase hR hB
    · obtain ⟨L, hLl, hL⟩ := hmet.list
      subst hLl
      exact came_pages hw hS hSb (by omega) (by omega) hl hL hOS (ghost_look hz hp hfo hcs hst h0 h8 hl hL hR) hB
theorem look_jc (v0 : Nat) (o0 : Option Obj) (hj : fns.jf 25 = true) (hre : fns.re (YtobpjijdebnaoaaDoorQ.Al.progOf Tryd.prog) = Tryd.prog) (hz : zeros (YtobpjijdebnaoaaDoorQ.Al.progOf Tryd.prog) (fns.own (YtobpjijdebnaoaaDoorQ.Al.progOf Tryd.prog))) (hp : okOne (YtobpjijdebnaoaaDoorQ.Al.progOf Tryd.prog) (fns.own (YtobpjijdebnaoaaDoorQ.Al.progOf Tryd.prog))) (hfo : fns.ok 25 = true) : JC (YtobpjijdebnaoaaDoorQ.Al.progOf Tryd.prog) fns Z v0 o0 25 := by
  unfold JC
  rw [hre]
  intro Fin E gh w a a' c c' cs cs' S gs d sl t q ha har hgs hw hk hR hB hS hSb _
  obtain ⟨k, hcs⟩ := hk
  have hsz := look_arity fns hj har
  obtain ⟨pv, nv, rfl⟩ := two_args hsz
  obtain ⟨pv', nv', rfl⟩ := two_args (ha.1 ▸ hsz)
  have hpv : VR fns E pv pv' := ha.2 0 (by simp) (by simp)
  have hnv : VR fns E nv nv' := ha.2 1 (by simp) (by simp)
  have hst := start_own ha hgs hw
  exact look_all hz hp hfo hw hpv hnv hst hcs hR hS hSb hB
end
end Go.Proofs.YtobpjijdebnaoaaDoor
