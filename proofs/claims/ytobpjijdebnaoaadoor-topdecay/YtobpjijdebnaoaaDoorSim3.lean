/- Part of the proof. -/
import Derived.Test.YtobpjijdebnaoaaDoorSim2
import GoSem.Builtin.Clear
import Derived.Conc.Listed
namespace Go.Proofs.YtobpjijdebnaoaaDoor
open Go
variable {P : Program} {fns : Fx} {E E' E'' : Nat → Nat → Prop} {Z : Nat → Prop}
/-- Slots that hold where an element or a field of one lies. -/
def idxD (l : List Oper) : List Nat := l.filterMap fun o => match o.op with
  | .indexAddr _ _ _ => o.dst
  | _ => none
def fldD (s : List Nat) (l : List Oper) : List Nat := l.filterMap fun o => match o.op with
  | .fieldAddr _ (.tmp t) _ => if s.contains t then o.dst else none
  | _ => none
def iaOf (c : Code) : List Nat := idxD c.opers ++ fldD (idxD c.opers) c.opers ++ fldD (idxD c.opers ++ fldD (idxD c.opers) c.opers) c.opers
/-- Of function f. -/
def iaF (P : Program) (f : FuncId) (t : Nat) : Bool := match (P.funcs[f]?).bind (·.body) with
  | some c => (iaOf c).contains t
  | none => false
def okOpd (fns : Fx) (ia : Nat → Bool) : Operand → Bool
  | .tmp t => fns.full || !ia t
  | .const v => closed1 v
  | .func f => fns.ok f && !fns.jf f
  | .global g => fns.gl g
/-- An operand as an address. -/
def okAd (fns : Fx) (ia : Nat → Bool) : Operand → Bool
  | .tmp _ => true
  | x => okOpd fns ia x
def elemOK (P : Program) (fns : Fx) (t : TypeId) : Bool := match P.underlying t with
  | some (.slice e) => fns.tys e
  | _ => true
def okConv (P : Program) (src dst : TypeId) : Bool :=
  match P.underlying src, P.underlying dst with
  | some (.int _), some (.int _) => true
  | some (.slice e), some .string => match P.underlying e with
    | some (.int .u8) => true
    | _ => false
  | _, _ => false
/-- A function of Go text that may be called. -/
def okRes (ia : Nat → Bool) : ResultVar → Bool
  | .tmp t => !ia t
  | .cell _ _ => true
/-- It can be entered in the real program. -/
def okRf (fns : Fx) (f : FuncId) : Bool := match fns.rf[f]? with
    | some fn => fn.name != "runtime.NumGoroutine" && fn.body.isSome
    | none => false
def okFn (P : Program) (fns : Fx) (f : FuncId) : Bool :=
  fns.ok f && okRf fns f && match P.funcs[f]? with
    | some fn => fn.name != "runtime.NumGoroutine" && fn.body.isSome && fn.results.all (okRes (iaF P f))
    | none => false
/-- A function that is taken whole is called with as many arguments as it has. -/
def arOK (P : Program) (fns : Fx) (f : FuncId) (n : Nat) : Bool := !fns.jf f || match P.funcs[f]? with
    | some fn => fn.params.size == n
    | none => false
def okCall (P : Program) (fns : Fx) (ia : Nat → Bool) (c : Call) : Bool :=
  c.args.all (okOpd fns ia) && match c.callee with
    | .builtin .len => true
    | .builtin .copy => true
    | .builtin .cap => true
    | .builtin .max => true
    | .builtin .min => true
    | .builtin .clear => match c.argTypes[0]? with
      | some t => elemOK P fns t
      | none => true
    | .builtin .append => (match c.argTypes[0]? with
      | some t => elemOK P fns t
      | none => true) && match c.argTypes[1]? with
      | some t => match P.underlying t with
        | some d => !isInt d
        | none => true
      | none => true
    | .value (.func f) => okFn P fns f && arOK P fns f c.args.size
    | .value (.tmp t) => fns.full || !ia t
    | _ => false
/-- A type that is no interface's. -/
def isOwn (P : Program) (t : TypeId) : Bool := match P.underlying t with
  | some (.interface _) => false
  | _ => true
def okOp (P : Program) (fns : Fx) (ia : Nat → Bool) : Op → Bool
  | .move x | .assign x | .box _ x | .unOp _ _ x | .extract x _ | .makeInterface _ x | .nilCheck x => okOpd fns ia x
  | .pick c a b => okOpd fns ia c && okOpd fns ia a && okOpd fns ia b
  | .alloc t => fns.tys t
  | .build t ps => fns.tys t && ps.all fun p => okOpd fns ia p.2
  | .buildSlice t _ ps => elemOK P fns t && ps.all fun p => okOpd fns ia p.2
  | .load _ x => okAd fns ia x
  | .store _ a v => okAd fns ia a && okOpd fns ia v
  | .makeSlice t a v => elemOK P fns t && okOpd fns ia a && okOpd fns ia v
  | .binOp _ t x y _ => okOpd fns ia x && okOpd fns ia y && eqOK P fns t y
  | .convert s d x => okOpd fns ia x && okConv P s d
  | .slice _ x lo hi mx => okOpd fns ia x && lo.all (okOpd fns ia) && hi.all (okOpd fns ia) && mx.all (okOpd fns ia)
  | .call c => okCall P fns ia c
  | .index _ x i => okOpd fns ia x && okOpd fns ia i
  | .panic x => okOpd fns ia x
  | .field _ x _ => okOpd fns ia x
  | .makeFunc fn a b => plainFn fns fn && a.all (okOpd fns ia) && b.all (okOpd fns ia)
  | .typeAssert x _ t c => okOpd fns ia x && isOwn P t && (!c || fns.tys t)
  | _ => false
def okOper (P : Program) (fns : Fx) (ia : Nat → Bool) (o : Oper) : Bool := match o.op with
  | .indexAddr _ a v => okOpd fns ia a && okOpd fns ia v && (fns.full || o.dst.all ia)
  | .fieldAddr _ x _ => okOpd fns ia x || (okAd fns ia x && o.dst.all ia)
  | op => okOp P fns ia op
def NextR (P : Program) (fns : Fx) (E : Nat → Nat → Prop) : Next → Next → Prop
  | .value v, n' => ∃ v', n' = .value v' ∧ VR fns E v v'
  | .skip, n' => n' = .skip
  | .enter f a, n' => ∃ a', n' = .enter f a' ∧ okFn P fns f = true ∧ AllR fns E a a' ∧ arOK P fns f a.size = true
  | _, _ => False
/-- What an operation gives. -/
def ResR (P : Program) (fns : Fx) (ia : Nat → Bool) (dst : Option Nat) (E : Nat → Nat → Prop) (n n' : Next) : Prop := NextR P fns E n n' ∨ (dst.all ia = true ∧ ∃ v v', n = .value v ∧ n' = .value v' ∧ VZ fns E v v')
theorem elemOK_of {t : TypeId} (h : elemOK P fns t = true) (e : TypeId) (hu : P.underlying t = some (.slice e)) : fns.tys e = true := by
  unfold elemOK at h
  rw [hu] at h
  exact h
theorem Sim.value {s s' : Sem Value} (h : Sim P fns Z E s s' (fun E' v v' => VR fns E' v v')) : Sim P fns Z E (do Pure.pure (Next.value (← s))) (do Pure.pure (Next.value (← s'))) (fun E' n n' => NextR P fns E' n n') :=
  Sim.bind h fun _ _ v' _ hv => Sim.pure ⟨v', rfl, hv⟩
theorem Sim.unit {s s' : Sem Unit} (h : Sim P fns Z E s s' (fun _ _ _ => True)) : Sim P fns Z E (do s; Pure.pure Next.skip) (do s'; Pure.pure Next.skip) (fun E' n n' => NextR P fns E' n n') :=
  Sim.bind h fun _ _ _ _ _ => Sim.pure rfl
theorem allR_cons {v v' : Value} {l l' : List Value} (h : AllR fns E (v :: l).toArray (v' :: l').toArray) : VR fns E v v' ∧ AllR fns E l.toArray l'.toArray :=
  ⟨by simpa using h.2 0 (by simp) (by simp), ⟨by have := h.1; simpa using this, fun j a b => by
    have := h.2 (j + 1) (by simpa using a) (by simpa using b)
    simpa using this⟩⟩
/-- A loop over rows that are alike, whose state is the same. -/
theorem Sim.forIn {σ : Type} {f f' : Value → σ → Sem (ForInStep σ)} (hf : ∀ E c c' r, VR fns E c c' → Sim P fns Z E (f c r) (f' c' r) (fun _ x y => y = x)) :
    ∀ (l l' : List Value) (s : σ) {E : Nat → Nat → Prop}, AllR fns E l.toArray l'.toArray → Sim P fns Z E (ForIn.forIn l s f) (ForIn.forIn l' s f') (fun _ x y => y = x)
  | [], [], s, E, h => by simp only [List.forIn_nil]; exact Sim.pure rfl
  | [], v' :: vs', s, E, h => by have := h.1; simp at this
  | v :: vs, [], s, E, h => by have := h.1; simp at this
  | v :: vs, v' :: vs', s, E, h => by
    obtain ⟨h0, h1⟩ := allR_cons h
    simp only [List.forIn_cons]
    refine Sim.bind (hf E v v' s h0) fun E1 x y up1 e => ?_
    subst e
    cases y with
    | done r => exact Sim.pure rfl
    | yield r => exact Sim.forIn hf vs vs' r (h1.up up1)
theorem Sim.bytesToString {v v' : Value} (hv : VR fns E v v') : Sim P fns Z E (Conv.bytesToString v) (Conv.bytesToString v') (fun E' v v' => VR fns E' v v') := by
  cases v with
  | slice a l c =>
    obtain ⟨b, rfl, hb⟩ := vr_slice.1 hv
    unfold Conv.bytesToString
    rcases hb with hb | ⟨e1, e2, e3⟩
    rotate_left
    · subst e1 e2 e3
      cases a with
      | none => exact Sim.pure (vr_scalar rfl)
      | some a =>
        dsimp only
        refine Sim.bind (Φ := fun E' x x' => AllR fns E' x x') (Sim.pure allR_nil) fun E1 x x' up1 hx => ?_
        refine Sim.bind (Φ := fun _ s s' => s' = s) ?_ fun E2 s s' up2 e => Sim.pure (by rw [e]; exact vr_scalar rfl)
        rw [← Array.forIn_toList, ← Array.forIn_toList]
        refine Sim.forIn (fun E c c' r hc => ?_) _ _ _ (allR_list hx)
        split
        · rw [vr_int] at hc; subst hc; exact Sim.pure rfl
        · exact Sim.stuck
    cases a with
    | none => rw [os_none] at hb; subst hb; exact Sim.pure (vr_scalar rfl)
    | some a =>
      obtain ⟨b', rfl, hb⟩ := os_some.1 hb
      dsimp only
      refine Sim.bind (Sim.loadCells _ hb) fun E1 x x' up1 hx => ?_
      refine Sim.bind (Φ := fun _ s s' => s' = s) ?_ fun E2 s s' up2 e => Sim.pure (by rw [e]; exact vr_scalar rfl)
      rw [← Array.forIn_toList, ← Array.forIn_toList]
      refine Sim.forIn (fun E c c' r hc => ?_) _ _ _ (allR_list hx)
      split
      · rw [vr_int] at hc; subst hc; exact Sim.pure rfl
      · exact Sim.stuck
  | _ => exact Sim.dies (Dies.halt rfl)
theorem Sim.convert {s d : TypeId} (h : okConv P s d = true) {v v' : Value} (hv : VR fns E v v') : Sim P fns Z E (Go.convert s d v) (Go.convert s d v') (fun E' v v' => VR fns E' v v') := by
  unfold Go.convert
  refine Sim.bind (Sim.underlying s) fun E1 x x' up1 e => ?_
  obtain ⟨rfl, h1⟩ := e
  refine Sim.bind (Sim.underlying d) fun E2 y y' up2 e => ?_
  obtain ⟨rfl, h2⟩ := e
  have hv2 := (hv.up up1).up up2
  unfold okConv at h
  rw [h1, h2] at h
  clear h1 h2 hv
  split at h
  · -- between integers
    rename_i e1 e2
    cases e1; cases e2
    cases v with
    | int k n => rw [vr_int] at hv2; subst hv2; exact Sim.pure (vr_scalar rfl)
    | float => exact (vr_float hv2).elim
    | complex => exact (vr_complex hv2).elim
    | pointer a => cases a <;> exact Sim.dies (Dies.halt rfl)
    | slice a l c => cases a <;> exact Sim.dies (Dies.halt rfl)
    | _ => exact Sim.dies (Dies.halt rfl)
  · rename_i e1 e2
    cases e1; cases e2
    split at h
    · rename_i e3
      cases v with
      | int k n => rw [vr_int] at hv2; subst hv2; exact Sim.pure (vr_scalar rfl)
      | string s => rw [vr_string] at hv2; subst hv2; exact Sim.pure (vr_scalar rfl)
      | float => exact (vr_float hv2).elim
      | complex => exact (vr_complex hv2).elim
      | pointer a => obtain ⟨b, rfl, _⟩ := vr_pointer.1 hv2; (refine Sim.bind (Sim.underlying _) fun E3 z z' up3 e => ?_; obtain ⟨rfl, h3⟩ := e; rw [e3] at h3; cases h3; exact Sim.bytesToString (hv2.up up3))
      | slice a l c => obtain ⟨b, rfl, _⟩ := vr_slice.1 hv2; (refine Sim.bind (Sim.underlying _) fun E3 z z' up3 e => ?_; obtain ⟨rfl, h3⟩ := e; rw [e3] at h3; cases h3; exact Sim.bytesToString (hv2.up up3))
      | map r => obtain ⟨rfl, rfl⟩ := vr_map.1 hv2; (refine Sim.bind (Sim.underlying _) fun E3 z z' up3 e => ?_; obtain ⟨rfl, h3⟩ := e; rw [e3] at h3; cases h3; exact Sim.bytesToString (hv2.up up3))
      | chan r => obtain ⟨rfl, rfl⟩ := vr_chan.1 hv2; (refine Sim.bind (Sim.underlying _) fun E3 z z' up3 e => ?_; obtain ⟨rfl, h3⟩ := e; rw [e3] at h3; cases h3; exact Sim.bytesToString (hv2.up up3))
      | func f x y => obtain ⟨x', y', rfl, _⟩ := vr_func.1 hv2; (refine Sim.bind (Sim.underlying _) fun E3 z z' up3 e => ?_; obtain ⟨rfl, h3⟩ := e; rw [e3] at h3; cases h3; exact Sim.bytesToString (hv2.up up3))
      | iface t u => obtain ⟨u', rfl, _⟩ := vr_iface.1 hv2; (refine Sim.bind (Sim.underlying _) fun E3 z z' up3 e => ?_; obtain ⟨rfl, h3⟩ := e; rw [e3] at h3; cases h3; exact Sim.bytesToString (hv2.up up3))
      | agg x => obtain ⟨x', rfl, _⟩ := vr_agg.1 hv2; (refine Sim.bind (Sim.underlying _) fun E3 z z' up3 e => ?_; obtain ⟨rfl, h3⟩ := e; rw [e3] at h3; cases h3; exact Sim.bytesToString (hv2.up up3))
      | tuple x => obtain ⟨x', rfl, _⟩ := vr_tuple.1 hv2; (refine Sim.bind (Sim.underlying _) fun E3 z z' up3 e => ?_; obtain ⟨rfl, h3⟩ := e; rw [e3] at h3; cases h3; exact Sim.bytesToString (hv2.up up3))
      | bool b => have := hv2; rw [VR] at this; subst this; (refine Sim.bind (Sim.underlying _) fun E3 z z' up3 e => ?_; obtain ⟨rfl, h3⟩ := e; rw [e3] at h3; cases h3; exact Sim.bytesToString (hv2.up up3))
      | nilFunc => have := hv2; rw [VR] at this; subst this; (refine Sim.bind (Sim.underlying _) fun E3 z z' up3 e => ?_; obtain ⟨rfl, h3⟩ := e; rw [e3] at h3; cases h3; exact Sim.bytesToString (hv2.up up3))
      | nilIface => have := hv2; rw [VR] at this; subst this; (refine Sim.bind (Sim.underlying _) fun E3 z z' up3 e => ?_; obtain ⟨rfl, h3⟩ := e; rw [e3] at h3; cases h3; exact Sim.bytesToString (hv2.up up3))
    · cases h
  · cases h
theorem partsR {ia : Nat → Bool} {ρ ρ' : Operand → Value} (hρ : ∀ x, okOpd fns ia x = true → VR fns E (ρ x) (ρ' x)) : ∀ (l : List (Nat × Operand)), (l.all fun p => okOpd fns ia p.2) = true → PartsR fns E (l.map fun p => (p.1, ρ p.2)) (l.map fun p => (p.1, ρ' p.2))
  | [], _ => ⟨rfl, allR_nil⟩
  | (i, x) :: l, h => by
    simp only [List.all_cons, Bool.and_eq_true] at h
    have ih := partsR hρ l h.2
    refine ⟨by simp, ?_⟩
    have := (allR_one (hρ x h.1)).append ih.2
    simpa using this
theorem argsR {ia : Nat → Bool} {ρ ρ' : Operand → Value} (hρ : ∀ x, okOpd fns ia x = true → VR fns E (ρ x) (ρ' x)) (x : Array Operand) (h : x.all (okOpd fns ia) = true) : AllR fns E (x.map ρ) (x.map ρ') := by
  refine ⟨by simp, fun i a b => ?_⟩
  simp only [Array.getElem_map]
  rw [Array.all_eq_true] at h
  exact hρ _ (h i (by simpa using a))
theorem optR {ia : Nat → Bool} {ρ ρ' : Operand → Value} (hρ : ∀ x, okOpd fns ia x = true → VR fns E (ρ x) (ρ' x)) (x : Option Operand) (h : x.all (okOpd fns ia) = true) : OptR fns E (x.map ρ) (x.map ρ') := by
  cases x with
  | none => trivial
  | some x => exact hρ _ h
theorem Sim.callFunc {f : FuncId} (h : okFn P fns f = true) {a a' : Array Value} (ha : AllR fns E a a') (har : arOK P fns f a.size = true) : Sim P fns Z E (Go.callFunc f a) (Go.callFunc f a') (fun E' n n' => NextR P fns E' n n') := by
  unfold Go.callFunc
  refine Sim.bind Sim.program fun E1 p q up1 e => ?_
  obtain ⟨rfl, rfl⟩ := e
  have h0 := h
  unfold okFn okRf at h
  rw [show (fns.re p).funcs = fns.rf from rfl]
  cases hf : p.funcs[f]? with
  | none => rw [hf] at h; simp at h
  | some fn =>
    cases hg : fns.rf[f]? with
    | none => rw [hg] at h; simp at h
    | some fn' =>
      rw [hf, hg] at h
      simp only [Bool.and_eq_true, bne_iff_ne, ne_eq] at h
      obtain ⟨⟨h1, h5, h6⟩, ⟨h2, h3⟩, _⟩ := h
      have e1 : (fn.name == "runtime.NumGoroutine") = false := by simpa using h2
      have e2 : fn.body.isNone = false := by cases hb : fn.body <;> simp_all
      have e3 : (fn'.name == "runtime.NumGoroutine") = false := by simpa using h5
      have e4 : fn'.body.isNone = false := by cases hb : fn'.body <;> simp_all
      simp only [e1, e2, e3, e4, Bool.false_eq_true, if_false]
      exact Sim.pure ⟨a', rfl, h0, ha.up up1, har⟩
theorem Sim.makeInterface (t : TypeId) {v v' : Value} (hv : VR fns E v v') : Sim P fns Z E (Instr.makeInterface t v) (Instr.makeInterface t v') (fun E' v v' => VR fns E' v v') := by
  unfold Instr.makeInterface
  refine Sim.bind (Sim.underlying t) fun E1 x x' up1 e => ?_
  obtain ⟨rfl, _⟩ := e
  cases x' <;> first | exact Sim.stuck | exact Sim.pure (vr_iface.2 ⟨_, rfl, hv.up up1⟩)
/-- A call of a function value. -/
theorem Sim.callValue (hfn : ∀ f, fns.ok f = true → okFn P fns f = true) {v v' : Value} (hv : VR fns E v v') {a a' : Array Value} (ha : AllR fns E a a') :
    Sim P fns Z E (Deferred.ofValue v a >>= fun d => Go.invoke d.target d.args) (Deferred.ofValue v' a' >>= fun d => Go.invoke d.target d.args) (fun E' n n' => NextR P fns E' n n') := by
  cases v with
  | func f x y =>
    obtain ⟨x', y', rfl, h1, h2, h3⟩ := vr_func.1 hv
    cases f with
    | func f =>
      rw [plainFn, Bool.and_eq_true] at h1
      have := Sim.callFunc (P := P) (Z := Z) (E := E) (hfn f h1.1) ((h2.append ha).append h3) (by unfold arOK; rw [h1.2]; rfl)
      exact this
    | _ => cases h1
  | nilFunc =>
    rw [vr_nilFunc] at hv
    subst hv
    have : Dies P (runtimePanic .nilDeref : Sem Next) := Dies.runtimePanic _
    exact Sim.dies this
  | _ => exact Sim.dies (Dies.halt rfl)
theorem Sim.index (t : TypeId) {v v' x x' : Value} (hv : VR fns E v v') (hx : VR fns E x x') : Sim P fns Z E (Instr.index t v x) (Instr.index t v' x') (fun E' v v' => VR fns E' v v') := by
  unfold Instr.index
  refine Sim.bind (Sim.asIntOf hx) fun E1 n n' up1 e => ?_
  subst e
  dsimp only
  refine Sim.bind (Sim.underlying t) fun E2 d d' up2 e => ?_
  obtain ⟨rfl, hd⟩ := e
  have hv2 := (hv.up up1).up up2
  cases v with
  | string s =>
    rw [vr_string] at hv2
    subst hv2
    cases d' with
    | string =>
      dsimp only
      split
      · exact Sim.pure (vr_scalar rfl)
      · exact Sim.dies (Dies.boundsPanic _ _ _ _)
    | _ => exact Sim.dies Dies.stuck
  | agg xs =>
    obtain ⟨xs', rfl, hxs⟩ := vr_agg.1 hv2
    cases d' with
    | array len elem =>
      dsimp only
      split
      · refine Sim.bind (Sim.sizeOf elem) fun E3 k k' up3 e => ?_
        subst e
        exact Sim.part elem (AllR.up hxs up3) _
      · exact Sim.dies (Dies.boundsPanic _ _ _ _)
    | _ => exact Sim.dies Dies.stuck
  | _ => cases d' <;> exact Sim.dies Dies.stuck
theorem vr_unit : VR fns E (.tuple #[]) (.tuple #[]) := vr_tuple.2 ⟨_, rfl, ⟨rfl, fun i a _ => absurd a (by simp)⟩⟩
theorem Sim.clear (hz : zeros P fns) (ts : Array TypeId) (t : TypeId) (ht : ∀ t e, ts[0]? = some t → P.underlying t = some (.slice e) → fns.tys e = true) {x x' : Array Value} (hx : AllR fns E x x') : Sim P fns Z E (Builtin.clear_ ts t x) (Builtin.clear_ ts t x') (fun E' v v' => VR fns E' v v') := by
  unfold Builtin.clear_
  cases h0 : x[0]? with
  | none => cases ts[0]? <;> exact Sim.dies Dies.stuck
  | some v =>
    obtain ⟨v', h1, hv⟩ := hx.get? 0 h0
    rw [h1]
    cases hts : ts[0]? with
    | none => exact Sim.dies Dies.stuck
    | some ty =>
      refine Sim.bind (Sim.underlying ty) fun E1 d d' up1 e => ?_
      obtain ⟨rfl, hd⟩ := e
      have fin : Sim P fns Z E1 (Pure.pure (Value.tuple #[])) (Pure.pure (Value.tuple #[])) (fun E' v v' => VR fns E' v v') := Sim.pure vr_unit
      cases v with
      | map r => obtain ⟨rfl, rfl⟩ := vr_map.1 hv; exact fin
      | slice a n c =>
        obtain ⟨b, rfl, hb⟩ := vr_slice.1 hv
        rcases hb with hb | ⟨e1, e2, e3⟩
        rotate_left
        · subst e1 e2 e3
          cases a <;> exact fin
        cases a with
        | none => rw [os_none] at hb; subst hb; exact fin
        | some a =>
          obtain ⟨b', rfl, hb⟩ := os_some.1 hb
          cases n with
          | zero => exact fin
          | succ n =>
            cases d' with
            | slice e =>
              dsimp only
              refine Sim.bind (Sim.zeroValue hz e (ht ty e hts hd)) fun E2 z z' up2 hzz => ?_
              obtain ⟨rfl, hcl⟩ := hzz
              exact Sim.bind (Sim.storeCells _ _ 0 ((hb.up up1).up up2) (allR_list (allR_zeroCells (closed_cells hcl) _))) fun _ _ _ _ _ => Sim.pure vr_unit
            | _ => exact Sim.dies Dies.stuck
      | _ => exact Sim.dies Dies.stuck
theorem Sim.max2 {x x' y y' : Value} (hx : VR fns E x x') (hy : VR fns E y y') : Sim P fns Z E (Builtin.max2 x y) (Builtin.max2 x' y') (fun E' v v' => VR fns E' v v') := by
  cases x with
  | int k n =>
    rw [vr_int] at hx
    subst hx
    cases y with
    | int k' m => rw [vr_int] at hy; subst hy; exact Sim.pure (vr_scalar rfl)
    | pointer a => cases a <;> exact Sim.dies (Dies.halt rfl)
    | _ => exact Sim.dies (Dies.halt rfl)
  | string s =>
    rw [vr_string] at hx
    subst hx
    cases y with
    | string s' =>
      rw [vr_string] at hy
      subst hy
      unfold Builtin.max2
      refine Sim.bind (Sim.stringOp _ _ _) fun E1 v v' up1 hv => ?_
      refine Sim.bind (Sim.asBool hv) fun E2 b b' up2 e => ?_
      subst e
      exact Sim.pure (vr_scalar rfl)
    | pointer a => cases a <;> exact Sim.dies (Dies.halt rfl)
    | _ => exact Sim.dies (Dies.halt rfl)
  | float => exact (vr_float hx).elim
  | pointer a =>
    cases a with
    | some a => cases y <;> exact Sim.dies (Dies.halt rfl)
    | none =>
      cases y with
      | pointer b => cases b <;> exact Sim.dies (Dies.halt rfl)
      | _ => exact Sim.dies (Dies.halt rfl)
  | _ =>
    cases y with
    | pointer b => cases b <;> exact Sim.dies (Dies.halt rfl)
    | _ => exact Sim.dies (Dies.halt rfl)
theorem Sim.min2 {x x' y y' : Value} (hx : VR fns E x x') (hy : VR fns E y y') : Sim P fns Z E (Builtin.min2 x y) (Builtin.min2 x' y') (fun E' v v' => VR fns E' v v') := by
  cases x with
  | int k n =>
    rw [vr_int] at hx
    subst hx
    cases y with
    | int k' m => rw [vr_int] at hy; subst hy; exact Sim.pure (vr_scalar rfl)
    | pointer a => cases a <;> exact Sim.dies (Dies.halt rfl)
    | _ => exact Sim.dies (Dies.halt rfl)
  | string s =>
    rw [vr_string] at hx
    subst hx
    cases y with
    | string s' =>
      rw [vr_string] at hy
      subst hy
      unfold Builtin.min2
      refine Sim.bind (Sim.stringOp _ _ _) fun E1 v v' up1 hv => ?_
      refine Sim.bind (Sim.asBool hv) fun E2 b b' up2 e => ?_
      subst e
      exact Sim.pure (vr_scalar rfl)
    | pointer a => cases a <;> exact Sim.dies (Dies.halt rfl)
    | _ => exact Sim.dies (Dies.halt rfl)
  | float => exact (vr_float hx).elim
  | pointer a =>
    cases a with
    | some a => cases y <;> exact Sim.dies (Dies.halt rfl)
    | none =>
      cases y with
      | pointer b => cases b <;> exact Sim.dies (Dies.halt rfl)
      | _ => exact Sim.dies (Dies.halt rfl)
  | _ =>
    cases y with
    | pointer b => cases b <;> exact Sim.dies (Dies.halt rfl)
    | _ => exact Sim.dies (Dies.halt rfl)
theorem Sim.foldR {f : Value → Value → Sem Value} (hf : ∀ {E : Nat → Nat → Prop} {x x' y y' : Value}, VR fns E x x' → VR fns E y y' → Sim P fns Z E (f x y) (f x' y') (fun E' v v' => VR fns E' v v')) :
    ∀ (l l' : List Value) {E : Nat → Nat → Prop} {x x' : Value}, AllR fns E l.toArray l'.toArray → VR fns E x x' → Sim P fns Z E (l.foldlM f x) (l'.foldlM f x') (fun E' v v' => VR fns E' v v')
  | [], [], E, x, x', h, hx => by simp only [List.foldlM_nil]; exact Sim.pure hx
  | [], v' :: vs', E, x, x', h, hx => by have := h.1; simp at this
  | v :: vs, [], E, x, x', h, hx => by have := h.1; simp at this
  | v :: vs, v' :: vs', E, x, x', h, hx => by
    obtain ⟨h0, h1⟩ := allR_cons h
    simp only [List.foldlM_cons]
    exact Sim.bind (hf hx h0) fun E1 r r' up1 hr => Sim.foldR hf vs vs' (h1.up up1) hr
theorem Sim.max (ts : Array TypeId) (t : TypeId) {a a' : Array Value} (ha : AllR fns E a a') : Sim P fns Z E (Builtin.max_ ts t a) (Builtin.max_ ts t a') (fun E' v v' => VR fns E' v v') := by
  have hl := allR_list ha
  unfold Builtin.max_
  generalize a.toList = l at hl
  generalize a'.toList = l' at hl
  cases l with
  | nil => exact Sim.dies (Dies.halt rfl)
  | cons v vs =>
    cases l' with
    | nil => have := hl.1; simp at this
    | cons v' vs' => obtain ⟨h0, h1⟩ := allR_cons hl; exact Sim.foldR (fun hx hy => Sim.max2 hx hy) vs vs' h1 h0
theorem Sim.min (ts : Array TypeId) (t : TypeId) {a a' : Array Value} (ha : AllR fns E a a') : Sim P fns Z E (Builtin.min_ ts t a) (Builtin.min_ ts t a') (fun E' v v' => VR fns E' v v') := by
  have hl := allR_list ha
  unfold Builtin.min_
  generalize a.toList = l at hl
  generalize a'.toList = l' at hl
  cases l with
  | nil => exact Sim.dies (Dies.halt rfl)
  | cons v vs =>
    cases l' with
    | nil => have := hl.1; simp at this
    | cons v' vs' => obtain ⟨h0, h1⟩ := allR_cons hl; exact Sim.foldR (fun hx hy => Sim.min2 hx hy) vs vs' h1 h0
theorem Sim.field (t : TypeId) {v v' : Value} (hv : VR fns E v v') (i : Nat) : Sim P fns Z E (Instr.field t v i) (Instr.field t v' i) (fun E' v v' => VR fns E' v v') := by
  unfold Instr.field
  refine Sim.bind (Sim.underlying t) fun E1 d d' up1 e => ?_
  obtain ⟨rfl, _⟩ := e
  have hv1 := hv.up up1
  cases d' with
  | struct fs =>
    dsimp only
    cases fs[i]? with
    | none => exact Sim.dies Dies.stuck
    | some f =>
      cases v with
      | agg xs =>
        obtain ⟨xs', rfl, hxs⟩ := vr_agg.1 hv1
        exact Sim.part f.type hxs f.offset
      | _ => exact Sim.dies (Dies.bind Dies.stuck)
  | _ => exact Sim.dies Dies.stuck
theorem Sim.makeFunc {fn : Fn} (hf : plainFn fns fn = true) {a a' b b' : Array Value} (ha : AllR fns E a a') (hb : AllR fns E b b') : Sim P fns Z E (Instr.makeFunc fn a b) (Instr.makeFunc fn a' b') (fun E' v v' => VR fns E' v v') := by
  unfold Instr.makeFunc
  exact Sim.pure (vr_func.2 ⟨_, _, rfl, hf, ha, hb⟩)
theorem Sim.typeAssert (xt : TypeId) {t : TypeId} (h : isOwn P t = true) {x x' : Value} (hx : VR fns E x x') : Sim P fns Z E (Instr.typeAssert x xt t false) (Instr.typeAssert x' xt t false) (fun E' v v' => VR fns E' v v') := by
  unfold Instr.typeAssert
  refine Sim.bind (Sim.underlying t) fun E1 d d' up1 e => ?_
  obtain ⟨rfl, hd⟩ := e
  have hni : ∀ ms, d' ≠ .interface ms := fun ms e => by
    unfold isOwn at h
    rw [hd, e] at h
    cases h
  have hx1 := hx.up up1
  cases x with
  | iface u v =>
    obtain ⟨v', rfl, hv⟩ := vr_iface.1 hx1
    cases d' with
    | interface ms => exact (hni ms rfl).elim
    | _ =>
      dsimp only
      simp only [Bool.false_eq_true, if_false]
      split
      · exact Sim.pure hv
      · exact Sim.dies (Dies.runtimePanic _)
  | nilIface =>
    cases d' with
    | interface ms => exact (hni ms rfl).elim
    | _ => dsimp only; simp only [Bool.false_eq_true, if_false]; exact Sim.dies (Dies.runtimePanic _)
  | _ =>
    cases d' with
    | interface ms => exact (hni ms rfl).elim
    | _ => exact Sim.dies (Dies.halt rfl)
theorem allR_two {a a' b b' : Value} (ha : VR fns E a a') (hb : VR fns E b b') : AllR fns E #[a, b] #[a', b'] := by
  refine ⟨rfl, fun i h _ => ?_⟩
  simp only [List.size_toArray, List.length_cons, List.length_nil] at h
  match i, h with
  | 0, _ => exact ha
  | 1, _ => exact hb
/-- .. where it also tells if it holds. -/
theorem Sim.typeAssertOk (hz : zeros P fns) (xt : TypeId) {t : TypeId} (h : isOwn P t = true) (ht : fns.tys t = true) {x x' : Value} (hx : VR fns E x x') : Sim P fns Z E (Instr.typeAssert x xt t true) (Instr.typeAssert x' xt t true) (fun E' v v' => VR fns E' v v') := by
  unfold Instr.typeAssert
  refine Sim.bind (Sim.underlying t) fun E1 d d' up1 e => ?_
  obtain ⟨rfl, hd⟩ := e
  have hni : ∀ ms, d' ≠ .interface ms := fun ms e => by
    unfold isOwn at h
    rw [hd, e] at h
    cases h
  have hx1 := hx.up up1
  have hno : Sim P fns Z E1 (do Pure.pure (Value.tuple #[← Go.zeroValue t, .bool false])) (do Pure.pure (Value.tuple #[← Go.zeroValue t, .bool false])) (fun E' v v' => VR fns E' v v') :=
    Sim.bind (Sim.zeroValue hz t ht) fun E2 z z' _ hzz => Sim.pure (vr_tuple.2 ⟨_, rfl, allR_two (by rw [hzz.1]; exact vr_closed hzz.2) (vr_scalar rfl)⟩)
  cases x with
  | iface u v =>
    obtain ⟨v', rfl, hv⟩ := vr_iface.1 hx1
    cases d' with
    | interface ms => exact (hni ms rfl).elim
    | _ =>
      dsimp only
      simp only [if_true]
      split
      · exact Sim.pure (vr_tuple.2 ⟨_, rfl, allR_two hv (vr_scalar rfl)⟩)
      · exact hno
  | nilIface =>
    cases d' with
    | interface ms => exact (hni ms rfl).elim
    | _ => dsimp only; simp only [if_true]; rw [vr_nilIface.1 hx1]; exact hno
  | _ =>
    cases d' with
    | interface ms => exact (hni ms rfl).elim
    | _ => exact Sim.dies (Dies.halt rfl)
theorem lives_panicnil (gh : World) : (∃ a w, (Instr.panicnil).run P gh = .ok a w) ∨ ∃ h w, (Instr.panicnil).run P gh = .halt h w ∧ dead h = true := by
  unfold Instr.panicnil
  rw [Sem.run_bind]
  have hs : (Go.sys .env).run P gh = .ok (gh.sys .env).1 (gh.sys .env).2 := rfl
  rw [hs, Result.andThen_ok]
  generalize (gh.sys .env).1 = r
  generalize (gh.sys .env).2 = w
  cases r with
  | strings env => exact .inl ⟨_, _, rfl⟩
  | _ => exact .inr ⟨_, _, rfl, rfl⟩
theorem Dies.panicV (v : Value) : Dies P (Instr.panic v) := by
  unfold Instr.panic
  cases v with
  | iface t u => exact Dies.panic
  | nilIface =>
    refine Dies.bind2 (lives_panicnil) fun b => ?_
    split
    · exact Dies.panic
    · exact Dies.runtimePanic _
  | _ => exact Dies.halt rfl
theorem Sim.execOp1 (hz : zeros P fns) (hdep : 0 < P.depth) (hfn : ∀ f, fns.ok f = true → okFn P fns f = true) {ia : Nat → Bool} {ρ ρ' : Operand → Value} (hρ : ∀ x, okOpd fns ia x = true → VR fns E (ρ x) (ρ' x)) (hρz : ∀ x, okAd fns ia x = true → VZ fns E (ρ x) (ρ' x)) (hc : ∀ v, ρ (.const v) = v) (hf : ∀ f, ρ (.func f) = .func (.func f) #[] #[] ∧ ρ' (.func f) = .func (.func f) #[] #[])
    (o : Oper) (ho : okOp P fns ia o.op = true) : Sim P fns Z E (Go.execOp ρ o) (Go.execOp ρ' o) (fun E' n n' => NextR P fns E' n n') := by
  unfold Go.execOp
  dsimp only
  cases hop : o.op with
  | move x => rw [hop] at ho; exact Sim.pure ⟨_, rfl, hρ x ho⟩
  | assign x => rw [hop] at ho; exact Sim.pure ⟨_, rfl, hρ x ho⟩
  | pick c a b =>
    rw [hop] at ho
    simp only [okOp, Bool.and_eq_true] at ho
    refine Sim.bind (Sim.asBool (hρ c ho.1.1)) fun E1 r r' up1 e => ?_
    subst e
    refine Sim.pure ⟨_, rfl, ?_⟩
    split
    · exact (hρ a ho.1.2).up up1
    · exact (hρ b ho.2).up up1
  | alloc t => rw [hop] at ho; exact Sim.value (Sim.alloc hz t ho)
  | box t x => rw [hop] at ho; exact Sim.value (Sim.box t (hρ x ho))
  | build t ps => rw [hop] at ho; simp only [okOp, Bool.and_eq_true] at ho; exact Sim.value (Sim.build hz t ho.1 (by simpa using partsR hρ ps.toList (by simpa using ho.2)))
  | buildSlice t n ps => rw [hop] at ho; simp only [okOp, Bool.and_eq_true] at ho; exact Sim.value (Sim.buildSlice hz t (elemOK_of ho.1) n (by simpa using partsR hρ ps.toList (by simpa using ho.2)))
  | load t a => rw [hop] at ho; exact Sim.value (Sim.loadAt t (hρz a ho))
  | store t a v => rw [hop] at ho; simp only [okOp, Bool.and_eq_true] at ho; exact Sim.unit (Sim.storeAt t (hρz a ho.1) (hρ v ho.2))
  | binOp op t x y yt =>
    rw [hop] at ho
    simp only [okOp, Bool.and_eq_true] at ho
    have hy : ∀ v, y = .const v → ρ y = v := fun v e => by rw [e, hc]
    exact Sim.value (Sim.bind (Sim.guardOK hdep op t x y ho.2 (hρ x ho.1.1) (hρ y ho.1.2) hy) fun E1 _ _ up1 _ => Sim.binOp op t y ho.2 ((hρ x ho.1.1).up up1) ((hρ y ho.1.2).up up1) hy)
  | unOp op t x => rw [hop] at ho; exact Sim.value (Sim.unary op (hρ x ho))
  | convert s d x => rw [hop] at ho; simp only [okOp, Bool.and_eq_true] at ho; exact Sim.value (Sim.convert ho.2 (hρ x ho.1))
  | makeSlice t l c => rw [hop] at ho; simp only [okOp, Bool.and_eq_true] at ho; exact Sim.value (Sim.makeSlice hz t (elemOK_of ho.1.1) (hρ l ho.1.2) (hρ c ho.2))
  | slice t x lo hi mx =>
    rw [hop] at ho
    simp only [okOp, Bool.and_eq_true] at ho
    exact Sim.value (Sim.sliceAt t (hρ x ho.1.1.1) (optR hρ lo ho.1.1.2) (optR hρ hi ho.1.2) (optR hρ mx ho.2))
  | extract x i => rw [hop] at ho; exact Sim.value (Sim.extract (hρ x ho) i)
  | index t x i => rw [hop] at ho; simp only [okOp, Bool.and_eq_true] at ho; exact Sim.value (Sim.index t (hρ x ho.1) (hρ i ho.2))
  | call c =>
    rw [hop] at ho
    simp only [okOp, okCall, Bool.and_eq_true] at ho
    obtain ⟨h1, h2⟩ := ho
    have ha := argsR hρ c.args h1
    show Sim P fns Z E (Go.resolve ρ c o.type >>= fun d => Go.invoke d.target d.args) (Go.resolve ρ' c o.type >>= fun d => Go.invoke d.target d.args) _
    unfold Go.resolve
    split at h2
    · rename_i hcal
      rw [hcal]
      exact Sim.value (Sim.len _ _ ha)
    · rename_i hcal
      rw [hcal]
      exact Sim.value (Sim.copy _ _ ha)
    · rename_i hcal
      rw [hcal]
      exact Sim.value (Sim.cap _ _ ha)
    · rename_i hcal
      rw [hcal]
      exact Sim.value (Sim.max _ _ ha)
    · rename_i hcal
      rw [hcal]
      exact Sim.value (Sim.min _ _ ha)
    · rename_i hcal
      rw [hcal]
      exact Sim.value (Sim.clear hz _ _ (fun t e h0 hu => by rw [h0] at h2; exact elemOK_of h2 e hu) ha)
    · rename_i hcal
      rw [hcal]
      rw [Bool.and_eq_true] at h2
      refine Sim.value (Sim.append hz _ _ (fun ty e e1 e2 => ?_) (fun xt d e1 e2 => ?_) ha)
      · have := h2.1
        rw [e1] at this
        exact elemOK_of this e e2
      · have := h2.2
        rw [e1] at this
        simp only [e2] at this
        simpa using this
    · rename_i f hcal
      rw [hcal]
      dsimp only
      rw [(hf f).1, (hf f).2]
      rw [Bool.and_eq_true] at h2
      have := Sim.callFunc (P := P) (Z := Z) (E := E) h2.1 ((allR_nil.append ha).append allR_nil) (by simpa using h2.2)
      exact this
    · rename_i tm hcal
      rw [hcal]
      exact Sim.callValue hfn (hρ (.tmp tm) h2) ha
    · cases h2
  | makeInterface t x => rw [hop] at ho; exact Sim.value (Sim.makeInterface t (hρ x ho))
  | panic x => exact Sim.dies (Dies.bind (Dies.panicV _))
  | field t x i => rw [hop] at ho; exact Sim.value (Sim.field t (hρ x ho) i)
  | makeFunc fn a b =>
    rw [hop] at ho
    simp only [okOp, Bool.and_eq_true] at ho
    exact Sim.value (Sim.makeFunc ho.1.1 (argsR hρ a ho.1.2) (argsR hρ b ho.2))
  | typeAssert x xt t c =>
    rw [hop] at ho
    simp only [okOp, Bool.and_eq_true] at ho
    cases c with
    | false => exact Sim.value (Sim.typeAssert xt ho.1.2 (hρ x ho.1.1))
    | true => exact Sim.value (Sim.typeAssertOk hz xt ho.1.2 (by simpa using ho.2) (hρ x ho.1.1))
  | nilCheck x =>
    rw [hop] at ho
    have hv := hρ x ho
    dsimp only
    generalize ρ x = v at hv
    generalize ρ' x = v' at hv
    cases v with
    | pointer a =>
      obtain ⟨b, rfl, hb⟩ := vr_pointer.1 hv
      cases a with
      | none => exact Sim.dies (Dies.runtimePanic _)
      | some a => obtain ⟨b', rfl, _⟩ := oa_some.1 hb; exact Sim.pure ⟨_, rfl, hv⟩
    | nilIface => exact Sim.dies (Dies.runtimePanic _)
    | nilFunc => exact Sim.dies (Dies.runtimePanic _)
    | func f x y =>
      obtain ⟨x', y', rfl, h1, _⟩ := vr_func.1 hv
      cases f with
      | func f => exact Sim.pure ⟨_, rfl, hv⟩
      | _ => cases h1
    | slice a l c => obtain ⟨b, rfl, hb⟩ := vr_slice.1 hv; exact Sim.pure ⟨_, rfl, hv⟩
    | map r => obtain ⟨rfl, rfl⟩ := vr_map.1 hv; exact Sim.pure ⟨_, rfl, hv⟩
    | chan r => obtain ⟨rfl, rfl⟩ := vr_chan.1 hv; exact Sim.pure ⟨_, rfl, hv⟩
    | iface t u => obtain ⟨u', rfl, _⟩ := vr_iface.1 hv; exact Sim.pure ⟨_, rfl, hv⟩
    | agg x => obtain ⟨x', rfl, _⟩ := vr_agg.1 hv; exact Sim.pure ⟨_, rfl, hv⟩
    | tuple x => obtain ⟨x', rfl, _⟩ := vr_tuple.1 hv; exact Sim.pure ⟨_, rfl, hv⟩
    | float => exact (vr_float hv).elim
    | complex => exact (vr_complex hv).elim
    | bool b => rw [vr_bool] at hv; subst hv; exact Sim.pure ⟨_, rfl, vr_scalar rfl⟩
    | int k n => rw [vr_int] at hv; subst hv; exact Sim.pure ⟨_, rfl, vr_scalar rfl⟩
    | string s => rw [vr_string] at hv; subst hv; exact Sim.pure ⟨_, rfl, vr_scalar rfl⟩
  | _ => rw [hop] at ho; cases ho
theorem Sim.execOp (hz : zeros P fns) (hdep : 0 < P.depth) (hfn : ∀ f, fns.ok f = true → okFn P fns f = true) {ia : Nat → Bool} {ρ ρ' : Operand → Value} (hρ : ∀ x, okOpd fns ia x = true → VR fns E (ρ x) (ρ' x)) (hρz : ∀ x, okAd fns ia x = true → VZ fns E (ρ x) (ρ' x)) (hc : ∀ v, ρ (.const v) = v) (hf : ∀ f, ρ (.func f) = .func (.func f) #[] #[] ∧ ρ' (.func f) = .func (.func f) #[] #[])
    (o : Oper) (ho : okOper P fns ia o = true) : Sim P fns Z E (Go.execOp ρ o) (Go.execOp ρ' o) (fun E' n n' => ResR P fns ia o.dst E' n n') := by
  have plain : okOp P fns ia o.op = true → Sim P fns Z E (Go.execOp ρ o) (Go.execOp ρ' o) (fun E' n n' => ResR P fns ia o.dst E' n n') := fun h => (Sim.execOp1 hz hdep hfn hρ hρz hc hf o h).mono fun _ _ _ _ h => .inl h
  have valZ : ∀ {s s' : Sem Value}, o.dst.all ia = true → Sim P fns Z E s s' (fun E' v v' => VZ fns E' v v') → Sim P fns Z E (do Pure.pure (Next.value (← s))) (do Pure.pure (Next.value (← s'))) (fun E' n n' => ResR P fns ia o.dst E' n n') := fun hd h =>
    Sim.bind h fun _ v v' _ hv => Sim.pure (.inr ⟨hd, v, v', rfl, rfl, hv⟩)
  unfold okOper at ho
  split at ho
  · rename_i t a v hop
    simp only [Bool.and_eq_true] at ho
    unfold Go.execOp
    dsimp only
    rw [hop]
    by_cases hfull : fns.full = true
    · exact (Sim.value ((Sim.indexAt t (hρ a ho.1.1) (hρ v ho.1.2)).mono fun _ _ _ _ h => h.full hfull)).mono fun _ _ _ _ h => .inl h
    · exact valZ (by have := ho.2; simpa [hfull] using this) (Sim.indexAt t (hρ a ho.1.1) (hρ v ho.1.2))
  · rename_i t x f hop
    simp only [Bool.or_eq_true, Bool.and_eq_true] at ho
    unfold Go.execOp
    dsimp only
    rw [hop]
    rcases ho with ho | ho
    · exact (Sim.value (Sim.fieldAt t (hρ x ho) f)).mono fun _ _ _ _ h => .inl h
    · exact valZ ho.2 (Sim.fieldAtZ t (hρz x ho.1) f)
  · exact plain ho
end Go.Proofs.YtobpjijdebnaoaaDoor
namespace Go.Proofs.YtobpjijdebnaoaaDoor
open Go Go.Conc
variable {P : Program} {E E' E'' : Nat → Nat → Prop} {Z : Nat → Prop} {fns : Fx}
def okCode (P : Program) (fns : Fx) (ia : Nat → Bool) : Code → Bool
  | .skip | .exit _ | .label _ | .goto _ | .ret => true
  | .region _ ops _ => ops.all fun o => okOper P fns ia o
  | .seq a b => okCode P fns ia a && okCode P fns ia b
  | .cond c a b => okOpd fns ia c && okCode P fns ia a && okCode P fns ia b
  | .block _ b | .loop b | .scope b => okCode P fns ia b
  | _ => false
def okItem (P : Program) (fns : Fx) (ia : Nat → Bool) : Item → Bool
  | .code c | .inLoop c | .inScope c => okCode P fns ia c
  | .inBlock _ => true
  | .inRegion ops _ => ops.all fun o => okOper P fns ia o
  | _ => false
/-- Every function that may be called is of such text. -/
def okProg (P : Program) (fns : Fx) : Prop := (∀ f, fns.ok f = true → okFn P fns f = true) ∧ (∀ f fn c, fns.ok f = true → P.funcs[f]? = some fn → fn.body = some c → okCode P fns (iaF P f) c = true) ∧ ∀ f, fns.ok f = true → fns.jf f = false → fns.rf[f]? = P.funcs[f]?
/-- One program alone, all of it gone through step by step. -/
def okOne (P : Program) (fns : Fx) : Prop := okProg P fns ∧ fns.re P = P ∧ ∀ f, fns.jf f = false
/-- Slots that are alike. -/
def TR (fns : Fx) (ia : Nat → Bool) (E : Nat → Nat → Prop) (x x' : Array Value) : Prop := x.size = x'.size ∧ ∀ i (h : i < x.size) (h' : i < x'.size), VR fns E x[i] x'[i] ∨ (ia i = true ∧ VZ fns E x[i] x'[i])
section
variable {ia : Nat → Bool} {x x' : Array Value}
theorem TR.up (h : TR fns ia E x x') (hE : ∀ a b, E a b → E' a b) : TR fns ia E' x x' := ⟨h.1, fun i a b => (h.2 i a b).imp (·.up hE) fun y => ⟨y.1, y.2.up hE⟩⟩
theorem TR.of (h : AllR fns E x x') : TR fns ia E x x' := ⟨h.1, fun i a b => .inl (h.2 i a b)⟩
theorem TR.get? (h : TR fns ia E x x') (i : Nat) {v : Value} (hv : x[i]? = some v) : ∃ v', x'[i]? = some v' ∧ (VR fns E v v' ∨ (ia i = true ∧ VZ fns E v v')) := by
  obtain ⟨hi, rfl⟩ := Array.getElem?_eq_some_iff.1 hv
  exact ⟨x'[i]'(h.1 ▸ hi), Array.getElem?_eq_getElem _, h.2 i hi _⟩
theorem TR.none (h : TR fns ia E x x') (i : Nat) (hv : x[i]? = none) : x'[i]? = none := by
  rw [Array.getElem?_eq_none_iff] at hv ⊢; have := h.1; omega
theorem TR.getD (h : TR fns ia E x x') (i : Nat) (hi : ia i = false) {d : Value} (hd : VR fns E d d) : VR fns E (x.getD i d) (x'.getD i d) := by
  simp only [Array.getD_eq_getD_getElem?]
  cases hx : x[i]? with
  | none => rw [h.none i hx]; exact hd
  | some v =>
    obtain ⟨v', e, r⟩ := h.get? i hx
    rw [e]
    rcases r with r | ⟨r, _⟩
    · exact r
    · rw [hi] at r; cases r
theorem TR.getF (h : TR fns ia E x x') (hf : fns.full = true) (i : Nat) {d : Value} (hd : VR fns E d d) : VR fns E (x.getD i d) (x'.getD i d) := by
  simp only [Array.getD_eq_getD_getElem?]
  cases hx : x[i]? with
  | none => rw [h.none i hx]; exact hd
  | some v =>
    obtain ⟨v', e, r⟩ := h.get? i hx
    rw [e]
    exact r.elim id fun y => y.2.full hf
theorem TR.getZ (h : TR fns ia E x x') (i : Nat) {d : Value} (hd : VR fns E d d) : VZ fns E (x.getD i d) (x'.getD i d) := by
  simp only [Array.getD_eq_getD_getElem?]
  cases hx : x[i]? with
  | none => rw [h.none i hx]; exact .inl hd
  | some v =>
    obtain ⟨v', e, r⟩ := h.get? i hx
    rw [e]
    exact r.elim .inl (·.2)
theorem TR.setZ (h : TR fns ia E x x') (i : Nat) {v v' : Value} (hv : VR fns E v v' ∨ (ia i = true ∧ VZ fns E v v')) : TR fns ia E (x.setIfInBounds i v) (x'.setIfInBounds i v') := by
  refine ⟨by simp [h.1], fun j a b => ?_⟩
  simp only [Array.size_setIfInBounds] at a b
  rw [Array.getElem_setIfInBounds, Array.getElem_setIfInBounds]
  split
  · rename_i e; subst e; exact hv
  · exact h.2 j a b
theorem VZ.eq {v v' : Value} (h : VZ fns E v v') (hE : ∀ a b, E a b → a = b) : v' = v := by
  rcases h with h | ⟨a, b, rfl, rfl, h⟩
  · exact h.eq hE
  · rw [AS.eq h hE]
theorem TR.eq (h : TR fns ia E x x') (hE : ∀ a b, E a b → a = b) : x' = x := Array.ext h.1.symm fun i a b => (h.2 i b a).elim (·.eq hE) (·.2.eq hE)
end
/-- Frames that are alike; the real one has k0 behind what the ghost has to do. -/
structure FR (P : Program) (fns : Fx) (E : Nat → Nat → Prop) (k0 : List Item) (fr fr' : Frame) : Prop where
  fn : fr'.fn = fr.fn
  tmps : TR fns (iaF P fr.fn) E fr.tmps fr'.tmps
  todo : fr'.todo = fr.todo ++ k0
  ok : fr.todo.all (okItem P fns (iaF P fr.fn)) = true
  d : fr.defers = []
  d' : fr'.defers = []
  mode : fr'.mode = fr.mode
  runs : fr.mode = .run ∨ fr.mode = .returning
  k : fr.kind = .normal
  k' : fr'.kind = .normal
  r : fr.roundOf = none
  r' : fr'.roundOf = none
  func : ∃ fn, P.funcs[fr.fn]? = some fn ∧ fn.results.all (okRes (iaF P fr.fn)) = true
  same : fns.rf[fr.fn]? = P.funcs[fr.fn]?
  gs : ∀ g, fns.gl g = true → E g g ∧ fns.pt g = true
theorem FR.up {k0 : List Item} {fr fr' : Frame} (h : FR P fns E k0 fr fr') (hE : ∀ a b, E a b → E' a b) : FR P fns E' k0 fr fr' := { h with tmps := h.tmps.up hE, gs := fun g hg => ⟨hE _ _ (h.gs g hg).1, (h.gs g hg).2⟩ }
/-- It stands at an operation (a call that has not come back). -/
def atOp (fr : Frame) : Prop := ∃ ops i rest k, fr.todo = .inRegion ops (i :: rest) :: k
/-- Only the lowest frame has more behind it. -/
def kap (L : List (Frame × Frame)) (k0 : List Item) : List Item := if L.isEmpty then k0 else []
def FL (P : Program) (fns : Fx) (E : Nat → Nat → Prop) (k0 : List Item) : List (Frame × Frame) → Prop
  | [] => True
  | p :: L => (FR P fns E (kap L k0) p.1 p.2 ∧ atOp p.1) ∧ FL P fns E k0 L
/-- Goroutines that are alike above T, K. -/
def GR (P : Program) (fns : Fx) (E : Nat → Nat → Prop) (k0 : List Item) (T K : List Frame) (g g' : Goroutine) : Prop :=
  ∃ (fr fr' : Frame) (L : List (Frame × Frame)), g = G fr (L.map (·.1) ++ T) ∧ g' = G fr' (L.map (·.2) ++ K) ∧ FR P fns E (kap L k0) fr fr' ∧ FL P fns E k0 L
/-- A function is entered that is not gone through step by step. -/
def JR (P : Program) (fns : Fx) (E : Nat → Nat → Prop) (k0 : List Item) (T K : List Frame) (g g' : Goroutine) : Prop :=
  ∃ (f : FuncId) (a a' : Array Value) (fr fr' : Frame) (L : List (Frame × Frame)), fns.jf f = true ∧ okFn P fns f = true ∧ (AllR fns E a a' ∧ arOK P fns f a.size = true) ∧ g = G (Frame.enter P f a .normal) (fr :: (L.map (·.1) ++ T)) ∧ g' = G (Frame.enter (fns.re P) f a' .normal) (fr' :: (L.map (·.2) ++ K)) ∧
    (FR P fns E (kap L k0) fr fr' ∧ atOp fr) ∧ FL P fns E k0 L
theorem FL.up {k0 : List Item} (hE : ∀ a b, E a b → E' a b) : ∀ {L : List (Frame × Frame)}, FL P fns E k0 L → FL P fns E' k0 L
  | [], _ => trivial
  | _ :: _, h => ⟨⟨h.1.1.up hE, h.1.2⟩, FL.up hE h.2⟩
/-- A frame without deferred calls of a function that there is. -/
def bareF (P : Program) (fr : Frame) : Prop := fr.defers = [] ∧ ∃ fn, P.funcs[fr.fn]? = some fn
/-- It panics, and nobody above T recovers. -/
def Doomed (P : Program) (T : List Frame) (g : Goroutine) : Prop :=
  ∃ (fr : Frame) (L : List Frame) (chain : List PanicEntry), g = G fr (L ++ T) ∧ fr.mode = .panicking chain ∧ bareF P fr ∧ ∀ f ∈ L, bareF P f
theorem FR.bare {k0 : List Item} {fr fr' : Frame} (h : FR P fns E k0 fr fr') : bareF P fr := ⟨h.d, h.func.imp fun _ x => x.1⟩
theorem FL.bare {k0 : List Item} : ∀ {L : List (Frame × Frame)}, FL P fns E k0 L → ∀ f ∈ L.map (·.1), bareF P f
  | [], _, f, hf => by simp at hf
  | p :: L, h, f, hf => by
    rcases List.mem_cons.1 hf with rfl | hf
    · exact h.1.1.bare
    · exact FL.bare h.2 f hf
theorem FR.eval {k0 : List Item} {fr fr' : Frame} (h : FR P fns E k0 fr fr') (x : Operand) (hx : okOpd fns (iaF P fr.fn) x = true) : VR fns E (fr.eval x) (fr'.eval x) := by
  cases x with
  | tmp t =>
    by_cases hfull : fns.full = true
    · exact h.tmps.getF hfull t vr_undef
    · exact h.tmps.getD t (by simpa [okOpd, hfull] using hx) vr_undef
  | const v => exact vr_closed hx
  | global g => exact vr_pointer.2 ⟨_, rfl, oa_some.2 ⟨_, rfl, (h.gs g hx).1, rfl, rfl, (h.gs g hx).2⟩⟩
  | func f => exact vr_func.2 ⟨_, _, rfl, hx, allR_nil, allR_nil⟩
theorem FR.evalZ {k0 : List Item} {fr fr' : Frame} (h : FR P fns E k0 fr fr') (x : Operand) (hx : okAd fns (iaF P fr.fn) x = true) : VZ fns E (fr.eval x) (fr'.eval x) := by
  cases x with
  | tmp t => exact h.tmps.getZ t vr_undef
  | _ => exact .inl (h.eval _ hx)
theorem exitTo_app {id : Nat} (k0 : List Item) : ∀ {k k' : List Item}, exitTo id k = some k' → exitTo id (k ++ k0) = some (k' ++ k0)
  | [], k', h => by simp [exitTo] at h
  | i :: k, k', h => by
    cases i with
    | inBlock id' =>
      simp only [exitTo, List.cons_append] at h ⊢
      split at h
      · cases h; simp_all
      · rename_i hne; simp only [hne]; exact exitTo_app k0 h
    | _ => simp only [exitTo, List.cons_append] at h ⊢; exact exitTo_app k0 h
theorem ok_exitTo {ia : Nat → Bool} {id : Nat} : ∀ {k k' : List Item}, k.all (okItem P fns ia) = true → exitTo id k = some k' → k'.all (okItem P fns ia) = true
  | [], k', _, h => by simp [exitTo] at h
  | i :: k, k', hk, h => by
    simp only [List.all_cons, Bool.and_eq_true] at hk
    unfold exitTo at h
    split at h
    · split at h
      · cases h; exact (by rename_i e; cases e; exact hk.2)
      · rename_i e _; cases e; exact ok_exitTo hk.2 h
    · rename_i e; cases e; exact ok_exitTo hk.2 h
    · rename_i e; cases e
theorem ok_findLabel {ia : Nat → Bool} {l : Nat} : ∀ {c r : Code}, okCode P fns ia c = true → findLabel c l = some r → okCode P fns ia r = true := by
  intro c
  induction c with
  | seq a b iha ihb =>
    intro r hc h
    simp only [okCode, Bool.and_eq_true] at hc
    unfold findLabel at h
    split at h
    · rename_i rest hr
      cases h
      simp only [okCode, Bool.and_eq_true]
      exact ⟨iha hc.1 hr, hc.2⟩
    · exact ihb hc.2 h
  | label l' =>
    intro r hc h
    unfold findLabel at h
    split at h
    · cases h; rfl
    · cases h
  | _ => intro r hc h; simp [findLabel] at h
theorem gotoIn_app {l : Nat} (k0 : List Item) : ∀ {k k' : List Item}, gotoIn l k = some k' → gotoIn l (k ++ k0) = some (k' ++ k0)
  | [], k', h => by simp [gotoIn] at h
  | i :: k, k', h => by
    cases i with
    | inScope body =>
      simp only [gotoIn, List.cons_append] at h ⊢
      cases hr : findLabel body l with
      | some rest => rw [hr] at h; cases h; rfl
      | none => rw [hr] at h; exact gotoIn_app k0 h
    | _ => simp only [gotoIn, List.cons_append] at h ⊢; exact gotoIn_app k0 h
theorem ok_gotoIn {ia : Nat → Bool} {l : Nat} : ∀ {k k' : List Item}, k.all (okItem P fns ia) = true → gotoIn l k = some k' → k'.all (okItem P fns ia) = true
  | [], k', _, h => by simp [gotoIn] at h
  | i :: k, k', hk, h => by
    have hk0 := hk
    simp only [List.all_cons, Bool.and_eq_true] at hk
    unfold gotoIn at h
    split at h
    · rename_i body k2 e
      cases e
      split at h
      · rename_i rest hr
        cases h
        simp only [List.all_cons, Bool.and_eq_true]
        exact ⟨ok_findLabel (c := body) hk.1 hr, hk.1, hk.2⟩
      · exact ok_gotoIn hk.2 h
    · rename_i e; cases e; exact ok_gotoIn hk.2 h
    · rename_i e; cases e
variable {P : Program} {E E' E'' : Nat → Nat → Prop} {Z : Nat → Prop} {fns : Fx} {T K : List Frame} {main : Bool} {gh re : World} {k0 : List Item}
/-- The real step answers the ghost's. -/
def Ans (P : Program) (fns : Fx) (Z : Nat → Prop) (k0 : List Item) (T K : List Frame) (E : Nat → Nat → Prop) (gh re : World) (g1 : Goroutine) (gh' : World) (s' : GStep) : Prop :=
  Same gh gh' re → ∃ E' g1' re' es', s' = .go g1' re' es' ∧ Out P fns E E' Z gh re gh' re' ∧ (GR P fns E' k0 T K g1 g1' ∨ JR P fns E' k0 T K g1 g1') ∧ ∀ e ∈ es', EvOK E' Z e
def StepOK (P : Program) (fns : Fx) (Z : Nat → Prop) (k0 : List Item) (T K : List Frame) (E : Nat → Nat → Prop) (gh re : World) (s s' : GStep) : Prop :=
  match s with
  | .go g1 gh' _ => Ans P fns Z k0 T K E gh re g1 gh' s' ∨ Doomed P T g1 ∨ ∃ c v, T = [c] ∧ g1 = G (c.finish v) []
  | .ended _ _ _ => True
  | _ => False
theorem FR.to {kk : List Item} {fr fr' : Frame} (h : FR P fns E kk fr fr') {k : List Item} (hk : k.all (okItem P fns (iaF P fr.fn)) = true) : FR P fns E kk { fr with todo := k } { fr' with todo := k ++ kk } :=
  { h with todo := rfl, ok := hk }
theorem ans_to {fr fr' : Frame} {L : List (Frame × Frame)} (hF : FR P fns E (kap L k0) fr fr') (hL : FL P fns E k0 L) (hw : WR P fns E Z gh re) {k : List Item} (hk : k.all (okItem P fns (iaF P fr.fn)) = true) :
    Ans P fns Z k0 T K E gh re (G { fr with todo := k } (L.map (·.1) ++ T)) gh (.go (G { fr' with todo := k ++ kap L k0 } (L.map (·.2) ++ K)) re) :=
  fun _ => ⟨E, _, re, #[], rfl, Out.refl hw, .inl ⟨_, _, L, rfl, rfl, hF.to hk, hL⟩, fun e he => by simp at he⟩
theorem ans_ret {fr fr' : Frame} {L : List (Frame × Frame)} (hF : FR P fns E (kap L k0) fr fr') (hL : FL P fns E k0 L) (hw : WR P fns E Z gh re) :
    Ans P fns Z k0 T K E gh re (G { fr with mode := .returning } (L.map (·.1) ++ T)) gh (.go (G { fr' with mode := .returning } (L.map (·.2) ++ K)) re) :=
  fun _ => ⟨E, _, re, #[], rfl, Out.refl hw, .inl ⟨_, _, L, rfl, rfl, { hF with mode := rfl, runs := .inr rfl }, hL⟩, fun e he => by simp at he⟩
theorem FR.finishZ {kk : List Item} {fr fr' : Frame} (h : FR P fns E kk fr fr') {ops : Array Oper} {i : Nat} {rest : List Nat} {k : List Item} (ht : fr.todo = .inRegion ops (i :: rest) :: k) {v v' : Value} (hv : VR fns E v v' ∨ (((ops[i]?).bind (·.dst)).all (iaF P fr.fn) = true ∧ VZ fns E v v')) : FR P fns E kk (fr.finish v) (fr'.finish v') := by
  have ht' : fr'.todo = .inRegion ops (i :: rest) :: (k ++ kk) := by rw [h.todo, ht]; rfl
  have hok := h.ok
  rw [ht] at hok
  simp only [List.all_cons, Bool.and_eq_true] at hok
  have e1 : fr.finish v = { fr with tmps := (match (ops[i]?).bind (·.dst) with | some d => fr.tmps.setIfInBounds d v | none => fr.tmps), todo := .inRegion ops rest :: k } := by
    unfold Frame.finish; simp only [ht]; cases (ops[i]?).bind (·.dst) <;> rfl
  have e2 : fr'.finish v' = { fr' with tmps := (match (ops[i]?).bind (·.dst) with | some d => fr'.tmps.setIfInBounds d v' | none => fr'.tmps), todo := .inRegion ops rest :: (k ++ kk) } := by
    unfold Frame.finish; simp only [ht']; cases (ops[i]?).bind (·.dst) <;> rfl
  rw [e1, e2]
  refine { h with todo := rfl, tmps := ?_, ok := ?_ }
  rotate_left
  · simp only [List.all_cons, Bool.and_eq_true]; exact ⟨hok.1, hok.2⟩
  · dsimp only
    split
    · rename_i d hd
      refine h.tmps.setZ _ (hv.imp id fun y => ⟨?_, y.2⟩)
      have := y.1
      rw [hd] at this
      exact this
    · exact h.tmps
theorem FR.finish {kk : List Item} {fr fr' : Frame} (h : FR P fns E kk fr fr') {ops : Array Oper} {i : Nat} {rest : List Nat} {k : List Item} (ht : fr.todo = .inRegion ops (i :: rest) :: k) {v v' : Value} (hv : VR fns E v v') : FR P fns E kk (fr.finish v) (fr'.finish v') := h.finishZ ht (.inl hv)
theorem FR.enter (hp : okProg P fns) {f : FuncId} (hf : okFn P fns f = true) (hj : fns.jf f = false) (hgs : ∀ g, fns.gl g = true → E g g ∧ fns.pt g = true) {a a' : Array Value} (ha : AllR fns E a a') : FR P fns E [] (Frame.enter P f a .normal) (Frame.enter (fns.re P) f a' .normal) := by
  unfold okFn at hf
  cases hfn : P.funcs[f]? with
  | none => rw [hfn] at hf; simp at hf
  | some fn =>
    rw [hfn] at hf
    simp only [Bool.and_eq_true] at hf
    obtain ⟨⟨h1, _⟩, ⟨h2, h3⟩, h4⟩ := hf
    obtain ⟨c, hc⟩ := Option.isSome_iff_exists.1 h3
    have hsame := hp.2.2 f h1 hj
    have hre : (fns.re P).funcs[f]? = some fn := hsame.trans hfn
    refine ⟨rfl, ?_, ?_, ?_, rfl, rfl, rfl, .inl rfl, rfl, rfl, rfl, rfl, ⟨fn, hfn, h4⟩, hsame, hgs⟩
    · refine TR.of ?_
      show AllR fns E (a ++ _) (a' ++ _)
      rw [ha.1, hre, hfn]
      exact ha.append (AllR.rep vr_undef)
    · show [_] = [_] ++ []
      rw [hre, hfn]
      rfl
    · show (List.all [_] _) = true
      simp only [List.all_cons, List.all_nil, Bool.and_true, hfn, Option.bind_some, hc, Option.getD_some]
      exact hp.2.1 f fn c h1 hfn hc
theorem yielded_vr {v v' : Value} (hv : VR fns E v v') : (match some v' with | some (Value.bool b) => some b | _ => none) = (match some v with | some (Value.bool b) => some b | _ => none) := by
  cases v with
  | bool b => rw [vr_bool] at hv; subst hv; rfl
  | pointer a => obtain ⟨b, rfl, _⟩ := vr_pointer.1 hv; rfl
  | slice a l c => obtain ⟨b, rfl, _⟩ := vr_slice.1 hv; rfl
  | map r => obtain ⟨_, rfl⟩ := vr_map.1 hv; rfl
  | chan r => obtain ⟨_, rfl⟩ := vr_chan.1 hv; rfl
  | func f x y => obtain ⟨x', y', rfl, _⟩ := vr_func.1 hv; rfl
  | iface t u => obtain ⟨u', rfl, _⟩ := vr_iface.1 hv; rfl
  | agg x => obtain ⟨x', rfl, _⟩ := vr_agg.1 hv; rfl
  | tuple x => obtain ⟨x', rfl, _⟩ := vr_tuple.1 hv; rfl
  | float => exact (vr_float hv).elim
  | complex => exact (vr_complex hv).elim
  | _ => rw [VR] at hv; subst hv; rfl
theorem yielded_alike {ia : Nat → Bool} {x x' : Array Value} (h : TR fns ia E x x') (ops : Array Oper) : yielded ops x' = yielded ops x := by
  funext j
  unfold yielded
  cases (ops[j]?).bind (·.dst) with
  | none => rfl
  | some d =>
    simp only [Option.bind_some]
    cases hx : x[d]? with
    | none => rw [h.none d hx]
    | some v =>
      obtain ⟨v', e, hv⟩ := h.get? d hx
      rw [e]
      rcases hv with hv | ⟨_, hv⟩
      rotate_left
      · rcases hv with hv | ⟨a, b, rfl, rfl, _⟩
        · exact yielded_vr hv
        · rfl
      exact yielded_vr hv
theorem raise_bare {fr : Frame} (h : bareF P fr) (vs : List PanicEntry) : ∃ ch, (fr.raise vs).mode = .panicking ch ∧ bareF P (fr.raise vs) := by
  unfold Frame.raise
  split
  · exact ⟨_, rfl, h⟩
  · exact ⟨_, rfl, h⟩
/-- An operation that is carried out. -/
theorem apply_sim (hp : okProg P fns) {fr fr' : Frame} {L : List (Frame × Frame)} (hF : FR P fns E (kap L k0) fr fr') (hL : FL P fns E k0 L) (hw : WR P fns E Z gh re)
    {ops : Array Oper} {i : Nat} {rest : List Nat} {k : List Item} (ht : fr.todo = .inRegion ops (i :: rest) :: k) {s s' : Sem Next} (hs : Sim P fns Z E s s' (fun E' n n' => ResR P fns (iaF P fr.fn) ((ops[i]?).bind (·.dst)) E' n n')) :
    StepOK P fns Z k0 T K E gh re (stepG.apply P true fr (L.map (·.1) ++ T) none s gh) (stepG.apply (fns.re P) true fr' (L.map (·.2) ++ K) none s' re) := by
  have ht' : fr'.todo = .inRegion ops (i :: rest) :: (k ++ kap L k0) := by rw [hF.todo, ht]; rfl
  have hk : (fr.kind == CallKind.early) = false := by rw [hF.k]; rfl
  have hk' : (fr'.kind == CallKind.early) = false := by rw [hF.k']; rfl
  have hnext : ∀ n gh', s.run P gh = .ok n gh' → ∃ E' n', ResR P fns (iaF P fr.fn) ((ops[i]?).bind (·.dst)) E' n n' := fun n gh' e => by
    have h := hs gh { re with tape := fun i => gh.tape (gh.drawn + (i - re.drawn)) } ⟨hw.zlow, hw.lonz, hw.gbig, hw.rbig, hw.glob, hw.inj, hw.cells⟩
    rw [e] at h
    obtain ⟨E', n', _, _, _, hn, _⟩ := h (fun j _ => by simp)
    exact ⟨E', n', hn⟩
  have hs := hs gh re hw
  unfold stepG.apply
  simp only [Sem.runT_eq, if_true, hk, hk', ht, ht', Bool.false_eq_true, if_false]
  cases hr : s.run P gh with
  | halt h w =>
    rw [hr] at hs
    simp only at hs
    cases h with
    | panic v =>
      obtain ⟨ch, h1, h2⟩ := raise_bare hF.bare [{ v, recovered := false }]
      exact .inr (.inl ⟨fr.raise [{ v, recovered := false }], L.map (·.1), ch, rfl, h1, h2, hL.bare⟩)
    | stuck w => exact trivial
    | unsupported u =>
      cases u with
      | initOrder g => cases hs
      | _ => exact trivial
    | _ => cases hs
  | ok n gh' =>
    rw [hr] at hs
    simp only at hs
    cases n with
    | value v =>
      refine .inl fun same => ?_
      obtain ⟨E', n', re', e1, e2, hn, e4⟩ := hs same
      obtain ⟨v', rfl, hv⟩ : ∃ v', n' = .value v' ∧ (VR fns E' v v' ∨ (((ops[i]?).bind (·.dst)).all (iaF P fr.fn) = true ∧ VZ fns E' v v')) := by
        rcases hn with ⟨v', rfl, hv⟩ | ⟨hd, u, v', h1, rfl, hv⟩
        · exact ⟨v', rfl, .inl hv⟩
        · cases h1; exact ⟨v', rfl, .inr ⟨hd, hv⟩⟩
      rw [e1]
      exact ⟨E', _, re', _, rfl, e2, .inl ⟨_, _, L, rfl, rfl, (hF.up e2.up).finishZ ht hv, hL.up e2.up⟩, fun e he => (e4 #[] e (mem_seen (by simpa [GStep.after] using he))).resolve_left (by simp)⟩
    | skip =>
      refine .inl fun same => ?_
      obtain ⟨E', n', re', e1, e2, e3, e4⟩ := hs same
      obtain rfl : n' = .skip := by
        rcases e3 with h | ⟨_, u, v', h1, _⟩
        · exact h
        · cases h1
      rw [e1]
      exact ⟨E', _, re', _, rfl, e2, .inl ⟨_, _, L, rfl, rfl, (hF.up e2.up).finish ht vr_undef, hL.up e2.up⟩, fun e he => (e4 #[] e (mem_seen (by simpa [GStep.after] using he))).resolve_left (by simp)⟩
    | enter f a =>
      refine .inl fun same => ?_
      obtain ⟨E', n', re', e1, e2, hn, e4⟩ := hs same
      obtain ⟨a', rfl, hf, ha, har⟩ : ∃ a', n' = .enter f a' ∧ okFn P fns f = true ∧ AllR fns E' a a' ∧ arOK P fns f a.size = true := by
        rcases hn with h | ⟨_, u, v', h1, _⟩
        · exact h
        · cases h1
      rw [e1]
      have hgr : GR P fns E' k0 T K (G (Frame.enter P f a .normal) (fr :: (L.map (·.1) ++ T))) (G (Frame.enter (fns.re P) f a' .normal) (fr' :: (L.map (·.2) ++ K))) ∨ JR P fns E' k0 T K (G (Frame.enter P f a .normal) (fr :: (L.map (·.1) ++ T))) (G (Frame.enter (fns.re P) f a' .normal) (fr' :: (L.map (·.2) ++ K))) := by
        cases hj : fns.jf f with
        | false => exact .inl ⟨_, _, (fr, fr') :: L, rfl, rfl, FR.enter hp hf hj (hF.up e2.up).gs ha, ⟨hF.up e2.up, _, _, _, _, ht⟩, hL.up e2.up⟩
        | true => exact .inr ⟨f, a, a', fr, fr', L, hj, hf, ⟨ha, har⟩, rfl, rfl, ⟨hF.up e2.up, _, _, _, _, ht⟩, hL.up e2.up⟩
      exact ⟨E', _, re', _, rfl, e2, hgr, fun e he => (e4 #[] e (mem_seen (by simpa [GStep.after] using he))).resolve_left (by simp)⟩
    | _ =>
      obtain ⟨_, _, h⟩ := hnext _ _ hr
      rcases h with h | ⟨_, u, v', h1, _⟩
      · exact h.elim
      · cases h1
theorem Sim.asAddrZ {v v' : Value} (hv : VZ fns E v v') : Sim P fns Z E (Go.asAddr v) (Go.asAddr v') (fun E' a a' => AS fns E' a a') := by
  rcases hv with hv | ⟨a, b, rfl, rfl, h⟩
  · exact (Sim.asAddr hv).mono fun _ _ _ _ h => h.as
  · exact Sim.pure h
theorem Sim.mapMR {α : Type} {f f' : α → Sem Value} (x : Array α) (hf : ∀ E₁, (∀ a b, E a b → E₁ a b) → ∀ a ∈ x, Sim P fns Z E₁ (f a) (f' a) (fun E' v v' => VR fns E' v v')) : Sim P fns Z E (x.mapM f) (x.mapM f') (fun E' x x' => AllR fns E' x x') := by
  rw [Array.mapM_eq_mapM_toList, Array.mapM_eq_mapM_toList]
  have key : ∀ (l : List α), (∀ a ∈ l, a ∈ x) → ∀ {E₁ : Nat → Nat → Prop}, (∀ a b, E a b → E₁ a b) → Sim P fns Z E₁ (l.mapM f) (l.mapM f') (fun E' x x' => AllR fns E' x.toArray x'.toArray) := by
    intro l
    induction l with
    | nil => intro _ E₁ _; simp only [List.mapM_nil]; exact Sim.pure allR_nil
    | cons a l ih =>
      intro hl E₁ up
      simp only [List.mapM_cons]
      refine Sim.bind (hf E₁ up a (hl a (by simp))) fun E2 v v' up2 hv => ?_
      refine Sim.bind (ih (fun y hy => hl y (by simp [hy])) fun a b h => up2 _ _ (up a b h)) fun E3 y y' up3 hy => Sim.pure ?_
      have := (allR_one (hv.up up3)).append hy
      simpa using this
  refine Sim.bind (Φ := fun E' x x' => AllR fns E' x.toArray x'.toArray) (key _ (fun a ha => by simpa using ha) fun _ _ h => h) fun E1 x y up h => Sim.pure h
theorem Sim.results {ia : Nat → Bool} (fn : Func) (hres : fn.results.all (okRes ia) = true) {x x' : Array Value} (hx : TR fns ia E x x') : Sim P fns Z E (Go.results fn x) (Go.results fn x') (fun E' v v' => VR fns E' v v') := by
  unfold Go.results
  refine Sim.bind (Sim.mapMR _ (fun E₁ up a ha => ?_)) fun E1 y y' up hy => Sim.pure ?_
  · have hok : okRes ia a = true := by
      rw [Array.all_eq_true] at hres
      obtain ⟨k, hk, rfl⟩ := Array.mem_iff_getElem.1 ha
      exact hres k hk
    cases a with
    | tmp t => exact Sim.pure ((hx.up up).getD t (by simpa [okRes] using hok) vr_undef)
    | cell a t => exact Sim.bind (Sim.asAddrZ ((hx.up up).getZ a vr_undef)) fun E2 b b' up2 hb => Sim.loadVar t hb
  · by_cases h : y.size = 1
    · have h' : y'.size = 1 := hy.1 ▸ h
      rw [dif_pos h, dif_pos h']
      exact hy.2 0 _ _
    · have h' : ¬ y'.size = 1 := hy.1 ▸ h
      rw [dif_neg h, dif_neg h']
      exact vr_tuple.2 ⟨_, rfl, hy⟩
variable {P : Program} {E E' E'' : Nat → Nat → Prop} {Z : Nat → Prop} {fns : Fx} {T K : List Frame} {main : Bool} {gh re : World} {k0 : List Item}
theorem stepG_run {fr : Frame} {cs : List Frame} {w : World} (h : fr.mode = .run) : stepG P main (G fr cs) w = stepG.exec P main true fr cs none w := by
  simp only [G, stepG, h]
theorem stepG_unw {fr : Frame} {cs : List Frame} {w : World} (h : fr.mode = .returning) : stepG P main (G fr cs) w = unwind P main fr cs none w := by
  simp only [G, stepG, h]
theorem lost_ok {g' : GStep} {o : Outcome} {w : World} {es : Array Event} : StepOK P fns Z k0 T K E gh re (.ended o w es) g' := trivial
theorem run_sim (hz : zeros P fns) (hdep : 0 < P.depth) (hp : okProg P fns) {fr fr' : Frame} {L : List (Frame × Frame)} (hF : FR P fns E (kap L k0) fr fr') (hL : FL P fns E k0 L) (hw : WR P fns E Z gh re) (hnil : fr.todo = [] → kap L k0 = []) :
    StepOK P fns Z k0 T K E gh re (stepG.exec P true true fr (L.map (·.1) ++ T) none gh) (stepG.exec (fns.re P) main true fr' (L.map (·.2) ++ K) none re) := by
  obtain ⟨fn, tm, td, df, md, kd, ro⟩ := fr
  obtain ⟨fn', tm', td', df', md', kd', ro'⟩ := fr'
  have htd : td' = td ++ kap L k0 := hF.todo
  subst htd
  have hok : td.all (okItem P fns (iaF P fn)) = true := hF.ok
  have hr : ro = none := hF.r
  subst hr
  have hr' : ro' = none := hF.r'
  subst hr'
  cases td with
  | nil =>
    have hk := hnil rfl
    simp only [stepG.exec, hk, List.append_nil, if_true]
    have := ans_ret (T := T) (K := K) hF hL hw
    simp only [hk, List.append_nil] at this
    exact .inl this
  | cons i k =>
    simp only [List.all_cons, Bool.and_eq_true] at hok
    cases i with
    | code c =>
      cases c with
      | skip => simp only [stepG.exec, List.cons_append]; exact .inl (ans_to hF hL hw hok.2)
      | label l => simp only [stepG.exec, List.cons_append]; exact .inl (ans_to hF hL hw hok.2)
      | ret => simp only [stepG.exec, List.cons_append, if_true]; exact .inl (ans_ret hF hL hw)
      | seq a b =>
        have h1 := hok.1
        simp only [okItem, okCode, Bool.and_eq_true] at h1
        simp only [stepG.exec, List.cons_append]
        exact .inl (ans_to hF hL hw (by simp only [List.all_cons, Bool.and_eq_true]; exact ⟨h1.1, h1.2, hok.2⟩))
      | cond c a b =>
        have h1 := hok.1
        simp only [okItem, okCode, Bool.and_eq_true] at h1
        have hv := hF.eval c h1.1.1
        simp only [stepG.exec, List.cons_append]
        generalize he : Frame.eval _ c = v at hv ⊢
        cases v with
        | bool t =>
          rw [vr_bool] at hv
          simp only [List.cons_append] at hv
          rw [hv]
          refine .inl (ans_to hF hL hw ?_)
          simp only [List.all_cons, Bool.and_eq_true]
          refine ⟨?_, hok.2⟩
          cases t
          · exact h1.2
          · exact h1.1.2
        | _ => exact trivial
      | block id b => simp only [stepG.exec, List.cons_append]; exact .inl (ans_to hF hL hw (by simp only [List.all_cons, Bool.and_eq_true]; exact ⟨hok.1, rfl, hok.2⟩))
      | loop b => simp only [stepG.exec, List.cons_append]; exact .inl (ans_to hF hL hw (by simp only [List.all_cons, Bool.and_eq_true]; exact ⟨hok.1, hok.1, hok.2⟩))
      | scope b => simp only [stepG.exec, List.cons_append]; exact .inl (ans_to hF hL hw (by simp only [List.all_cons, Bool.and_eq_true]; exact ⟨hok.1, hok.1, hok.2⟩))
      | exit id =>
        simp only [stepG.exec, List.cons_append]
        cases hx : exitTo id k with
        | none => exact trivial
        | some k' => rw [exitTo_app _ hx]; exact .inl (ans_to hF hL hw (ok_exitTo hok.2 hx))
      | goto l =>
        simp only [stepG.exec, List.cons_append]
        cases hx : gotoIn l k with
        | none => exact trivial
        | some k' => rw [gotoIn_app _ hx]; exact .inl (ans_to hF hL hw (ok_gotoIn hok.2 hx))
      | region id ops draw =>
        have h1 : okItem P fns (iaF P fn) (.inRegion ops (List.range ops.size)) = true := hok.1
        simp only [stepG.exec, List.cons_append]
        cases draw with
        | false => exact .inl (ans_to hF hL hw (by simp only [List.all_cons, Bool.and_eq_true]; exact ⟨h1, hok.2⟩))
        | true =>
          simp only [Bool.not_true, Bool.false_eq_true, if_false, run_choose, Question.forced, Question.cut]
          refine .inl fun same => ?_
          have e0 := same 0 (by simp)
          simp only [Nat.add_zero] at e0
          have efn : fn' = fn := hF.fn
          rw [e0, efn]
          rw [efn] at hF
          refine ⟨E, _, { re with drawn := re.drawn + 1 }, #[], rfl, ?_, .inl ⟨_, _, L, rfl, rfl, hF.to (k := .inRegion ops _ :: k) (by simp only [List.all_cons, Bool.and_eq_true]; exact ⟨hok.1, hok.2⟩), hL⟩, fun e he => by simp at he⟩
          exact ⟨fun _ _ x => x, ⟨hw.zlow, hw.lonz, hw.gbig, hw.rbig, hw.glob, hw.inj, hw.cells⟩, fun _ _ x => .inl x, Nat.le_refl _, Nat.le_refl _, rfl, rfl, by simp, by simp, rfl, rfl, rfl, rfl, fun _ _ _ => rfl, fun _ _ _ => rfl, Nat.add_comm _ _, fun i hi => by simp at hi; omega⟩
      | _ => cases hok.1
    | inBlock id => simp only [stepG.exec, List.cons_append]; exact .inl (ans_to hF hL hw hok.2)
    | inScope b => simp only [stepG.exec, List.cons_append]; exact .inl (ans_to hF hL hw hok.2)
    | inLoop b => simp only [stepG.exec, List.cons_append]; exact .inl (ans_to hF hL hw (by simp only [List.all_cons, Bool.and_eq_true]; exact ⟨hok.1, hok.1, hok.2⟩))
    | inRegion ops todo =>
      cases todo with
      | nil => simp only [stepG.exec, List.cons_append]; exact .inl (ans_to hF hL hw hok.2)
      | cons i rest =>
        simp only [stepG.exec, List.cons_append]
        rw [yielded_alike hF.tmps]
        split
        · rename_i hwant
          unfold stepG.oper
          cases ho : ops[i]? with
          | none => rw [ho] at hwant; simp at hwant
          | some o =>
            simp only [Frame.oper?, ho]
            refine apply_sim hp hF hL hw rfl (by rw [ho]; exact Sim.execOp hz hdep hp.1 (fun x hx => hF.eval x hx) (fun x hx => hF.evalZ x hx) (fun v => rfl) (fun f => ⟨rfl, rfl⟩) o (by
            have h1 := hok.1
            simp only [okItem, Array.all_eq_true] at h1
            obtain ⟨hlt, rfl⟩ := Array.getElem?_eq_some_iff.1 ho
            exact h1 i hlt))
        · refine .inl fun _ => ?_
          exact ⟨E, _, re, #[], rfl, Out.refl hw, .inl ⟨_, _, L, rfl, rfl, hF.finish rfl vr_undef, hL⟩, fun e he => by simp at he⟩
    | _ => cases hok.1
/-- The return to a caller above T. -/
theorem ret_sim {fr fr' : Frame} {c c' : Frame} {L : List (Frame × Frame)} (hF : FR P fns E [] fr fr') (hL : FL P fns E k0 ((c, c') :: L)) (hw : WR P fns E Z gh re) (hm : fr.mode = .returning) :
    StepOK P fns Z k0 T K E gh re (unwind P true fr (c :: (L.map (·.1) ++ T)) none gh) (unwind (fns.re P) main fr' (c' :: (L.map (·.2) ++ K)) none re) := by
  obtain ⟨f, hf, hres⟩ := hF.func
  have hf' : (fns.re P).funcs[fr'.fn]? = some f := by rw [hF.fn]; exact hF.same.trans hf
  have hm' : fr'.mode = .returning := hF.mode.trans hm
  have hs := Sim.results (P := P) (Z := Z) f hres hF.tmps gh re hw
  unfold unwind
  simp only [hF.d, hF.d', hm, hm', hf, hf', Sem.runT_eq]
  cases hr : (results f fr.tmps).run P gh with
  | halt h w => cases h <;> exact trivial
  | ok v gh' =>
    rw [hr] at hs
    simp only [doReturn, hF.k]
    refine .inl fun same => ?_
    obtain ⟨E', v', re', e1, e2, e3, e4⟩ := hs same
    rw [e1]
    simp only [hF.k']
    obtain ⟨⟨hc1, ops, i, rest, k, ht⟩, hL2⟩ := hL
    exact ⟨E', _, re', _, rfl, e2, .inl ⟨_, _, L, rfl, rfl, (hc1.up e2.up).finish ht e3, hL2.up e2.up⟩, fun e he => (e4 #[] e (mem_seen (by simpa [GStep.after] using he))).resolve_left (by simp)⟩
/-- The return to T's only frame. -/
theorem gone_sim {fr fr' : Frame} {kk : List Item} {c : Frame} {s' : GStep} (hF : FR P fns E kk fr fr') (hm : fr.mode = .returning) : StepOK P fns Z k0 [c] K E gh re (unwind P true fr [c] none gh) s' := by
  obtain ⟨f, hf, _⟩ := hF.func
  unfold unwind
  simp only [hF.d, hm, hf, Sem.runT_eq]
  cases hr : (results f fr.tmps).run P gh with
  | halt h w => cases h <;> exact trivial
  | ok v gh' =>
    simp only [doReturn, hF.k]
    exact .inr (.inr ⟨c, v, rfl, rfl⟩)
/-- Where the ghost ends: md: at its return to T; else: where it has nothing to do any more. -/
def atStop (md : Bool) (T : List Frame) (g : Goroutine) : Prop := g.callers = T ∧ if md then g.frame.mode = .returning else g.frame.mode = .run ∧ g.frame.todo = []
theorem step_sim (hz : zeros P fns) (hdep : 0 < P.depth) (hp : okProg P fns) {md : Bool} (hk : md = true → k0 = []) {c : Frame} {g g' : Goroutine} (hg : GR P fns E k0 [c] K g g') (hw : WR P fns E Z gh re) (hs : ¬ atStop md [c] g) :
    StepOK P fns Z k0 [c] K E gh re (stepG P true g gh) (stepG (fns.re P) main g' re) := by
  obtain ⟨fr, fr', L, rfl, rfl, hF, hL⟩ := hg
  rcases hF.runs with hm | hm
  · rw [stepG_run hm, stepG_run (hF.mode.trans hm)]
    refine run_sim hz hdep hp hF hL hw fun ht => ?_
    cases L with
    | cons p L => rfl
    | nil =>
      cases md with
      | true => exact hk rfl
      | false => exact (hs ⟨rfl, hm, ht⟩).elim
  · rw [stepG_unw hm, stepG_unw (hF.mode.trans hm)]
    cases L with
    | nil => exact gone_sim hF hm
    | cons c L => exact ret_sim hF hL hw hm
/-- What panics goes on panicking, till it comes to T. -/
theorem doomed_step {g : Goroutine} (h : Doomed P T g) (w : World) : (∃ g1, stepG P true g w = .go g1 w ∧ Doomed P T g1) ∨ ∃ fr chain, g = G fr T ∧ fr.mode = .panicking chain ∧ ∀ c cs, T = c :: cs → stepG P true g w = .go (G (c.raise chain) cs) w := by
  obtain ⟨fr, L, chain, rfl, hm, ⟨hd, f, hf⟩, hL⟩ := h
  have hc : fr.catches P = false := by simp only [Frame.catches, hf]
  cases L with
  | nil =>
    refine .inr ⟨fr, chain, rfl, hm, fun c cs e => ?_⟩
    subst e
    simp only [List.nil_append, G, stepG, hm, unwind, hd, hc, Bool.false_eq_true, if_false]
  | cons c L =>
    obtain ⟨ch, h1, h2⟩ := raise_bare (hL c (by simp)) chain
    refine .inl ⟨G (c.raise chain) (L ++ T), ?_, _, L, ch, rfl, h1, h2, fun f hf => hL f (by simp [hf])⟩
    simp only [List.cons_append, G, stepG, hm, unwind, hd, hc, Bool.false_eq_true, if_false]
def wOn (w : World) (t : Nat → Question → Nat) (d : Nat) : World := { w with tape := t, drawn := d }
/-- Whoever comes back to it, or panics into it, ends the run. -/
def trapF : Frame := { fn := 0, tmps := #[], todo := [.code (.refuse "")], defers := [{ target := .nil, args := #[] }], mode := .run, kind := .normal }
variable {P : Program} {E E' E'' : Nat → Nat → Prop} {Z : Nat → Prop} {fns : Fx} {T K : List Frame} {main : Bool} {gh re : World}
theorem FR.eq {fr fr' : Frame} (h : FR P fns E [] fr fr') (hE : ∀ a b, E a b → a = b) : fr' = fr := by
  obtain ⟨f1, f2, f3, f4, f5, f6, f7⟩ := fr
  obtain ⟨g1, g2, g3, g4, g5, g6, g7⟩ := fr'
  have a1 := h.fn
  have a2 := h.tmps.eq hE
  have a3 := h.todo
  rw [List.append_nil] at a3
  have a4 := h.d
  have a5 := h.d'
  have a6 := h.mode
  have a7 := h.k
  have a8 := h.k'
  have a9 := h.r
  have a10 := h.r'
  simp only at a1 a2 a3 a4 a5 a6 a7 a8 a9 a10
  subst a1 a2 a3 a4 a5 a6 a7 a8 a9 a10
  rfl
theorem kap_nil (L : List (Frame × Frame)) : kap L [] = [] := by unfold kap; split <;> rfl
theorem FL.eq (hE : ∀ a b, E a b → a = b) : ∀ {L : List (Frame × Frame)}, FL P fns E [] L → L.map (·.2) = L.map (·.1)
  | [], _ => rfl
  | p :: L, h => by
    have h1 := h.1.1
    rw [kap_nil] at h1
    simp only [List.map_cons, h1.eq hE, FL.eq hE h.2]
theorem GR.eq {g g' : Goroutine} (h : GR P fns E [] T T g g') (hE : ∀ a b, E a b → a = b) : g' = g := by
  obtain ⟨fr, fr', L, rfl, rfl, hF, hL⟩ := h
  rw [kap_nil] at hF
  rw [hF.eq hE, hL.eq hE]
/-- A goroutine and a world of which E is a part of equality. -/
def Cl (P : Program) (fns : Fx) (Z : Nat → Prop) (T : List Frame) (g : Goroutine) (w : World) : Prop :=
  ∃ E : Nat → Nat → Prop, (∀ a b, E a b → a = b) ∧ GR P fns E [] T T g g ∧ WR P fns E Z w w
theorem WR.on {w : World} (h : WR P fns E Z w w) (t : Nat → Question → Nat) (d : Nat) (t' : Nat → Question → Nat) (d' : Nat) : WR P fns E Z (wOn w t d) (wOn w t' d') := ⟨h.zlow, h.lonz, h.gbig, h.rbig, h.glob, h.inj, h.cells⟩
theorem Cl.on {g : Goroutine} {w : World} (h : Cl P fns Z T g w) (t : Nat → Question → Nat) (d : Nat) : Cl P fns Z T g (wOn w t d) :=
  let ⟨E, h1, h2, h3⟩ := h; ⟨E, h1, h2, h3.on t d t d⟩
theorem heap_ext {a b : Array Obj} (h : a.size = b.size) (hx : ∀ i, i < a.size → a[i]? = b[i]?) : a = b := by
  refine Array.ext h fun i h1 h2 => ?_
  have := hx i h1
  rw [Array.getElem?_eq_getElem h1, Array.getElem?_eq_getElem h2] at this
  exact Option.some.inj this
theorem jr_none {k0 : List Item} {g g' : Goroutine} (hp : okOne P fns) (h : JR P fns E k0 T K g g') : False := by
  obtain ⟨f, _, _, _, _, _, hj, _⟩ := h
  rw [hp.2.2 f] at hj
  cases hj
/-- The same step on another tape whose answers agree. -/
theorem retape (hz : zeros P fns) (hdep : 0 < P.depth) (hp : okOne P fns) {md : Bool} {g g1 : Goroutine} {w w1 : World} {es : Array Event} (hc : Cl P fns Z [trapF] g w) (hs : ¬ atStop md [trapF] g) (h : stepG P true g w = .go g1 w1 es) :
    (Doomed P [trapF] g1 ∨ g1 = G trapF []) ∨ (Cl P fns Z [trapF] g1 w1 ∧ w.drawn ≤ w1.drawn ∧ w1.tape = w.tape ∧ ∀ t d, Same w w1 (wOn w t d) → ∃ es', stepG P true g (wOn w t d) = .go g1 (wOn w1 t (d + (w1.drawn - w.drawn))) es') := by
  obtain ⟨E, hE, hG, hW⟩ := hc
  have key : ∀ t d, StepOK P fns Z [] [trapF] [trapF] E w (wOn w t d) (stepG P true g w) (stepG P true g (wOn w t d)) := fun t d =>
    (show (fns.re P) = P from hp.2.1) ▸ step_sim (main := true) (md := md) hz hdep hp.1 (fun _ => rfl) hG (show WR P fns E Z w (wOn w t d) from ⟨hW.zlow, hW.lonz, hW.gbig, hW.rbig, hW.glob, hW.inj, hW.cells⟩) hs
  by_cases hd : Doomed P [trapF] g1 ∨ g1 = G trapF []
  · exact .inl hd
  right
  have ans : ∀ t d, Ans P fns Z [] [trapF] [trapF] E w (wOn w t d) g1 w1 (stepG P true g (wOn w t d)) := fun t d => by
    have := key t d
    rw [h] at this
    rcases this with h1 | h1 | ⟨c, v, h1, h2⟩
    · exact h1
    · exact (hd (.inl h1)).elim
    · cases h1
      exact (hd (.inr h2)).elim
  -- the heaps are the same
  have full : ∀ t d, Same w w1 (wOn w t d) → ∃ E' es', (∀ a b, E' a b → a = b) ∧ stepG P true g (wOn w t d) = .go g1 (wOn w1 t (d + (w1.drawn - w.drawn))) es' ∧ GR P fns E' [] [trapF] [trapF] g1 g1 ∧ WR P fns E' Z w1 w1 ∧ w.drawn ≤ w1.drawn ∧ w1.tape = w.tape := by
    intro t d same
    obtain ⟨E', g1', re', es', e1, e2, e3, _⟩ := ans t d same
    have e3 := e3.resolve_right (jr_none hp)
    have hE' : ∀ a b, E' a b → a = b := by
      intro a b x
      rcases e2.fresh a b x with y | ⟨y1, y2⟩
      · exact hE a b y
      · have hl := e2.wr.lt x
        have hn := e2.news (a - w.heap.size) (by omega)
        have ea : w.heap.size + (a - w.heap.size) = a := by omega
        rw [ea] at hn
        have hb : (wOn w t d).heap.size + (a - w.heap.size) = a := by show w.heap.size + _ = a; omega
        rw [hb] at hn
        exact ((e2.wr.inj _ _ _ _ x hn).1 rfl).symm
    have hg : g1' = g1 := e3.eq hE'
    subst hg
    have hheap : re'.heap = w1.heap := by
      have hsz : re'.heap.size = w1.heap.size := by
        have := e2.sizes
        have e : (wOn w t d).heap.size = w.heap.size := rfl
        omega
      refine heap_ext hsz fun i hi => ?_
      by_cases hx : ∃ b, E' i b ∧ ¬ Z i
      · obtain ⟨b, hb, hnz⟩ := hx
        obtain rfl := hE' _ _ hb
        rcases e2.wr.cells _ _ hb with ⟨c, c', el, fr, fr', k1, k2, k3, k4, _⟩ | ⟨x, x', l, k1, k2, k3⟩
        · rw [k1, k2, (k3.all hnz (fns.pl _ (e2.wr.lonz _ hnz))).eq hE', k4 hnz]
        · rw [k1, k2, k3.eq hE']
      · by_cases hlt : i < w.heap.size
        · have hno : ∀ b, E i b → Z i := fun b hb => Classical.byContradiction fun hnz => hx ⟨b, e2.up _ _ hb, hnz⟩
          rw [e2.gkeep i hlt hno, e2.keep i hlt fun a ha => by obtain rfl := hE _ _ ha; exact hno _ ha]
          rfl
        · have hn := e2.news (i - w.heap.size) (by omega)
          have ea : w.heap.size + (i - w.heap.size) = i := by omega
          rw [ea] at hn
          exact (hx ⟨_, hn, fun hz => hlt (hW.zlow _ hz)⟩).elim
    have hre : re' = wOn w1 t (d + (w1.drawn - w.drawn)) := by
      have t1 := e2.rtape
      have t2 := e2.rdraw
      have t3 := e2.os
      have t4 := e2.output
      have t5 := e2.gos
      have t6 := e2.gout
      obtain ⟨r1, r2, r3, r4, r5⟩ := re'
      obtain ⟨u1, u2, u3, u4, u5⟩ := w1
      simp only [wOn] at hheap t1 t2 t3 t4 t5 t6 ⊢
      subst hheap t1 t2 t3 t4 t5 t6
      rfl
    subst hre
    exact ⟨E', es', hE', e1, e3, ⟨e2.wr.zlow, e2.wr.lonz, e2.wr.gbig, e2.wr.gbig, e2.wr.glob, e2.wr.inj, e2.wr.cells⟩, e2.gdraw, e2.gtape⟩
  obtain ⟨E', es', f1, f2, f3, f4, f5, f6⟩ := full w.tape w.drawn (fun j _ => rfl)
  exact ⟨⟨E', f1, f3, f4⟩, f5, f6, fun t d same => by obtain ⟨_, es', _, h, _⟩ := full t d same; exact ⟨es', h⟩⟩
end Go.Proofs.YtobpjijdebnaoaaDoor
