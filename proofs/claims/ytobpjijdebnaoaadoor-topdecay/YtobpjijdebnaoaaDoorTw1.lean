/- Part of the proof. -/
import Derived.Test.YtobpjijdebnaoaaDoorSim4
import Derived.Test.YtobpjijdebnaoaaDoorKrR
import Derived.Conc.LeavingOf
namespace Go.Proofs.YtobpjijdebnaoaaDoor
open Go Go.Conc
section
variable {P : Program} {Fin : Goroutine → World → Prop} {b : Frame} {cs : List Frame} {a : Act} {w : World} {k : List Item}
theorem runs_go {g : Goroutine} {w : World} (h : Runs P true Fin g w) (hc : g.callers ≠ [trapF]) (t : Nat → Question → Nat) (d : Nat) : ∃ g1 w1 es, stepG P true g (wOn w t d) = .go g1 w1 es ∧ Runs P true Fin g1 w1 ∧ Bf P true (g1, w1) (g, w) := by
  rcases h.cases with ⟨hs, _⟩ | ⟨hs, hall⟩
  · exact (hc hs.1).elim
  · obtain ⟨g1, w1, es, e, hr⟩ := hall t d
    exact ⟨g1, w1, es, e, hr, hs, t, d, es, e⟩
def noZ (_ : Nat) : Prop := False
/-- It stands there, and runs to its end. -/
def RT (P : Program) (Fin : Goroutine → World → Prop) (b : Frame) (cs : List Frame) (a : Act) (k : List Item) (w : World) : Prop := cs ≠ [trapF] ∧ b.kind = .normal ∧ Runs P true Fin (G (b.at a k) cs) w
theorem RT.go (h : RT P Fin b cs a k w) {a' : Act} {k' : List Item} {w' : World} {es : Array Event} (hs : stepG P true (G (b.at a k) cs) w = .go (G (b.at a' k') cs) w' es) : RT P Fin b cs a' k' w' := by
  refine ⟨h.1, h.2.1, ?_⟩
  obtain ⟨g1, w1, es1, e1, r1, _⟩ := runs_go h.2.2 h.1 w.tape w.drawn
  rw [show wOn w w.tape w.drawn = w from rfl, hs] at e1
  obtain ⟨rfl, rfl, _⟩ := GStep.go.inj e1
  exact r1
theorem RT.no (h : RT P Fin b cs a k w) {o : Outcome} {w' : World} {es : Array Event} (hs : stepG P true (G (b.at a k) cs) w = .ended o w' es) : False := by
  obtain ⟨g1, w1, es1, e1, _⟩ := runs_go h.2.2 h.1 w.tape w.drawn
  rw [show wOn w w.tape w.drawn = w from rfl, hs] at e1
  cases e1
theorem RT.seq {x y : Code} (h : RT P Fin b cs a (.code (.seq x y) :: k) w) : RT P Fin b cs a (.code x :: .code y :: k) w := h.go (es := #[]) (by simp only [G, stepG, Frame.at, stepG.exec])
theorem RT.skip (h : RT P Fin b cs a (.code .skip :: k) w) : RT P Fin b cs a k w := h.go (es := #[]) (by simp only [G, stepG, Frame.at, stepG.exec])
theorem RT.block {id : Nat} {x : Code} (h : RT P Fin b cs a (.code (.block id x) :: k) w) : RT P Fin b cs a (.code x :: .inBlock id :: k) w := h.go (es := #[]) (by simp only [G, stepG, Frame.at, stepG.exec])
theorem RT.inBlock {id : Nat} (h : RT P Fin b cs a (.inBlock id :: k) w) : RT P Fin b cs a k w := h.go (es := #[]) (by simp only [G, stepG, Frame.at, stepG.exec])
theorem RT.loop {x : Code} (h : RT P Fin b cs a (.code (.loop x) :: k) w) : RT P Fin b cs a (.code x :: .inLoop x :: k) w := h.go (es := #[]) (by simp only [G, stepG, Frame.at, stepG.exec])
theorem RT.inLoop {x : Code} (h : RT P Fin b cs a (.inLoop x :: k) w) : RT P Fin b cs a (.code x :: .inLoop x :: k) w := h.go (es := #[]) (by simp only [G, stepG, Frame.at, stepG.exec])
theorem RT.exit {id : Nat} {k' : List Item} (h : RT P Fin b cs a (.code (.exit id) :: k) w) (hk : exitTo id k = some k') : RT P Fin b cs a k' w := h.go (es := #[]) (by simp only [G, stepG, Frame.at, stepG.exec, hk, Option.elim])
theorem RT.cond {c : Operand} {x y : Code} (h : RT P Fin b cs a (.code (.cond c x y) :: k) w) {t : Bool} (hc : a.eval c = .bool t) : RT P Fin b cs a (.code (if t then x else y) :: k) w := h.go (es := #[]) (by
  have e : Frame.eval { fn := b.fn, tmps := a.tmps, todo := .code (.cond c x y) :: k, defers := a.defers, mode := .run, kind := b.kind } c = .bool t := by rw [← hc]; exact Frame.eval_at b a (.code (.cond c x y) :: k) c
  simp only [G, stepG, Frame.at, stepG.exec, e])
/-- A test of what is no bool is passed by nobody. -/
theorem RT.stuck {c : Operand} {x y : Code} (h : RT P Fin b cs a (.code (.cond c x y) :: k) w) {ik : IntKind} {n : Int} (hc : a.eval c = .int ik n) : False := h.no (o := _) (w' := w) (es := #[]) (by
  have e : Frame.eval { fn := b.fn, tmps := a.tmps, todo := .code (.cond c x y) :: k, defers := a.defers, mode := .run, kind := b.kind } c = .int ik n := by rw [← hc]; exact Frame.eval_at b a (.code (.cond c x y) :: k) c
  simp only [G, stepG, Frame.at, stepG.exec, e]
  rfl)
/-- Who passes such a test has it not. -/
theorem RT.guard1 {c e : Operand} {x y : Code} (h : RT P Fin b cs a (.code (.cond c (.cond e x y) .skip) :: k) w) {t : Bool} {ik : IntKind} {n : Int} (hc : a.eval c = .bool t) (he : a.eval e = .int ik n) : t = false ∧ RT P Fin b cs a k w := by
  cases t with
  | true => exact ((h.cond hc).stuck he).elim
  | false => exact ⟨rfl, (h.cond hc).skip⟩
theorem RT.guard2 {c f e : Operand} {x y : Code} (h : RT P Fin b cs a (.code (.cond c (.cond f (.cond e x y) .skip) .skip) :: k) w) {t s : Bool} {ik : IntKind} {n : Int} (hc : a.eval c = .bool t) (hf : a.eval f = .bool s) (he : a.eval e = .int ik n) : (t = true → s = false) ∧ RT P Fin b cs a k w := by
  cases t with
  | true => exact ⟨fun _ => ((h.cond hc).guard1 hf he).1, ((h.cond hc).guard1 hf he).2⟩
  | false => exact ⟨(fun e => by cases e), (h.cond hc).skip⟩
theorem RT.region {id : Nat} {ops : Array Oper} (h : RT P Fin b cs a (.code (.region id ops false) :: k) w) : RT P Fin b cs a (.inRegion ops (List.range ops.size) :: k) w := h.go (es := #[]) (by simp [G, stepG, Frame.at, stepG.exec])
theorem RT.over {ops : Array Oper} (h : RT P Fin b cs a (.inRegion ops [] :: k) w) : RT P Fin b cs a k w := h.go (es := #[]) (by simp only [G, stepG, Frame.at, stepG.exec])
/-- An operation. -/
theorem op_step {ops : Array Oper} {i : Nat} {rest : List Nat} {o : Oper} (ho : ops[i]? = some o) (hg : o.guard = none) :
    stepG P true (G (b.at a (.inRegion ops (i :: rest) :: k)) cs) w = stepG.apply P true (b.at a (.inRegion ops (i :: rest) :: k)) cs none (execOp a.eval o) w := by
  have e : (Frame.eval (b.at a (.inRegion ops (i :: rest) :: k))) = a.eval := funext fun x => Frame.eval_at b a _ x
  have e2 : (Option.map (fun x => Region.wanted x (yielded ops a.tmps)) (some o)).getD false = true := by simp [Region.wanted, hg]
  simp only [G, stepG, Frame.at, stepG.exec, stepG.oper, Frame.oper?, ho]
  rw [if_pos e2, ← e]
  rfl
theorem finish_at {ops : Array Oper} {i : Nat} {rest : List Nat} {o : Oper} (ho : ops[i]? = some o) (v : Value) : (b.at a (.inRegion ops (i :: rest) :: k)).finish v = b.at (a.put o.dst v) (.inRegion ops rest :: k) := by
  unfold Frame.finish
  simp only [Frame.at, ho, Option.bind_some]
  cases o.dst <;> rfl
theorem RT.val {ops : Array Oper} {i : Nat} {rest : List Nat} {o : Oper} (h : RT P Fin b cs a (.inRegion ops (i :: rest) :: k) w) (ho : ops[i]? = some o) (hg : o.guard = none) {v : Value} {w' : World} (hr : (execOp a.eval o).run P w = .ok (.value v) w') : RT P Fin b cs (a.put o.dst v) (.inRegion ops rest :: k) w' := by
  have hs := op_step (P := P) (b := b) (cs := cs) (a := a) (w := w) (k := k) (rest := rest) ho hg
  have hk : ((b.at a (.inRegion ops (i :: rest) :: k)).kind == CallKind.early) = false := by rw [show (b.at a (.inRegion ops (i :: rest) :: k)).kind = b.kind from rfl, h.2.1]; rfl
  unfold stepG.apply at hs
  simp only [Sem.runT_eq, if_true, hr, hk, Bool.false_eq_true, if_false] at hs
  rw [finish_at ho] at hs
  exact h.go hs
theorem RT.dies {ops : Array Oper} {i : Nat} {rest : List Nat} {o : Oper} (h : RT P Fin b cs a (.inRegion ops (i :: rest) :: k) w) (ho : ops[i]? = some o) (hg : o.guard = none) {m : String} {w' : World} (hr : (execOp a.eval o).run P w = .halt (.stuck m) w') : False := by
  have hs := op_step (P := P) (b := b) (cs := cs) (a := a) (w := w) (k := k) (rest := rest) ho hg
  unfold stepG.apply at hs
  simp only [Sem.runT_eq, if_true, hr] at hs
  exact h.no hs
theorem RT.dies' {ops : Array Oper} {i : Nat} {rest : List Nat} {o : Oper} (h : RT P Fin b cs a (.inRegion ops (i :: rest) :: k) w) (ho : ops[i]? = some o) (hg : o.guard = none) {w' : World} (hr : (execOp a.eval o).run P w = .halt (.unsupported .addressObserved) w') : False := by
  have hs := op_step (P := P) (b := b) (cs := cs) (a := a) (w := w) (k := k) (rest := rest) ho hg
  unfold stepG.apply at hs
  simp only [Sem.runT_eq, if_true, hr] at hs
  exact h.no hs
/-! ### each operation, and what it tells -/
variable {ops : Array Oper} {i : Nat} {rest : List Nat} {d : Nat} {ty : TypeId} {ps : String} {af : Array Edge}
theorem RT.move {x : Operand} (h : RT P Fin b cs a (.inRegion ops (i :: rest) :: k) w) (ho : ops[i]? = some ⟨some d, .move x, ty, ps, af, none⟩) : RT P Fin b cs (a.put (some d) (a.eval x)) (.inRegion ops rest :: k) w := h.val ho rfl rfl
theorem RT.assign {x : Operand} (h : RT P Fin b cs a (.inRegion ops (i :: rest) :: k) w) (ho : ops[i]? = some ⟨some d, .assign x, ty, ps, af, none⟩) : RT P Fin b cs (a.put (some d) (a.eval x)) (.inRegion ops rest :: k) w := h.val ho rfl rfl
theorem RT.gtr {t yt : TypeId} {x y : Operand} {ik : IntKind} {m : Int} (h : RT P Fin b cs a (.inRegion ops (i :: rest) :: k) w) (ho : ops[i]? = some ⟨some d, .binOp .gtr t x y yt, ty, ps, af, none⟩) (hy : a.eval y = .int ik m) :
    ∃ n, a.eval x = .int ik n ∧ RT P Fin b cs (a.put (some d) (.bool (decide (n > m)))) (.inRegion ops rest :: k) w := by
  have e : ∀ v, a.eval x = v → execOp a.eval ⟨some d, .binOp .gtr t x y yt, ty, ps, af, none⟩ = (do Pure.pure (.value (← (do eqGuard .gtr t x y v (.int ik m); Go.binOp .gtr t v (.int ik m))))) := fun v hv => by
    rw [← hv, ← hy]; rfl
  cases hx : a.eval x with
  | int ik' n =>
    by_cases hk : ik' = ik
    · subst hk
      refine ⟨n, rfl, h.val ho rfl (v := .bool (decide (n > m))) (w' := w) ?_⟩
      rw [e _ hx]
      simp [eqGuard, Go.binOp, Op.intCmp]
    · refine (h.dies ho rfl (w' := w) (m := "BinOp: operands of different kinds") ?_).elim
      rw [e _ hx]
      simp [eqGuard, Go.binOp, hk]
  | pointer p =>
    refine (h.dies' ho rfl (w' := w) ?_).elim
    rw [e _ hx]
    cases p <;> rfl
  | _ =>
    refine (h.dies ho rfl (w' := w) (m := "BinOp: no such operator on these operands") ?_).elim
    rw [e _ hx]
    rfl
theorem RT.lss {t yt : TypeId} {x y : Operand} {ik : IntKind} {m : Int} (h : RT P Fin b cs a (.inRegion ops (i :: rest) :: k) w) (ho : ops[i]? = some ⟨some d, .binOp .lss t x y yt, ty, ps, af, none⟩) (hy : a.eval y = .int ik m) :
    ∃ n, a.eval x = .int ik n ∧ RT P Fin b cs (a.put (some d) (.bool (decide (n < m)))) (.inRegion ops rest :: k) w := by
  have e : ∀ v, a.eval x = v → execOp a.eval ⟨some d, .binOp .lss t x y yt, ty, ps, af, none⟩ = (do Pure.pure (.value (← (do eqGuard .lss t x y v (.int ik m); Go.binOp .lss t v (.int ik m))))) := fun v hv => by
    rw [← hv, ← hy]; rfl
  cases hx : a.eval x with
  | int ik' n =>
    by_cases hk : ik' = ik
    · subst hk
      refine ⟨n, rfl, h.val ho rfl (v := .bool (decide (n < m))) (w' := w) ?_⟩
      rw [e _ hx]
      simp [eqGuard, Go.binOp, Op.intCmp]
    · refine (h.dies ho rfl (w' := w) (m := "BinOp: operands of different kinds") ?_).elim
      rw [e _ hx]
      simp [eqGuard, Go.binOp, hk]
  | pointer p =>
    refine (h.dies' ho rfl (w' := w) ?_).elim
    rw [e _ hx]
    cases p <;> rfl
  | _ =>
    refine (h.dies ho rfl (w' := w) (m := "BinOp: no such operator on these operands") ?_).elim
    rw [e _ hx]
    rfl
theorem RT.add {t yt : TypeId} {x y : Operand} {n m : Int} (h : RT P Fin b cs a (.inRegion ops (i :: rest) :: k) w) (ho : ops[i]? = some ⟨some d, .binOp .add t x y yt, ty, ps, af, none⟩) (hx : a.eval x = .int .i64 n) (hy : a.eval y = .int .i64 m) :
    RT P Fin b cs (a.put (some d) (.int .i64 (IntKind.i64.wrap (n + m)))) (.inRegion ops rest :: k) w := by
  refine h.val ho rfl (w' := w) ?_
  have e : execOp a.eval ⟨some d, .binOp .add t x y yt, ty, ps, af, none⟩ = (do Pure.pure (.value (← (do eqGuard .add t x y (.int .i64 n) (.int .i64 m); Go.binOp .add t (.int .i64 n) (.int .i64 m))))) := by rw [← hx, ← hy]; rfl
  rw [e]
  rfl
theorem RT.len {t e : TypeId} {x : Operand} (ht : P.underlying t = some (.slice e)) (h : RT P Fin b cs a (.inRegion ops (i :: rest) :: k) w) (ho : ops[i]? = some ⟨some d, .call { callee := .builtin .len, args := #[x], argTypes := #[t] }, ty, ps, af, none⟩) :
    ∃ pa l c, a.eval x = .slice pa l c ∧ RT P Fin b cs (a.put (some d) (.int .i64 (l : Int))) (.inRegion ops rest :: k) w := by
  have e : ∀ v, a.eval x = v → (execOp a.eval ⟨some d, .call { callee := .builtin .len, args := #[x], argTypes := #[t] }, ty, ps, af, none⟩).run P w = (do Pure.pure (.value (← Builtin.len_ #[t] ty #[v])) : Sem Next).run P w := fun v hv => by
    simp only [execOp, resolve, invoke, builtin, Sem.run_bind, Sem.run_pure, Result.andThen_ok, List.map_toArray, List.map_cons, List.map_nil, hv]
  have hl : ∀ v, (Builtin.len_ #[t] ty #[v]).run P w = (match v with | .slice _ l _ => .ok (.int .i64 (l : Int)) w | _ => .halt (.stuck "len: string, array, pointer to array, slice, map or channel expected") w) := fun v => by
    unfold Builtin.len_
    simp only [List.getElem?_toArray, List.getElem?_cons_zero, Sem.run_bind, run_underlying ht, Result.andThen_ok]
    cases v <;> rfl
  cases hx : a.eval x with
  | slice pa l c =>
    refine ⟨pa, l, c, rfl, h.val ho rfl (w' := w) ?_⟩
    rw [e _ hx, Sem.run_bind, hl]
    rfl
  | _ =>
    refine (h.dies ho rfl (w' := w) (m := "len: string, array, pointer to array, slice, map or channel expected") ?_).elim
    rw [e _ hx, Sem.run_bind, hl]
    rfl
theorem RT.cap {t e : TypeId} {x : Operand} {pa : Option Addr} {l c : Nat} (ht : P.underlying t = some (.slice e)) (h : RT P Fin b cs a (.inRegion ops (i :: rest) :: k) w) (ho : ops[i]? = some ⟨some d, .call { callee := .builtin .cap, args := #[x], argTypes := #[t] }, ty, ps, af, none⟩) (hx : a.eval x = .slice pa l c) :
    RT P Fin b cs (a.put (some d) (.int .i64 (c : Int))) (.inRegion ops rest :: k) w := by
  refine h.val ho rfl (w' := w) ?_
  have e : (execOp a.eval ⟨some d, .call { callee := .builtin .cap, args := #[x], argTypes := #[t] }, ty, ps, af, none⟩).run P w = (do Pure.pure (.value (← Builtin.cap_ #[t] ty #[.slice pa l c])) : Sem Next).run P w := by
    simp only [execOp, resolve, invoke, builtin, Sem.run_bind, Sem.run_pure, Result.andThen_ok, List.map_toArray, List.map_cons, List.map_nil, hx]
  rw [e, Sem.run_bind]
  unfold Builtin.cap_
  simp only [List.getElem?_toArray, List.getElem?_cons_zero, Sem.run_bind, run_underlying ht, Result.andThen_ok]
  rfl
theorem RT.eqnil {t e yt : TypeId} {x : Operand} {pa : Option Addr} {l c : Nat} (ht : P.underlying t = some (.slice e)) (h : RT P Fin b cs a (.inRegion ops (i :: rest) :: k) w) (ho : ops[i]? = some ⟨some d, .binOp .eql t x (.const (.slice none 0 0)) yt, ty, ps, af, none⟩) (hx : a.eval x = .slice pa l c) :
    RT P Fin b cs (a.put (some d) (.bool pa.isNone)) (.inRegion ops rest :: k) w := by
  refine h.val ho rfl (w' := w) ?_
  have e1 : execOp a.eval ⟨some d, .binOp .eql t x (.const (.slice none 0 0)) yt, ty, ps, af, none⟩ = (do Pure.pure (.value (← (do eqGuard .eql t x (.const (.slice none 0 0)) (.slice pa l c) (.slice none 0 0); Go.binOp .eql t (.slice pa l c) (.slice none 0 0))))) := by rw [← hx]; rfl
  have e2 : (Op.equal t (.slice pa l c) (.slice none 0 0)).run P w = .ok pa.isNone w := by
    unfold Op.equal
    show (Op.equalIn (9999 + 1) t (.slice pa l c) (.slice none 0 0)).run P w = _
    unfold Op.equalIn
    simp only [Sem.run_bind, run_underlying ht, Result.andThen_ok]
    cases pa <;> rfl
  rw [e1, Sem.run_bind, eqGuard_pass (fun x => by cases x.1) (fun ⟨_, _, x, _⟩ => by cases x), Sem.run_bind]
  simp only [Sem.run_pure, Result.andThen_ok]
  show (Result.andThen ((do Pure.pure (.bool (← Op.equal t (.slice pa l c) (.slice none 0 0))) : Sem Value).run P w) _) = _
  rw [Sem.run_bind, e2]
  rfl
theorem RT.idx {t e : TypeId} {x ix : Operand} {ad : Addr} {l c n : Nat} (ht : P.underlying t = some (.slice e)) (hs : ∀ w : World, (Go.sizeOf e).run P w = .ok 1 w) (h : RT P Fin b cs a (.inRegion ops (i :: rest) :: k) w) (ho : ops[i]? = some ⟨some d, .indexAddr t x ix, ty, ps, af, none⟩) (hx : a.eval x = .slice (some ad) l c) (hn : a.eval ix = .int .i64 (n : Int)) (hlt : n < l) :
    RT P Fin b cs (a.put (some d) (.pointer (some (ad.add n)))) (.inRegion ops rest :: k) w := by
  refine h.val ho rfl (w' := w) ?_
  have e1 : execOp a.eval ⟨some d, .indexAddr t x ix, ty, ps, af, none⟩ = (do Pure.pure (.value (← Instr.indexAt t (.slice (some ad) l c) (.int .i64 (n : Int))))) := by rw [← hx, ← hn]; rfl
  rw [e1, Sem.run_bind]
  unfold Instr.indexAt
  have hb : 0 ≤ (n : Int) ∧ (n : Int) < (l : Int) := ⟨by omega, by omega⟩
  simp only [Sem.run_bind, asIntOf, Sem.run_pure, run_underlying ht, Result.andThen_ok, hb, and_self, if_true, hs, Nat.mul_one, Int.toNat_natCast]
theorem RT.load {t : TypeId} {x : Operand} {fns : Fx} {Z : Nat → Prop} {E : Nat → Nat → Prop} {re : World} {ad ad' : Addr} (hg : ∀ w : World, (isAgg t).run P w = .ok false w) (hw : WR P fns E Z w re) (ha : AS fns E ad ad') (h : RT P Fin b cs a (.inRegion ops (i :: rest) :: k) w) (ho : ops[i]? = some ⟨some d, .load t x, ty, ps, af, none⟩) (hx : a.eval x = .pointer (some ad)) :
    ∃ v, w.cell? ad = some v ∧ RT P Fin b cs (a.put (some d) v) (.inRegion ops rest :: k) w := by
  have e1 : execOp a.eval ⟨some d, .load t x, ty, ps, af, none⟩ = (do Pure.pure (.value (← Instr.loadAt t (.pointer (some ad))))) := by rw [← hx]; rfl
  have e2 : (Instr.loadAt t (.pointer (some ad))).run P w = (Go.load ad).run P w := by
    unfold Instr.loadAt loadVar Instr.sureAddr
    simp only [Sem.run_bind, Sem.run_pure, Result.andThen_ok, hg, Bool.false_eq_true, if_false]
  cases hc : w.cell? ad with
  | none =>
    obtain ⟨s, hs⟩ := hw.far (P := P) ha (Mode.plain == .atomic)
    refine (h.dies ho rfl (w' := w) (m := s) ?_).elim
    rw [e1, Sem.run_bind, e2, run_load, hc]
    simp only [hs]
    rfl
  | some v =>
    refine ⟨v, rfl, h.val ho rfl (w' := w) ?_⟩
    rw [e1, Sem.run_bind, e2, run_load, hc]
    rfl
theorem RT.extract {x : Operand} {j : Nat} {xs : Array Value} {v : Value} (h : RT P Fin b cs a (.inRegion ops (i :: rest) :: k) w) (ho : ops[i]? = some ⟨some d, .extract x j, ty, ps, af, none⟩) (hx : a.eval x = .tuple xs) (hv : xs[j]? = some v) : RT P Fin b cs (a.put (some d) v) (.inRegion ops rest :: k) w := by
  refine h.val ho rfl (w' := w) ?_
  have e : execOp a.eval ⟨some d, .extract x j, ty, ps, af, none⟩ = (do Pure.pure (.value (← Instr.extract (.tuple xs) j))) := by rw [← hx]; rfl
  rw [e, Sem.run_bind]
  simp [Instr.extract, hv, Result.andThen]
/-- An assertion that tells if it holds. -/
theorem RT.assert {x : Operand} {xt t : TypeId} {dd : TypeDesc} {z : Value} (hu : P.underlying t = some dd) (hd : ∀ ms, dd ≠ .interface ms) (hz : ∀ w : World, (zeroValue t).run P w = .ok z w) (h : RT P Fin b cs a (.inRegion ops (i :: rest) :: k) w) (ho : ops[i]? = some ⟨some d, .typeAssert x xt t true, ty, ps, af, none⟩) :
    (a.eval x = .nilIface ∧ RT P Fin b cs (a.put (some d) (.tuple #[z, .bool false])) (.inRegion ops rest :: k) w) ∨ ∃ T v, a.eval x = .iface T v ∧ ((T = t ∧ RT P Fin b cs (a.put (some d) (.tuple #[v, .bool true])) (.inRegion ops rest :: k) w) ∨ (T ≠ t ∧ RT P Fin b cs (a.put (some d) (.tuple #[z, .bool false])) (.inRegion ops rest :: k) w)) := by
  have e : ∀ v, a.eval x = v → execOp a.eval ⟨some d, .typeAssert x xt t true, ty, ps, af, none⟩ = (do Pure.pure (.value (← Instr.typeAssert v xt t true))) := fun v hv => by rw [← hv]; rfl
  have r1 : (Instr.typeAssert .nilIface xt t true).run P w = .ok (.tuple #[z, .bool false]) w := by
    unfold Instr.typeAssert
    rw [Sem.run_bind, run_underlying hu, Result.andThen_ok]
    cases dd with
    | interface ms => exact (hd ms rfl).elim
    | _ => simp [hz, Result.andThen]
  have r2 : ∀ T v, (Instr.typeAssert (.iface T v) xt t true).run P w = .ok (if T = t then .tuple #[v, .bool true] else .tuple #[z, .bool false]) w := fun T v => by
    unfold Instr.typeAssert
    rw [Sem.run_bind, run_underlying hu, Result.andThen_ok]
    cases dd with
    | interface ms => exact (hd ms rfl).elim
    | _ => by_cases hT : T = t <;> simp [hz, hT, Result.andThen]
  cases hx : a.eval x with
  | nilIface => exact .inl ⟨rfl, h.val ho rfl (w' := w) (by rw [e _ hx, Sem.run_bind, r1]; rfl)⟩
  | iface T v =>
    refine .inr ⟨T, v, rfl, ?_⟩
    by_cases hT : T = t
    · exact .inl ⟨hT, h.val ho rfl (w' := w) (by rw [e _ hx, Sem.run_bind, r2, if_pos hT]; rfl)⟩
    · exact .inr ⟨hT, h.val ho rfl (w' := w) (by rw [e _ hx, Sem.run_bind, r2, if_neg hT]; rfl)⟩
  | _ =>
    refine (h.dies ho rfl (w' := w) (m := "TypeAssert: interface value expected") ?_).elim
    rw [e _ hx, Sem.run_bind]
    unfold Instr.typeAssert
    rw [Sem.run_bind, run_underlying hu, Result.andThen_ok]
    cases dd with
    | interface ms => exact (hd ms rfl).elim
    | _ => rfl
/-- Slots. -/
theorem eval_same (d : Nat) (v : Value) (hd : d < a.tmps.size) : (a.put (some d) v).eval (.tmp d) = v := by
  simp [Act.put, Act.eval, Array.getD_eq_getD_getElem?, hd]
theorem eval_other {d j : Nat} (v : Value) (h : j ≠ d) : (a.put (some d) v).eval (.tmp j) = a.eval (.tmp j) := by
  simp [Act.put, Act.eval, Array.getD_eq_getD_getElem?, Array.getElem?_setIfInBounds_ne (Ne.symm h)]
theorem put_size (d : Nat) (v : Value) : (a.put (some d) v).tmps.size = a.tmps.size := by simp [Act.put]
end
end Go.Proofs.YtobpjijdebnaoaaDoor
namespace Go.Proofs.YtobpjijdebnaoaaDoor
open Go Go.Conc
open Go.ConcN (sumTo upd sumTo_upd upd_ne upd_same)
/-- What was there, and is nobody's to write, stands: blocks that no ghost's block that is written stands for. -/
structure Stood (E : Nat → Nat → Prop) (Z : Nat → Prop) (S : Nat → Prop) (w w' : World) (E1 : Nat → Nat → Prop) (S' : Nat → Prop) : Prop where
  keep : ∀ b, b < w.heap.size → (∀ a, E a b → Z a) → ¬ S b → w'.heap[b]? = w.heap[b]?
  size : w.heap.size ≤ w'.heap.size
  fresh : ∀ a b, E1 a b → E a b ∨ w.heap.size ≤ b
  news : ∀ b, S' b → S b ∨ w.heap.size ≤ b
  rest : w'.tape = w.tape ∧ w'.os = w.os ∧ w'.output = w.output
theorem Stood.refl (E : Nat → Nat → Prop) (Z S : Nat → Prop) (w : World) : Stood E Z S w w E S := ⟨fun _ _ _ _ => rfl, Nat.le_refl _, fun _ _ x => .inl x, fun _ x => .inl x, rfl, rfl, rfl⟩
theorem Stood.trans {E E1 E2 : Nat → Nat → Prop} {Z S S1 S2 : Nat → Prop} {w w1 w2 : World} (h : Stood E Z S w w1 E1 S1) (k : Stood E1 Z S1 w1 w2 E2 S2) : Stood E Z S w w2 E2 S2 := by
  refine ⟨fun b hb hz hs => ?_, Nat.le_trans h.size k.size, fun a b x => ?_, fun b x => ?_, k.rest.1.trans h.rest.1, k.rest.2.1.trans h.rest.2.1, k.rest.2.2.trans h.rest.2.2⟩
  · have h1 := h.size
    rw [k.keep b (by omega) (fun a x => (h.fresh a b x).elim (hz a) (fun y => by omega)) (fun x => (h.news b x).elim hs (fun y => by omega)), h.keep b hb hz hs]
  · rcases k.fresh a b x with y | y
    · exact h.fresh a b y
    · exact .inr (Nat.le_trans h.size y)
  · rcases k.news b x with y | y
    · exact h.news b y
    · exact .inr (Nat.le_trans h.size y)
/-- A block of the real world's that no block of the ghost's stands for: it stands as it was. -/
structure K0 (v0 : Nat) (o0 : Option Obj) (E : Nat → Nat → Prop) (S : Nat → Prop) (w : World) : Prop where
  nE : ∀ a, ¬ E a v0
  nS : ¬ S v0
  pos : v0 < w.heap.size
  at0 : w.heap[v0]? = o0
theorem K0.stood {v0 : Nat} {o0 : Option Obj} {E E1 : Nat → Nat → Prop} {Z S S1 : Nat → Prop} {w w1 : World} (h : K0 v0 o0 E S w) (k : Stood E Z S w w1 E1 S1) : K0 v0 o0 E1 S1 w1 :=
  ⟨fun a x => (k.fresh a v0 x).elim (h.nE a) (fun y => by have := h.pos; omega), fun x => (k.news v0 x).elim h.nS (fun y => by have := h.pos; omega), Nat.lt_of_lt_of_le h.pos k.size, (k.keep v0 h.pos (fun a x => (h.nE a x).elim) h.nS).trans h.at0⟩
/-- A function is entered, here and there; it comes back, here and there, alike. -/
def JC (P : Program) (fns : Fx) (Z : Nat → Prop) (v0 : Nat) (o0 : Option Obj) (f : FuncId) : Prop :=
  ∀ (Fin : Goroutine → World → Prop) (E : Nat → Nat → Prop) (gh w : World) (a a' : Array Value) (c c' : Frame) (cs cs' : List Frame) (S : Nat → Prop) (gs : Array Goroutine) (d : Nat) (sl : Option (Nat × Nat)) (t : Trace) (q : Nat → Nat),
    AllR fns E a a' → arOK P fns f a.size = true → (∀ g, fns.gl g = true → E g g ∧ fns.pt g = true) → WR P fns E Z gh w → (∃ k, cs = k ++ [trapF]) → Runs P true Fin (G (Frame.enter P f a .normal) (c :: cs)) gh →
    Bx (fns.re P) S w.heap.size (G (Frame.enter (fns.re P) f a' .normal) (c' :: cs')) w gs t q → (∀ a b, E a b → ¬ S b) → (∀ b, S b → b < w.heap.size) → K0 v0 o0 E S w →
    ∃ (v : Value) (gh1 : World), Relation.TransGen (Bf P true) (G (c.finish v) cs, gh1) (G (Frame.enter P f a .normal) (c :: cs), gh) ∧ Runs P true Fin (G (c.finish v) cs) gh1 ∧
      ∃ (N : Nat) (gs' : Array Goroutine) (w' : World) (sl' : Option (Nat × Nat)) (t' : Trace) (q' : Nat → Nat) (S' : Nat → Prop) (E1 : Nat → Nat → Prop) (v' : Value),
        runNT (fns.re P) N (crowd gs (w.at d) sl) t = (.next (crowd gs' w' sl'), t') ∧ Bx (fns.re P) S' w'.heap.size (G (c'.finish v') cs') w' gs' t' q' ∧
        VR fns E1 v v' ∧ WR P fns E1 Z gh1 w' ∧ (∀ a b, E a b → E1 a b) ∧ (∀ a b, E1 a b → ¬ S' b) ∧ (∀ b, S' b → b < w'.heap.size) ∧ Stood E Z S w w' E1 S'
section
variable {P : Program} {fns : Fx} {Z : Nat → Prop} {Fin : Goroutine → World → Prop} {K : List Frame}
theorem runs_besideJ {v0 : Nat} {o0 : Option Obj} (hz : zeros P fns) (hdep : 0 < P.depth) (hp : okProg P fns) (hJ : ∀ f, fns.jf f = true → JC P fns Z v0 o0 f) : ∀ (c : Goroutine × World), Acc (Relation.TransGen (Bf P true)) c →
    ∀ (M : Nat) (E : Nat → Nat → Prop) (S : Nat → Prop) (gs : Array Goroutine) (a : Goroutine) (w : World) (sl : Option (Nat × Nat)) (t : Trace) (q : Nat → Nat), sumTo gs.size q ≤ M →
      InG P fns Z true Fin [] K E c.1 c.2 a w → gs[0]? = some a → Leavers (fns.re P) t gs q → Past (ShunB S) w.heap.size t → (∀ a b, E a b → ¬ S b) → (∀ b, S b → b < w.heap.size) → K0 v0 o0 E S w →
      ∃ (N : Nat) (gs' : Array Goroutine) (a' : Goroutine) (w' : World) (sl' : Option (Nat × Nat)) (t' : Trace) (q' : Nat → Nat) (S' : Nat → Prop) (E' : Nat → Nat → Prop) (g1 : Goroutine) (gh1 : World),
        runNT (fns.re P) N (crowd gs w sl) t = (.next (crowd gs' w' sl'), t') ∧ gs'[0]? = some a' ∧ InG P fns Z true Fin [] K E' g1 gh1 a' w' ∧ atStop true [trapF] g1 ∧ Fin g1 gh1 ∧
        Leavers (fns.re P) t' gs' q' ∧ Past (ShunB S') w'.heap.size t' ∧ (∀ a b, E' a b → ¬ S' b) ∧ (∀ b, S' b → b < w'.heap.size) ∧ (∀ a b, E a b → E' a b) ∧ Stood E Z S w w' E' S' := by
  intro c hacc
  induction hacc with
  | intro c _ ih =>
  intro M
  induction M using Nat.strongRecOn with
  | _ M ihM =>
    intro E S gs a w sl t q hM hI h0 hL hP hS hSb hK0
    rcases hI.runs.cases with ⟨hst, hfin⟩ | ⟨hns, _⟩
    · exact ⟨0, gs, a, w, sl, t, q, S, E, c.1, c.2, rfl, h0, hI, hst, hfin, hL, hP, hS, hSb, fun _ _ x => x, Stood.refl _ _ _ _⟩
    have hrun : a.status = .running := hI.gr.running
    have haw : ∀ g ∈ gs, awake g := by
      intro g hg
      obtain ⟨i, hi, rfl⟩ := Array.mem_iff_getElem.1 hg
      rcases Nat.eq_zero_or_pos i with rfl | hpos
      · have : gs[0] = a := by simpa [Array.getElem?_eq_getElem hi] using h0
        rw [this]; exact awake_of (.inl hrun)
      · exact awake_of ((hL.old i _ hpos (Array.getElem?_eq_getElem hi)).status.elim .inl fun x => .inr (.inr x))
    obtain ⟨i, g, d, sl', hi, hg, hst⟩ := crowd_pick (P := fns.re P) (w := w) (sl := sl) haw ⟨0, a, h0, hrun⟩
    rcases Nat.eq_zero_or_pos i with rfl | hpos
    · -- goroutine 0 goes as its ghost does
      obtain rfl : g = a := by rw [h0] at hi; exact (Option.some.inj hi).symm
      rcases (hI.at d).stepJ (main := true) hz hdep hp (fun _ => rfl) with ⟨h1, h2⟩ | ⟨E1, g1, w1, g1', re', es', e1, e2, e3, e4, e5⟩
      · exact (hns h1).elim
      · have hrunT := runT_crowd_go (P := fns.re P) (sl := sl') (i := 0) hi (show stepG (fns.re P) (0 == 0) g (w.at d) = _ from e1)
        have hsz : ((gs.map (woken (fns.re P) g g1' re')).setIfInBounds 0 g1').size = gs.size := by simp
        have hlt : 0 < gs.size := (Array.getElem?_eq_some_iff.1 h0).1
        have hS1 : ∀ a b, E1 a b → ¬ S b := fun a b x hb => by
          rcases e4.fresh a b x with y | ⟨_, y⟩
          · exact hS a b y hb
          · have := hSb b hb
            have e : (w.at d).heap.size = w.heap.size := rfl
            omega
        have hP1 : Past (ShunB S) re'.heap.size (t ++ MemOp.ofEvents 0 g.frame.fn g.frame.place es') :=
          (hP.mono e4.rsize).own fun e he => evL_of (e5 e he) hS1 fun a b x => (e4.wr.lt x).2
        have hSb1 : ∀ b, S b → b < re'.heap.size := fun b hb => Nat.lt_of_lt_of_le (hSb b hb) e4.rsize
        have hL1 : Leavers (fns.re P) (t ++ MemOp.ofEvents 0 g.frame.fn g.frame.place es') ((gs.map (woken (fns.re P) g g1' re')).setIfInBounds 0 g1') q :=
          ⟨fun j x hj hx => by
            have hne : 0 ≠ j := by omega
            rw [Array.getElem?_setIfInBounds_ne hne, Array.getElem?_map] at hx
            obtain ⟨y, hy, rfl⟩ := Option.map_eq_some_iff.1 hx
            have hq := hL.old j y hj hy
            rw [woken_quitsD hq, Deaf_other t (by omega) _ (fun op hop => by obtain ⟨e, _, rfl⟩ := Go.Conc.mem_ofEvents hop; rfl)]
            exact hq, fun j hj => by
            rw [Deaf_other t (g' := 0) (by simp at hj; omega) _ (fun op hop => by obtain ⟨e, _, rfl⟩ := Go.Conc.mem_ofEvents hop; rfl)]
            exact hL.above j (by simpa using hj)⟩
        have hst1 : Stood E Z S w re' E1 S := ⟨fun b hb hz _ => e4.keep b hb hz, e4.rsize, fun a b x => (e4.fresh a b x).imp id fun y => y.2, fun _ x => .inl x, e4.rtape, e4.os, e4.output⟩
        rcases e3 with e3 | ⟨e3, hw1, hr1⟩
        · obtain ⟨N, gs', a', w', sl'', t', q', S', E', g2, gh2, f1, f3, f4, f5, f6, f7, f8, f9, f10, f11, f12⟩ := ih (g1, w1) (.single e2) (sumTo gs.size q) E1 S ((gs.map (woken (fns.re P) g g1' re')).setIfInBounds 0 g1') g1' re' sl' (t ++ MemOp.ofEvents 0 g.frame.fn g.frame.place es') q (by rw [hsz]; exact Nat.le_refl _) e3 (by simp [hlt]) hL1 hP1 hS1 hSb1 (hK0.stood hst1)
          exact ⟨N + 1, gs', a', w', sl'', t', q', S', E', g2, gh2, by simp only [runNT, hst, hrunT]; exact f1, f3, f4, f5, f6, f7, f8, f9, f10, fun a b x => f11 a b (e4.up a b x), hst1.trans f12⟩
        · -- a function that is taken whole
          obtain ⟨f, x, x', fr, fr', L, hj, _, ⟨hxx, har⟩, rfl, rfl, ⟨hF, ops, io, rest, k, ht⟩, hLL⟩ := e3
          have hB : Bx (fns.re P) S re'.heap.size (G (Frame.enter (fns.re P) f x' .normal) (fr' :: (L.map (·.2) ++ K))) re' _ _ q := ⟨by simp [hlt], hL1, hP1, fun b hb => nor_of hP1 hb⟩
          obtain ⟨v, gh1, tg, hr2, N, gs', w', sl'', t', q', S', E2, v', r1, hB', hv, hw2, up2, hS2, hSb2, hst2⟩ := hJ f hj Fin E1 w1 re' x x' fr fr' (L.map (·.1) ++ [trapF]) (L.map (·.2) ++ K) S _ re'.drawn sl' _ q hxx har hF.gs hw1 ⟨_, rfl⟩ hr1 hB hS1 hSb1 (hK0.stood hst1)
          have hI2 : InG P fns Z true Fin [] K E2 (G (fr.finish v) (L.map (·.1) ++ [trapF])) gh1 (G (fr'.finish v') (L.map (·.2) ++ K)) w' := ⟨⟨_, _, L, rfl, rfl, (hF.up up2).finish ht hv, hLL.up up2⟩, hw2, hr2⟩
          obtain ⟨N2, gs2, a2, w2, sl2, t2, q2, S2, E', g2, gh2, f1, f3, f4, f5, f6, f7, f8, f9, f10, f11, f12⟩ := ih (G (fr.finish v) (L.map (·.1) ++ [trapF]), gh1) (tg.tail e2) (sumTo gs'.size q') E2 S' gs' _ w' sl'' t' q' (Nat.le_refl _) hI2 hB'.at0 hB'.lv hB'.past hS2 hSb2 (hK0.stood (hst1.trans hst2))
          refine ⟨(N + N2) + 1, gs2, a2, w2, sl2, t2, q2, S2, E', g2, gh2, ?_, f3, f4, f5, f6, f7, f8, f9, f10, fun a b x => f11 a b (up2 a b (e4.up a b x)), (hst1.trans hst2).trans f12⟩
          simp only [runNT, hst, hrunT]
          have r1' : runNT (fns.re P) N (crowd ((gs.map (woken (fns.re P) g (G (Frame.enter (fns.re P) f x' .normal) (fr' :: (L.map (·.2) ++ K))) re')).setIfInBounds 0 (G (Frame.enter (fns.re P) f x' .normal) (fr' :: (L.map (·.2) ++ K)))) re' sl') (t ++ MemOp.ofEvents 0 g.frame.fn g.frame.place es') = (.next (crowd gs' w' sl''), t') := r1
          rw [runNT_add N N2 _ _ r1']
          exact f1
    · -- somebody slips
      have hq := hL.old i g hpos hi
      have hi0 : (i == 0) = false := by simp; omega
      have hlt : i < gs.size := (Array.getElem?_eq_some_iff.1 hi).1
      cases hqi : q i with
      | zero => rw [hqi] at hq; rw [hq.1] at hg; cases hg
      | succ k =>
        rw [hqi] at hq
        rcases hq with ⟨hf, _⟩ | ⟨_, g', es, hm, hstp, hq'⟩
        · rw [hf] at hg; cases hg
        have hrunT := runT_crowd_go (P := fns.re P) (sl := sl') (i := i) hi (by rw [hi0]; exact hstp (w.at d))
        have hsz : ((gs.map (woken (fns.re P) g g' (w.at d))).setIfInBounds i g').size = gs.size := by simp
        have hsum : sumTo gs.size (upd q i k) + (k + 1) = sumTo gs.size q + k := by
          have := sumTo_upd q k id hlt
          simpa [hqi] using this
        obtain ⟨N, gs', a', w', sl'', t', q', S', E', g2, gh2, f1, f3, f4, f5, f6, f7, f8, f9, f10, f11, f12⟩ := ihM (sumTo gs.size (upd q i k)) (by omega) E S ((gs.map (woken (fns.re P) g g' (w.at d))).setIfInBounds i g') a (w.at d) sl' (t ++ MemOp.ofEvents i g.frame.fn g.frame.place es) (upd q i k) (by rw [hsz]; exact Nat.le_refl _) (hI.at d)
          (by
            have hne : i ≠ 0 := by omega
            rw [Array.getElem?_setIfInBounds_ne hne, Array.getElem?_map, h0]
            simp [woken_run hrun])
          ⟨fun j x hj hx => by
            by_cases hji : i = j
            · subst hji
              rw [Array.getElem?_setIfInBounds_self_of_lt (by simpa using hlt)] at hx
              obtain rfl := Option.some.inj hx
              rw [upd_same, Deaf_own]
              exact hq'
            · rw [Array.getElem?_setIfInBounds_ne hji, Array.getElem?_map] at hx
              obtain ⟨y, hy, rfl⟩ := Option.map_eq_some_iff.1 hx
              have hqj := hL.old j y hj hy
              rw [woken_quitsD hqj, upd_ne q k (Ne.symm hji), Deaf_other t hji _ (fun op hop => by obtain ⟨e, _, rfl⟩ := Go.Conc.mem_ofEvents hop; rfl)]
              exact hqj, fun j hj => by
            rw [Deaf_other t (g' := i) (by simp at hj; omega) _ (fun op hop => by obtain ⟨e, _, rfl⟩ := Go.Conc.mem_ofEvents hop; rfl)]
            exact hL.above j (by simpa using hj)⟩
          (hP.mute (by omega) hm) hS hSb ⟨hK0.nE, hK0.nS, hK0.pos, hK0.at0⟩
        exact ⟨N + 1, gs', a', w', sl'', t', q', S', E', g2, gh2, by simp only [runNT, hst, hrunT]; exact f1, f3, f4, f5, f6, f7, f8, f9, f10, f11, ⟨f12.keep, f12.size, f12.fresh, f12.news, f12.rest⟩⟩
end
end Go.Proofs.YtobpjijdebnaoaaDoor
namespace Go.Proofs.YtobpjijdebnaoaaDoor
open Go Go.Conc
/-- Where the call of f is about to return. -/
def FinD (P : Program) (f : FuncId) (Q : Value → World → Prop) (g : Goroutine) (w : World) : Prop := g.frame.fn = f ∧ FinC P Q g w
theorem FinD.on {P : Program} {f : FuncId} {Q : Value → World → Prop} (g : Goroutine) (w : World) (t : Nat → Question → Nat) (d : Nat) (h : FinD P f Q g w) : FinD P f Q g (wOn w t d) := ⟨h.1, FinC.on g w t d h.2⟩
section
variable {P : Program} {fns : Fx} {Z : Nat → Prop} {K : List Frame}
theorem ends_callsD {f : FuncId} {args : Array Value} {gh : World} {Q : Value → World → Prop} (hc : Cl P fns Z [trapF] (G (Frame.enter P f args .normal) [trapF]) gh) (h : ∀ t d, Calls P f args (wOn gh t d) (fun e w' => ∃ v, e = .returned v ∧ Q v w')) :
    Ends P fns Z true (FinD P f Q) (G (Frame.enter P f args .normal) [trapF]) gh := by
  refine ⟨hc, fun t d => ?_⟩
  obtain ⟨e, w', fr, ⟨v, rfl, hq⟩, ⟨N, hN⟩, hfn, hm, hd, hk, fn, hf, hr⟩ := h t d [trapF]
  exact ⟨N, fr, w', hN, ⟨rfl, by simp only [if_true]; exact hm⟩, hfn, fn, v, w'.tape, w'.drawn, hf, hr, hq⟩
theorem results_tmp (P : Program) {fn : Func} {r : Nat} (h : fn.results = #[.tmp r]) (tmps : Array Value) (w : World) : (results fn tmps).run P w = .ok (tmps.getD r undef) w ∧ ∀ es, (results fn tmps).events P w es = es := by
  constructor
  · unfold results
    rw [h]
    simp
  · intro es
    unfold results
    rw [h]
    simp
/-- What is known of the return: the ghost's, and how the two are alike. -/
def Like (P : Program) (fns : Fx) (Z : Nat → Prop) (E : Nat → Nat → Prop) (Q : Value → World → Prop) (v' : Value) (w' : World) : Prop :=
  ∃ (E1 : Nat → Nat → Prop) (v : Value) (gh : World), Q v gh ∧ VR fns E1 v v' ∧ WR P fns E1 Z gh w' ∧ ∀ a b, E a b → E1 a b
theorem inG_end {f : FuncId} {fn : Func} {r : Nat} {Q : Value → World → Prop} {E : Nat → Nat → Prop} {g a : Goroutine} {gh w : World} (hia : iaF P f r = false) (hf : P.funcs[f]? = some fn) (hr : fn.results = #[.tmp r]) (hi : (fns.re P).inits.idxOf? f = none)
    (h : InG P fns Z true (FinD P f Q) [] [] E g gh a w) (hs : atStop true [trapF] g) (hfin : FinD P f Q g gh) :
    ∃ v', (∀ w₁ : World, stepG (fns.re P) true a w₁ = .ended (.done v') w₁ #[]) ∧ Like P fns Z E Q v' w := by
  obtain ⟨fr, fr', L, rfl, rfl, hF, hL⟩ := h.gr
  have hL0 : L = [] := by
    have := hs.1
    simp only [G] at this
    have h2 := congrArg List.length this
    simp at h2
    exact List.eq_nil_of_length_eq_zero (by simpa using h2)
  subst hL0
  have hk : kap ([] : List (Frame × Frame)) [] = [] := rfl
  rw [hk] at hF
  have hm : fr.mode = .returning := by
    have := hs.2
    simpa [G] using this
  have hfn : fr.fn = f := hfin.1
  obtain ⟨fn2, v, t, d, hfn2, hrun, hq⟩ := hfin.2
  simp only [G] at hfn2 hrun
  rw [hfn, hf] at hfn2
  obtain rfl := Option.some.inj hfn2
  rw [(results_tmp P hr _ _).1] at hrun
  have hv : fr.tmps.getD r undef = v := by injection hrun
  have hf' : (fns.re P).funcs[fr'.fn]? = some fn := by rw [hF.fn]; exact hF.same.trans (hfn ▸ hf)
  have hm' : fr'.mode = .returning := hF.mode.trans hm
  have hi' : (fns.re P).inits.idxOf? fr'.fn = none := by rw [hF.fn, hfn]; exact hi
  refine ⟨fr'.tmps.getD r undef, fun w₁ => ?_, E, v, wOn gh t d, hq, ?_, h.wr.gtape t d, fun _ _ x => x⟩
  · simp only [List.map_nil, List.nil_append]
    rw [stepG_unw hm']
    unfold unwind
    simp only [hF.d', hm', hf', Sem.runT_eq, (results_tmp (fns.re P) hr fr'.tmps w₁).1, (results_tmp (fns.re P) hr fr'.tmps w₁).2, doReturn, hF.k', hi']
    rfl
  · rw [← hv]
    exact hF.tmps.getD r (by rw [hfn]; exact hia) vr_undef
theorem past_nil' : Past (ShunB fun _ => False) 0 #[] := ⟨past_nil.clean, fun i a h1 h2 => (past_nil.known i a h1 h2).imp id fun x => x.1.elim, past_nil.over, past_nil.hears, past_nil.seen⟩
/-- The start of the ghost's own: what is handed over is alike to itself. -/
structure Start (P : Program) (fns : Fx) (Z : Nat → Prop) (E : Nat → Nat → Prop) (args : Array Value) (w : World) : Prop where
  args : AllR fns E args args
  wr : WR P fns E Z w w
  gs : ∀ g, fns.gl g = true → E g g ∧ fns.pt g = true
  id : ∀ a b, E a b → a = b
theorem ghost_run {v0 : Nat} {o0 : Option Obj} {fns0 : Fx} {E0 : Nat → Nat → Prop} (hz : zeros P fns) (hz0 : zeros P fns0) (hdep : 0 < P.depth) (hp : okProg P fns) (hp0 : okOne P fns0) (hJ : ∀ f, fns.jf f = true → JC P fns Z v0 o0 f)
    {f : FuncId} {fn : Func} {r : Nat} {gargs args : Array Value} {gh W : World} {E : Nat → Nat → Prop} {Q : Value → World → Prop}
    (hia : iaF P f r = false) (hf : P.funcs[f]? = some fn) (hr : fn.results = #[.tmp r]) (hi : (fns.re P).inits.idxOf? f = none) (hfo : fns.ok f = true) (hfj : fns.jf f = false) (hfo0 : fns0.ok f = true)
    (hargs : AllR fns E gargs args) (hwr : WR P fns E Z gh W) (hgs : ∀ g, fns.gl g = true → E g g ∧ fns.pt g = true) (hst0 : Start P fns0 Z E0 gargs gh) (hK0 : K0 v0 o0 E (fun _ => False) W)
    (h : ∀ t d, Calls P f gargs (wOn gh t d) (fun e w' => ∃ v, e = .returned v ∧ Q v w')) :
    ∃ N last o w' t', runNT (fns.re P) (N + 1) (solo (G (Frame.enter (fns.re P) f args .normal) []) W) #[] = (.ended o w', t') ∧ runN (fns.re P) N (solo (G (Frame.enter (fns.re P) f args .normal) []) W) = .next last ∧ step (fns.re P) last = .ended o w' ∧
      Go.Conc.Good (fns.re P) (fun v' w' => Like P fns Z E Q v' w' ∧ W.heap.size ≤ w'.heap.size ∧ (∀ b, b < W.heap.size → (∀ a, E a b → Z a) → w'.heap[b]? = W.heap[b]?) ∧ w'.tape = W.tape ∧ w'.os = W.os ∧ w'.output = W.output) last o w' t' := by
  have hF0 := FR.enter hp0.1 (hp0.1.1 f hfo0) (hp0.2.2 f) hst0.gs hst0.args
  rw [hp0.2.1] at hF0
  have hcl : Cl P fns0 Z [trapF] (G (Frame.enter P f gargs .normal) [trapF]) gh := ⟨E0, hst0.id, ⟨_, _, [], rfl, rfl, hF0, trivial⟩, hst0.wr⟩
  have hruns := (ends_callsD hcl h).runs hz0 hdep hp0 (fun g w t d x => FinD.on g w t d x)
  have hF := FR.enter hp (hp.1 f hfo) hfj hgs hargs
  have hI : InG P fns Z true (FinD P f Q) [] [] E (G (Frame.enter P f gargs .normal) [trapF]) gh (G (Frame.enter (fns.re P) f args .normal) []) W := ⟨⟨_, _, [], rfl, rfl, hF, trivial⟩, hwr, hruns⟩
  obtain ⟨N, gs', a', w', sl', t', q', S', E', g1, gh1, r1, at1, i1, st1, fin1, lv1, p1, hS1, hSb1, up1, std1⟩ := runs_besideJ hz hdep hp hJ _ hruns.acc.transGen 0 E (fun _ => False) #[G (Frame.enter (fns.re P) f args .normal) []] _ W none #[] (fun _ => 0) (by simp [Go.ConcN.sumTo]) hI rfl
    ⟨(fun j x hj hx => by
      have : (#[G (Frame.enter (fns.re P) f args .normal) []] : Array Goroutine)[j]? = none := by simp; omega
      rw [this] at hx
      cases hx), fun j _ => rfl⟩ (past_nil'.mono (Nat.zero_le _)) (fun _ _ _ h => h) (fun _ h => h.elim) hK0
  obtain ⟨v', hend, hlike⟩ := inG_end hia hf hr hi i1 st1 fin1
  have hrun' : a'.status = .running := i1.gr.running
  obtain ⟨M, last, o, w2, t2, b1, b2, b3, b4⟩ := beside_ends (P := fns.re P) (D := fun _ _ _ => False) (Shun := ShunB S') (B := w'.heap.size) (Post := fun v' w' => Like P fns Z E Q v' w' ∧ W.heap.size ≤ w'.heap.size ∧ (∀ b, b < W.heap.size → (∀ a, E a b → Z a) → w'.heap[b]? = W.heap[b]?) ∧ w'.tape = W.tape ∧ w'.os = W.os ∧ w'.output = W.output) (n := 0) (sl := sl') (fun _ _ _ h => h.elim) at1 lv1 p1
    (fun w₁ hw => ⟨hrun', v', #[], hend w₁, (fun e he => by simp at he), by
      obtain ⟨d, rfl⟩ := hw
      obtain ⟨E1, v, gh, a1, a2, a3, a4⟩ := hlike
      exact ⟨⟨E1, v, gh, a1, a2, ⟨a3.zlow, a3.lonz, a3.gbig, a3.rbig, a3.glob, a3.inj, a3.cells⟩, fun a b x => a4 a b (up1 a b x)⟩, std1.size, fun b hb hz => std1.keep b hb hz (fun h => h), std1.rest⟩⟩)
  refine ⟨N + M, last, o, w2, t2, ?_, ?_, b3, b4⟩
  · have e : N + M + 1 = N + (M + 1) := by omega
    rw [e]
    have := runNT_add N (M + 1) (crowd #[G (Frame.enter (fns.re P) f args .normal) []] W none) #[] r1
    exact this.trans b1
  · have h1 : runN (fns.re P) N (solo (G (Frame.enter (fns.re P) f args .normal) []) W) = .next (crowd gs' w' sl') := by
      have := runNT_fst (fns.re P) N (crowd #[G (Frame.enter (fns.re P) f args .normal) []] W none) #[]
      rw [r1] at this
      exact this.symm
    rw [runN_add, h1]
    exact b2
end
section
variable {P : Program} {fns : Fx} {Z : Nat → Prop} {E E' : Nat → Nat → Prop} {gh re gh' re' : World}
/-- Heaps that are the same stay the same. -/
theorem Out.lock (o : Out P fns E E' Z gh re gh' re') (hE : ∀ a b, E a b → a = b) (hh : gh.heap = re.heap) (hzl : ∀ a, Z a → a < gh.heap.size) : gh'.heap = re'.heap ∧ ∀ a b, E' a b → a = b := by
  have hs0 : gh.heap.size = re.heap.size := by rw [hh]
  have hE' : ∀ a b, E' a b → a = b := by
    intro a b x
    rcases o.fresh a b x with y | ⟨y1, y2⟩
    · exact hE a b y
    · have hl := o.wr.lt x
      have hn := o.news (a - gh.heap.size) (by omega)
      have ea : gh.heap.size + (a - gh.heap.size) = a := by omega
      have eb : re.heap.size + (a - gh.heap.size) = a := by omega
      rw [ea, eb] at hn
      exact ((o.wr.inj _ _ _ _ x hn).1 rfl).symm
  refine ⟨?_, hE'⟩
  have hsz : gh'.heap.size = re'.heap.size := by have := o.sizes; omega
  refine heap_ext hsz fun i hi => ?_
  by_cases hx : ∃ b, E' i b ∧ ¬ Z i
  · obtain ⟨b, hb, hnz⟩ := hx
    obtain rfl := hE' _ _ hb
    rcases o.wr.cells _ _ hb with ⟨c, c', el, fr, fr', k1, k2, k3, k4, _⟩ | ⟨x, x', l, k1, k2, k3⟩
    · rw [k1, k2, (k3.all hnz (fns.pl _ (o.wr.lonz _ hnz))).eq hE', k4 hnz]
    · rw [k1, k2, k3.eq hE']
  · by_cases hlt : i < gh.heap.size
    · have hno : ∀ b, E i b → Z i := fun b hb => Classical.byContradiction fun hnz => hx ⟨b, o.up _ _ hb, hnz⟩
      rw [o.gkeep i hlt hno, o.keep i (by omega) fun a ha => by obtain rfl := hE _ _ ha; exact hno _ ha, hh]
    · have hn := o.news (i - gh.heap.size) (by omega)
      have ea : gh.heap.size + (i - gh.heap.size) = i := by omega
      rw [ea] at hn
      exact (hx ⟨_, hn, fun hz => hlt (hzl i hz)⟩).elim
end
section
variable {P : Program} {fns : Fx} {Z : Nat → Prop} {Fin : Goroutine → World → Prop}
theorem Runs.weak {Fin' : Goroutine → World → Prop} {g : Goroutine} {w : World} (h : Runs P true Fin g w) (hf : ∀ g w, Fin g w → Fin' g w) : Runs P true Fin' g w := fun M h1 h2 => h M (fun g w hs x => h1 g w hs (hf g w x)) h2
/-- From one state of the ghost's to another, by its own steps. -/
def To (P : Program) (c' c : Goroutine × World) : Prop := c' = c ∨ Relation.TransGen (Bf P true) c' c
theorem To.step {c c' c'' : Goroutine × World} (h : To P c'' c') (b : Bf P true c' c) : Relation.TransGen (Bf P true) c'' c := by
  rcases h with rfl | h
  · exact .single b
  · exact h.tail b
theorem runs_call0 (hz : zeros P fns) (hdep : 0 < P.depth) (hp : okOne P fns) {f : FuncId} {Q : Value → World → Prop} {c : Frame} {cs k : List Frame} (hcs : cs = k ++ [trapF]) : ∀ (x : Goroutine × World), Acc (Bf P true) x → ∀ (E : Nat → Nat → Prop) (g' : Goroutine) (w : World),
    InG P fns Z true (FinD P f Q) [] (c :: cs) E x.1 x.2 g' w → (∀ a b, E a b → a = b) → x.2.heap = w.heap → Runs P true Fin g' w →
    ∃ v gh1, Relation.TransGen (Bf P true) (G (c.finish v) cs, gh1) (g', w) ∧ Runs P true Fin (G (c.finish v) cs) gh1 ∧ ∃ u, Q v u ∧ u.heap = gh1.heap := by
  intro x hacc
  induction hacc with
  | intro x _ ih =>
  intro E g' w hI hE hh hR
  have hcall : g'.callers ≠ [trapF] := by
    obtain ⟨fr, fr', L, _, rfl, _, _⟩ := hI.gr
    intro h
    have := congrArg List.length h
    simp [G, hcs] at this
    omega
  have hwo : wOn w w.tape w.drawn = w := rfl
  obtain ⟨g2, w2, es2, s2, r2, b2⟩ := runs_go hR hcall w.tape w.drawn
  rw [hwo] at s2
  rcases hI.step (main := true) hz hdep hp (fun _ => rfl) with ⟨hst, hfin⟩ | ⟨E', g1, w1, g1', re', es', e1, e2, e3, e4, _⟩
  · obtain ⟨E1, v, v', gh1, w1, es, hg1, hq, hv, hs, hout, _⟩ := inG_ret (main := true) (Q := Q) ⟨hI.gr, hI.wr, hI.runs.weak fun _ _ x => x.2⟩ hst hfin.2
    rw [hp.2.1, s2] at hs
    obtain ⟨rfl, rfl, _⟩ := GStep.go.inj hs
    obtain ⟨l1, l2⟩ := hout.lock hE (hg1.trans hh) (by rw [hg1]; exact hI.wr.zlow)
    obtain rfl := hv.eq l2
    exact ⟨v', w2, .single b2, r2, gh1, hq, l1⟩
  · rw [s2] at e1
    obtain ⟨rfl, rfl, _⟩ := GStep.go.inj e1
    obtain ⟨l1, l2⟩ := e4.lock hE hh hI.wr.zlow
    obtain ⟨v, gh1, t1, t2, t3⟩ := ih (g1, w1) e2 E' g2 w2 e3 l2 l1 r2
    exact ⟨v, gh1, t1.tail b2, t2, t3⟩
/-- A call by its contract: the ghost comes back from it. -/
theorem runs_call (hz : zeros P fns) (hdep : 0 < P.depth) (hp : okOne P fns) {f : FuncId} {Q : Value → World → Prop} {c : Frame} {cs k : List Frame} (hcs : cs = k ++ [trapF]) (hfo : fns.ok f = true) {a : Array Value} {gh : World} {E : Nat → Nat → Prop} (hst : Start P fns Z E a gh)
    (h : ∀ t d, Calls P f a (wOn gh t d) (fun e w' => ∃ v, e = .returned v ∧ Q v w')) (hR : Runs P true Fin (G (Frame.enter P f a .normal) (c :: cs)) gh) :
    ∃ v gh1, Relation.TransGen (Bf P true) (G (c.finish v) cs, gh1) (G (Frame.enter P f a .normal) (c :: cs), gh) ∧ Runs P true Fin (G (c.finish v) cs) gh1 ∧ ∃ u, Q v u ∧ u.heap = gh1.heap := by
  have hF := FR.enter hp.1 (hp.1.1 f hfo) (hp.2.2 f) hst.gs hst.args
  rw [hp.2.1] at hF
  have hcl : Cl P fns Z [trapF] (G (Frame.enter P f a .normal) [trapF]) gh := ⟨E, hst.id, ⟨_, _, [], rfl, rfl, hF, trivial⟩, hst.wr⟩
  have hruns := (ends_callsD hcl h).runs hz hdep hp (fun g w t d x => FinD.on g w t d x)
  exact runs_call0 hz hdep hp hcs _ hruns.acc E _ gh ⟨⟨_, _, [], rfl, rfl, hF, trivial⟩, hst.wr, hruns⟩ hst.id rfl hR
end
end Go.Proofs.YtobpjijdebnaoaaDoor
