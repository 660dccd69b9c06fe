/- Part of the proof. -/
import Derived.Test.YtobpjijdebnaoaaDoorSim1
namespace Go.Proofs.YtobpjijdebnaoaaDoor
open Go
variable {P : Program} {fns : Fx} {E E' E'' : Nat → Nat → Prop} {Z : Nat → Prop}
theorem Sim.rowTail (z : Array Value) (hzz : ∀ i (hi : i < z.size), VR fns E z[i] z[i]) (el : TypeId) (k u v : Nat) :
    Sim P fns Z E (Go.newRow el ((Array.range k).map (z[· % z.size]!)) >>= fun a => Pure.pure (Value.slice (some a) u v)) (Go.newRow el ((Array.range k).map (z[· % z.size]!)) >>= fun a => Pure.pure (Value.slice (some a) u v)) (fun E' v v' => VR fns E' v v') :=
  Sim.bind (Sim.newRow (allR_rows hzz k)) fun _ _ _ _ h => Sim.pure (vr_slice.2 ⟨_, rfl, .inl h.as⟩)
theorem Sim.makeSlice (hz : zeros P fns) (t : TypeId) (ht : ∀ e, P.underlying t = some (.slice e) → fns.tys e = true) {l l' c c' : Value} (hl : VR fns E l l') (hc : VR fns E c c') : Sim P fns Z E (Instr.makeSlice t l c) (Instr.makeSlice t l' c') (fun E' v v' => VR fns E' v v') := by
  unfold Instr.makeSlice
  refine Sim.bind (Sim.underlying t) fun E1 d d' up1 e => ?_
  obtain ⟨rfl, hu⟩ := e
  split
  · refine Sim.bind (Sim.asInt (hl.up up1)) fun E2 n n' up2 e => ?_
    subst e
    refine Sim.bind (Sim.asInt ((hc.up up1).up up2)) fun E3 m m' up3 e => ?_
    subst e
    refine Sim.bind (Sim.typeInfo _) fun E4 i i' up4 e => ?_
    obtain ⟨rfl, _⟩ := e
    dsimp only
    split
    · refine Sim.dies ?_
      split
      · exact Dies.bind (Dies.runtimePanic _)
      · split
        · exact Dies.bind (Dies.runtimePanic _)
        · refine Dies.bind2 (fun gh => .inl ?_) fun _ => Dies.bind (Dies.runtimePanic _)
          rw [run_choose]; split <;> exact ⟨_, _, rfl⟩
    · refine Sim.bind (Sim.askRoom _) fun E5 _ _ up5 _ => ?_
      refine Sim.bind (Sim.sizeOf _) fun E6 s s' up6 e => ?_
      subst e
      split
      · exact Sim.rowTail #[] (fun i hi => by simp at hi) _ _ _ _
      · refine Sim.bind (Sim.zeroValue hz _ (ht _ hu)) fun E7 v v' up7 h => ?_
        obtain ⟨rfl, hcl⟩ := h
        exact Sim.rowTail v'.cells (fun i hi => closed_cells hcl i hi) _ _ _ _
  · exact Sim.stuck
/-- The length of a slice, a string, an array. -/
theorem Sim.len (ts : Array TypeId) (t : TypeId) {x x' : Array Value} (hx : AllR fns E x x') : Sim P fns Z E (Builtin.len_ ts t x) (Builtin.len_ ts t x') (fun E' v v' => VR fns E' v v') := by
  unfold Builtin.len_
  cases h0 : x[0]? with
  | none =>
    cases ts[0]? <;> exact Sim.dies Dies.stuck
  | some v =>
    obtain ⟨v', h1, hv⟩ := hx.get? 0 h0
    rw [h1]
    cases ts[0]? with
    | none => exact Sim.dies Dies.stuck
    | some ty =>
      refine Sim.bind (Sim.underlying ty) fun E1 d d' up1 e => ?_
      obtain ⟨rfl, _⟩ := e
      have hv1 := hv.up up1
      split
      · rw [vr_string] at hv1; subst hv1; exact Sim.pure (vr_scalar rfl)
      · exact Sim.pure (vr_scalar rfl)
      · refine Sim.bind (Sim.underlying _) fun E2 d d' up2 e => ?_
        obtain ⟨rfl, _⟩ := e
        split
        · exact Sim.pure (vr_scalar rfl)
        · exact Sim.stuck
      · obtain ⟨b, rfl, _⟩ := vr_slice.1 hv1; exact Sim.pure (vr_scalar rfl)
      · obtain ⟨_, rfl⟩ := vr_map.1 hv1; exact Sim.pure (vr_scalar rfl)
      · obtain ⟨_, rfl⟩ := vr_chan.1 hv1; exact Sim.pure (vr_scalar rfl)
      · have := vr_map.1 hv1; cases this.1
      · have := vr_chan.1 hv1; cases this.1
      · exact Sim.stuck
theorem Sim.cap (ts : Array TypeId) (t : TypeId) {x x' : Array Value} (hx : AllR fns E x x') : Sim P fns Z E (Builtin.cap_ ts t x) (Builtin.cap_ ts t x') (fun E' v v' => VR fns E' v v') := by
  unfold Builtin.cap_
  cases h0 : x[0]? with
  | none =>
    cases ts[0]? <;> exact Sim.dies Dies.stuck
  | some v =>
    obtain ⟨v', h1, hv⟩ := hx.get? 0 h0
    rw [h1]
    cases ts[0]? with
    | none => exact Sim.dies Dies.stuck
    | some ty =>
      refine Sim.bind (Sim.underlying ty) fun E1 d d' up1 e => ?_
      obtain ⟨rfl, _⟩ := e
      have hv1 := hv.up up1
      split
      · exact Sim.pure (vr_scalar rfl)
      · refine Sim.bind (Sim.underlying _) fun E2 d d' up2 e => ?_
        obtain ⟨rfl, _⟩ := e
        split
        · exact Sim.pure (vr_scalar rfl)
        · exact Sim.stuck
      · obtain ⟨b, rfl, _⟩ := vr_slice.1 hv1; exact Sim.pure (vr_scalar rfl)
      · obtain ⟨_, rfl⟩ := vr_chan.1 hv1; exact Sim.pure (vr_scalar rfl)
      · obtain ⟨h, _⟩ := vr_chan.1 hv1; cases h
      · exact Sim.stuck
theorem Sim.lenOf {v v' : Value} (hv : VR fns E v v') : Sim P fns Z E (Builtin.lenOf v) (Builtin.lenOf v') (fun _ n n' => n' = n ∧ ∀ a l c, v = .slice a l c → n = l) := by
  cases v with
  | slice a l c => obtain ⟨b, rfl, _⟩ := vr_slice.1 hv; exact Sim.pure ⟨rfl, fun _ _ _ e => by cases e; rfl⟩
  | string s => rw [vr_string] at hv; subst hv; exact Sim.pure ⟨rfl, fun _ _ _ e => by cases e⟩
  | _ => exact Sim.dies (Dies.halt rfl)
theorem allR_bytes (l : Array UInt8) : AllR fns E (l.map fun b => .int .u8 b.toNat) (l.map fun b => .int .u8 b.toNat) := ⟨rfl, fun i a b => by simpa using vr_scalar rfl⟩
theorem Sim.firstCells0 (size : Nat) {v v' : Value} (hv : VR fns E v v') : Sim P fns Z E (Builtin.firstCells size 0 v) (Builtin.firstCells size 0 v') (fun _ x x' => x = #[] ∧ x' = #[]) := by
  have h0 : ∀ a : Addr, Go.loadCells a (0 * size) = Pure.pure #[] := fun a => by rw [Nat.zero_mul]; rfl
  cases v with
  | slice a l c =>
    obtain ⟨b, rfl, h⟩ := vr_slice.1 hv
    cases a with
    | none => rw [sr_none] at h; subst h; exact Sim.pure ⟨rfl, rfl⟩
    | some a =>
      obtain ⟨b', rfl⟩ := sr_some h
      show Sim P fns Z E (Go.loadCells a (0 * size)) (Go.loadCells b' (0 * size)) _
      rw [h0, h0]
      exact Sim.pure ⟨rfl, rfl⟩
  | string s =>
    rw [vr_string] at hv; subst hv
    have e : (s.extract 0 0).data.map (fun b : UInt8 => Value.int .u8 b.toNat) = #[] := by simp
    exact Sim.pure ⟨e, e⟩
  | _ => exact Sim.dies (Dies.halt rfl)
theorem Sim.firstCells (size n : Nat) {v v' : Value} (hv : VR fns E v v') (hn : ∀ a l c, v = .slice a l c → n ≤ l) : Sim P fns Z E (Builtin.firstCells size n v) (Builtin.firstCells size n v') (fun E' x x' => AllR fns E' x x') := by
  cases v with
  | slice a l c =>
    obtain ⟨b, rfl, h⟩ := vr_slice.1 hv
    rcases h with h | ⟨e1, e2, e3⟩
    · cases a with
      | none => rw [os_none] at h; subst h; exact Sim.pure allR_nil
      | some a => obtain ⟨b', rfl, h⟩ := os_some.1 h; exact Sim.loadCells _ h
    · obtain rfl : n = 0 := by have := hn _ _ _ rfl; omega
      exact (Sim.firstCells0 size hv).mono fun _ x x' _ e => by rw [e.1, e.2]; exact allR_nil
  | string s => rw [vr_string] at hv; subst hv; exact Sim.pure (allR_bytes _)
  | _ => exact Sim.dies (Dies.halt rfl)
theorem allR_zeroCells {z : Array Value} (hz : ∀ i (hi : i < z.size), VR fns E z[i] z[i]) (n : Nat) : AllR fns E (Builtin.zeroCells z n) (Builtin.zeroCells z n) := allR_rows hz _
theorem Sim.copy (ts : Array TypeId) (t : TypeId) {x x' : Array Value} (hx : AllR fns E x x') : Sim P fns Z E (Builtin.copy_ ts t x) (Builtin.copy_ ts t x') (fun E' v v' => VR fns E' v v') := by
  unfold Builtin.copy_
  cases h0 : x[0]? with
  | none => cases ts[0]? <;> exact Sim.dies Dies.stuck
  | some v =>
  cases h1 : x[1]? with
  | none => cases ts[0]? <;> exact Sim.dies Dies.stuck
  | some u =>
    obtain ⟨v', g0, hv⟩ := hx.get? 0 h0
    obtain ⟨u', g1, hu⟩ := hx.get? 1 h1
    rw [g0, g1]
    cases ts[0]? with
    | none => exact Sim.dies Dies.stuck
    | some ty =>
      refine Sim.bind (Sim.underlying ty) fun E1 d d' up1 e => ?_
      obtain ⟨rfl, _⟩ := e
      have hv1 := hv.up up1
      have hu1 := hu.up up1
      split
      · cases v with
        | slice a dl dc =>
          obtain ⟨b, rfl, ha⟩ := vr_slice.1 hv1
          dsimp only
          refine Sim.bind (Sim.lenOf hu1) fun E2 n n' up2 e => ?_
          obtain ⟨rfl, hlen⟩ := e
          refine Sim.bind (Sim.sizeOf _) fun E3 s s' up3 e => ?_
          subst e
          rcases ha with ha | ⟨e1, e2, e3⟩
          rotate_left
          · subst e1 e2 e3
            rw [show Nat.min n' 0 = 0 from Nat.min_zero _]
            refine Sim.bind (Sim.firstCells0 _ ((hu1.up up2).up up3)) fun E4 y y' up4 hy => ?_
            obtain ⟨rfl, rfl⟩ := hy
            cases a with
            | none => exact Sim.pure (vr_scalar rfl)
            | some a => exact Sim.bind (Φ := fun _ _ _ => True) (Sim.pure trivial) fun E5 _ _ _ _ => Sim.pure (vr_scalar rfl)
          refine Sim.bind (Sim.firstCells _ _ ((hu1.up up2).up up3) (fun a l c e => by rw [← hlen a l c e]; exact Nat.min_le_left _ _)) fun E4 y y' up4 hy => ?_
          have ha4 := ((ha.up up2).up up3).up up4
          cases a with
          | none => rw [os_none] at ha4; subst ha4; exact Sim.pure (vr_scalar rfl)
          | some a =>
            obtain ⟨b', rfl, ha5⟩ := os_some.1 ha4
            exact Sim.bind (Sim.storeCells _ _ 0 ha5 (allR_list hy)) fun E5 _ _ _ _ => Sim.pure (vr_scalar rfl)
        | _ => exact Sim.dies Dies.stuck
      · exact Sim.stuck
/-- An integer's type (append of a make). -/
def isInt (d : TypeDesc) : Bool := d matches .int _
theorem lives_mayShare (size sLen n : Nat) (base : Option Addr) (x : Value) (gh : World) : ∃ a w, (Builtin.mayShare size sLen n base x).run P gh = .ok a w := by
  have hold : ∀ (a : Addr) (c : Nat) (gh : World), ∃ r, (Builtin.holdsCells a c).run P gh = .ok r gh := fun a c gh => by
    unfold Builtin.holdsCells
    rw [Sem.run_bind, run_shape]
    cases h : gh.shape? a.block with
    | none => exact ⟨_, by rw [Result.andThen_ok]; rfl⟩
    | some s => exact ⟨_, by rw [Result.andThen_ok]; rfl⟩
  have last : ∀ (b : Addr) (f : Bool → Bool) (gh : World), ∃ a w, (Builtin.holdsCells b (n * size) >>= fun r => Pure.pure (f r)).run P gh = .ok a w := fun b f gh => by
    obtain ⟨r, hr⟩ := hold b (n * size) gh
    exact ⟨_, _, by rw [Sem.run_bind, hr, Result.andThen_ok]; rfl⟩
  unfold Builtin.mayShare
  cases base with
  | none =>
    dsimp only
    split
    · exact last _ (fun r => !r || _) gh
    · exact ⟨_, _, rfl⟩
  | some a =>
    obtain ⟨r, hr⟩ := hold a (sLen * size) gh
    simp only [Sem.run_bind, hr, Result.andThen_ok, run_frozen, Sem.run_pure]
    split
    · exact ⟨_, _, rfl⟩
    · split
      · exact last _ (fun r => !r || _) gh
      · exact ⟨_, _, rfl⟩
theorem Sim.append (hz : zeros P fns) (ts : Array TypeId) (t : TypeId) (ht : ∀ t e, ts[0]? = some t → P.underlying t = some (.slice e) → fns.tys e = true) (hi : ∀ xt d, ts[1]? = some xt → P.underlying xt = some d → isInt d = false) {x x' : Array Value} (hx : AllR fns E x x') : Sim P fns Z E (Builtin.append_ ts t x) (Builtin.append_ ts t x') (fun E' v v' => VR fns E' v v') := by
  unfold Builtin.append_
  cases h0 : x[0]? with
  | none => cases ts[0]? <;> exact Sim.dies Dies.stuck
  | some v =>
  cases h1 : x[1]? with
  | none => cases ts[0]? <;> exact Sim.dies Dies.stuck
  | some u =>
    obtain ⟨v', g0, hv⟩ := hx.get? 0 h0
    obtain ⟨u', g1, hu⟩ := hx.get? 1 h1
    rw [g0, g1]
    cases hty : ts[0]? with
    | none => exact Sim.dies Dies.stuck
    | some ty =>
      refine Sim.bind (Sim.underlying ty) fun E1 d d' up1 e => ?_
      obtain ⟨rfl, hun⟩ := e
      split
      · cases v with
        | slice a dl dc =>
          obtain ⟨b, rfl, ha⟩ := vr_slice.1 (hv.up up1)
          dsimp only
          refine Sim.bind (Sim.sizeOf _) fun E2 s s' up2 e => ?_
          subst e
          cases hxt : ts[1]? with
          | none =>
            dsimp only
            refine Sim.bind (Φ := fun _ z z' => z = false ∧ z' = false) (Sim.pure ⟨rfl, rfl⟩) fun E3 z z' up3 e => ?_
            obtain ⟨rfl, rfl⟩ := e
            simp only [Bool.false_eq_true, if_false, Bool.not_false, if_true, false_or]
            have hu3 := ((hu.up up1).up up2).up up3
            have ha3 := (ha.up up2).up up3
            refine Sim.bind (Sim.lenOf hu3) fun E4 n n' up4 e => ?_
            obtain ⟨rfl, hlen⟩ := e
            have hu4 := hu3.up up4
            have ha4 := ha3.up up4
            split
            · rename_i hfit
              rcases ha4 with ha4 | ⟨e1, e2, e3⟩
              rotate_left
              · subst e1 e2 e3
                obtain rfl : n' = 0 := by omega
                refine Sim.bind (Sim.firstCells0 _ hu4) fun E5 y y' up5 hy => ?_
                obtain ⟨rfl, rfl⟩ := hy
                cases a with
                | none => exact Sim.pure (vr_slice.2 ⟨_, rfl, .inr ⟨rfl, rfl, rfl⟩⟩)
                | some a => exact Sim.bind (Φ := fun _ _ _ => True) (Sim.pure trivial) fun E6 _ _ up6 _ => Sim.pure (vr_slice.2 ⟨_, rfl, .inr ⟨rfl, rfl, rfl⟩⟩)
              refine Sim.bind (Sim.firstCells _ _ hu4 (fun a l c e => by rw [← hlen a l c e]; exact Nat.le_refl _)) fun E5 y y' up5 hy => ?_
              have ha5 := ha4.up up5
              cases a with
              | none => rw [os_none] at ha5; subst ha5; exact Sim.pure (vr_slice.2 ⟨_, rfl, .inl trivial⟩)
              | some a =>
                obtain ⟨b', rfl, ha6⟩ := os_some.1 ha5
                exact Sim.bind (Sim.storeCells _ _ 0 (ha6.add _) (allR_list hy)) fun E6 _ _ up6 _ => Sim.pure (vr_slice.2 ⟨_, rfl, .inl (ha6.up up6)⟩)
            · refine Sim.bind (Sim.typeInfo _) fun E5 i i' up5 e => ?_
              obtain ⟨rfl, _⟩ := e
              split
              · exact Sim.dies (Dies.bind (Dies.runtimePanic _))
              · refine Sim.bind (Sim.typeInfo _) fun E6 i i' up6 e => ?_
                obtain ⟨rfl, _⟩ := e
                split
                · refine Sim.dies (Dies.bind (Dies.bind2 (fun gh => .inl (lives_mayShare _ _ _ _ _ gh)) fun r => ?_))
                  split
                  · exact Dies.bind2 (fun gh => .inl ⟨_, _, rfl⟩) fun _ => Dies.halt rfl
                  · exact Dies.halt rfl
                · refine Sim.bind Sim.choose fun E7 c c' up7 e => ?_
                  subst e
                  refine Sim.bind (Sim.typeInfo _) fun E8 i i' up8 e => ?_
                  obtain ⟨rfl, _⟩ := e
                  refine Sim.bind (Sim.askRoom _) fun E9 _ _ up9 _ => ?_
                  have up : ∀ a b, E4 a b → E9 a b := fun a b q => up9 _ _ (up8 _ _ (up7 _ _ (up6 _ _ (up5 _ _ q))))
                  refine Sim.bind (Sim.firstCells _ _ (vr_slice.2 ⟨_, rfl, ha4.up up⟩) (fun _ _ _ e => by cases e; exact Nat.le_refl _)) fun F1 y y' uq1 hy => ?_
                  refine Sim.bind (Sim.firstCells _ _ ((hu4.up up).up uq1) (fun a l c e => by rw [← hlen a l c e]; exact Nat.le_refl _)) fun F2 k k' uq2 hk => ?_
                  refine Sim.bind (Sim.zeroValue hz _ (ht ty _ hty hun)) fun F3 v v' uq3 h => ?_
                  obtain ⟨rfl, hcl⟩ := h
                  have hall := (((hy.up uq2).append hk).up uq3).append (allR_zeroCells (E := F3) (fun i hi => closed_cells hcl i hi) (c' - (dl + n')))
                  exact Sim.bind (Sim.newRow hall) fun F4 a a' uq4 h => Sim.pure (vr_slice.2 ⟨_, rfl, .inl h.as⟩)
          | some xt =>
            dsimp only
            refine Sim.bind (Sim.underlying xt) fun E2' d d' up2' e => ?_
            obtain ⟨rfl, hd⟩ := e
            have hno := hi xt d' hxt hd
            have up2 : ∀ a b, E1 a b → E2' a b := fun a b q => up2' _ _ (up2 _ _ q)
            refine Sim.bind (Φ := fun _ z z' => z = false ∧ z' = false) (Sim.pure ⟨hno, hno⟩) fun E3 z z' up3 e => ?_
            obtain ⟨rfl, rfl⟩ := e
            simp only [Bool.false_eq_true, if_false, Bool.not_false, if_true, false_or]
            have hu3 := ((hu.up up1).up up2).up up3
            have ha3 := (ha.up up2).up up3
            refine Sim.bind (Sim.lenOf hu3) fun E4 n n' up4 e => ?_
            obtain ⟨rfl, hlen⟩ := e
            have hu4 := hu3.up up4
            have ha4 := ha3.up up4
            split
            · rename_i hfit
              rcases ha4 with ha4 | ⟨e1, e2, e3⟩
              rotate_left
              · subst e1 e2 e3
                obtain rfl : n' = 0 := by omega
                refine Sim.bind (Sim.firstCells0 _ hu4) fun E5 y y' up5 hy => ?_
                obtain ⟨rfl, rfl⟩ := hy
                cases a with
                | none => exact Sim.pure (vr_slice.2 ⟨_, rfl, .inr ⟨rfl, rfl, rfl⟩⟩)
                | some a => exact Sim.bind (Φ := fun _ _ _ => True) (Sim.pure trivial) fun E6 _ _ up6 _ => Sim.pure (vr_slice.2 ⟨_, rfl, .inr ⟨rfl, rfl, rfl⟩⟩)
              refine Sim.bind (Sim.firstCells _ _ hu4 (fun a l c e => by rw [← hlen a l c e]; exact Nat.le_refl _)) fun E5 y y' up5 hy => ?_
              have ha5 := ha4.up up5
              cases a with
              | none => rw [os_none] at ha5; subst ha5; exact Sim.pure (vr_slice.2 ⟨_, rfl, .inl trivial⟩)
              | some a =>
                obtain ⟨b', rfl, ha6⟩ := os_some.1 ha5
                exact Sim.bind (Sim.storeCells _ _ 0 (ha6.add _) (allR_list hy)) fun E6 _ _ up6 _ => Sim.pure (vr_slice.2 ⟨_, rfl, .inl (ha6.up up6)⟩)
            · refine Sim.bind (Sim.typeInfo _) fun E5 i i' up5 e => ?_
              obtain ⟨rfl, _⟩ := e
              split
              · exact Sim.dies (Dies.bind (Dies.runtimePanic _))
              · refine Sim.bind (Sim.typeInfo _) fun E6 i i' up6 e => ?_
                obtain ⟨rfl, _⟩ := e
                split
                · refine Sim.dies (Dies.bind (Dies.bind2 (fun gh => .inl (lives_mayShare _ _ _ _ _ gh)) fun r => ?_))
                  split
                  · exact Dies.bind2 (fun gh => .inl ⟨_, _, rfl⟩) fun _ => Dies.halt rfl
                  · exact Dies.halt rfl
                · refine Sim.bind Sim.choose fun E7 c c' up7 e => ?_
                  subst e
                  refine Sim.bind (Sim.typeInfo _) fun E8 i i' up8 e => ?_
                  obtain ⟨rfl, _⟩ := e
                  refine Sim.bind (Sim.askRoom _) fun E9 _ _ up9 _ => ?_
                  have up : ∀ a b, E4 a b → E9 a b := fun a b q => up9 _ _ (up8 _ _ (up7 _ _ (up6 _ _ (up5 _ _ q))))
                  refine Sim.bind (Sim.firstCells _ _ (vr_slice.2 ⟨_, rfl, ha4.up up⟩) (fun _ _ _ e => by cases e; exact Nat.le_refl _)) fun F1 y y' uq1 hy => ?_
                  refine Sim.bind (Sim.firstCells _ _ ((hu4.up up).up uq1) (fun a l c e => by rw [← hlen a l c e]; exact Nat.le_refl _)) fun F2 k k' uq2 hk => ?_
                  refine Sim.bind (Sim.zeroValue hz _ (ht ty _ hty hun)) fun F3 v v' uq3 h => ?_
                  obtain ⟨rfl, hcl⟩ := h
                  have hall := (((hy.up uq2).append hk).up uq3).append (allR_zeroCells (E := F3) (fun i hi => closed_cells hcl i hi) (c' - (dl + n')))
                  exact Sim.bind (Sim.newRow hall) fun F4 a a' uq4 h => Sim.pure (vr_slice.2 ⟨_, rfl, .inl h.as⟩)
        | _ => exact Sim.dies Dies.stuck
      · exact Sim.stuck
variable {P : Program} {fns : Fx} {E E' E'' : Nat → Nat → Prop} {Z : Nat → Prop}
/-- The same on both sides, a scalar. -/
def VS (fns : Fx) (E : Nat → Nat → Prop) (v v' : Value) : Prop := VR fns E v v'
theorem Sim.intArith (op : BinOp) (k : IntKind) (a b : Int) : Sim P fns Z E (Op.intArith op k a b) (Op.intArith op k a b) (fun E' v v' => VR fns E' v v') := by
  unfold Op.intArith
  split <;> first | exact Sim.pure (vr_scalar rfl) | exact Sim.stuck
theorem Sim.intBits (op : BinOp) (k : IntKind) (a b : Int) : Sim P fns Z E (Op.intBits op k a b) (Op.intBits op k a b) (fun E' v v' => VR fns E' v v') := by
  unfold Op.intBits
  dsimp only
  split <;> first | exact Sim.pure (vr_scalar rfl) | exact Sim.stuck
theorem Sim.intDiv (op : BinOp) (k : IntKind) (a b : Int) : Sim P fns Z E (Op.intDiv op k a b) (Op.intDiv op k a b) (fun E' v v' => VR fns E' v v') := by
  unfold Op.intDiv
  split
  · exact Sim.dies (Dies.runtimePanic _)
  · split <;> first | exact Sim.pure (vr_scalar rfl) | exact Sim.stuck
theorem Sim.intCmp (op : BinOp) (a b : Int) : Sim P fns Z E (Op.intCmp op a b) (Op.intCmp op a b) (fun E' v v' => VR fns E' v v') := by
  unfold Op.intCmp
  split <;> first | exact Sim.pure (vr_scalar rfl) | exact Sim.stuck
theorem Sim.shift (op : BinOp) (k : IntKind) (a : Int) (yk : IntKind) (b : Int) : Sim P fns Z E (Op.shift op k a yk b) (Op.shift op k a yk b) (fun E' v v' => VR fns E' v v') := by
  unfold Op.shift
  split
  · exact Sim.dies (Dies.runtimePanic _)
  · dsimp only
    split <;> first | exact Sim.pure (vr_scalar rfl) | exact Sim.stuck
theorem Sim.stringOp (op : BinOp) (a b : ByteArray) : Sim P fns Z E (Op.stringOp op a b) (Op.stringOp op a b) (fun E' v v' => VR fns E' v v') := by
  unfold Op.stringOp
  dsimp only
  split
  · split
    · exact Sim.dies (Dies.halt rfl)
    · exact Sim.pure (vr_scalar rfl)
  all_goals first | exact Sim.pure (vr_scalar rfl) | exact Sim.stuck
theorem Sim.unary (op : UnOp) {v v' : Value} (hv : VR fns E v v') : Sim P fns Z E (Op.unary op v) (Op.unary op v') (fun E' v v' => VR fns E' v v') := by
  cases v with
  | int k n =>
    rw [vr_int] at hv; subst hv
    cases op
    all_goals first
      | exact Sim.dies (Dies.halt rfl)
      | exact (Sim.intArith .sub k 0 n : Sim P fns Z E (Op.intArith .sub k 0 n) (Op.intArith .sub k 0 n) _)
      | exact (Sim.intBits .xor k (if k.signed then -1 else k.max) n)
  | bool b =>
    rw [vr_bool] at hv; subst hv
    cases op <;> first | exact Sim.pure (vr_scalar rfl) | exact Sim.dies (Dies.halt rfl)
  | float => exact (vr_float hv).elim
  | complex => exact (vr_complex hv).elim
  | pointer a => cases a <;> cases op <;> exact Sim.dies (Dies.halt rfl)
  | _ => cases op <;> exact Sim.dies (Dies.halt rfl)
theorem re_cellOfByte (P : Program) (fns : Fx) (d : Nat) (t : TypeId) (o : Nat) : cellOfByte (fns.re P) d t o = cellOfByte P d t o := by
  induction d generalizing t o with
  | zero => rfl
  | succ d ih =>
    unfold cellOfByte
    simp only [ih]
    rfl
theorem re_cellAtBytes (P : Program) (fns : Fx) (d : Nat) (e : TypeId) (k off : Nat) (n : Int) : cellAtBytes (fns.re P) d e k off n = cellAtBytes P d e k off n := by
  unfold cellAtBytes
  simp only [re_byteOfCell, re_cellOfByte]
  rfl
theorem cab_mono {p : Program} {d : Nat} {e : TypeId} {k k' off : Nat} {n : Int} {o : Nat} (h : k ≤ k') (hc : cellAtBytes p d e k off n = some o) : cellAtBytes p d e k' off n = some o := by
  unfold cellAtBytes at hc ⊢
  have hk : ∀ w : Nat, Int.ofNat (k * w) ≤ Int.ofNat (k' * w) := fun w => Int.ofNat_le.2 (Nat.mul_le_mul_right w h)
  have := hk (p.bytesOf e)
  simp only [bind, Option.bind, Bool.or_eq_true, decide_eq_true_eq] at hc ⊢
  split at hc
  · cases hc
  · rename_i h1
    rw [if_neg h1]
    split at hc
    · cases hc
    · rename_i x hx
      simp only [hx] at hc ⊢
      split at hc
      · cases hc
      · rename_i h2
        rw [if_neg (by omega)]
        exact hc
theorem Sim.unsafeAdd (t : TypeId) {a a' : Option Addr} {y y' : Value} (ha : OA fns E a a') (hy : VR fns E y y') : Sim P fns Z E (Builtin.unsafeAdd_ #[] t #[.pointer a, y]) (Builtin.unsafeAdd_ #[] t #[.pointer a', y']) (fun E' v v' => VR fns E' v v') := by
  unfold Builtin.unsafeAdd_
  dsimp only
  refine Sim.bind (Sim.asInt hy) fun E1 n n' up1 e => ?_
  subst e
  have ha1 := ha.up up1
  split
  · cases a with
    | none => rw [oa_none] at ha1; subst ha1; exact Sim.dies (Dies.halt rfl)
    | some a =>
      obtain ⟨b, rfl, hb⟩ := oa_some.1 ha1
      refine Sim.bind (Sim.viewAt hb.1) fun E2 s s' up2 e => ?_
      obtain ⟨rfl, rfl⟩ := e
      exact Sim.pure (vr_pointer.2 ⟨_, rfl, hb.up up2⟩)
  · split
    · exact Sim.dies (Dies.bind (Dies.halt rfl))
    · cases a with
      | none => rw [oa_none] at ha1; subst ha1; exact Sim.dies (Dies.halt rfl)
      | some a =>
        obtain ⟨b, rfl, hb⟩ := oa_some.1 ha1
        refine Sim.bind (Sim.shape hb.1) fun E2 s s' up2 e => ?_
        rcases e with ⟨rfl, rfl⟩ | ⟨el, k, k', rfl, rfl, hk⟩
        · exact Sim.dies (Dies.halt rfl)
        · dsimp only
          refine Sim.bind Sim.program fun E3 p q up3 e => ?_
          obtain ⟨rfl, rfl⟩ := e
          rw [← hb.2.1, show (fns.re p).depth = p.depth from rfl, show (fns.re p).cellsOf el = p.cellsOf el from rfl, re_cellAtBytes]
          cases hc : cellAtBytes p p.depth el (k / p.cellsOf el) a.off n' with
          | none => exact Sim.dies (Dies.halt rfl)
          | some o =>
            rw [cab_mono (Nat.div_le_div_right hk) hc]
            exact Sim.pure (vr_pointer.2 ⟨_, rfl, up3 _ _ (up2 _ _ hb.1), rfl, hb.2.2.1, hb.2.2.2⟩)
theorem Sim.movedNumber (t : TypeId) {a a' : Option Addr} {y y' : Value} (ha : OA fns E a a') (hy : VR fns E y y') : Sim P fns Z E (Go.movedNumber t (.pointer a) y) (Go.movedNumber t (.pointer a') y') (fun E' v v' => VR fns E' v v') := by
  unfold Go.movedNumber
  cases a with
  | none =>
    rw [oa_none] at ha; subst ha
    refine Sim.bind (Sim.underlying t) fun E1 d d' up1 e => ?_
    obtain ⟨rfl, -⟩ := e
    cases d' <;> first
      | exact Sim.unsafeAdd t (a := none) (a' := none) trivial (hy.up up1)
      | exact Sim.dies (show Dies P (Go.unsupported _ >>= fun _ => Builtin.unsafeAdd_ #[] t #[.pointer none, y]) from Dies.bind (Dies.halt rfl))
  | some a =>
    obtain ⟨b, rfl, hb⟩ := oa_some.1 ha
    refine Sim.bind (Sim.underlying t) fun E1 d d' up1 e => ?_
    obtain ⟨rfl, -⟩ := e
    dsimp only
    split
    · rw [if_pos rfl]; exact Sim.dies (Dies.bind (Dies.halt rfl))
    · simp only [Bool.false_eq_true, if_false]
      refine Sim.bind (Sim.behindNumber (hb.up up1)) fun E2 s s' up2 e => ?_
      obtain ⟨e1, e2⟩ := e
      rw [← e2]
      refine Sim.bind (Sim.unsafeAdd t (a := some s.1) (a' := some s'.1) e1 ((hy.up up1).up up2)) fun E3 v v' up3 hv => ?_
      cases v with
      | pointer p =>
        obtain ⟨p', rfl, hp⟩ := vr_pointer.1 hv
        cases p with
        | none => rw [oa_none] at hp; subst hp; exact Sim.pure (vr_scalar rfl)
        | some p => obtain ⟨q, rfl, hq⟩ := oa_some.1 hp; exact Sim.asNumber hq _
      | float => exact (vr_float hv).elim
      | complex => exact (vr_complex hv).elim
      | slice a l c => obtain ⟨b, rfl, _⟩ := vr_slice.1 hv; exact Sim.pure hv
      | map r => obtain ⟨rfl, rfl⟩ := vr_map.1 hv; exact Sim.pure hv
      | chan r => obtain ⟨rfl, rfl⟩ := vr_chan.1 hv; exact Sim.pure hv
      | func f x y => obtain ⟨x', y', rfl, _⟩ := vr_func.1 hv; exact Sim.pure hv
      | iface t u => obtain ⟨u', rfl, _⟩ := vr_iface.1 hv; exact Sim.pure hv
      | agg x => obtain ⟨x', rfl, _⟩ := vr_agg.1 hv; exact Sim.pure hv
      | tuple x => obtain ⟨x', rfl, _⟩ := vr_tuple.1 hv; exact Sim.pure hv
      | _ => have := hv; rw [VR] at this; subst this; exact Sim.pure hv
theorem Sim.movedPointer (t : TypeId) {a a' : Option Addr} {y y' : Value} (ha : OA fns E a a') (hy : VR fns E y y') : Sim P fns Z E (Go.movedPointer t (.pointer a) y) (Go.movedPointer t (.pointer a') y') (fun E' v v' => VR fns E' v v') := by
  unfold Go.movedPointer
  cases a with
  | none => rw [oa_none] at ha; subst ha; exact Sim.unsafeAdd t (a := none) (a' := none) trivial hy
  | some a =>
    obtain ⟨b, rfl, hb⟩ := oa_some.1 ha
    dsimp only
    refine Sim.bind (Sim.numberAt hb.1) fun E2 s s' up2 e => ?_
    rcases e with ⟨rfl, rfl⟩ | ⟨y, y', l, rfl, rfl, _⟩
    · exact Sim.unsafeAdd t (a := some a) (a' := some b) (hb.up up2) (hy.up up2)
    · exact Sim.dies (Dies.bind (Dies.halt rfl))
theorem Sim.wrE {α β : Type} {s : Sem α} {s' : Sem β} {Φ : (Nat → Nat → Prop) → α → β → Prop} (h : (∃ gh re, WR P fns E Z gh re) → Sim P fns Z E s s' Φ) : Sim P fns Z E s s' Φ := fun gh re hw => h ⟨gh, re, hw⟩ gh re hw
theorem Sim.twoPlaces {a a' b b' : Addr} (ha : AR fns E a a') (hb : AR fns E b b') : Sim P fns Z E (Op.twoPlaces a b) (Op.twoPlaces a' b') (fun _ n n' => n' = n) := by
  refine Sim.wrE fun ⟨gh, re, hw⟩ => ?_
  unfold Op.twoPlaces
  refine Sim.bind Sim.program fun E1 p q up1 e => ?_
  obtain ⟨rfl, rfl⟩ := e
  rw [show (fns.re p).globals = p.globals from rfl]
  have e1 : (a'.block != b'.block || decide (a'.block ≥ p.globals.size)) = (a.block != b.block || decide (a.block ≥ p.globals.size)) := by
    have i := hw.inj _ _ _ _ ha.1 hb.1
    have g := hw.glob _ _ ha.1
    have g1 : (a'.block != b'.block) = (a.block != b.block) := by
      by_cases h : a.block = b.block
      · rw [h, i.1 h, bne_self_eq_false, bne_self_eq_false]
      · rw [bne_iff_ne.2 h, bne_iff_ne.2 fun x => h (i.2 x ha.2.2.2)]
    have g2 : decide (a'.block ≥ p.globals.size) = decide (a.block ≥ p.globals.size) := by
      rw [decide_eq_decide]
      by_cases hh : a.block ≤ p.globals.size ∨ a'.block ≤ p.globals.size
      · rw [g hh]
      · constructor <;> intro _ <;> omega
    rw [g1, g2]
  rw [e1]
  dsimp only
  split
  · exact Sim.dies (Dies.bind (Dies.halt rfl))
  · refine Sim.bind (Sim.byteOf (ha.up up1).as) fun E2 n n' up2 e => ?_
    subst e
    refine Sim.bind (Sim.byteOf ((hb.up up1).up up2).as) fun E3 n n' up3 e => ?_
    subst e
    exact Sim.pure rfl
theorem Sim.addrSub (k : IntKind) {a a' b b' : Addr} (ha : AR fns E a a') (hb : AR fns E b b') : Sim P fns Z E (Op.addrSub k a b) (Op.addrSub k a' b') (fun E' v v' => VR fns E' v v') := by
  unfold Op.addrSub
  refine Sim.bind (Sim.twoPlaces ha hb) fun E2 n n' up2 e => ?_
  subst e
  exact Sim.pure (vr_scalar rfl)
theorem Sim.addrCmp (op : BinOp) {a a' b b' : Addr} (ha : AR fns E a a') (hb : AR fns E b b') : Sim P fns Z E (Op.addrCmp op a b) (Op.addrCmp op a' b') (fun E' v v' => VR fns E' v v') := by
  unfold Op.addrCmp
  refine Sim.bind (Sim.twoPlaces ha hb) fun E2 n n' up2 e => ?_
  subst e
  dsimp only
  split <;> first | exact Sim.pure (vr_scalar rfl) | exact Sim.dies (Dies.halt rfl)
theorem Sim.addrMod (k : IntKind) {a a' : Addr} (ha : AR fns E a a') (n : Int) : Sim P fns Z E (Op.addrMod k a n) (Op.addrMod k a' n) (fun E' v v' => VR fns E' v v') := by
  unfold Op.addrMod
  refine Sim.bind (Sim.shape ha.1) fun E1 s s' up1 e => ?_
  rcases e with ⟨rfl, rfl⟩ | ⟨el, k, k', rfl, rfl, hk⟩
  · exact Sim.dies (Dies.halt rfl)
  · dsimp only
    refine Sim.bind (Sim.typeInfo _) fun E2 i i' up2 e => ?_
    obtain ⟨rfl, _⟩ := e
    split
    · exact Sim.dies (Dies.bind (Dies.halt rfl))
    · refine Sim.bind (Sim.byteOf ((ha.up up1).up up2).as) fun E3 n n' up3 e => ?_
      subst e
      exact Sim.pure (vr_scalar rfl)
variable {P : Program} {fns : Fx} {E E' E'' : Nat → Nat → Prop} {Z : Nat → Prop}
def simple : TypeDesc → Bool
  | .int _ | .bool | .string => true
  | _ => false
theorem Sim.equalSimple {t : TypeId} (hs : ∀ d, P.underlying t = some d → simple d = true) : ∀ (n : Nat) {E : Nat → Nat → Prop} {x x' y y' : Value}, VR fns E x x' → VR fns E y y' → Sim P fns Z E (Op.equalIn n t x y) (Op.equalIn n t x' y') (fun _ b b' => b' = b)
  | 0, E, x, x', y, y', hx, hy => by unfold Op.equalIn; exact Sim.dies (Dies.halt rfl)
  | n + 1, E, x, x', y, y', hx, hy => by
    unfold Op.equalIn
    refine Sim.bind (Sim.underlying t) fun E1 d d' up1 e => ?_
    obtain ⟨rfl, hd⟩ := e
    have hsd := hs _ hd
    have hx1 := hx.up up1
    have hy1 := hy.up up1
    clear hx hy hd
    split
    · rw [vr_bool] at hx1 hy1; subst hx1; subst hy1; exact Sim.pure rfl
    · rw [vr_int] at hx1 hy1; subst hx1; subst hy1
      dsimp only
      split
      · exact Sim.pure rfl
      · exact Sim.stuck
    · obtain ⟨b, rfl, hb⟩ := vr_pointer.1 hx1
      obtain ⟨b', rfl, hb⟩ := oa_some.1 hb
      rw [vr_int] at hy1; subst hy1
      exact Sim.pure rfl
    · obtain ⟨b, rfl, hb⟩ := vr_pointer.1 hy1
      obtain ⟨b', rfl, hb⟩ := oa_some.1 hb
      rw [vr_int] at hx1; subst hx1
      exact Sim.pure rfl
    · obtain ⟨b, rfl, hb⟩ := vr_pointer.1 hx1
      obtain ⟨a', rfl, ha⟩ := oa_some.1 hb
      obtain ⟨b, rfl, hb⟩ := vr_pointer.1 hy1
      obtain ⟨b', rfl, hb⟩ := oa_some.1 hb
      dsimp only
      refine Sim.bind (Sim.behindNumber ha) fun E2 s s' up2 e1 => ?_
      refine Sim.bind (Sim.behindNumber (hb.up up2)) fun E3 u u' up3 e2 => ?_
      have k1 := e1.1.up up3
      have k2 := e2.1
      refine Sim.wrE fun ⟨gh, re, hw⟩ => ?_
      have i : s.1.block = u.1.block ↔ s'.1.block = u'.1.block := ⟨(hw.inj _ _ _ _ k1.1 k2.1).1, fun x => (hw.inj _ _ _ _ k1.1 k2.1).2 x k1.2.2.2⟩
      have g := hw.glob _ _ k1.1
      refine Sim.bind Sim.program fun E4 p q up4 e => ?_
      obtain ⟨rfl, rfl⟩ := e
      rw [show (fns.re p).globals = p.globals from rfl]
      have e3 : (s'.1.block == u'.1.block && decide (s'.1.block < p.globals.size)) = (s.1.block == u.1.block && decide (s.1.block < p.globals.size)) := by
        have g1 : (s'.1.block == u'.1.block) = (s.1.block == u.1.block) := by
          by_cases h : s.1.block = u.1.block
          · rw [h, i.1 h, beq_self_eq_true, beq_self_eq_true]
          · rw [beq_eq_false_iff_ne.2 h, beq_eq_false_iff_ne.2 fun x => h (i.2 x)]
        have g2 : decide (s'.1.block < p.globals.size) = decide (s.1.block < p.globals.size) := by
          rw [decide_eq_decide]
          by_cases hh : s.1.block ≤ p.globals.size ∨ s'.1.block ≤ p.globals.size
          · rw [g hh]
          · constructor <;> intro _ <;> omega
        rw [g1, g2]
      rw [e3]
      split
      · refine Sim.bind (Sim.byteOf (k1.up up4).as) fun E5 n n' up5 e => ?_
        subst e
        refine Sim.bind (Sim.byteOf ((k2.up up4).up up5).as) fun E6 n n' up6 e => ?_
        subst e
        exact Sim.pure rfl
      · refine Sim.bind (Sim.typeInfo _) fun E5 i i' up5 e => ?_
        obtain ⟨rfl, _⟩ := e
        have e4 : (s'.1 == u'.1) = (s.1 == u.1) := by
          obtain ⟨⟨s1, s2, s3⟩, _⟩ := s
          obtain ⟨⟨s1', s2', s3'⟩, _⟩ := s'
          obtain ⟨⟨u1, u2, u3⟩, _⟩ := u
          obtain ⟨⟨u1', u2', u3'⟩, _⟩ := u'
          obtain ⟨_, k12, k13, _⟩ := k1
          obtain ⟨_, k22, k23, _⟩ := k2
          simp only at k12 k13 k22 k23 i ⊢
          subst k12 k13 k22 k23
          rw [Bool.eq_iff_iff]
          simp [i]
        split
        · rw [e4]
          split
          · exact Sim.pure rfl
          · exact Sim.dies (Dies.halt rfl)
        · exact Sim.dies (Dies.halt rfl)
    · exact Sim.dies (Dies.halt rfl)
    · exact Sim.dies (Dies.halt rfl)
    all_goals first
      | (cases hsd; done)
      | (rw [vr_string] at hx1 hy1; subst hx1; subst hy1; exact Sim.pure rfl)
      | exact Sim.stuck
theorem Sim.equalNil {t : TypeId} {y : Value} (hy : y = .nilIface ∨ ∃ l c, y = .slice none l c) : ∀ (n : Nat) {E : Nat → Nat → Prop} {x x' : Value}, VR fns E x x' → Sim P fns Z E (Op.equalIn n t x y) (Op.equalIn n t x' y) (fun _ b b' => b' = b)
  | 0, E, x, x', hx => by unfold Op.equalIn; exact Sim.dies (Dies.halt rfl)
  | n + 1, E, x, x', hx => by
    unfold Op.equalIn
    refine Sim.bind (Sim.underlying t) fun E1 d d' up1 e => ?_
    obtain ⟨rfl, -⟩ := e
    have hx1 := hx.up up1
    clear hx
    rcases hy with rfl | ⟨l, c, rfl⟩
    · split
      all_goals first
        | exact Sim.stuck
        | exact Sim.dies (Dies.halt rfl)
        | (rw [vr_nilIface] at hx1; subst hx1; exact Sim.pure rfl)
        | (obtain ⟨u', rfl, _⟩ := vr_iface.1 hx1; exact Sim.pure rfl)
        | (rename_i h; cases h)
        | (rename_i h _; cases h)
    · split
      all_goals first
        | exact Sim.stuck
        | exact Sim.dies (Dies.halt rfl)
        | (obtain ⟨b, rfl, hb⟩ := vr_slice.1 hx1; rw [sr_none] at hb; subst hb; exact Sim.pure rfl)
        | (obtain ⟨b, rfl, hb⟩ := vr_slice.1 hx1; cases b <;> exact Sim.pure rfl)
        | (rename_i h; cases h; done)
        | (rename_i h _; cases h; done)
        | (rename_i h; cases h; obtain ⟨b, rfl, hb⟩ := vr_slice.1 hx1; rw [sr_none] at hb; subst hb; exact Sim.pure rfl)
        | (rename_i hne h; cases h; obtain ⟨b, rfl, hb⟩ := vr_slice.1 hx1; cases b with | none => exact (hne (by rename_i a _ _; cases a <;> first | rfl | (obtain ⟨_, e⟩ := sr_some hb; cases e))).elim | some b => exact Sim.pure rfl)
/-- What is compared plainly: the operand behind the operator is nil itself, or the type is a number's, a bool's or a text's. -/
def plainEq (P : Program) (t : TypeId) (y : Operand) : Bool :=
  match y with
  | .const .nilIface => true
  | .const (.slice none _ _) => true
  | _ => match P.underlying t with
    | some d => simple d
    | none => true
theorem plainEq_cases {t : TypeId} {y : Operand} (h : plainEq P t y = true) : (y = .const .nilIface ∨ ∃ l c, y = .const (.slice none l c)) ∨ ∀ d, P.underlying t = some d → simple d = true := by
  unfold plainEq at h
  split at h
  · exact .inl (.inl rfl)
  · exact .inl (.inr ⟨_, _, rfl⟩)
  · refine .inr fun d hd => ?_
    rw [hd] at h; exact h
theorem Sim.equal {t : TypeId} {y : Operand} (h : plainEq P t y = true) {x x' b b' : Value} (hx : VR fns E x x') (hb : VR fns E b b') (hy : ∀ v, y = .const v → b = v) : Sim P fns Z E (Op.equal t x b) (Op.equal t x' b') (fun _ r r' => r' = r) := by
  rcases plainEq_cases h with h | h
  · have e : b = .nilIface ∨ ∃ l c, b = .slice none l c := by
      rcases h with h | ⟨l, c, h⟩
      · exact .inl (hy _ h)
      · exact .inr ⟨l, c, hy _ h⟩
    have e' : b' = b := by
      rcases e with rfl | ⟨l, c, rfl⟩
      · rw [vr_nilIface] at hb; exact hb
      · obtain ⟨q, rfl, hq⟩ := vr_slice.1 hb; rw [sr_none] at hq; rw [hq]
    subst e'
    exact Sim.equalNil e _ hx
  · exact Sim.equalSimple h _ hx hb
theorem guard_simple {t : TypeId} (hs : ∀ d, P.underlying t = some d → simple d = true) : ∀ (n : Nat) {E : Nat → Nat → Prop} {x x' y y' : Value}, Sim P fns Z E (Op.eqGuardIn n t x y) (Op.eqGuardIn n t x' y') (fun _ b b' => b = false ∧ b' = false)
  | 0, E, x, x', y, y' => by unfold Op.eqGuardIn; exact Sim.dies (Dies.halt rfl)
  | n + 1, E, x, x', y, y' => by
    unfold Op.eqGuardIn
    refine Sim.bind (Sim.underlying t) fun E1 d d' up1 e => ?_
    obtain ⟨rfl, hd⟩ := e
    have := hs _ hd
    cases d' <;> first | (cases this; done) | exact Sim.pure ⟨rfl, rfl⟩
theorem guardType_simple {t : TypeId} (hs : ∀ d, P.underlying t = some d → simple d = true) (n : Nat) : P.eqGuardType (n + 1) t = false := by
  unfold Program.eqGuardType
  cases h : P.underlying t with
  | none => rfl
  | some d => have := hs _ h; cases d <;> first | (cases this; done) | rfl
theorem vr_nilIface' {v : Value} (h : VR fns E v .nilIface) : v = .nilIface := by
  cases v with
  | nilIface => rfl
  | pointer a => obtain ⟨b, h, _⟩ := vr_pointer.1 h; cases h
  | slice a l c => obtain ⟨b, h, _⟩ := vr_slice.1 h; cases h
  | map r => obtain ⟨_, h⟩ := vr_map.1 h; cases h
  | chan r => obtain ⟨_, h⟩ := vr_chan.1 h; cases h
  | func f x y => obtain ⟨x', y', h, _⟩ := vr_func.1 h; cases h
  | iface t u => obtain ⟨u', h, _⟩ := vr_iface.1 h; cases h
  | agg x => obtain ⟨x', h, _⟩ := vr_agg.1 h; cases h
  | tuple x => obtain ⟨x', h, _⟩ := vr_tuple.1 h; cases h
  | float => exact (vr_float h).elim
  | complex => exact (vr_complex h).elim
  | _ => rw [VR] at h; cases h
theorem vr_agg' {v : Value} {x' : Array Value} (h : VR fns E v (.agg x')) : ∃ x, v = .agg x := by
  cases v with
  | agg x => exact ⟨x, rfl⟩
  | pointer a => obtain ⟨b, h, _⟩ := vr_pointer.1 h; cases h
  | slice a l c => obtain ⟨b, h, _⟩ := vr_slice.1 h; cases h
  | map r => obtain ⟨_, h⟩ := vr_map.1 h; cases h
  | chan r => obtain ⟨_, h⟩ := vr_chan.1 h; cases h
  | func f x y => obtain ⟨x', y', h, _⟩ := vr_func.1 h; cases h
  | iface t u => obtain ⟨u', h, _⟩ := vr_iface.1 h; cases h
  | tuple x => obtain ⟨x', h, _⟩ := vr_tuple.1 h; cases h
  | float => exact (vr_float h).elim
  | complex => exact (vr_complex h).elim
  | _ => rw [VR] at h; cases h
theorem Sim.eqGuard (hdep : 0 < P.depth) (op : BinOp) (t : TypeId) (x y : Operand) (h : plainEq P t y = true) {a a' b b' : Value} (ha : VR fns E a a') (hb : VR fns E b b') (hy : ∀ v, y = .const v → b = v) : Sim P fns Z E (Go.eqGuard op t x y a b) (Go.eqGuard op t x y a' b') (fun _ _ _ => True) := by
  unfold Go.eqGuard
  split
  · simp only [Bool.not_true, Bool.false_eq_true, if_false]
    split
    · rw [vr_nilIface] at ha hb; subst ha; subst hb
      dsimp only
      rcases plainEq_cases h with hc | hc
      · rcases hc with rfl | ⟨l, c, rfl⟩ <;> cases x <;> exact Sim.pure trivial
      · have tail : Sim P fns Z E (Op.eqGuardIn Op.maxDepth t .nilIface .nilIface) (Op.eqGuardIn Op.maxDepth t .nilIface .nilIface) (fun _ b b' => b = false ∧ b' = false) := guard_simple hc _
        cases x <;> cases y <;> first
          | exact Sim.pure trivial
          | exact Sim.bind tail fun E1 r r' up1 e => (by obtain ⟨rfl, rfl⟩ := e; exact Sim.pure trivial)
    · obtain ⟨x1, rfl, _⟩ := vr_agg.1 ha
      obtain ⟨y1, rfl, _⟩ := vr_agg.1 hb
      dsimp only
      rcases plainEq_cases h with hc | hc
      · rcases hc with rfl | ⟨l, c, rfl⟩
        · cases hy _ rfl
        · cases hy _ rfl
      · refine Sim.bind Sim.program fun E1 p q up1 e => ?_
        obtain ⟨rfl, rfl⟩ := e
        refine Sim.bind Sim.program fun E1 p q up1 e => ?_
        obtain ⟨rfl, rfl⟩ := e
        obtain ⟨n, hn⟩ : ∃ n, p.depth = n + 1 := ⟨p.depth - 1, by omega⟩
        rw [show (fns.re p).depth = p.depth from rfl, hn, guardType_simple hc, guardType_simple (P := fns.re p) hc]
        exact Sim.pure trivial
    · rename_i h1 h2
      split
      · exact (h1 (vr_nilIface' ha) (vr_nilIface' hb)).elim
      · obtain ⟨_, e1⟩ := vr_agg' ha
        obtain ⟨_, e2⟩ := vr_agg' hb
        exact (h2 _ _ e1 e2).elim
      · exact Sim.pure trivial
  · simp only [Bool.not_true, Bool.false_eq_true, if_false]
    split
    · rw [vr_nilIface] at ha hb; subst ha; subst hb
      dsimp only
      rcases plainEq_cases h with hc | hc
      · rcases hc with rfl | ⟨l, c, rfl⟩ <;> cases x <;> exact Sim.pure trivial
      · have tail : Sim P fns Z E (Op.eqGuardIn Op.maxDepth t .nilIface .nilIface) (Op.eqGuardIn Op.maxDepth t .nilIface .nilIface) (fun _ b b' => b = false ∧ b' = false) := guard_simple hc _
        cases x <;> cases y <;> first
          | exact Sim.pure trivial
          | exact Sim.bind tail fun E1 r r' up1 e => (by obtain ⟨rfl, rfl⟩ := e; exact Sim.pure trivial)
    · obtain ⟨x1, rfl, _⟩ := vr_agg.1 ha
      obtain ⟨y1, rfl, _⟩ := vr_agg.1 hb
      dsimp only
      rcases plainEq_cases h with hc | hc
      · rcases hc with rfl | ⟨l, c, rfl⟩
        · cases hy _ rfl
        · cases hy _ rfl
      · refine Sim.bind Sim.program fun E1 p q up1 e => ?_
        obtain ⟨rfl, rfl⟩ := e
        refine Sim.bind Sim.program fun E1 p q up1 e => ?_
        obtain ⟨rfl, rfl⟩ := e
        obtain ⟨n, hn⟩ : ∃ n, p.depth = n + 1 := ⟨p.depth - 1, by omega⟩
        rw [show (fns.re p).depth = p.depth from rfl, hn, guardType_simple hc, guardType_simple (P := fns.re p) hc]
        exact Sim.pure trivial
    · rename_i h1 h2
      split
      · exact (h1 (vr_nilIface' ha) (vr_nilIface' hb)).elim
      · obtain ⟨_, e1⟩ := vr_agg' ha
        obtain ⟨_, e2⟩ := vr_agg' hb
        exact (h2 _ _ e1 e2).elim
      · exact Sim.pure trivial
  · simp only [Bool.not_false, if_true]
    exact Sim.pure trivial
/-! ### structs of plain parts; pointers with nil -/
def flatEq (P : Program) (fns : Fx) (t : TypeId) : Bool := match P.underlying t with
  | some (.struct fs) => fs.all (fun f => match P.underlying f.type with
    | some d => simple d
    | none => true) && !P.stoodInHeld t && !(fns.re P).stoodInHeld t && !P.eqGuardType P.depth t && !(fns.re P).eqGuardType P.depth t
  | _ => false
def nilPtr (P : Program) (t : TypeId) (y : Operand) : Bool := match y with
  | .const (.pointer none) => match P.underlying t with
    | some (.pointer _) => true
    | _ => false
  | _ => false
def eqOK (P : Program) (fns : Fx) (t : TypeId) (y : Operand) : Bool := plainEq P t y || flatEq P fns t || nilPtr P t y
theorem Sim.forSame {α σ : Type} {f f' : α → σ → Sem (ForInStep σ)} : ∀ (l : List α) (s : σ) {E : Nat → Nat → Prop}, (∀ E', (∀ a b, E a b → E' a b) → ∀ a ∈ l, ∀ r, Sim P fns Z E' (f a r) (f' a r) (fun _ x y => y = x)) →
    Sim P fns Z E (ForIn.forIn l s f) (ForIn.forIn l s f') (fun _ x y => y = x)
  | [], s, E, _ => by simp only [List.forIn_nil]; exact Sim.pure rfl
  | v :: vs, s, E, hf => by
    simp only [List.forIn_cons]
    refine Sim.bind (hf E (fun _ _ x => x) v (by simp) s) fun E1 x y up1 e => ?_
    subst e
    cases y with
    | done r => exact Sim.pure rfl
    | yield r => exact Sim.forSame vs r fun E' up a ha r => hf E' (fun a b x => up a b (up1 a b x)) a (by simp [ha]) r
theorem Sim.part (t : TypeId) {x x' : Array Value} (h : AllR fns E x x') (o : Nat) : Sim P fns Z E (Go.part t x o) (Go.part t x' o) (fun E' v v' => VR fns E' v v') := by
  unfold Go.part
  refine Sim.bind (Sim.isAgg t) fun E1 b b' up1 e => ?_
  subst e
  split
  · refine Sim.bind (Sim.sizeOf t) fun E2 n n' up2 e => ?_
    subst e
    exact Sim.pure (vr_agg.2 ⟨_, rfl, ((h.up up1).up up2).extract _ _⟩)
  · cases hx : x[o]? with
    | none => exact Sim.stuck
    | some v =>
      obtain ⟨v', e, hv⟩ := h.get? o hx
      rw [e]
      exact Sim.pure (hv.up up1)
theorem Sim.equalFlat {t : TypeId} (h : flatEq P fns t = true) : ∀ (n : Nat) {E : Nat → Nat → Prop} {x x' y y' : Value}, VR fns E x x' → VR fns E y y' → Sim P fns Z E (Op.equalIn n t x y) (Op.equalIn n t x' y') (fun _ b b' => b' = b)
  | 0, E, x, x', y, y', hx, hy => by unfold Op.equalIn; exact Sim.dies (Dies.halt rfl)
  | n + 1, E, x, x', y, y', hx, hy => by
    unfold flatEq at h
    split at h
    · rename_i fs hfs
      simp only [Bool.and_eq_true, Bool.not_eq_true'] at h
      obtain ⟨⟨⟨⟨hall, s1⟩, s2⟩, _⟩, _⟩ := h
      unfold Op.equalIn
      refine Sim.bind (Sim.underlying t) fun E1 d d' up1 e => ?_
      obtain ⟨rfl, hd⟩ := e
      rw [hfs] at hd
      obtain rfl := Option.some.inj hd
      have hx1 := hx.up up1
      have hy1 := hy.up up1
      cases x with
      | agg xs =>
        obtain ⟨xs', rfl, hxs⟩ := vr_agg.1 hx1
        cases y with
        | agg ys =>
          obtain ⟨ys', rfl, hys⟩ := vr_agg.1 hy1
          dsimp only
          refine Sim.bind Sim.program fun E2 p q up2 e => ?_
          obtain ⟨rfl, rfl⟩ := e
          rw [s1, s2]
          simp only [Bool.false_eq_true, if_false]
          simp only [← Array.forIn_toList]
          refine Sim.bind (Φ := fun _ a b => b = a) (Sim.forSame fs.toList _ fun E3 up3 f hf r => ?_) fun E3 r r' up3 e => ?_
          · split
            · refine Sim.bind (Sim.part _ ((AllR.up hxs up2).up up3) _) fun E4 u u' up4 hu => ?_
              refine Sim.bind (Sim.part _ (((AllR.up hys up2).up up3).up up4) _) fun E5 v v' up5 hv => ?_
              have hsimple : ∀ d, p.underlying f.type = some d → simple d = true := fun d hd => by
                rw [Array.all_eq_true'] at hall
                have := hall f (Array.mem_toList_iff.1 hf)
                rw [hd] at this
                exact this
              refine Sim.bind (Sim.equalSimple hsimple n (hu.up up5) hv) fun E6 b b' up6 e => ?_
              subst e
              split <;> exact Sim.pure rfl
            · exact Sim.pure rfl
          · subst e
            split <;> exact Sim.pure rfl
        | _ => exact Sim.dies (Dies.halt rfl)
      | _ => exact Sim.dies (Dies.halt rfl)
    · cases h
theorem nilPtr_cases {t : TypeId} {y : Operand} (h : nilPtr P t y = true) : y = .const (.pointer none) ∧ ∃ e, P.underlying t = some (.pointer e) := by
  unfold nilPtr at h
  split at h
  · refine ⟨rfl, ?_⟩
    split at h
    · rename_i e he; exact ⟨e, he⟩
    · cases h
  · cases h
theorem Sim.equalPtr {t e : TypeId} (h : P.underlying t = some (.pointer e)) : ∀ (n : Nat) {E : Nat → Nat → Prop} {x x' : Value}, VR fns E x x' → Sim P fns Z E (Op.equalIn n t x (.pointer none)) (Op.equalIn n t x' (.pointer none)) (fun _ b b' => b' = b)
  | 0, E, x, x', hx => by unfold Op.equalIn; exact Sim.dies (Dies.halt rfl)
  | n + 1, E, x, x', hx => by
    unfold Op.equalIn
    refine Sim.bind (Sim.underlying t) fun E1 d d' up1 e => ?_
    obtain ⟨rfl, hd⟩ := e
    rw [h] at hd
    obtain rfl := Option.some.inj hd
    have hx1 := hx.up up1
    cases x with
    | pointer a =>
      obtain ⟨b, rfl, hb⟩ := vr_pointer.1 hx1
      cases a with
      | none => rw [oa_none] at hb; subst hb; exact Sim.pure rfl
      | some a => obtain ⟨b', rfl, _⟩ := oa_some.1 hb; exact Sim.pure rfl
    | _ => exact Sim.dies (Dies.halt rfl)
theorem Sim.equalOK {t : TypeId} {y : Operand} (h : eqOK P fns t y = true) {x x' b b' : Value} (hx : VR fns E x x') (hb : VR fns E b b') (hy : ∀ v, y = .const v → b = v) : Sim P fns Z E (Op.equal t x b) (Op.equal t x' b') (fun _ r r' => r' = r) := by
  unfold eqOK at h
  rw [Bool.or_eq_true, Bool.or_eq_true] at h
  rcases h with (h | h) | h
  · exact Sim.equal h hx hb hy
  · exact Sim.equalFlat h _ hx hb
  · obtain ⟨h1, e, h2⟩ := nilPtr_cases h
    obtain rfl := hy _ h1
    obtain ⟨c, rfl, hc⟩ := vr_pointer.1 hb
    rw [oa_none] at hc
    subst hc
    exact Sim.equalPtr h2 _ hx
theorem eqGuard_pass {op : BinOp} {t : TypeId} {x y : Operand} {a b : Value} (h1 : ¬ (a = .nilIface ∧ b = .nilIface)) (h2 : ¬ ∃ u v, a = .agg u ∧ b = .agg v) : Go.eqGuard op t x y a b = Pure.pure () := by
  unfold Go.eqGuard
  split
  · simp only [Bool.not_true, Bool.false_eq_true, if_false]
    split
    · exact (h1 ⟨rfl, rfl⟩).elim
    · exact (h2 ⟨_, _, rfl, rfl⟩).elim
    · rfl
  · simp only [Bool.not_true, Bool.false_eq_true, if_false]
    split
    · exact (h1 ⟨rfl, rfl⟩).elim
    · exact (h2 ⟨_, _, rfl, rfl⟩).elim
    · rfl
  · rfl
theorem Sim.guardFlat {op : BinOp} {t : TypeId} {x y : Operand} (h : flatEq P fns t = true) {a a' b b' : Value} (ha : VR fns E a a') (hb : VR fns E b b') : Sim P fns Z E (Go.eqGuard op t x y a b) (Go.eqGuard op t x y a' b') (fun _ _ _ => True) := by
  by_cases h1 : a = .nilIface ∧ b = .nilIface
  · obtain ⟨rfl, rfl⟩ := h1
    rw [vr_nilIface] at ha hb
    subst ha
    subst hb
    have tail : Sim P fns Z E (Op.eqGuardIn Op.maxDepth t .nilIface .nilIface) (Op.eqGuardIn Op.maxDepth t .nilIface .nilIface) (fun _ b b' => b = false ∧ b' = false) := by
      show Sim P fns Z E (Op.eqGuardIn (9999 + 1) t .nilIface .nilIface) (Op.eqGuardIn (9999 + 1) t .nilIface .nilIface) _
      unfold Op.eqGuardIn
      refine Sim.bind (Sim.underlying t) fun E1 d d' up1 e => ?_
      obtain ⟨rfl, hd⟩ := e
      unfold flatEq at h
      rw [hd] at h
      cases d' <;> first | (cases h; done) | exact Sim.pure ⟨rfl, rfl⟩
    unfold Go.eqGuard
    split
    · simp only [Bool.not_true, Bool.false_eq_true, if_false]
      cases x <;> cases y <;> first
        | exact Sim.pure trivial
        | exact Sim.bind tail fun E1 r r' up1 e => (by obtain ⟨rfl, rfl⟩ := e; exact Sim.pure trivial)
    · simp only [Bool.not_true, Bool.false_eq_true, if_false]
      cases x <;> cases y <;> first
        | exact Sim.pure trivial
        | exact Sim.bind tail fun E1 r r' up1 e => (by obtain ⟨rfl, rfl⟩ := e; exact Sim.pure trivial)
    · exact Sim.pure trivial
  by_cases h2 : ∃ u v, a = .agg u ∧ b = .agg v
  · obtain ⟨u, v, rfl, rfl⟩ := h2
    obtain ⟨u', rfl, _⟩ := vr_agg.1 ha
    obtain ⟨v', rfl, _⟩ := vr_agg.1 hb
    have hg : P.eqGuardType P.depth t = false ∧ (fns.re P).eqGuardType P.depth t = false := by
      unfold flatEq at h
      split at h
      · simp only [Bool.and_eq_true, Bool.not_eq_true'] at h
        exact ⟨h.1.2, h.2⟩
      · cases h
    have tail : ∀ (k k' : Sem Unit), Sim P fns Z E (Go.program >>= fun p => Go.program >>= fun q => if (!p.eqGuardType q.depth t) = true then Pure.pure () else k) (Go.program >>= fun p => Go.program >>= fun q => if (!p.eqGuardType q.depth t) = true then Pure.pure () else k') (fun _ _ _ => True) := fun k k' => by
      refine Sim.bind Sim.program fun E1 p q up1 e => ?_
      obtain ⟨rfl, rfl⟩ := e
      refine Sim.bind Sim.program fun E1 p q up1 e => ?_
      obtain ⟨rfl, rfl⟩ := e
      rw [show (fns.re p).depth = p.depth from rfl, hg.1, hg.2]
      exact Sim.pure trivial
    unfold Go.eqGuard
    split
    · simp only [Bool.not_true, Bool.false_eq_true, if_false]
      exact tail _ _
    · simp only [Bool.not_true, Bool.false_eq_true, if_false]
      exact tail _ _
    · exact Sim.pure trivial
  rw [eqGuard_pass h1 h2, eqGuard_pass (fun ⟨e1, e2⟩ => h1 ⟨vr_nilIface' (e1 ▸ ha), vr_nilIface' (e2 ▸ hb)⟩) (fun ⟨u, v, e1, e2⟩ => by
    obtain ⟨p, hp⟩ := vr_agg' (e1 ▸ ha)
    obtain ⟨q, hq⟩ := vr_agg' (e2 ▸ hb)
    exact h2 ⟨p, q, hp, hq⟩)]
  exact Sim.pure trivial
theorem Sim.guardOK (hdep : 0 < P.depth) (op : BinOp) (t : TypeId) (x y : Operand) (h : eqOK P fns t y = true) {a a' b b' : Value} (ha : VR fns E a a') (hb : VR fns E b b') (hy : ∀ v, y = .const v → b = v) : Sim P fns Z E (Go.eqGuard op t x y a b) (Go.eqGuard op t x y a' b') (fun _ _ _ => True) := by
  unfold eqOK at h
  rw [Bool.or_eq_true, Bool.or_eq_true] at h
  rcases h with (h | h) | h
  · exact Sim.eqGuard hdep op t x y h ha hb hy
  · exact Sim.guardFlat h ha hb
  · obtain ⟨h1, e, h2⟩ := nilPtr_cases h
    obtain rfl := hy _ h1
    obtain ⟨c, rfl, hc⟩ := vr_pointer.1 hb
    rw [eqGuard_pass (fun ⟨_, e⟩ => by cases e) (fun ⟨_, _, _, e⟩ => by cases e), eqGuard_pass (fun ⟨_, e⟩ => by cases e) (fun ⟨_, _, _, e⟩ => by cases e)]
    exact Sim.pure trivial
variable {P : Program} {fns : Fx} {E E' E'' : Nat → Nat → Prop} {Z : Nat → Prop}
theorem vr_int' {v : Value} {k : IntKind} {n : Int} (h : VR fns E v (.int k n)) : v = .int k n := by
  cases v with
  | pointer a => obtain ⟨b, h, _⟩ := vr_pointer.1 h; cases h
  | slice a l c => obtain ⟨b, h, _⟩ := vr_slice.1 h; cases h
  | map r => obtain ⟨_, h⟩ := vr_map.1 h; cases h
  | chan r => obtain ⟨_, h⟩ := vr_chan.1 h; cases h
  | func f x y => obtain ⟨x', y', h, _⟩ := vr_func.1 h; cases h
  | iface t u => obtain ⟨u', h, _⟩ := vr_iface.1 h; cases h
  | agg x => obtain ⟨x', h, _⟩ := vr_agg.1 h; cases h
  | tuple x => obtain ⟨x', h, _⟩ := vr_tuple.1 h; cases h
  | float => exact (vr_float h).elim
  | complex => exact (vr_complex h).elim
  | _ => rw [VR] at h; cases h <;> rfl
theorem vr_string' {v : Value} {s : ByteArray} (h : VR fns E v (.string s)) : v = .string s := by
  cases v with
  | pointer a => obtain ⟨b, h, _⟩ := vr_pointer.1 h; cases h
  | slice a l c => obtain ⟨b, h, _⟩ := vr_slice.1 h; cases h
  | map r => obtain ⟨_, h⟩ := vr_map.1 h; cases h
  | chan r => obtain ⟨_, h⟩ := vr_chan.1 h; cases h
  | func f x y => obtain ⟨x', y', h, _⟩ := vr_func.1 h; cases h
  | iface t u => obtain ⟨u', h, _⟩ := vr_iface.1 h; cases h
  | agg x => obtain ⟨x', h, _⟩ := vr_agg.1 h; cases h
  | tuple x => obtain ⟨x', h, _⟩ := vr_tuple.1 h; cases h
  | float => exact (vr_float h).elim
  | complex => exact (vr_complex h).elim
  | _ => rw [VR] at h; cases h <;> rfl
theorem vr_float' {v : Value} {k : FloatKind} {n : Nat} (h : VR fns E v (.float k n)) : False := by
  cases v with
  | pointer a => obtain ⟨b, h, _⟩ := vr_pointer.1 h; cases h
  | slice a l c => obtain ⟨b, h, _⟩ := vr_slice.1 h; cases h
  | map r => obtain ⟨_, h⟩ := vr_map.1 h; cases h
  | chan r => obtain ⟨_, h⟩ := vr_chan.1 h; cases h
  | func f x y => obtain ⟨x', y', h, _⟩ := vr_func.1 h; cases h
  | iface t u => obtain ⟨u', h, _⟩ := vr_iface.1 h; cases h
  | agg x => obtain ⟨x', h, _⟩ := vr_agg.1 h; cases h
  | tuple x => obtain ⟨x', h, _⟩ := vr_tuple.1 h; cases h
  | float => exact (vr_float h).elim
  | complex => exact (vr_complex h).elim
  | _ => rw [VR] at h; cases h
theorem vr_complex' {v : Value} {k : FloatKind} {n m : Nat} (h : VR fns E v (.complex k n m)) : False := by
  cases v with
  | pointer a => obtain ⟨b, h, _⟩ := vr_pointer.1 h; cases h
  | slice a l c => obtain ⟨b, h, _⟩ := vr_slice.1 h; cases h
  | map r => obtain ⟨_, h⟩ := vr_map.1 h; cases h
  | chan r => obtain ⟨_, h⟩ := vr_chan.1 h; cases h
  | func f x y => obtain ⟨x', y', h, _⟩ := vr_func.1 h; cases h
  | iface t u => obtain ⟨u', h, _⟩ := vr_iface.1 h; cases h
  | agg x => obtain ⟨x', h, _⟩ := vr_agg.1 h; cases h
  | tuple x => obtain ⟨x', h, _⟩ := vr_tuple.1 h; cases h
  | float => exact (vr_float h).elim
  | complex => exact (vr_complex h).elim
  | _ => rw [VR] at h; cases h
/-- Neither two numbers nor two texts. -/
def Others (a b : Value) : Prop := (∀ k n k' n', a = .int k n → b = .int k' n' → False) ∧ (∀ s s', a = .string s → b = .string s' → False) ∧ (∀ k n, a ≠ .float k n) ∧ (∀ k n m, a ≠ .complex k n m)
theorem binOp_eql {t : TypeId} {a b : Value} (h : Others a b) : Go.binOp .eql t a b = Op.equal t a b >>= fun r => Pure.pure (.bool r) := by
  obtain ⟨h1, h2, h3, h4⟩ := h
  unfold Go.binOp
  split <;> first | rfl | exact (h1 _ _ _ _ rfl rfl).elim | exact (h2 _ _ rfl rfl).elim | exact (h3 _ _ rfl).elim | exact (h4 _ _ _ rfl).elim | (rename_i h; cases h) | (rename_i h _ _; cases h) | (exfalso; simp_all; done)
theorem binOp_neq {t : TypeId} {a b : Value} (h : Others a b) : Go.binOp .neq t a b = Op.equal t a b >>= fun r => Pure.pure (.bool (!r)) := by
  obtain ⟨h1, h2, h3, h4⟩ := h
  unfold Go.binOp
  split <;> first | rfl | exact (h1 _ _ _ _ rfl rfl).elim | exact (h2 _ _ rfl rfl).elim | exact (h3 _ _ rfl).elim | exact (h4 _ _ _ rfl).elim | (rename_i h; cases h) | (rename_i h _ _; cases h) | (exfalso; simp_all; done)
theorem Sim.ints (op : BinOp) (t : TypeId) (k k' : IntKind) (n n' : Int) : Sim P fns Z E (Go.binOp op t (.int k n) (.int k' n')) (Go.binOp op t (.int k n) (.int k' n')) (fun E' v v' => VR fns E' v v') := by
  cases op
  all_goals unfold Go.binOp
  all_goals dsimp only
  all_goals first
    | exact Sim.shift _ _ _ _ _
    | (split
       · exact Sim.stuck
       · first | exact Sim.intArith _ _ _ _ | exact Sim.intDiv _ _ _ _ | exact Sim.intBits _ _ _ _ | exact Sim.intCmp _ _ _)
theorem Sim.binOp (op : BinOp) (t : TypeId) (y : Operand) (h : eqOK P fns t y = true) {a a' b b' : Value} (ha : VR fns E a a') (hb : VR fns E b b') (hy : ∀ v, y = .const v → b = v) : Sim P fns Z E (Go.binOp op t a b) (Go.binOp op t a' b') (fun E' v v' => VR fns E' v v') := by
  by_cases hi : ∃ k n k' n', a = .int k n ∧ b = .int k' n'
  · obtain ⟨k, n, k', n', rfl, rfl⟩ := hi
    rw [vr_int] at ha hb
    subst ha; subst hb
    exact Sim.ints op t k k' n n'
  by_cases hs : ∃ s s', a = .string s ∧ b = .string s'
  · obtain ⟨s, s', rfl, rfl⟩ := hs
    rw [vr_string] at ha hb
    subst ha; subst hb
    cases op <;> (unfold Go.binOp; dsimp only; exact Sim.stringOp _ _ _)
  have o1 : Others a b := ⟨fun k n k' n' e1 e2 => hi ⟨k, n, k', n', e1, e2⟩, fun s s' e1 e2 => hs ⟨s, s', e1, e2⟩, fun k n e => vr_float (e ▸ ha), fun k n m e => vr_complex (e ▸ ha)⟩
  have o2 : Others a' b' := ⟨fun k n k' n' e1 e2 => hi ⟨k, n, k', n', vr_int' (e1 ▸ ha), vr_int' (e2 ▸ hb)⟩, fun s s' e1 e2 => hs ⟨s, s', vr_string' (e1 ▸ ha), vr_string' (e2 ▸ hb)⟩, fun k n e => vr_float' (e ▸ ha), fun k n m e => vr_complex' (e ▸ ha)⟩
  by_cases h1 : op = .eql
  · subst h1
    rw [binOp_eql o1, binOp_eql o2]
    exact Sim.bind (Sim.equalOK h ha hb hy) fun E1 r r' up1 e => Sim.pure (by rw [e]; exact vr_scalar rfl)
  by_cases h2 : op = .neq
  · subst h2
    rw [binOp_neq o1, binOp_neq o2]
    exact Sim.bind (Sim.equalOK h ha hb hy) fun E1 r r' up1 e => Sim.pure (by rw [e]; exact vr_scalar rfl)
  unfold Go.binOp
  split
  all_goals first
    | exact (hi ⟨_, _, _, _, rfl, rfl⟩).elim
    | exact (hs ⟨_, _, rfl, rfl⟩).elim
    | exact (vr_float ha).elim
    | exact (vr_complex ha).elim
    | exact (h1 rfl).elim
    | exact (h2 rfl).elim
    | exact Sim.dies (Dies.halt rfl)
    | skip
  all_goals first
    | (obtain ⟨p, rfl, hp⟩ := vr_pointer.1 ha
       rw [vr_int] at hb; subst hb
       dsimp only
       refine Sim.bind (Sim.underlying t) fun E1 d d' up1 e => ?_
       obtain ⟨rfl, -⟩ := e
       split <;> first
         | exact Sim.movedPointer t (hp.up up1) (vr_scalar rfl)
         | exact Sim.movedNumber t (hp.up up1) (vr_scalar rfl))
    | (obtain ⟨p, rfl, hp⟩ := vr_pointer.1 hb
       rw [vr_int] at ha; subst ha
       exact Sim.movedNumber t hp (vr_scalar rfl))
    | (obtain ⟨p, rfl, hp⟩ := vr_pointer.1 ha
       rw [vr_int] at hb; subst hb
       exact Sim.movedNumber t hp (vr_scalar rfl))
    | (obtain ⟨p, rfl, hp⟩ := vr_pointer.1 ha
       obtain ⟨p', rfl, hp⟩ := oa_some.1 hp
       obtain ⟨q, rfl, hq⟩ := vr_pointer.1 hb
       obtain ⟨q', rfl, hq⟩ := oa_some.1 hq
       refine Sim.bind (Sim.behindNumber hp) fun E1 s s' up1 e1 => ?_
       refine Sim.bind (Sim.behindNumber (hq.up up1)) fun E2 u u' up2 e2 => ?_
       first | exact Sim.addrSub _ (e1.1.up up2) e2.1 | exact Sim.addrCmp _ (e1.1.up up2) e2.1)
    | (obtain ⟨p, rfl, hp⟩ := vr_pointer.1 ha
       obtain ⟨p', rfl, hp⟩ := oa_some.1 hp
       rw [vr_int] at hb; subst hb
       refine Sim.bind (Sim.behindNumber hp) fun E1 s s' up1 e1 => ?_
       exact Sim.addrMod _ e1.1 _)
    | (obtain ⟨p, rfl, hp⟩ := vr_pointer.1 hb
       obtain ⟨p', rfl, hp⟩ := oa_some.1 hp
       rw [vr_int] at ha; subst ha
       refine Sim.bind (Sim.behindNumber hp) fun E1 s s' up1 e1 => ?_
       exact Sim.addrMod _ e1.1 _)
    | trace_state
end Go.Proofs.YtobpjijdebnaoaaDoor
