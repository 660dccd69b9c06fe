/- Part of the proof. -/
import Derived.Conc.Events
namespace Go.Proofs.YtobpjijdebnaoaaDoor
open Go
/-- Which functions may be called; where what is known of a ghost's block begins; into which of them pointers go; the real program's functions; which of them are not gone through step by step. -/
structure Fx where
  ok : FuncId → Bool
  lo : Nat → Nat
  tys : TypeId → Bool
  rf : Array Func
  jf : FuncId → Bool
  full : Bool
  gl : Nat → Bool
  pt : Nat → Bool
  pl : ∀ a, pt a = true → lo a = 0
  fl : full = true → ∀ a, pt a = true
/-- The real program: of the ghost's tables, with functions of its own. -/
def Fx.re (fns : Fx) (P : Program) : Program := { P with funcs := fns.rf }
/-- Addresses: alike but for the block. -/
def AS (fns : Fx) (E : Nat → Nat → Prop) (a b : Addr) : Prop := E a.block b.block ∧ a.off = b.off ∧ a.spot = b.spot ∧ fns.lo a.block ≤ a.off
/-- A pointer's: into a row that is known from its beginning. -/
def AR (fns : Fx) (E : Nat → Nat → Prop) (a b : Addr) : Prop := E a.block b.block ∧ a.off = b.off ∧ a.spot = b.spot ∧ fns.pt a.block = true
def OS (fns : Fx) (E : Nat → Nat → Prop) : Option Addr → Option Addr → Prop
  | none, none => True
  | some a, some b => AS fns E a b
  | _, _ => False
def OA (fns : Fx) (E : Nat → Nat → Prop) : Option Addr → Option Addr → Prop
  | none, none => True
  | some a, some b => AR fns E a b
  | _, _ => False
/-- Slices: alike, or without any cell at the same place, wherever that is. -/
def SR (fns : Fx) (E : Nat → Nat → Prop) (l c : Nat) (a b : Option Addr) : Prop := OS fns E a b ∨ (l = 0 ∧ c = 0 ∧ a = b)
def plainFn (fns : Fx) : Fn → Bool
  | .func f => fns.ok f && !fns.jf f
  | _ => false
def VR (fns : Fx) (E : Nat → Nat → Prop) : Value → Value → Prop
  | .bool a, v' => v' = .bool a
  | .int k n, v' => v' = .int k n
  | .float _ _, _ => False
  | .complex _ _ _, _ => False
  | .string a, v' => v' = .string a
  | .pointer a, v' => ∃ b, v' = .pointer b ∧ OA fns E a b
  | .slice a l c, v' => ∃ b, v' = .slice b l c ∧ SR fns E l c a b
  | .map r, v' => r = none ∧ v' = .map none
  | .chan r, v' => r = none ∧ v' = .chan none
  | .func f x y, v' => ∃ x' y', v' = .func f x' y' ∧ plainFn fns f = true ∧ (x.size = x'.size ∧ ∀ i (h : i < x.size) (h' : i < x'.size), VR fns E x[i] x'[i]) ∧ (y.size = y'.size ∧ ∀ i (h : i < y.size) (h' : i < y'.size), VR fns E y[i] y'[i])
  | .nilFunc, v' => v' = .nilFunc
  | .iface t v, v' => ∃ u, v' = .iface t u ∧ VR fns E v u
  | .nilIface, v' => v' = .nilIface
  | .agg x, v' => ∃ x', v' = .agg x' ∧ (x.size = x'.size ∧ ∀ i (h : i < x.size) (h' : i < x'.size), VR fns E x[i] x'[i])
  | .tuple x, v' => ∃ x', v' = .tuple x' ∧ (x.size = x'.size ∧ ∀ i (h : i < x.size) (h' : i < x'.size), VR fns E x[i] x'[i])
def AllR (fns : Fx) (E : Nat → Nat → Prop) (x x' : Array Value) : Prop := x.size = x'.size ∧ ∀ i (h : i < x.size) (h' : i < x'.size), VR fns E x[i] x'[i]
section
variable {fns : Fx} {E : Nat → Nat → Prop} {v : Value}
theorem vr_bool {b : Bool} : VR fns E (.bool b) v ↔ v = .bool b := by rw [VR]
theorem vr_int {k : IntKind} {n : Int} : VR fns E (.int k n) v ↔ v = .int k n := by rw [VR]
theorem vr_float {k : FloatKind} {n : Nat} : ¬ VR fns E (.float k n) v := by rw [VR]; exact id
theorem vr_complex {k : FloatKind} {n m : Nat} : ¬ VR fns E (.complex k n m) v := by rw [VR]; exact id
theorem vr_string {b : ByteArray} : VR fns E (.string b) v ↔ v = .string b := by rw [VR]
theorem vr_pointer {a : Option Addr} : VR fns E (.pointer a) v ↔ ∃ b, v = .pointer b ∧ OA fns E a b := by rw [VR]
theorem vr_slice {a : Option Addr} {l c : Nat} : VR fns E (.slice a l c) v ↔ ∃ b, v = .slice b l c ∧ SR fns E l c a b := by rw [VR]
theorem vr_map {r : Option Nat} : VR fns E (.map r) v ↔ r = none ∧ v = .map none := by rw [VR]
theorem vr_chan {r : Option Nat} : VR fns E (.chan r) v ↔ r = none ∧ v = .chan none := by rw [VR]
theorem vr_func {f : Fn} {x y : Array Value} : VR fns E (.func f x y) v ↔ ∃ x' y', v = .func f x' y' ∧ plainFn fns f = true ∧ AllR fns E x x' ∧ AllR fns E y y' := by rw [VR]; rfl
theorem vr_nilFunc : VR fns E .nilFunc v ↔ v = .nilFunc := by rw [VR]
theorem vr_nilIface : VR fns E .nilIface v ↔ v = .nilIface := by rw [VR]
theorem vr_iface {t : TypeId} {u : Value} : VR fns E (.iface t u) v ↔ ∃ u', v = .iface t u' ∧ VR fns E u u' := by rw [VR]
theorem vr_agg {x : Array Value} : VR fns E (.agg x) v ↔ ∃ x', v = .agg x' ∧ AllR fns E x x' := by rw [VR]; rfl
theorem vr_tuple {x : Array Value} : VR fns E (.tuple x) v ↔ ∃ x', v = .tuple x' ∧ AllR fns E x x' := by rw [VR]; rfl
end
variable {fns : Fx} {E E' : Nat → Nat → Prop}
theorem AR.as {a b : Addr} (h : AR fns E a b) : AS fns E a b := ⟨h.1, h.2.1, h.2.2.1, by rw [fns.pl _ h.2.2.2]; exact Nat.zero_le _⟩
theorem AS.full {a b : Addr} (h : AS fns E a b) (hf : fns.full = true) : AR fns E a b := ⟨h.1, h.2.1, h.2.2.1, fns.fl hf _⟩
theorem AS.up {a b : Addr} (h : AS fns E a b) (hE : ∀ a b, E a b → E' a b) : AS fns E' a b := ⟨hE _ _ h.1, h.2⟩
theorem AS.add {a b : Addr} (h : AS fns E a b) (n : Nat) : AS fns E (a.add n) (b.add n) := by
  unfold Addr.add
  split
  · exact h
  · exact ⟨h.1, by simp [h.2.1], rfl, Nat.le_trans h.2.2.2 (Nat.le_add_right _ _)⟩
theorem OS.up {a b : Option Addr} (h : OS fns E a b) (hE : ∀ a b, E a b → E' a b) : OS fns E' a b := by
  cases a <;> cases b <;> first | exact h | exact AS.up h hE
theorem os_none {b : Option Addr} : OS fns E none b ↔ b = none := by cases b <;> simp [OS]
theorem os_some {a : Addr} {b : Option Addr} : OS fns E (some a) b ↔ ∃ b', b = some b' ∧ AS fns E a b' := by cases b <;> simp [OS]
theorem SR.up {l c : Nat} {a b : Option Addr} (h : SR fns E l c a b) (hE : ∀ a b, E a b → E' a b) : SR fns E' l c a b := h.imp (fun x => x.up hE) id
theorem sr_none {l c : Nat} {b : Option Addr} : SR fns E l c none b ↔ b = none := ⟨fun h => h.elim os_none.1 fun x => x.2.2.symm, fun e => .inl (os_none.2 e)⟩
theorem sr_some {l c : Nat} {a : Addr} {b : Option Addr} (h : SR fns E l c (some a) b) : ∃ b', b = some b' := h.elim (fun x => let ⟨b', e, _⟩ := os_some.1 x; ⟨b', e⟩) fun x => ⟨a, x.2.2.symm⟩
theorem OA.os {a b : Option Addr} (h : OA fns E a b) : OS fns E a b := by
  cases a <;> cases b <;> first | exact h | exact AR.as h
theorem AR.up {a b : Addr} (h : AR fns E a b) (hE : ∀ a b, E a b → E' a b) : AR fns E' a b := ⟨hE _ _ h.1, h.2⟩
theorem AR.add {a b : Addr} (h : AR fns E a b) (n : Nat) : AR fns E (a.add n) (b.add n) := by
  unfold Addr.add
  split
  · exact h
  · exact ⟨h.1, by simp [h.2.1], rfl, h.2.2.2⟩
theorem OA.up {a b : Option Addr} (h : OA fns E a b) (hE : ∀ a b, E a b → E' a b) : OA fns E' a b := by
  cases a <;> cases b <;> first | exact h | exact AR.up h hE
theorem oa_none {b : Option Addr} : OA fns E none b ↔ b = none := by cases b <;> simp [OA]
theorem oa_some {a : Addr} {b : Option Addr} : OA fns E (some a) b ↔ ∃ b', b = some b' ∧ AR fns E a b' := by cases b <;> simp [OA]
theorem VR.upN (hE : ∀ a b, E a b → E' a b) : ∀ (n : Nat) (v v' : Value), SizeOf.sizeOf v < n → VR fns E v v' → VR fns E' v v' := by
  intro n
  induction n with
  | zero => intro v v' h; omega
  | succ n ih =>
    have arr : ∀ x x' : Array Value, (∀ i (h : i < x.size), SizeOf.sizeOf x[i] < n) → AllR fns E x x' → AllR fns E' x x' :=
      fun x x' h2 h3 => ⟨h3.1, fun i h h' => ih _ _ (h2 i h) (h3.2 i h h')⟩
    intro v v' hn hv
    cases v with
    | pointer a => obtain ⟨b, rfl, h⟩ := vr_pointer.1 hv; exact vr_pointer.2 ⟨b, rfl, h.up hE⟩
    | slice a l c => obtain ⟨b, rfl, h⟩ := vr_slice.1 hv; exact vr_slice.2 ⟨b, rfl, h.up hE⟩
    | func f x y =>
      obtain ⟨x', y', rfl, h2, h3, h4⟩ := vr_func.1 hv
      exact vr_func.2 ⟨x', y', rfl, h2, arr _ _ (fun i h => by have := Array.sizeOf_getElem x i h; simp at hn; omega) h3, arr _ _ (fun i h => by have := Array.sizeOf_getElem y i h; simp at hn; omega) h4⟩
    | iface t u => obtain ⟨u', rfl, h⟩ := vr_iface.1 hv; exact vr_iface.2 ⟨u', rfl, ih _ _ (by simp at hn; omega) h⟩
    | agg x => obtain ⟨x', rfl, h⟩ := vr_agg.1 hv; exact vr_agg.2 ⟨x', rfl, arr _ _ (fun i h => by have := Array.sizeOf_getElem x i h; simp at hn; omega) h⟩
    | tuple x => obtain ⟨x', rfl, h⟩ := vr_tuple.1 hv; exact vr_tuple.2 ⟨x', rfl, arr _ _ (fun i h => by have := Array.sizeOf_getElem x i h; simp at hn; omega) h⟩
    | _ => rw [VR] at hv ⊢; exact hv
theorem VR.up {v v' : Value} (h : VR fns E v v') (hE : ∀ a b, E a b → E' a b) : VR fns E' v v' := VR.upN hE (SizeOf.sizeOf v + 1) v v' (by omega) h
theorem AllR.up {x x' : Array Value} (h : AllR fns E x x') (hE : ∀ a b, E a b → E' a b) : AllR fns E' x x' := ⟨h.1, fun i a b => (h.2 i a b).up hE⟩
theorem AR.eq {a b : Addr} (h : AR fns E a b) (hE : ∀ a b, E a b → a = b) : b = a := by
  obtain ⟨a1, a2, a3⟩ := a
  obtain ⟨b1, b2, b3⟩ := b
  obtain ⟨h1, h2, h3, _⟩ := h
  simp only at h1 h2 h3
  rw [hE _ _ h1, h2, h3]
theorem OA.eq {a b : Option Addr} (h : OA fns E a b) (hE : ∀ a b, E a b → a = b) : b = a := by
  cases a with
  | none => exact oa_none.1 h
  | some a => obtain ⟨b', rfl, g⟩ := oa_some.1 h; rw [AR.eq g hE]
theorem AS.eq {a b : Addr} (h : AS fns E a b) (hE : ∀ a b, E a b → a = b) : b = a := by
  obtain ⟨a1, a2, a3⟩ := a
  obtain ⟨b1, b2, b3⟩ := b
  obtain ⟨h1, h2, h3, _⟩ := h
  simp only at h1 h2 h3
  rw [hE _ _ h1, h2, h3]
theorem OS.eq {a b : Option Addr} (h : OS fns E a b) (hE : ∀ a b, E a b → a = b) : b = a := by
  cases a with
  | none => exact os_none.1 h
  | some a => obtain ⟨b', rfl, g⟩ := os_some.1 h; rw [AS.eq g hE]
theorem SR.eq {l c : Nat} {a b : Option Addr} (h : SR fns E l c a b) (hE : ∀ a b, E a b → a = b) : b = a := h.elim (fun x => x.eq hE) fun x => x.2.2.symm
/-- Where E is part of equality, what is alike is the same. -/
theorem VR.eqN (hE : ∀ a b, E a b → a = b) : ∀ (n : Nat) (v v' : Value), SizeOf.sizeOf v < n → VR fns E v v' → v' = v := by
  intro n
  induction n with
  | zero => intro v v' h; omega
  | succ n ih =>
    have arr : ∀ x x' : Array Value, (∀ i (h : i < x.size), SizeOf.sizeOf x[i] < n) → AllR fns E x x' → x' = x :=
      fun x x' h2 h3 => Array.ext h3.1.symm fun i h h' => ih _ _ (h2 i h') (h3.2 i h' h)
    intro v v' hn hv
    cases v with
    | pointer a => obtain ⟨b, rfl, h⟩ := vr_pointer.1 hv; rw [h.eq hE]
    | slice a l c => obtain ⟨b, rfl, h⟩ := vr_slice.1 hv; rw [h.eq hE]
    | map r => obtain ⟨rfl, rfl⟩ := vr_map.1 hv; rfl
    | chan r => obtain ⟨rfl, rfl⟩ := vr_chan.1 hv; rfl
    | func f x y =>
      obtain ⟨x', y', rfl, h2, h3, h4⟩ := vr_func.1 hv
      rw [arr _ _ (fun i h => by have := Array.sizeOf_getElem x i h; simp at hn; omega) h3, arr _ _ (fun i h => by have := Array.sizeOf_getElem y i h; simp at hn; omega) h4]
    | iface t u => obtain ⟨u', rfl, h⟩ := vr_iface.1 hv; rw [ih _ _ (by simp at hn; omega) h]
    | agg x => obtain ⟨x', rfl, h⟩ := vr_agg.1 hv; rw [arr _ _ (fun i h => by have := Array.sizeOf_getElem x i h; simp at hn; omega) h]
    | tuple x => obtain ⟨x', rfl, h⟩ := vr_tuple.1 hv; rw [arr _ _ (fun i h => by have := Array.sizeOf_getElem x i h; simp at hn; omega) h]
    | float => exact (vr_float hv).elim
    | complex => exact (vr_complex hv).elim
    | _ => rw [VR] at hv; exact hv
theorem VR.eq {v v' : Value} (h : VR fns E v v') (hE : ∀ a b, E a b → a = b) : v' = v := VR.eqN hE (SizeOf.sizeOf v + 1) v v' (by omega) h
theorem AllR.eq {x x' : Array Value} (h : AllR fns E x x') (hE : ∀ a b, E a b → a = b) : x' = x := Array.ext h.1.symm fun i a b => (h.2 i b a).eq hE
/-- Values of one cell that bear no address; and rows of such. -/
def scalar : Value → Bool
  | .bool _ | .int _ _ | .string _ | .pointer none | .slice none _ _ | .map none | .chan none | .nilFunc | .nilIface => true
  | _ => false
def closed1 : Value → Bool
  | .agg x => x.all scalar
  | .tuple x => x.all scalar
  | .iface _ v => scalar v
  | v => scalar v
theorem vr_scalar {v : Value} (h : scalar v = true) : VR fns E v v := by
  unfold scalar at h
  split at h <;> first | (simp [VR, OA]; done) | (simp [VR, SR, OS]; done) | cases h
theorem allR_scalar {x : Array Value} (h : x.all scalar = true) : AllR fns E x x :=
  ⟨rfl, fun i a _ => vr_scalar (by rw [Array.all_eq_true] at h; exact h i a)⟩
theorem allR_nil : AllR fns E #[] #[] := ⟨rfl, fun i h => by simp at h⟩
theorem vr_closed {v : Value} (h : closed1 v = true) : VR fns E v v := by
  unfold closed1 at h
  split at h
  · exact vr_agg.2 ⟨_, rfl, allR_scalar h⟩
  · exact vr_tuple.2 ⟨_, rfl, allR_scalar h⟩
  · exact vr_iface.2 ⟨_, rfl, vr_scalar h⟩
  · exact vr_scalar h
theorem allR_one {v v' : Value} (h : VR fns E v v') : AllR fns E #[v] #[v'] := ⟨rfl, fun i a b => by
  have : i = 0 := by simp at a; omega
  subst this; exact h⟩
theorem AllR.append {x x' y y' : Array Value} (h : AllR fns E x x') (g : AllR fns E y y') : AllR fns E (x ++ y) (x' ++ y') := by
  refine ⟨by simp [h.1, g.1], fun i a b => ?_⟩
  have hx := h.1
  by_cases hi : i < x.size
  · rw [Array.getElem_append_left hi, Array.getElem_append_left (hx ▸ hi)]
    exact h.2 i hi (hx ▸ hi)
  · rw [Array.getElem_append_right (by omega), Array.getElem_append_right (by omega)]
    simp only [← hx]
    exact g.2 _ _ _
theorem AllR.push {x x' : Array Value} {v v' : Value} (h : AllR fns E x x') (g : VR fns E v v') : AllR fns E (x.push v) (x'.push v') := by
  have := h.append (allR_one g)
  simpa using this
theorem AllR.get? {x x' : Array Value} (h : AllR fns E x x') (i : Nat) {v : Value} (hv : x[i]? = some v) : ∃ v', x'[i]? = some v' ∧ VR fns E v v' := by
  obtain ⟨hi, rfl⟩ := Array.getElem?_eq_some_iff.1 hv
  exact ⟨x'[i]'(h.1 ▸ hi), Array.getElem?_eq_getElem _, h.2 i hi _⟩
theorem AllR.none {x x' : Array Value} (h : AllR fns E x x') (i : Nat) (hv : x[i]? = none) : x'[i]? = none := by
  rw [Array.getElem?_eq_none_iff] at hv ⊢; have := h.1; omega
theorem AllR.getD {x x' : Array Value} (h : AllR fns E x x') (i : Nat) {d : Value} (hd : VR fns E d d) : VR fns E (x.getD i d) (x'.getD i d) := by
  simp only [Array.getD_eq_getD_getElem?]
  cases hx : x[i]? with
  | none => rw [h.none i hx]; exact hd
  | some v => obtain ⟨v', e, r⟩ := h.get? i hx; rw [e]; exact r
theorem AllR.set {x x' : Array Value} (h : AllR fns E x x') (i : Nat) {v v' : Value} (hv : VR fns E v v') : AllR fns E (x.setIfInBounds i v) (x'.setIfInBounds i v') := by
  refine ⟨by simp [h.1], fun j a b => ?_⟩
  simp only [Array.size_setIfInBounds] at a b
  rw [Array.getElem_setIfInBounds, Array.getElem_setIfInBounds]
  split
  · exact hv
  · exact h.2 j a b
theorem AllR.extract {x x' : Array Value} (h : AllR fns E x x') (i j : Nat) : AllR fns E (x.extract i j) (x'.extract i j) := by
  refine ⟨by simp [h.1], fun k a b => ?_⟩
  simp only [Array.getElem_extract]
  exact h.2 _ _ _
theorem AllR.rep {n : Nat} {v : Value} (h : VR fns E v v) : AllR fns E (Array.replicate n v) (Array.replicate n v) := ⟨rfl, fun i a b => by simpa using h⟩
theorem vr_cells {v v' : Value} (h : VR fns E v v') : AllR fns E v.cells v'.cells := by
  have h0 := h
  cases v with
  | agg x => obtain ⟨x', rfl, g⟩ := vr_agg.1 h; exact g
  | pointer a => obtain ⟨b, rfl, _⟩ := vr_pointer.1 h; exact allR_one h0
  | slice a l c => obtain ⟨b, rfl, _⟩ := vr_slice.1 h; exact allR_one h0
  | map r => obtain ⟨rfl, rfl⟩ := vr_map.1 h; exact allR_one h0
  | chan r => obtain ⟨rfl, rfl⟩ := vr_chan.1 h; exact allR_one h0
  | func f x y => obtain ⟨x', y', rfl, _⟩ := vr_func.1 h; exact allR_one h0
  | iface t u => obtain ⟨u', rfl, _⟩ := vr_iface.1 h; exact allR_one h0
  | tuple x => obtain ⟨x', rfl, _⟩ := vr_tuple.1 h; exact allR_one h0
  | float => exact (vr_float h).elim
  | complex => exact (vr_complex h).elim
  | _ => rw [VR] at h; subst h; exact allR_one h0
theorem vr_undef : VR fns E (.tuple #[]) (.tuple #[]) := vr_tuple.2 ⟨_, rfl, allR_nil⟩
/-- Rows of cells that are alike: of a row that nobody writes, from where it is known, as far as it is known. -/
structure CR (fns : Fx) (E : Nat → Nat → Prop) (z : Prop) (lo : Nat) (c c' : Array Value) : Prop where
  le : c.size ≤ c'.size
  eq : ¬ z → c'.size = c.size
  at_ : ∀ i (h : i < c.size) (h' : i < c'.size), lo ≤ i → VR fns E c[i] c'[i]
theorem CR.up {fns : Fx} {E E' : Nat → Nat → Prop} {z : Prop} {lo : Nat} {c c' : Array Value} (h : CR fns E z lo c c') (hE : ∀ a b, E a b → E' a b) : CR fns E' z lo c c' := ⟨h.le, h.eq, fun i a b l => (h.at_ i a b l).up hE⟩
theorem CR.of {fns : Fx} {E : Nat → Nat → Prop} {z : Prop} {lo : Nat} {c c' : Array Value} (h : AllR fns E c c') : CR fns E z lo c c' := ⟨Nat.le_of_eq h.1, fun _ => h.1.symm, fun i a b _ => h.2 i a b⟩
theorem CR.all {fns : Fx} {E : Nat → Nat → Prop} {z : Prop} {lo : Nat} {c c' : Array Value} (h : CR fns E z lo c c') (hz : ¬ z) (hl : lo = 0) : AllR fns E c c' := ⟨(h.eq hz).symm, fun i a b => h.at_ i a b (by omega)⟩
theorem CR.get? {fns : Fx} {E : Nat → Nat → Prop} {z : Prop} {lo : Nat} {c c' : Array Value} (h : CR fns E z lo c c') {i : Nat} (hl : lo ≤ i) {v : Value} (hv : c[i]? = some v) : ∃ v', c'[i]? = some v' ∧ VR fns E v v' := by
  obtain ⟨hi, rfl⟩ := Array.getElem?_eq_some_iff.1 hv
  have := h.le
  exact ⟨c'[i]'(by omega), Array.getElem?_eq_getElem _, h.at_ i hi _ hl⟩
structure WR (P : Program) (fns : Fx) (E : Nat → Nat → Prop) (Z : Nat → Prop) (gh re : World) : Prop where
  zlow : ∀ a, Z a → a < gh.heap.size
  lonz : ∀ a, ¬ Z a → fns.pt a = true
  gbig : P.globals.size < gh.heap.size
  rbig : P.globals.size < re.heap.size
  glob : ∀ a b, E a b → (a ≤ P.globals.size ∨ b ≤ P.globals.size) → a = b
  inj : ∀ a b a' b', E a b → E a' b' → (a = a' → b = b') ∧ (b = b' → fns.pt a = true → a = a')
  cells : ∀ a b, E a b → (∃ c c' elem fr fr', gh.heap[a]? = some (.cells c elem fr) ∧ re.heap[b]? = some (.cells c' elem fr') ∧ CR fns E (Z a) (fns.lo a) c c' ∧ (¬ Z a → fr' = fr) ∧ (Z a → ∀ i, i < c.size → fr.1 ≤ i ∧ i < fr.2)) ∨
    (∃ x x' lost, gh.heap[a]? = some (.number x lost) ∧ re.heap[b]? = some (.number x' lost) ∧ AR fns E x x')
def benign : Mark → Bool
  | .extern _ | .noRoom => true
  | _ => false
def blk : Loc → Option Nat
  | .cell a => some a.block
  | .obj r => some r
  | _ => none
def EvOK (E : Nat → Nat → Prop) (Z : Nat → Prop) (e : Event) : Prop :=
  (∃ b, blk e.loc = some b ∧ e.sync = false ∧ ∃ a, E a b ∧ (e.write = true → ¬ Z a)) ∨ (∃ m, e.loc = .mark m ∧ benign m = true)
def dead : Halt → Bool
  | .panic _ | .stuck _ => true
  | .unsupported (.initOrder _) => false
  | .unsupported _ => true
  | _ => false
structure Out (P : Program) (fns : Fx) (E E' : Nat → Nat → Prop) (Z : Nat → Prop) (gh re gh' re' : World) : Prop where
  up : ∀ a b, E a b → E' a b
  wr : WR P fns E' Z gh' re'
  fresh : ∀ a b, E' a b → E a b ∨ (gh.heap.size ≤ a ∧ re.heap.size ≤ b)
  gsize : gh.heap.size ≤ gh'.heap.size
  rsize : re.heap.size ≤ re'.heap.size
  gtape : gh'.tape = gh.tape
  rtape : re'.tape = re.tape
  gdraw : gh.drawn ≤ gh'.drawn
  rdraw : re'.drawn = re.drawn + (gh'.drawn - gh.drawn)
  gos : gh'.os = gh.os
  gout : gh'.output = gh.output
  os : re'.os = re.os
  output : re'.output = re.output
  keep : ∀ b, b < re.heap.size → (∀ a, E a b → Z a) → re'.heap[b]? = re.heap[b]?
  gkeep : ∀ a, a < gh.heap.size → (∀ b, E a b → Z a) → gh'.heap[a]? = gh.heap[a]?
  sizes : gh'.heap.size + re.heap.size = re'.heap.size + gh.heap.size
  news : ∀ i, gh.heap.size + i < gh'.heap.size → E' (gh.heap.size + i) (re.heap.size + i)
variable {P : Program} {fns : Fx} {E E' E'' : Nat → Nat → Prop} {Z : Nat → Prop} {gh re gh' re' gh'' re'' : World}
theorem Out.refl (h : WR P fns E Z gh re) : Out P fns E E Z gh re gh re :=
  ⟨fun _ _ x => x, h, fun _ _ x => .inl x, Nat.le_refl _, Nat.le_refl _, rfl, rfl, Nat.le_refl _, by simp, rfl, rfl, rfl, rfl, fun _ _ _ => rfl, fun _ _ _ => rfl, Nat.add_comm _ _, fun i hi => by omega⟩
theorem Out.trans (h : Out P fns E E' Z gh re gh' re') (k : Out P fns E' E'' Z gh' re' gh'' re'') : Out P fns E E'' Z gh re gh'' re'' := by
  refine ⟨fun a b x => k.up a b (h.up a b x), k.wr, fun a b x => ?_, Nat.le_trans h.gsize k.gsize, Nat.le_trans h.rsize k.rsize, k.gtape.trans h.gtape, k.rtape.trans h.rtape, Nat.le_trans h.gdraw k.gdraw, ?_, k.gos.trans h.gos, k.gout.trans h.gout, k.os.trans h.os, k.output.trans h.output, fun b hb hz => ?_, fun a ha hz => ?_, ?_, fun i hi => ?_⟩
  · rcases k.fresh a b x with x | ⟨x, y⟩
    · exact h.fresh a b x
    · exact .inr ⟨Nat.le_trans h.gsize x, Nat.le_trans h.rsize y⟩
  · have := k.rdraw; have := h.rdraw; have := h.gdraw; have := k.gdraw; omega
  · rw [k.keep b (Nat.lt_of_lt_of_le hb h.rsize) fun a x => ?_, h.keep b hb hz]
    rcases h.fresh a b x with x | ⟨_, y⟩
    · exact hz a x
    · omega
  · rw [k.gkeep a (Nat.lt_of_lt_of_le ha h.gsize) fun b x => ?_, h.gkeep a ha hz]
    rcases h.fresh a b x with x | ⟨y, _⟩
    · exact hz b x
    · omega
  · have := h.sizes; have := k.sizes; omega
  · by_cases hlt : gh.heap.size + i < gh'.heap.size
    · exact k.up _ _ (h.news i hlt)
    · have s1 := h.sizes
      have s2 := h.gsize
      have := k.news (gh.heap.size + i - gh'.heap.size) (by omega)
      have e1 : gh'.heap.size + (gh.heap.size + i - gh'.heap.size) = gh.heap.size + i := by omega
      have e2 : re'.heap.size + (gh.heap.size + i - gh'.heap.size) = re.heap.size + i := by omega
      rwa [e1, e2] at this
theorem EvOK.up {e : Event} (h : EvOK E Z e) (hE : ∀ a b, E a b → E' a b) : EvOK E' Z e := by
  rcases h with ⟨b, h1, h2, a, h3, h4⟩ | h
  · exact .inl ⟨b, h1, h2, a, hE _ _ h3, h4⟩
  · exact .inr h
/-- The answers that the ghost drew are those that the real one will draw. -/
def Same (gh gh' re : World) : Prop := ∀ j, gh.drawn + j < gh'.drawn → re.tape (re.drawn + j) = gh.tape (gh.drawn + j)
def Sim (P : Program) (fns : Fx) (Z : Nat → Prop) (E : Nat → Nat → Prop) {α β : Type} (s : Sem α) (s' : Sem β) (Φ : (Nat → Nat → Prop) → α → β → Prop) : Prop :=
  ∀ gh re, WR P fns E Z gh re → match s.run P gh with
    | .halt h _ => dead h = true
    | .ok a gh' => Same gh gh' re → ∃ E' b re', s'.run (fns.re P) re = .ok b re' ∧ Out P fns E E' Z gh re gh' re' ∧ Φ E' a b ∧ ∀ es, ∀ e ∈ s'.events (fns.re P) re es, e ∈ es ∨ EvOK E' Z e
section
variable {α β γ δ : Type}
theorem Sim.pure {a : α} {b : β} {Φ : (Nat → Nat → Prop) → α → β → Prop} (h : Φ E a b) : Sim P fns Z E (Pure.pure a) (Pure.pure b) Φ := by
  intro gh re hw
  simp only [Sem.run_pure]
  exact fun _ => ⟨E, b, re, rfl, Out.refl hw, h, fun es e he => .inl (by simpa using he)⟩
theorem Sim.dead {h : Halt} (hd : dead h = true) {s' : Sem β} {Φ : (Nat → Nat → Prop) → α → β → Prop} : Sim P fns Z E (Sem.halt h) s' Φ := by
  intro gh re hw
  simpa using hd
theorem Sim.stuck {why : String} {s' : Sem β} {Φ : (Nat → Nat → Prop) → α → β → Prop} : Sim P fns Z E (Go.stuck why) s' Φ := Sim.dead rfl
theorem Sim.mono {s : Sem α} {s' : Sem β} {Φ Ψ : (Nat → Nat → Prop) → α → β → Prop} (h : Sim P fns Z E s s' Φ) (hm : ∀ E' a b, (∀ a b, E a b → E' a b) → Φ E' a b → Ψ E' a b) : Sim P fns Z E s s' Ψ := by
  intro gh re hw
  have := h gh re hw
  revert this
  cases s.run P gh with
  | halt h w => exact id
  | ok a gh' =>
    intro h hs
    obtain ⟨E', b, re', h1, h2, h3, h4⟩ := h hs
    exact ⟨E', b, re', h1, h2, hm _ _ _ h2.up h3, h4⟩
theorem Sim.bind {s : Sem α} {s' : Sem β} {f : α → Sem γ} {f' : β → Sem δ} {Φ : (Nat → Nat → Prop) → α → β → Prop} {Ψ : (Nat → Nat → Prop) → γ → δ → Prop}
    (h : Sim P fns Z E s s' Φ) (hf : ∀ E' a b, (∀ a b, E a b → E' a b) → Φ E' a b → Sim P fns Z E' (f a) (f' b) Ψ) : Sim P fns Z E (s >>= f) (s' >>= f') Ψ := by
  intro gh re hw
  have hh := h gh re hw
  rw [Sem.run_bind]
  revert hh
  cases hs : s.run P gh with
  | halt h w => exact id
  | ok a gh' =>
    intro h1
    simp only [Result.andThen_ok]
    -- the second part runs from gh'
    cases hr : (f a).run P gh' with
    | halt hh ww =>
      -- it halts: whatever the real tape is: take one that agrees
      have h0 := h gh { re with tape := fun i => gh.tape (gh.drawn + (i - re.drawn)) } ⟨hw.zlow, hw.lonz, hw.gbig, hw.rbig, hw.glob, hw.inj, hw.cells⟩
      rw [hs] at h0
      obtain ⟨E', b, re', e1, e2, e3, e4⟩ := h0 (fun j _ => by simp)
      have := hf E' a b e2.up e3 gh' re' e2.wr
      rw [hr] at this
      exact this
    | ok c gh'' =>
      intro same
      have mono : gh'.drawn ≤ gh''.drawn ∧ gh'.tape = gh.tape ∧ gh.drawn ≤ gh'.drawn := by
        have h0 := h gh { re with tape := fun i => gh.tape (gh.drawn + (i - re.drawn)) } ⟨hw.zlow, hw.lonz, hw.gbig, hw.rbig, hw.glob, hw.inj, hw.cells⟩
        rw [hs] at h0
        obtain ⟨E', b, re', e1, e2, e3, e4⟩ := h0 (fun j _ => by simp)
        have h2 := hf E' a b e2.up e3 gh' { re' with tape := fun i => gh'.tape (gh'.drawn + (i - re'.drawn)) } ⟨e2.wr.zlow, e2.wr.lonz, e2.wr.gbig, e2.wr.rbig, e2.wr.glob, e2.wr.inj, e2.wr.cells⟩
        rw [hr] at h2
        obtain ⟨E'', b2, re'', k1, k2, k3, k4⟩ := h2 (fun j _ => by simp)
        exact ⟨k2.gdraw, e2.gtape, e2.gdraw⟩
      obtain ⟨E', b, re', e1, e2, e3, e4⟩ := h1 (fun j hj => same j (by omega))
      have h2 := hf E' a b e2.up e3 gh' re' e2.wr
      rw [hr] at h2
      obtain ⟨E'', b2, re'', k1, k2, k3, k4⟩ := h2 (fun j hj => by
        rw [e2.rtape, e2.rdraw, e2.gtape]
        have := same (gh'.drawn - gh.drawn + j) (by omega)
        have e : gh.drawn + (gh'.drawn - gh.drawn + j) = gh'.drawn + j := by omega
        rw [e] at this
        rw [← this]
        congr 1
        omega)
      refine ⟨E'', b2, re'', ?_, e2.trans k2, k3, fun es e he => ?_⟩
      · rw [Sem.run_bind, e1]; simpa using k1
      · rw [Sem.events_bind, e1] at he
        simp only [Result.evThen_ok] at he
        rcases k4 _ _ he with he | he
        · exact (e4 _ _ he).imp id fun x => x.up k2.up
        · exact .inr he
theorem Sim.program : Sim P fns Z E program program (fun _ p q => p = P ∧ q = fns.re P) := by
  intro gh re hw
  exact fun _ => ⟨E, fns.re P, re, rfl, Out.refl hw, ⟨rfl, rfl⟩, fun es e he => .inl (by simpa [Go.program, Sem.events, Sem.runT] using he)⟩
theorem Sim.mark {m : Mark} (hb : benign m = true) : Sim P fns Z E (mark m) (mark m) (fun _ _ _ => True) := by
  intro gh re hw
  refine fun _ => ⟨E, (), re, rfl, Out.refl hw, trivial, fun es e he => ?_⟩
  simp only [Go.mark, Sem.events, Sem.runT, Array.mem_push] at he
  rcases he with he | rfl
  · exact .inl he
  · exact .inr (.inr ⟨m, rfl, hb⟩)
theorem Sim.askRoom (n : Nat) : Sim P fns Z E (askRoom n) (askRoom n) (fun _ _ _ => True) := by
  unfold Go.askRoom
  split
  · exact Sim.mark rfl
  · exact Sim.pure trivial
theorem WR.cell {a a' : Addr} (h : WR P fns E Z gh re) (ha : AS fns E a a') {v : Value} (hv : gh.cell? a = some v) : ∃ v', re.cell? a' = some v' ∧ VR fns E v v' := by
  rcases h.cells _ _ ha.1 with ⟨c, c', elem, fr, fr', h1, h2, h3, _, _⟩ | ⟨x, x', l, h1, _⟩
  · simp only [World.cell?, h1, h2, ← ha.2.2.1, ← ha.2.1] at hv ⊢
    split at hv
    · cases hv
    · rename_i hs
      simp only [hs]
      exact h3.get? ha.2.2.2 hv
  · simp [World.cell?, h1] at hv
theorem WR.far {a a' : Addr} (h : WR P fns E Z gh re) (ha : AS fns E a a') (b : Bool) : ∃ s, gh.farLoad P a b = .error (.stuck s) := by
  rcases h.cells _ _ ha.1 with ⟨c, c', elem, fr, fr', h1, _⟩ | ⟨x, x', l, h1, _⟩ <;>
  exact ⟨_, by simp only [World.farLoad, World.noCell, h1]; rfl⟩
theorem WR.farS {a a' : Addr} (h : WR P fns E Z gh re) (ha : AS fns E a a') (v : Value) (b : Bool) : ∃ s, gh.farStore P a v b = .error (.stuck s) := by
  rcases h.cells _ _ ha.1 with ⟨c, c', elem, fr, fr', h1, _⟩ | ⟨x, x', l, h1, _⟩ <;>
  exact ⟨_, by simp only [World.farStore, World.noCell, h1]; rfl⟩
theorem Sim.load {a a' : Addr} (ha : AS fns E a a') : Sim P fns Z E (load a) (load a') (fun E' v v' => VR fns E' v v') := by
  intro gh re hw
  rw [run_load]
  cases hc : gh.cell? a with
  | none =>
    obtain ⟨s, hs⟩ := hw.far (P := P) ha (Mode.plain == .atomic)
    simp only [hs]; rfl
  | some v =>
    obtain ⟨v', h1, h2⟩ := hw.cell ha hc
    refine fun _ => ⟨E, v', re, by rw [run_load, h1], Out.refl hw, h2, fun es e he => ?_⟩
    rw [events_load, h1] at he
    simp only [Array.mem_push] at he
    rcases he with he | rfl
    · exact .inl he
    · exact .inr (.inl ⟨a'.block, rfl, rfl, a.block, ha.1, fun x => by cases x⟩)
theorem Sim.choose {q : Question} : Sim P fns Z E (choose q) (choose q) (fun _ n n' => n' = n) := by
  intro gh re hw
  by_cases hf : q.forced = true
  · rw [run_choose, if_pos hf]
    refine fun _ => ⟨E, 0, re, by rw [run_choose, if_pos hf], Out.refl hw, rfl, fun es e he => .inl ?_⟩
    simp only [Go.choose, Sem.events, Sem.runT, if_pos hf] at he
    exact he
  · rw [run_choose, if_neg hf]
    intro same
    refine ⟨E, q.cut (re.tape re.drawn q), { re with drawn := re.drawn + 1 }, by rw [run_choose, if_neg hf], ?_, ?_, fun es e he => .inl ?_⟩
    · exact ⟨fun _ _ x => x, ⟨hw.zlow, hw.lonz, hw.gbig, hw.rbig, hw.glob, hw.inj, hw.cells⟩, fun _ _ x => .inl x, Nat.le_refl _, Nat.le_refl _, rfl, rfl, by simp, by simp, rfl, rfl, rfl, rfl, fun _ _ _ => rfl, fun _ _ _ => rfl, Nat.add_comm _ _, fun i hi => by simp at hi; omega⟩
    · have := same 0 (by simp)
      simp only [Nat.add_zero] at this
      rw [this]
    · simp only [Go.choose, Sem.events, Sem.runT, if_neg hf] at he
      exact he
end
variable {P : Program} {fns : Fx} {E E' E'' : Nat → Nat → Prop} {Z : Nat → Prop} {gh re gh' re' gh'' re'' : World}
theorem heap_setCell {w : World} {a : Addr} {v : Value} {c : Array Value} {elem : TypeId} {fr : Nat × Nat} (h : w.heap[a.block]? = some (.cells c elem fr)) (hs : a.spot.isSome = false) (b : Nat) :
    (w.setCell a v).heap[b]? = if b = a.block then some (.cells (c.setIfInBounds a.off v) elem fr) else w.heap[b]? := by
  unfold World.setCell
  simp only [Array.getElem?_modify]
  by_cases hb : a.block = b
  · subst hb; simp [h, hs]
  · have : b ≠ a.block := fun e => hb e.symm
    simp [hb, this]
theorem Sim.store {a a' : Addr} {v v' : Value} (ha : AS fns E a a') (hv : VR fns E v v') : Sim P fns Z E (store a v) (store a' v') (fun _ _ _ => True) := by
  intro gh re hw
  by_cases ho : v.oneCell' = true
  · have ho' : v'.oneCell' = true := by
      cases v with
      | pointer a => obtain ⟨b, rfl, _⟩ := vr_pointer.1 hv; rfl
      | slice a l c => obtain ⟨b, rfl, _⟩ := vr_slice.1 hv; rfl
      | map r => obtain ⟨rfl, rfl⟩ := vr_map.1 hv; rfl
      | chan r => obtain ⟨rfl, rfl⟩ := vr_chan.1 hv; rfl
      | func f x y => obtain ⟨x', y', rfl, _⟩ := vr_func.1 hv; rfl
      | iface t u => obtain ⟨u', rfl, _⟩ := vr_iface.1 hv; rfl
      | agg x => cases ho
      | tuple x => cases ho
      | float => exact (vr_float hv).elim
      | complex => exact (vr_complex hv).elim
      | _ => rw [VR] at hv; subst hv; rfl
    rw [run_store P gh a v _ ho]
    cases hc : gh.cell? a with
    | none =>
      obtain ⟨s, hs⟩ := hw.farS (P := P) ha v (Mode.plain == .atomic)
      simp only [hs]; rfl
    | some u =>
      obtain ⟨u', h1, h2⟩ := hw.cell ha hc
      obtain ⟨c, c', elem, fr, fr', k1, k2, k3, k4, k5⟩ : ∃ c c' elem fr fr', gh.heap[a.block]? = some (.cells c elem fr) ∧ re.heap[a'.block]? = some (.cells c' elem fr') ∧ CR fns E (Z a.block) (fns.lo a.block) c c' ∧ (¬ Z a.block → fr' = fr) ∧ (Z a.block → ∀ i, i < c.size → fr.1 ≤ i ∧ i < fr.2) := by
        rcases hw.cells _ _ ha.1 with h | ⟨x, x', l, h1, _⟩
        · exact h
        · simp [World.cell?, h1] at hc
      have hsp : a.spot.isSome = false := by
        cases hsp : a.spot.isSome with
        | false => rfl
        | true => simp [World.cell?, k1, hsp] at hc
      have hoff : a.off < c.size := by
        simp only [World.cell?, k1, hsp] at hc
        exact (Array.getElem?_eq_some_iff.1 hc).1
      by_cases hfz : gh.frozen? a = true
      · simp only [hfz]; rfl
      · have hnz : ¬ Z a.block := fun hz => hfz (by simp [World.frozen?, k1, k5 hz a.off hoff])
        have hsp' : a'.spot.isSome = false := by rw [← ha.2.2.1]; exact hsp
        have hfz' : re.frozen? a' = false := by
          have : gh.frozen? a = re.frozen? a' := by simp only [World.frozen?, k1, k2, k4 hnz, ha.2.1]
          rw [← this]; simpa using hfz
        simp only [hfz]
        intro _
        have g1 := heap_setCell (v := v) k1 hsp
        have g2 := heap_setCell (v := v') k2 hsp'
        have ra : AllR fns E (c.setIfInBounds a.off v) (c'.setIfInBounds a'.off v') := by rw [← ha.2.1]; exact (k3.all hnz (fns.pl _ (hw.lonz _ hnz))).set _ hv
        refine ⟨E, (), re.setCell a' v', by rw [run_store (fns.re P) re a' v' _ ho', h1]; simp [hfz'], ⟨fun _ _ x => x, ⟨fun x hx => by simpa [World.setCell] using hw.zlow x hx, hw.lonz, by simpa [World.setCell] using hw.gbig, by simpa [World.setCell] using hw.rbig, hw.glob, hw.inj, fun x y hxy => ?_⟩, fun _ _ x => .inl x, by simp [World.setCell], by simp [World.setCell], rfl, rfl, Nat.le_refl _, by simp [World.setCell], rfl, rfl, rfl, rfl, fun b _ hz => ?_, fun b _ hz => ?_, by simp [World.setCell, Nat.add_comm], fun i hi => by simp [World.setCell] at hi; omega⟩, trivial, fun es e he => ?_⟩
        · rw [g1, g2]
          by_cases hx : x = a.block
          · have hy : y = a'.block := (hw.inj _ _ _ _ hxy ha.1).1 hx
            subst hx; subst hy
            rw [if_pos rfl, if_pos rfl]
            exact .inl ⟨_, _, elem, fr, fr', rfl, rfl, CR.of ra, k4, fun hz i hi => k5 hz i (by simpa using hi)⟩
          · have hy : y ≠ a'.block := fun e => hx ((hw.inj _ _ _ _ ha.1 hxy).2 e.symm (hw.lonz _ hnz)).symm
            rw [if_neg hx, if_neg hy]
            exact hw.cells _ _ hxy
        · rw [g2, if_neg]
          intro e
          exact hnz (hz a.block (e ▸ ha.1))
        · rw [g1, if_neg]
          intro e
          subst e
          exact hnz (hz a'.block ha.1)
        · rw [events_store _ _ _ _ _ _ ho', h1] at he
          simp only [hfz', Bool.false_eq_true, if_false, Array.mem_push] at he
          rcases he with he | rfl
          · exact .inl he
          · exact .inr (.inl ⟨a'.block, rfl, rfl, a.block, ha.1, fun _ => hnz⟩)
  · have : ∃ s, (Go.store a v).run P gh = .halt (.stuck s) gh := by
      cases v with
      | agg x => exact ⟨_, rfl⟩
      | tuple x => exact ⟨_, rfl⟩
      | _ => exact absurd rfl ho
    obtain ⟨s, hs⟩ := this
    rw [hs]; rfl
theorem lt_of_heap {w : World} {b : Nat} {o : Obj} (h : w.heap[b]? = some o) : b < w.heap.size := (Array.getElem?_eq_some_iff.1 h).1
theorem WR.lt (hw : WR P fns E Z gh re) {a b : Nat} (x : E a b) : a < gh.heap.size ∧ b < re.heap.size := by
  rcases hw.cells _ _ x with ⟨_, _, _, _, _, k1, k2, _⟩ | ⟨_, _, _, k1, k2, _⟩ <;> exact ⟨lt_of_heap k1, lt_of_heap k2⟩
/-- A new block on both sides. -/
theorem Out.new (hw : WR P fns E Z gh re) {o o' : Obj} (ho : ∀ E₁ : Nat → Nat → Prop, (∀ a b, E a b → E₁ a b) →
      (∃ c c' elem fr, o = .cells c elem fr ∧ o' = .cells c' elem fr ∧ AllR fns E₁ c c') ∨ (∃ x x' lost, o = .number x lost ∧ o' = .number x' lost ∧ AR fns E₁ x x')) :
    Out P fns E (fun a b => E a b ∨ (a = gh.heap.size ∧ b = re.heap.size)) Z gh re { gh with heap := gh.heap.push o } { re with heap := re.heap.push o' } := by
  have g1 : ∀ b, b < gh.heap.size → (gh.heap.push o)[b]? = gh.heap[b]? := fun b hb => by rw [Array.getElem?_push_lt hb, Array.getElem?_eq_getElem hb]
  have g2 : ∀ b, b < re.heap.size → (re.heap.push o')[b]? = re.heap[b]? := fun b hb => by rw [Array.getElem?_push_lt hb, Array.getElem?_eq_getElem hb]
  have up : ∀ a b, E a b → (E a b ∨ (a = gh.heap.size ∧ b = re.heap.size)) := fun a b x => .inl x
  have b1 := hw.gbig
  have b2 := hw.rbig
  refine ⟨up, ⟨fun a ha => ?_, hw.lonz, by simp; omega, by simp; omega, fun a b x y => ?_, fun a b a' b' x y => ?_, fun a b x => ?_⟩, fun a b x => ?_, by simp, by simp, rfl, rfl, Nat.le_refl _, by simp, rfl, rfl, rfl, rfl, fun b hb _ => g2 b hb, fun a ha _ => g1 a ha, by simp; omega, fun i hi => ?_⟩
  · have := hw.zlow a ha; simp; omega
  · rcases x with x | ⟨rfl, rfl⟩
    · exact hw.glob _ _ x y
    · omega
  · rcases x with x | ⟨rfl, rfl⟩ <;> rcases y with y | ⟨rfl, rfl⟩
    · exact hw.inj _ _ _ _ x y
    · have := hw.lt x; exact ⟨fun e => by omega, fun e => by omega⟩
    · have := hw.lt y; exact ⟨fun e => by omega, fun e => by omega⟩
    · exact ⟨fun _ => rfl, fun _ _ => rfl⟩
  · rcases x with x | ⟨rfl, rfl⟩
    · have hl := hw.lt x
      rcases hw.cells _ _ x with ⟨d, d', el, fr, fr', k1, k2, k3, k4, k5⟩ | ⟨x, x', l, k1, k2, k3⟩
      · exact .inl ⟨d, d', el, fr, fr', by rw [g1 _ hl.1]; exact k1, by rw [g2 _ hl.2]; exact k2, k3.up up, k4, k5⟩
      · exact .inr ⟨x, x', l, by rw [g1 _ hl.1]; exact k1, by rw [g2 _ hl.2]; exact k2, k3.up up⟩
    · rcases ho _ up with ⟨c, c', elem, fr, rfl, rfl, hc⟩ | ⟨x, x', l, rfl, rfl, hx⟩
      · exact .inl ⟨c, c', elem, fr, fr, by simp, by simp, CR.of hc, fun _ => rfl, fun hz => absurd (hw.zlow _ hz) (Nat.lt_irrefl _)⟩
      · exact .inr ⟨x, x', l, by simp, by simp, hx⟩
  · rcases x with x | ⟨rfl, rfl⟩
    · exact .inl x
    · exact .inr ⟨Nat.le_refl _, Nat.le_refl _⟩
  · simp only [Array.size_push] at hi
    have : i = 0 := by omega
    subst this
    exact .inr ⟨rfl, rfl⟩
theorem Sim.newObj {o o' : Obj} (ho : ∀ E₁ : Nat → Nat → Prop, (∀ a b, E a b → E₁ a b) →
      (∃ c c' elem fr, o = .cells c elem fr ∧ o' = .cells c' elem fr ∧ AllR fns E₁ c c') ∨ (∃ x x' lost, o = .number x lost ∧ o' = .number x' lost ∧ AR fns E₁ x x')) :
    Sim P fns Z E (newObj o) (newObj o') (fun E' r r' => E' r r' ∧ fns.pt r = true) := by
  intro gh re hw
  show Same gh { gh with heap := gh.heap.push o } re → _
  intro _
  exact ⟨_, re.heap.size, _, rfl, Out.new hw ho, ⟨.inr ⟨rfl, rfl⟩, hw.lonz _ fun hz => Nat.lt_irrefl _ (hw.zlow _ hz)⟩, fun es e he => .inl (by simpa [Go.newObj, Sem.events, Sem.runT] using he)⟩
theorem Sim.newRow {elem : TypeId} {c c' : Array Value} (hc : AllR fns E c c') : Sim P fns Z E (newRow elem c) (newRow elem c') (fun E' a a' => AR fns E' a a') := by
  unfold Go.newRow
  exact Sim.bind (Sim.newObj fun E₁ up => .inl ⟨c, c', elem, _, rfl, rfl, hc.up up⟩) fun E' r r' up h => Sim.pure ⟨h.1, rfl, rfl, h.2⟩
/-- Shapes: of one type; what is known of it may be shorter. -/
def ShR (s s' : Option (TypeId × Nat)) : Prop := (s = none ∧ s' = none) ∨ ∃ e n n', s = some (e, n) ∧ s' = some (e, n') ∧ n ≤ n'
theorem ShR.isSome {s s' : Option (TypeId × Nat)} (h : ShR s s') : s'.isSome = s.isSome := by
  rcases h with ⟨rfl, rfl⟩ | ⟨e, n, n', rfl, rfl, _⟩ <;> rfl
theorem WR.shape (hw : WR P fns E Z gh re) {a b : Nat} (x : E a b) : ShR (gh.shape? a) (re.shape? b) := by
  rcases hw.cells _ _ x with ⟨c, c', el, fr, fr', k1, k2, k3, _⟩ | ⟨x, x', l, k1, k2, _⟩
  · exact .inr ⟨el, c.size, c'.size, by simp only [World.shape?, k1], by simp only [World.shape?, k2], k3.le⟩
  · exact .inl ⟨by simp only [World.shape?, k1], by simp only [World.shape?, k2]⟩
theorem Sim.shape {a b : Nat} (x : E a b) : Sim P fns Z E (Go.shape a) (Go.shape b) (fun _ s s' => ShR s s') := by
  intro gh re hw
  show Same gh gh re → _
  exact fun _ => ⟨E, _, re, rfl, Out.refl hw, hw.shape x, fun es e he => .inl (by simpa [Go.shape, Sem.events, Sem.runT] using he)⟩
theorem Sim.newVar {t : TypeId} {v v' : Value} (hv : VR fns E v v') : Sim P fns Z E (newVar t v) (newVar t v') (fun E' a a' => AR fns E' a a') := Sim.newRow (vr_cells hv)
/-- Read off the program alone. -/
theorem Sim.typeInfo (t : TypeId) : Sim P fns Z E (typeInfo t) (typeInfo t) (fun _ i i' => i' = i ∧ P.info? t = some i) := by
  unfold Go.typeInfo
  refine Sim.bind Sim.program (fun E' p q _ h => ?_)
  obtain ⟨rfl, rfl⟩ := h
  rw [show (fns.re p).info? t = p.info? t from rfl]
  split
  · rename_i i hi; exact Sim.pure ⟨rfl, hi⟩
  · exact Sim.stuck
theorem Sim.underlying (t : TypeId) : Sim P fns Z E (underlying t) (underlying t) (fun _ i i' => i' = i ∧ P.underlying t = some i) := by
  unfold Go.underlying
  refine Sim.bind Sim.program (fun E' p q _ h => ?_)
  obtain ⟨rfl, rfl⟩ := h
  rw [show (fns.re p).underlying t = p.underlying t from rfl]
  split
  · rename_i i hi; exact Sim.pure ⟨rfl, hi⟩
  · exact Sim.stuck
theorem Sim.sizeOf (t : TypeId) : Sim P fns Z E (Go.sizeOf t) (Go.sizeOf t) (fun _ i i' => i' = i) := by
  unfold Go.sizeOf
  exact Sim.bind (Sim.typeInfo t) (fun E' p q _ h => Sim.pure (by rw [h.1]))
theorem Sim.isAgg (t : TypeId) : Sim P fns Z E (isAgg t) (isAgg t) (fun _ i i' => i' = i) := by
  unfold Go.isAgg
  refine Sim.bind (Sim.underlying t) (fun E' p q _ h => ?_)
  obtain ⟨rfl, _⟩ := h
  split <;> exact Sim.pure rfl
/-- The program's noughts bear no address. -/
def zeros (P : Program) (fns : Fx) : Prop := ∀ t i v, fns.tys t = true → P.info? t = some i → i.zero = some v → closed1 v = true
theorem Sim.zeroValue (hz : zeros P fns) (t : TypeId) (ht : fns.tys t = true) : Sim P fns Z E (zeroValue t) (zeroValue t) (fun _ v v' => v' = v ∧ closed1 v = true) := by
  unfold Go.zeroValue
  refine Sim.bind (Sim.typeInfo t) (fun E' p q _ h => ?_)
  obtain ⟨rfl, hi⟩ := h
  split
  · rename_i v hv; exact Sim.pure ⟨rfl, hz _ _ _ ht hi hv⟩
  · exact Sim.dead rfl
theorem Sim.loadCellsFrom : ∀ (n i : Nat) {E : Nat → Nat → Prop} {a a' : Addr} {acc acc' : Array Value}, AS fns E a a' → AllR fns E acc acc' → Sim P fns Z E (loadCellsFrom a i n acc) (loadCellsFrom a' i n acc') (fun E' x x' => AllR fns E' x x')
  | 0, i, E, a, a', acc, acc', ha, h => by unfold Go.loadCellsFrom; exact Sim.pure h
  | n + 1, i, E, a, a', acc, acc', ha, h => by
    unfold Go.loadCellsFrom
    exact Sim.bind (Sim.load (ha.add i)) fun E' v v' up hv => Sim.loadCellsFrom n (i + 1) (ha.up up) ((h.up up).push hv)
theorem Sim.loadCells {a a' : Addr} (n : Nat) (ha : AS fns E a a') : Sim P fns Z E (loadCells a n) (loadCells a' n) (fun E' x x' => AllR fns E' x x') := Sim.loadCellsFrom n 0 ha allR_nil
theorem Sim.storeCells : ∀ (vs vs' : List Value) (i : Nat) {E : Nat → Nat → Prop} {a a' : Addr}, AS fns E a a' → AllR fns E vs.toArray vs'.toArray → Sim P fns Z E (storeCells a vs i) (storeCells a' vs' i) (fun _ _ _ => True)
  | [], [], i, E, a, a', ha, h => by unfold Go.storeCells; exact Sim.pure trivial
  | [], v' :: vs', i, E, a, a', ha, h => by have := h.1; simp at this
  | v :: vs, [], i, E, a, a', ha, h => by have := h.1; simp at this
  | v :: vs, v' :: vs', i, E, a, a', ha, h => by
    unfold Go.storeCells
    have h0 : VR fns E v v' := by simpa using h.2 0 (by simp) (by simp)
    have h1 : AllR fns E vs.toArray vs'.toArray := ⟨by have := h.1; simpa using this, fun j a b => by
      have := h.2 (j + 1) (by simpa using a) (by simpa using b)
      simpa using this⟩
    exact Sim.bind (Sim.store (ha.add i) h0) fun E' _ _ up _ => Sim.storeCells vs vs' (i + 1) (ha.up up) (h1.up up)
theorem Sim.loadVar (t : TypeId) {a a' : Addr} (ha : AS fns E a a') : Sim P fns Z E (loadVar t a) (loadVar t a') (fun E' v v' => VR fns E' v v') := by
  unfold Go.loadVar
  refine Sim.bind (Sim.isAgg t) (fun E1 b b' up h => ?_)
  subst h
  split
  · refine Sim.bind (Sim.sizeOf t) (fun E2 n n' up2 h => ?_)
    subst h
    exact Sim.bind (Sim.loadCells _ ((ha.up up).up up2)) fun E3 x x' up3 h => Sim.pure (vr_agg.2 ⟨_, rfl, h⟩)
  · exact Sim.load (ha.up up)
theorem allR_list {x x' : Array Value} (h : AllR fns E x x') : AllR fns E x.toList.toArray x'.toList.toArray := by simpa using h
/-- It halts for good, wherever. -/
def Dies (P : Program) {α : Type} (s : Sem α) : Prop := ∀ gh, ∃ h w, s.run P gh = .halt h w ∧ dead h = true
section
variable {α β γ : Type}
theorem Sim.dies {s : Sem α} {s' : Sem β} {Φ : (Nat → Nat → Prop) → α → β → Prop} (h : Dies P s) : Sim P fns Z E s s' Φ := by
  intro gh re _
  obtain ⟨h, w, e, hd⟩ := h gh
  rw [e]; exact hd
theorem Dies.halt {h : Halt} (hd : dead h = true) : Dies P (Sem.halt h : Sem α) := fun gh => ⟨h, gh, rfl, hd⟩
theorem Dies.stuck {why : String} : Dies P (Go.stuck why : Sem α) := Dies.halt rfl
theorem Dies.panic {v : Value} : Dies P (goPanic v : Sem α) := Dies.halt rfl
theorem Dies.bind {s : Sem α} {f : α → Sem β} (h : Dies P s) : Dies P (s >>= f) := fun gh => by
  obtain ⟨h, w, e, hd⟩ := h gh
  exact ⟨h, w, by rw [Sem.run_bind, e]; rfl, hd⟩
theorem Dies.bind2 {s : Sem α} {f : α → Sem β} (hs : ∀ gh, (∃ a w, s.run P gh = .ok a w) ∨ ∃ h w, s.run P gh = .halt h w ∧ dead h = true) (h : ∀ a, Dies P (f a)) : Dies P (s >>= f) := fun gh => by
  rcases hs gh with ⟨a, w, e⟩ | ⟨h, w, e, hd⟩
  · obtain ⟨h, w', e', hd⟩ := h a w
    exact ⟨h, w', by rw [Sem.run_bind, e]; exact e', hd⟩
  · exact ⟨h, w, by rw [Sem.run_bind, e]; rfl, hd⟩
theorem lives_elemOf (t : TypeId) (gh : World) : (∃ a w, (elemOf t).run P gh = .ok a w) ∨ ∃ h w, (elemOf t).run P gh = .halt h w ∧ dead h = true := by
  simp only [Go.elemOf, Go.underlying, Sem.run_bind, run_program, Result.andThen_ok]
  cases P.underlying t with
  | none => exact .inr ⟨_, _, rfl, rfl⟩
  | some d => cases d <;> first | exact .inl ⟨_, _, rfl⟩ | exact .inr ⟨_, _, rfl, rfl⟩
theorem Dies.runtimePanic (e : RuntimeError) : Dies P (runtimePanic e : Sem α) := by
  unfold Go.runtimePanic
  refine Dies.bind2 (fun gh => .inl ⟨_, _, rfl⟩) fun p => ?_
  cases e <;> dsimp only <;> first
    | exact Dies.panic
    | exact Dies.bind2 (lives_elemOf _) fun _ => Dies.bind2 (fun gh => .inl ⟨_, _, rfl⟩) fun _ => Dies.panic
theorem Dies.boundsPanic (k : IntKind) (x y : Int) (c : BoundsCode) : Dies P (boundsPanic k x y c : Sem α) := by
  unfold Go.boundsPanic
  dsimp only
  split
  · refine Dies.bind2 (fun gh => .inl ?_) fun s => Dies.runtimePanic _
    rw [Sem.run_map, run_choose]
    split <;> exact ⟨_, _, rfl⟩
  · exact Dies.bind2 (fun gh => .inl ⟨_, _, rfl⟩) fun s => Dies.runtimePanic _
end
theorem Sim.storeVar (t : TypeId) {a a' : Addr} {v v' : Value} (ha : AS fns E a a') (hv : VR fns E v v') : Sim P fns Z E (storeVar t a v) (storeVar t a' v') (fun _ _ _ => True) := by
  unfold Go.storeVar
  have hc := vr_cells hv
  refine Sim.bind (Sim.sizeOf t) (fun E1 n n' up h => ?_)
  subst h
  rw [← hc.1]
  dsimp only
  split
  · exact Sim.dies Dies.stuck.bind
  · exact Sim.storeCells _ _ 0 (ha.up up) (allR_list (hc.up up))
variable {P : Program} {fns : Fx} {E E' E'' : Nat → Nat → Prop} {Z : Nat → Prop} {gh re gh' re' gh'' re'' : World}
/-- A number's block on both sides (of cells it halts). -/
theorem Sim.getObj {a b : Nat} (x : E a b) : Sim P fns Z E (Go.getObj a) (Go.getObj b) (fun E' o o' => ∃ y y' lost, o = .number y lost ∧ o' = .number y' lost ∧ AR fns E' y y') := by
  intro gh re hw
  rcases hw.cells _ _ x with ⟨c, c', el, fr, fr', k1, k2, k3, _⟩ | ⟨y, y', l, k1, k2, k3⟩
  · simp only [Go.getObj, Sem.run, k1]; rfl
  · simp only [Go.getObj, Sem.run, k1]
    intro _
    refine ⟨E, .number y' l, re, by simp only [k2], Out.refl hw, ⟨y, y', l, rfl, rfl, k3⟩, fun es e he => ?_⟩
    simp only [Sem.events, Sem.runT, k2, Array.mem_push] at he
    rcases he with he | rfl
    · exact .inl he
    · exact .inr (.inl ⟨b, rfl, rfl, a, x, fun h => by cases h⟩)
theorem Sim.viewAt {a b : Nat} (x : E a b) : Sim P fns Z E (viewAt a) (viewAt b) (fun _ s s' => s = none ∧ s' = none) := by
  unfold Go.viewAt
  refine Sim.bind (Sim.shape x) fun E1 s s' up h => ?_
  rw [h.isSome]
  split
  · exact Sim.pure ⟨rfl, rfl⟩
  · refine Sim.bind (Sim.getObj (up _ _ x)) fun E2 o o' up2 h => ?_
    obtain ⟨y, y', l, rfl, rfl, _⟩ := h
    exact Sim.pure ⟨rfl, rfl⟩
theorem Sim.numberAt {a b : Nat} (x : E a b) : Sim P fns Z E (numberAt a) (numberAt b) (fun E' s s' => (s = none ∧ s' = none) ∨ ∃ y y' l, s = some (y, l) ∧ s' = some (y', l) ∧ AR fns E' y y') := by
  unfold Go.numberAt
  refine Sim.bind (Sim.shape x) fun E1 s s' up h => ?_
  rw [h.isSome]
  split
  · exact Sim.pure (.inl ⟨rfl, rfl⟩)
  · refine Sim.bind (Sim.getObj (up _ _ x)) fun E2 o o' up2 h => ?_
    obtain ⟨y, y', l, rfl, rfl, hy⟩ := h
    exact Sim.pure (.inr ⟨y, y', l, rfl, rfl, hy⟩)
theorem Sim.behindNumber {a a' : Addr} (ha : AR fns E a a') : Sim P fns Z E (behindNumber a) (behindNumber a') (fun E' s s' => AR fns E' s.1 s'.1 ∧ s.2 = s'.2) := by
  unfold Go.behindNumber
  refine Sim.bind (Sim.numberAt ha.1) fun E1 s s' up h => Sim.pure ?_
  rcases h with ⟨rfl, rfl⟩ | ⟨y, y', l, rfl, rfl, hy⟩
  · exact ⟨ha.up up, rfl⟩
  · exact ⟨hy, rfl⟩
theorem Sim.asNumber {a a' : Addr} (ha : AR fns E a a') (lost : Bool) : Sim P fns Z E (asNumber a lost) (asNumber a' lost) (fun E' v v' => VR fns E' v v') := by
  unfold Go.asNumber
  exact Sim.bind (Sim.newObj fun E₁ up => .inr ⟨a, a', lost, rfl, rfl, ha.up up⟩) fun E1 r r' up h => Sim.pure (vr_pointer.2 ⟨_, rfl, h.1, rfl, rfl, h.2⟩)
theorem Sim.noView {a a' : Addr} (ha : AS fns E a a') : Sim P fns Z E (noView a) (noView a') (fun _ _ _ => True) := by
  unfold Go.noView
  refine Sim.bind (Sim.viewAt ha.1) fun E1 s s' up h => ?_
  obtain ⟨rfl, rfl⟩ := h
  exact Sim.pure trivial
theorem re_byteOfCell (P : Program) (fns : Fx) (d : Nat) (t : TypeId) (o : Nat) : byteOfCell (fns.re P) d t o = byteOfCell P d t o := by
  induction d generalizing t o with
  | zero => rfl
  | succ d ih =>
    unfold byteOfCell
    simp only [ih]
    rfl
theorem Sim.byteOf {a a' : Addr} (ha : AS fns E a a') : Sim P fns Z E (byteOf a) (byteOf a') (fun _ n n' => n' = n) := by
  unfold Go.byteOf
  rw [← ha.2.2.1, ← ha.2.1]
  dsimp only
  split
  · exact Sim.pure rfl
  · refine Sim.bind Sim.program fun E1 p q up h => ?_
    obtain ⟨rfl, rfl⟩ := h
    refine Sim.bind (Sim.noView (ha.up up)) fun E2 _ _ up2 _ => ?_
    refine Sim.bind (Sim.shape (up2 _ _ (up _ _ ha.1))) fun E3 s s' up3 h => ?_
    rcases h with ⟨rfl, rfl⟩ | ⟨e, n, n', rfl, rfl, _⟩
    · exact Sim.stuck
    · dsimp only
      rw [show (fns.re p).cellsOf e = p.cellsOf e from rfl, show (fns.re p).depth = p.depth from rfl, re_byteOfCell, show (fns.re p).bytesOf e = p.bytesOf e from rfl]
      split
      · exact Sim.pure rfl
      · split
        · exact Sim.pure rfl
        · exact Sim.stuck
theorem Sim.partAt {a a' : Addr} (ha : AR fns E a a') (c b : Nat) : Sim P fns Z E (partAt a c b) (partAt a' c b) (fun E' x x' => AR fns E' x x') := by
  unfold Go.partAt
  refine Sim.bind (Sim.byteOf ha.as) fun E1 n n' up h => ?_
  subst h
  have hp : AR fns E1 { block := a.block, off := a.off + c } { block := a'.block, off := a'.off + c } := ⟨up _ _ ha.1, by simp [ha.2.1], rfl, ha.2.2.2⟩
  dsimp only
  refine Sim.bind (Sim.byteOf hp.as) fun E2 n n' up2 h => Sim.pure ?_
  subst h
  split
  · exact hp.up up2
  · exact ⟨up2 _ _ hp.1, hp.2.1, rfl, hp.2.2.2⟩
theorem Sim.fieldPlace {a a' : Addr} (ha : AR fns E a a') (f : Field) : Sim P fns Z E (fieldPlace a f) (fieldPlace a' f) (fun E' x x' => AR fns E' x x') := by
  unfold Go.fieldPlace
  refine Sim.bind (Sim.sizeOf _) fun E1 n n' up h => ?_
  subst h
  split
  · exact Sim.partAt (ha.up up) _ _
  · exact Sim.pure ((ha.up up).add _)
theorem Sim.partAtZ {a a' : Addr} (ha : AS fns E a a') (c b : Nat) : Sim P fns Z E (Go.partAt a c b) (Go.partAt a' c b) (fun E' x x' => AS fns E' x x') := by
  unfold Go.partAt
  refine Sim.bind (Sim.byteOf ha) fun E1 n n' up h => ?_
  subst h
  have hp : AS fns E1 { block := a.block, off := a.off + c } { block := a'.block, off := a'.off + c } := ⟨up _ _ ha.1, by simp [ha.2.1], rfl, Nat.le_trans ha.2.2.2 (Nat.le_add_right _ _)⟩
  dsimp only
  refine Sim.bind (Sim.byteOf hp) fun E2 n n' up2 h => Sim.pure ?_
  subst h
  split
  · exact hp.up up2
  · exact ⟨up2 _ _ hp.1, hp.2.1, rfl, hp.2.2.2⟩
theorem Sim.fieldPlaceZ {a a' : Addr} (ha : AS fns E a a') (f : Field) : Sim P fns Z E (Go.fieldPlace a f) (Go.fieldPlace a' f) (fun E' x x' => AS fns E' x x') := by
  unfold Go.fieldPlace
  refine Sim.bind (Sim.sizeOf _) fun E1 n n' up h => ?_
  subst h
  split
  · exact Sim.partAtZ (ha.up up) _ _
  · exact Sim.pure ((ha.up up).add _)
/-- What a value must be is asked alike. -/
theorem Sim.asIntOf {v v' : Value} (hv : VR fns E v v') : Sim P fns Z E (asIntOf v) (asIntOf v') (fun _ n n' => n' = n) := by
  cases v with
  | int k n => rw [vr_int] at hv; subst hv; exact Sim.pure rfl
  | pointer a => cases a <;> exact Sim.dies (Dies.halt rfl)
  | _ => exact Sim.dies (Dies.halt rfl)
theorem Sim.asInt {v v' : Value} (hv : VR fns E v v') : Sim P fns Z E (asInt v) (asInt v') (fun _ n n' => n' = n) := by
  unfold Go.asInt
  exact Sim.bind (Sim.asIntOf hv) fun E1 n n' up h => Sim.pure (by rw [h])
theorem Sim.asBool {v v' : Value} (hv : VR fns E v v') : Sim P fns Z E (asBool v) (asBool v') (fun _ n n' => n' = n) := by
  cases v with
  | bool b => rw [vr_bool] at hv; subst hv; exact Sim.pure rfl
  | _ => exact Sim.dies (Dies.halt rfl)
theorem Sim.asAddr {v v' : Value} (hv : VR fns E v v') : Sim P fns Z E (asAddr v) (asAddr v') (fun E' a a' => AR fns E' a a') := by
  cases v with
  | pointer a =>
    obtain ⟨b, rfl, h⟩ := vr_pointer.1 hv
    cases a with
    | none => exact Sim.dies (show Dies P (Go.runtimePanic .nilDeref) from Dies.runtimePanic _)
    | some a => obtain ⟨b', rfl, h⟩ := oa_some.1 h; exact Sim.pure h
  | _ => exact Sim.dies (Dies.halt rfl)
theorem Sim.sureAddr {v v' : Value} (hv : VR fns E v v') : Sim P fns Z E (Instr.sureAddr v) (Instr.sureAddr v') (fun E' a a' => AR fns E' a a') := by
  cases v with
  | pointer a =>
    obtain ⟨b, rfl, h⟩ := vr_pointer.1 hv
    cases a with
    | none => exact Sim.dies (Dies.halt rfl)
    | some a => obtain ⟨b', rfl, h⟩ := oa_some.1 h; exact Sim.pure h
  | _ => exact Sim.dies (Dies.halt rfl)
/-- A value as an address to be read or written: also one into a row of which only a part is known. -/
def VZ (fns : Fx) (E : Nat → Nat → Prop) (v v' : Value) : Prop := VR fns E v v' ∨ ∃ a b, v = .pointer (some a) ∧ v' = .pointer (some b) ∧ AS fns E a b
theorem VZ.full {v v' : Value} (h : VZ fns E v v') (hf : fns.full = true) : VR fns E v v' := by
  rcases h with h | ⟨a, b, rfl, rfl, h⟩
  · exact h
  · exact vr_pointer.2 ⟨_, rfl, oa_some.2 ⟨_, rfl, h.full hf⟩⟩
theorem VZ.up {v v' : Value} (h : VZ fns E v v') (hE : ∀ a b, E a b → E' a b) : VZ fns E' v v' := by
  rcases h with h | ⟨a, b, rfl, rfl, h⟩
  · exact .inl (h.up hE)
  · exact .inr ⟨a, b, rfl, rfl, h.up hE⟩
theorem Sim.sureAddrZ {v v' : Value} (hv : VZ fns E v v') : Sim P fns Z E (Instr.sureAddr v) (Instr.sureAddr v') (fun E' a a' => AS fns E' a a') := by
  rcases hv with hv | ⟨a, b, rfl, rfl, h⟩
  · exact (Sim.sureAddr hv).mono fun _ _ _ _ h => h.as
  · exact Sim.pure h
theorem Sim.loadAt (t : TypeId) {v v' : Value} (hv : VZ fns E v v') : Sim P fns Z E (Instr.loadAt t v) (Instr.loadAt t v') (fun E' v v' => VR fns E' v v') := by
  unfold Instr.loadAt
  exact Sim.bind (Sim.sureAddrZ hv) fun E1 a a' up h => Sim.loadVar t h
theorem Sim.storeAt (t : TypeId) {v v' x x' : Value} (hv : VZ fns E v v') (hx : VR fns E x x') : Sim P fns Z E (Instr.storeAt t v x) (Instr.storeAt t v' x') (fun _ _ _ => True) := by
  unfold Instr.storeAt
  exact Sim.bind (Sim.sureAddrZ hv) fun E1 a a' up h => Sim.storeVar t h (hx.up up)
theorem Sim.fieldAt (s : TypeId) {v v' : Value} (hv : VR fns E v v') (f : Nat) : Sim P fns Z E (Instr.fieldAt s v f) (Instr.fieldAt s v' f) (fun E' v v' => VR fns E' v v') := by
  unfold Instr.fieldAt
  refine Sim.bind (Sim.underlying s) fun E1 d d' up h => ?_
  obtain ⟨rfl, _⟩ := h
  split
  · split
    · refine Sim.bind (Sim.sureAddr (hv.up up)) fun E2 a a' up2 h => ?_
      exact Sim.bind (Sim.fieldPlace h _) fun E3 x x' up3 h => Sim.pure (vr_pointer.2 ⟨_, rfl, h⟩)
    · exact Sim.stuck
  · exact Sim.stuck
theorem Sim.fieldAtZ (s : TypeId) {v v' : Value} (hv : VZ fns E v v') (f : Nat) : Sim P fns Z E (Instr.fieldAt s v f) (Instr.fieldAt s v' f) (fun E' v v' => VZ fns E' v v') := by
  unfold Instr.fieldAt
  refine Sim.bind (Sim.underlying s) fun E1 d d' up h => ?_
  obtain ⟨rfl, _⟩ := h
  split
  · split
    · refine Sim.bind (Sim.sureAddrZ (hv.up up)) fun E2 a a' up2 h => ?_
      exact Sim.bind (Sim.fieldPlaceZ h _) fun E3 x x' up3 h => Sim.pure (.inr ⟨_, _, rfl, rfl, h⟩)
    · exact Sim.stuck
  · exact Sim.stuck
theorem Sim.alloc (hz : zeros P fns) (t : TypeId) (ht : fns.tys t = true) : Sim P fns Z E (Instr.alloc t true (.tuple #[])) (Instr.alloc t true (.tuple #[])) (fun E' v v' => VR fns E' v v') := by
  unfold Instr.alloc
  refine Sim.bind (Sim.zeroValue hz t ht) fun E1 v v' up h => ?_
  obtain ⟨rfl, hc⟩ := h
  exact Sim.bind (Sim.newVar (vr_closed hc)) fun E2 a a' up2 h => Sim.pure (vr_pointer.2 ⟨_, rfl, h⟩)
theorem Sim.box (t : TypeId) {v v' : Value} (hv : VR fns E v v') : Sim P fns Z E (Instr.box t v) (Instr.box t v') (fun E' v v' => VR fns E' v v') := by
  unfold Instr.box
  exact Sim.bind (Sim.newVar hv) fun E2 a a' up2 h => Sim.pure (vr_pointer.2 ⟨_, rfl, h⟩)
/-- Parts that are laid into a row. -/
def PartsR (fns : Fx) (E : Nat → Nat → Prop) (x x' : List (Nat × Value)) : Prop := x.map (·.1) = x'.map (·.1) ∧ AllR fns E (x.map (·.2)).toArray (x'.map (·.2)).toArray
theorem foldl_set (off : Nat) : ∀ (l l' : List Value) (k : Nat) {c c' : Array Value}, AllR fns E l.toArray l'.toArray → AllR fns E c c' →
    AllR fns E ((l.zipIdx k).foldl (fun cs (x : Value × Nat) => cs.setIfInBounds (off + x.2) x.1) c) ((l'.zipIdx k).foldl (fun cs (x : Value × Nat) => cs.setIfInBounds (off + x.2) x.1) c')
  | [], [], k, c, c', h, hc => hc
  | [], v' :: vs', k, c, c', h, hc => by have := h.1; simp at this
  | v :: vs, [], k, c, c', h, hc => by have := h.1; simp at this
  | v :: vs, v' :: vs', k, c, c', h, hc => by
    have h0 : VR fns E v v' := by simpa using h.2 0 (by simp) (by simp)
    have h1 : AllR fns E vs.toArray vs'.toArray := ⟨by have := h.1; simpa using this, fun j a b => by
      have := h.2 (j + 1) (by simpa using a) (by simpa using b)
      simpa using this⟩
    simp only [List.zipIdx_cons, List.foldl_cons]
    exact foldl_set off vs vs' (k + 1) h1 (hc.set _ h0)
theorem fill_alike (place : Nat → Option (Nat × Nat)) : ∀ (l l' : List (Nat × Value)) {c c' : Array Value}, PartsR fns E l l' → AllR fns E c c' →
    (∃ d d', Instr.fill place c l = some d ∧ Instr.fill place c' l' = some d' ∧ AllR fns E d d') ∨ (Instr.fill place c l = none)
  | [], [], c, c', h, hc => .inl ⟨c, c', rfl, rfl, hc⟩
  | [], v' :: vs', c, c', h, hc => by have := h.1; simp at this
  | v :: vs, [], c, c', h, hc => by have := h.1; simp at this
  | (i, v) :: vs, (i', v') :: vs', c, c', h, hc => by
    obtain ⟨g1, g2⟩ := h
    simp only [List.map_cons, List.cons.injEq] at g1
    obtain ⟨rfl, g1⟩ := g1
    have h0 : VR fns E v v' := by simpa using g2.2 0 (by simp) (by simp)
    have h1 : PartsR fns E vs vs' := ⟨g1, ⟨by have := g2.1; simpa using this, fun j a b => by
      have := g2.2 (j + 1) (by simpa using a) (by simpa using b)
      simpa using this⟩⟩
    have hv := vr_cells h0
    unfold Instr.fill
    cases place i with
    | none => exact .inr rfl
    | some x =>
      obtain ⟨off, size⟩ := x
      dsimp only
      rw [← hv.1, ← hc.1]
      split
      · exact .inr rfl
      · refine fill_alike place vs vs' h1 ?_
        have := foldl_set off v.cells.toList v'.cells.toList 0 (by simpa using hv) hc
        rw [← Array.foldl_toList, ← Array.foldl_toList]
        simpa [Array.toList_zipIdx] using this
variable {P : Program} {fns : Fx} {E E' E'' : Nat → Nat → Prop} {Z : Nat → Prop}
theorem Sim.listMapM {α β γ : Type} {f : α → Sem β} {f' : α → Sem β} (hf : ∀ E a, Sim P fns Z E (f a) (f' a) (fun _ x y => y = x)) : ∀ (l : List α) {E : Nat → Nat → Prop}, Sim P fns Z E (l.mapM f) (l.mapM f') (fun _ x y => y = x)
  | [], E => by simp only [List.mapM_nil]; exact Sim.pure rfl
  | a :: l, E => by
    simp only [List.mapM_cons]
    refine Sim.bind (hf E a) fun E1 x y up h => ?_
    subst h
    refine Sim.bind (Sim.listMapM (γ := γ) hf l) fun E2 x y up h => ?_
    subst h
    exact Sim.pure rfl
theorem Sim.mapM {α β : Type} {f : α → Sem β} (hf : ∀ E a, Sim P fns Z E (f a) (f a) (fun _ x y => y = x)) (x : Array α) : Sim P fns Z E (x.mapM f) (x.mapM f) (fun _ x y => y = x) := by
  rw [Array.mapM_eq_mapM_toList]
  refine Sim.bind (Φ := fun _ x y => y = x) (Sim.listMapM (γ := Unit) hf _) fun E1 x y up h => ?_
  subst h
  exact Sim.pure rfl
theorem Sim.build (hz : zeros P fns) (t : TypeId) (ht : fns.tys t = true) {x x' : Array (Nat × Value)} (hx : PartsR fns E x.toList x'.toList) : Sim P fns Z E (Instr.build t x) (Instr.build t x') (fun E' v v' => VR fns E' v v') := by
  have hup : ∀ {E1 : Nat → Nat → Prop}, (∀ a b, E a b → E1 a b) → PartsR fns E1 x.toList x'.toList := fun up => ⟨hx.1, hx.2.up up⟩
  unfold Instr.build
  refine Sim.bind (Sim.zeroValue hz t ht) fun E1 v v' up h => ?_
  obtain ⟨rfl, hc⟩ := h
  dsimp only
  refine Sim.bind (Sim.underlying t) fun E2 d d' up2 h => ?_
  obtain ⟨rfl, _⟩ := h
  split
  · refine Sim.bind (Sim.mapM (fun E f => Sim.bind (Sim.sizeOf _) fun E' n n' up h => Sim.pure (by rw [h])) _) fun E3 pl pl' up3 h => ?_
    subst h
    rcases fill_alike (E := E3) (pl'[·]?) x.toList x'.toList (hup (fun a b z => up3 _ _ (up2 _ _ (up _ _ z)))) (vr_cells (vr_closed hc)) with ⟨d, d', h1, h2, h3⟩ | h
    · rw [h1, h2]; exact Sim.pure (vr_agg.2 ⟨_, rfl, h3⟩)
    · rw [h]; exact Sim.stuck
  · refine Sim.bind (Sim.sizeOf _) fun E3 pl pl' up3 h => ?_
    subst h
    rcases fill_alike (E := E3) (fun i => some (i * pl', pl')) x.toList x'.toList (hup (fun a b z => up3 _ _ (up2 _ _ (up _ _ z)))) (vr_cells (vr_closed hc)) with ⟨d, d', h1, h2, h3⟩ | h
    · rw [h1, h2]; exact Sim.pure (vr_agg.2 ⟨_, rfl, h3⟩)
    · rw [h]; exact Sim.stuck
  · exact Sim.stuck
theorem closed_cells {v : Value} (h : closed1 v = true) : ∀ i (hi : i < v.cells.size), VR fns E v.cells[i] v.cells[i] := fun i hi => (vr_cells (vr_closed h)).2 i hi hi
theorem allR_rows {z : Array Value} (hz : ∀ i (hi : i < z.size), VR fns E z[i] z[i]) (n : Nat) : AllR fns E ((Array.range n).map (z[· % z.size]!)) ((Array.range n).map (z[· % z.size]!)) := by
  refine ⟨rfl, fun i a b => ?_⟩
  simp only [Array.getElem_map, Array.getElem_range]
  by_cases hp : i % z.size < z.size
  · rw [getElem!_pos z (i % z.size) hp]
    exact hz _ _
  · rw [getElem!_neg z (i % z.size) hp]
    exact vr_scalar rfl
theorem Sim.buildSlice (hz : zeros P fns) (t : TypeId) (ht : ∀ e, P.underlying t = some (.slice e) → fns.tys e = true) (len : Nat) {x x' : Array (Nat × Value)} (hx : PartsR fns E x.toList x'.toList) : Sim P fns Z E (Instr.buildSlice t len x) (Instr.buildSlice t len x') (fun E' v v' => VR fns E' v v') := by
  unfold Instr.buildSlice
  refine Sim.bind (Sim.underlying t) fun E1 d d' up1 h => ?_
  obtain ⟨rfl, hu⟩ := h
  split
  · refine Sim.bind (Sim.sizeOf _) fun E2 n n' up2 h => ?_
    subst h
    dsimp only
    have key : ∀ {E3 : Nat → Nat → Prop} (z : Array Value), (∀ a b, E a b → E3 a b) → (∀ E i (hi : i < z.size), VR fns E z[i] z[i]) →
        (∃ d d', Instr.fill (fun i => some (i * n', n')) ((Array.range (len * n')).map (z[· % z.size]!)) x.toList = some d ∧ Instr.fill (fun i => some (i * n', n')) ((Array.range (len * n')).map (z[· % z.size]!)) x'.toList = some d' ∧ AllR fns E3 d d') ∨ Instr.fill (fun i => some (i * n', n')) ((Array.range (len * n')).map (z[· % z.size]!)) x.toList = none :=
      fun {E3} z up hzz => fill_alike (E := E3) (fun i => some (i * n', n')) x.toList x'.toList ⟨hx.1, hx.2.up up⟩ (allR_rows (hzz E3) (len * n'))
    split
    · exact Sim.dies (Dies.bind (Dies.halt rfl))
    · split
      · refine Sim.bind (Φ := fun _ z z' => z = #[] ∧ z' = #[]) (Sim.pure ⟨rfl, rfl⟩) fun E3 z z' up3 h => ?_
        obtain ⟨rfl, rfl⟩ := h
        rcases key (E3 := E3) #[] (fun a b y => up3 _ _ (up2 _ _ (up1 _ _ y))) (fun E i hi => by simp at hi) with ⟨d, d', h1, h2, h3⟩ | h
        · rw [h1, h2]
          exact Sim.bind (Sim.newRow h3) fun E4 a a' up4 h => Sim.pure (vr_slice.2 ⟨_, rfl, .inl h.as⟩)
        · rw [h]; exact Sim.stuck
      · refine Sim.bind (Sim.zeroValue hz _ (ht _ hu)) fun E3 v v' up3 h => ?_
        obtain ⟨rfl, hc⟩ := h
        refine Sim.bind (Φ := fun _ z z' => z = v'.cells ∧ z' = v'.cells) (Sim.pure ⟨rfl, rfl⟩) fun E4 z z' up4 h => ?_
        obtain ⟨rfl, rfl⟩ := h
        rcases key (E3 := E4) v'.cells (fun a b y => up4 _ _ (up3 _ _ (up2 _ _ (up1 _ _ y)))) (fun E i hi => closed_cells hc i hi) with ⟨d, d', h1, h2, h3⟩ | h
        · rw [h1, h2]
          exact Sim.bind (Sim.newRow h3) fun E4 a a' up4 h => Sim.pure (vr_slice.2 ⟨_, rfl, .inl h.as⟩)
        · rw [h]; exact Sim.stuck
  · exact Sim.stuck
theorem Sim.sliceBound {v v' : Value} (hv : VR fns E v v') (y : Nat) (c : BoundsCode) : Sim P fns Z E (Instr.sliceBound v y c) (Instr.sliceBound v' y c) (fun _ n n' => n' = n ∧ n ≤ y) := by
  unfold Instr.sliceBound
  refine Sim.bind (Sim.asIntOf hv) fun E1 n n' up h => ?_
  subst h
  dsimp only
  split
  · rename_i hc
    exact Sim.pure ⟨rfl, by omega⟩
  · exact Sim.dies (Dies.boundsPanic _ _ _ _)
def OptR (fns : Fx) (E : Nat → Nat → Prop) : Option Value → Option Value → Prop
  | none, none => True
  | some v, some v' => VR fns E v v'
  | _, _ => False
theorem OptR.up {v v' : Option Value} (h : OptR fns E v v') (hE : ∀ a b, E a b → E' a b) : OptR fns E' v v' := by
  cases v <;> cases v' <;> first | exact h | exact VR.up h hE
theorem Sim.sliceBounds (b : Bool) (len cap : Nat) {l h m l' h' m' : Option Value} (hl : OptR fns E l l') (hh : OptR fns E h h') (hm : OptR fns E m m') : Sim P fns Z E (Instr.sliceBounds b len cap l h m) (Instr.sliceBounds b len cap l' h' m') (fun _ n n' => n' = n ∧ (len = 0 → cap = 0 → n = (0, 0, 0))) := by
  unfold Instr.sliceBounds
  cases m <;> cases m' <;> first | exact hm.elim | skip
  all_goals refine Sim.bind (Φ := fun _ n n' => n' = n ∧ n ≤ cap) (by first | exact Sim.pure ⟨rfl, Nat.le_refl _⟩ | exact Sim.sliceBound hm _ _) fun E1 x x' up1 e => ?_
  all_goals obtain ⟨rfl, ex⟩ := e
  all_goals have hh1 := hh.up up1
  all_goals cases h <;> cases h' <;> first | exact hh.elim | exact Sim.dies (Dies.bind Dies.stuck) | skip
  all_goals refine Sim.bind (Φ := fun _ n n' => n' = n ∧ (len = 0 → cap = 0 → n = 0)) (by first | exact Sim.pure ⟨rfl, fun e _ => e⟩ | exact (Sim.sliceBound hh1 _ _).mono fun _ _ _ _ e => ⟨e.1, fun _ _ => by have := e.2; omega⟩) fun E2 y y' up2 e => ?_
  all_goals obtain ⟨rfl, ey⟩ := e
  all_goals have hl2 := (hl.up up1).up up2
  all_goals cases l <;> cases l' <;> first | exact hl.elim | skip
  all_goals refine Sim.bind (Φ := fun _ n n' => n' = n ∧ (len = 0 → cap = 0 → n = 0)) (by first | exact Sim.pure ⟨rfl, fun _ _ => rfl⟩ | exact (Sim.sliceBound hl2 _ _).mono fun _ _ _ _ e => ⟨e.1, fun e1 e2 => by have := e.2; have := ey e1 e2; omega⟩) fun E3 z z' up3 e => ?_
  all_goals obtain ⟨rfl, ez⟩ := e
  all_goals exact Sim.pure ⟨rfl, fun e1 e2 => by rw [ey e1 e2, ez e1 e2, show x' = 0 by omega]⟩
theorem Sim.slice (t : TypeId) {v v' : Value} (hv : VR fns E v v') {l h m l' h' m' : Option Value} (hl : OptR fns E l l') (hh : OptR fns E h h') (hm : OptR fns E m m') : Sim P fns Z E (Instr.slice t v l h m) (Instr.slice t v' l' h' m') (fun E' v v' => VR fns E' v v') := by
  unfold Instr.slice
  refine Sim.bind (Sim.underlying t) fun E1 d d' up1 e => ?_
  obtain ⟨rfl, _⟩ := e
  have hv1 := hv.up up1
  have hl1 := hl.up up1
  have hh1 := hh.up up1
  have hm1 := hm.up up1
  have em : m'.isSome = m.isSome := by cases m <;> cases m' <;> first | rfl | exact hm.elim
  split
  · rename_i s
    rw [vr_string] at hv1
    subst hv1
    rw [em]
    split
    · exact Sim.dies (Dies.bind Dies.stuck)
    · refine Sim.bind (Sim.sliceBounds _ _ _ hl1 hh1 trivial) fun E2 n n' up2 e => ?_
      obtain ⟨rfl, _⟩ := e
      exact Sim.pure (vr_scalar rfl)
  · rename_i a _ _ _
    obtain ⟨b, rfl, ha⟩ := vr_slice.1 hv1
    dsimp only
    refine Sim.bind (Sim.sliceBounds _ _ _ hl1 hh1 hm1) fun E2 n n' up2 e => ?_
    obtain ⟨rfl, hnil⟩ := e
    refine Sim.bind (Sim.sizeOf _) fun E3 sz sz' up3 e => ?_
    subst e
    refine Sim.pure (vr_slice.2 ⟨_, rfl, ?_⟩)
    rcases ha with ha | ⟨e1, e2, e3⟩
    · have ha3 := (ha.up up2).up up3
      refine .inl ?_
      split
      · exact ha3
      · cases a with
        | none => rw [os_none] at ha3; subst ha3; trivial
        | some a => obtain ⟨b', rfl, ha3⟩ := os_some.1 ha3; exact ha3.add _
    · have hn0 := hnil e1 e2
      subst hn0
      exact .inr ⟨rfl, rfl, by rw [if_pos rfl, if_pos rfl]; exact e3⟩
  · refine Sim.bind (Sim.asAddr hv1) fun E2 a a' up2 ha => ?_
    refine Sim.bind (Sim.underlying _) fun E3 d d' up3 e => ?_
    obtain ⟨rfl, _⟩ := e
    split
    · refine Sim.bind (Sim.sliceBounds _ _ _ ((hl1.up up2).up up3) ((hh1.up up2).up up3) ((hm1.up up2).up up3)) fun E4 n n' up4 e => ?_
      obtain ⟨rfl, _⟩ := e
      dsimp only
      refine Sim.bind (Sim.sizeOf _) fun E5 n n' up5 e => ?_
      subst e
      refine Sim.pure (vr_slice.2 ⟨_, rfl, .inl ?_⟩)
      have ha3 := (((ha.up up3).up up4).up up5).as
      split
      · exact ha3
      · exact ha3.add _
    · exact Sim.stuck
  · exact Sim.stuck
theorem Sim.sliceAt (t : TypeId) {v v' : Value} (hv : VR fns E v v') {l h m l' h' m' : Option Value} (hl : OptR fns E l l') (hh : OptR fns E h h') (hm : OptR fns E m m') : Sim P fns Z E (Instr.sliceAt t v l h m) (Instr.sliceAt t v' l' h' m') (fun E' v v' => VR fns E' v v') := by
  unfold Instr.sliceAt
  refine Sim.bind (Sim.underlying t) fun E1 d d' up1 e => ?_
  obtain ⟨rfl, _⟩ := e
  have hv1 := hv.up up1
  have hl1 := hl.up up1
  have hh1 := hh.up up1
  have hm1 := hm.up up1
  split
  · refine Sim.bind (Sim.sureAddr hv1) fun E2 a a' up2 ha => ?_
    refine Sim.bind (Sim.sliceBounds _ _ _ (hl1.up up2) (hh1.up up2) (hm1.up up2)) fun E4 n n' up4 e => ?_
    obtain ⟨rfl, _⟩ := e
    dsimp only
    refine Sim.bind (Sim.sizeOf _) fun E5 n n' up5 e => ?_
    subst e
    refine Sim.pure (vr_slice.2 ⟨_, rfl, .inl ?_⟩)
    have ha3 := ((ha.up up4).up up5).as
    split
    · exact ha3
    · exact ha3.add _
  · exact Sim.slice t hv1 hl1 hh1 hm1
theorem Sim.indexAt (t : TypeId) {v v' x x' : Value} (hv : VR fns E v v') (hx : VR fns E x x') : Sim P fns Z E (Instr.indexAt t v x) (Instr.indexAt t v' x') (fun E' v v' => VZ fns E' v v') := by
  unfold Instr.indexAt
  refine Sim.bind (Sim.asIntOf hx) fun E1 n n' up1 e => ?_
  subst e
  dsimp only
  refine Sim.bind (Sim.underlying t) fun E2 d d' up2 e => ?_
  obtain ⟨rfl, _⟩ := e
  have hv2 := (hv.up up1).up up2
  split
  · refine Sim.bind (Sim.sureAddr hv2) fun E3 a a' up3 ha => ?_
    refine Sim.bind (Φ := fun E' (y y' : Option Addr × Nat × TypeId) => OA fns E' y.1 y'.1 ∧ y.2 = y'.2) (Sim.pure ⟨ha, rfl⟩) fun E3 y y' up3 e => ?_
    obtain ⟨base, len, elem⟩ := y
    obtain ⟨base', len', elem'⟩ := y'
    obtain ⟨e1, e2⟩ := e
    simp only [Prod.mk.injEq] at e2
    obtain ⟨rfl, rfl⟩ := e2
    dsimp only at e1 ⊢
    refine Sim.bind (Sim.underlying t) fun E4 d d' up4 e => ?_
    obtain ⟨rfl, _⟩ := e
    have e4 := e1.up up4
    cases base with
    | none =>
      rw [oa_none] at e4; subst e4
      exact Sim.dies (Dies.boundsPanic _ _ _ _)
    | some a =>
      obtain ⟨b', rfl, ha⟩ := oa_some.1 e4
      dsimp only
      split
      · refine Sim.bind (Sim.sizeOf _) fun E5 n n' up5 e => ?_
        subst e
        exact Sim.pure (.inl (vr_pointer.2 ⟨_, rfl, (ha.up up5).add _⟩))
      · refine Sim.dies ?_
        split <;> split <;> first | exact Dies.halt rfl | exact Dies.boundsPanic _ _ _ _
  · obtain ⟨b, rfl, ha⟩ := vr_slice.1 hv2
    refine Sim.bind (Φ := fun E' (y y' : Option Addr × Nat × TypeId) => (OS fns E' y.1 y'.1 ∨ (y.2.1 = 0 ∧ y.1 = y'.1)) ∧ y.2 = y'.2) (Sim.pure ⟨ha.imp id fun x => ⟨x.1, x.2.2⟩, rfl⟩) fun E3 y y' up3 e => ?_
    obtain ⟨base, len, elem⟩ := y
    obtain ⟨base', len', elem'⟩ := y'
    obtain ⟨e1, e2⟩ := e
    simp only [Prod.mk.injEq] at e2
    obtain ⟨rfl, rfl⟩ := e2
    dsimp only at e1 ⊢
    refine Sim.bind (Sim.underlying t) fun E4 d d' up4 e => ?_
    obtain ⟨rfl, _⟩ := e
    rcases e1 with e1 | ⟨e5, e6⟩
    rotate_left
    · subst e5 e6
      cases base with
      | none => exact Sim.dies (Dies.boundsPanic _ _ _ _)
      | some a =>
        dsimp only
        split
        · rename_i hcc
          have := hcc.1
          have := hcc.2
          omega
        · refine Sim.dies ?_
          split <;> split <;> first | exact Dies.halt rfl | exact Dies.boundsPanic _ _ _ _
    have e4 := e1.up up4
    cases base with
    | none =>
      rw [os_none] at e4; subst e4
      exact Sim.dies (Dies.boundsPanic _ _ _ _)
    | some a =>
      obtain ⟨b', rfl, ha⟩ := os_some.1 e4
      dsimp only
      split
      · refine Sim.bind (Sim.sizeOf _) fun E5 n n' up5 e => ?_
        subst e
        exact Sim.pure (.inr ⟨_, _, rfl, rfl, (ha.up up5).add _⟩)
      · refine Sim.dies ?_
        split <;> split <;> first | exact Dies.halt rfl | exact Dies.boundsPanic _ _ _ _
  · exact Sim.dies (Dies.bind Dies.stuck)
theorem Sim.extract {v v' : Value} (hv : VR fns E v v') (i : Nat) : Sim P fns Z E (Instr.extract v i) (Instr.extract v' i) (fun E' v v' => VR fns E' v v') := by
  cases v with
  | tuple x =>
    obtain ⟨x', rfl, h⟩ := vr_tuple.1 hv
    unfold Instr.extract
    dsimp only
    cases hx : x[i]? with
    | none => exact Sim.stuck
    | some u => obtain ⟨u', h1, h2⟩ := h.get? i hx; rw [h1]; exact Sim.pure h2
  | _ => exact Sim.dies (Dies.halt rfl)
end Go.Proofs.YtobpjijdebnaoaaDoor
