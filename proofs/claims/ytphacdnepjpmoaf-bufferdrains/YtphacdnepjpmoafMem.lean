/-
  Words of my own for memory: how a buffer lies: its entries, each leading to the one ahead and the one behind, and the map by which they are found.
-/
import Derived.Test.YtphacdnepjpmoafBase
import Derived.Maps.OwnSet
namespace Go.Proofs.Ytphacdnepjpmoaf
open Go.RowKit Go.Maps
set_option linter.unusedVariables false

/-- A pointer to an entry; nil. -/
def ptr : Option Nat → Value
  | none => .pointer none
  | some g => .pointer (some ⟨g, 0, none⟩)
/-- One entry: its block, its item, where its data lie. -/
structure Nd where
  g : Nat
  it : It
  a : Option Addr
  cap : Nat
/-- How an entry lies. -/
def ndC (x : Nd) (p n : Option Nat) : Array Value := #[.int .i64 x.it.lba, .bool x.it.gone, .slice x.a x.it.data.length x.cap, ptr p, ptr n]
def NodeAt (w : World) (x : Nd) (p n : Option Nat) : Prop := w.heap[x.g]? = some (.cells (ndC x p n) 69 (0, 0))
def hd (N : List Nd) (n : Option Nat) : Option Nat := match N with
  | [] => n
  | x :: _ => some x.g
def lst (p : Option Nat) : List Nd → Option Nat
  | [] => p
  | x :: r => lst (some x.g) r
def Chain (w : World) (p : Option Nat) : List Nd → Option Nat → Prop
  | [], _ => True
  | x :: r, n => NodeAt w x p (hd r n) ∧ Chain w (some x.g) r n
theorem hd_app (A C : List Nd) (n : Option Nat) : hd (A ++ C) n = hd A (hd C n) := by cases A <;> rfl
theorem lst_app : ∀ (p : Option Nat) (A C : List Nd), lst p (A ++ C) = lst (lst p A) C
  | p, [], C => rfl
  | p, x :: r, C => lst_app (some x.g) r C
theorem chain_app {w : World} : ∀ (A C : List Nd) (p n : Option Nat), Chain w p (A ++ C) n ↔ Chain w p A (hd C n) ∧ Chain w (lst p A) C n
  | [], C, p, n => by simp [Chain, lst]
  | x :: r, C, p, n => by
    show NodeAt w x p (hd (r ++ C) n) ∧ Chain w (some x.g) (r ++ C) n ↔ (NodeAt w x p (hd r (hd C n)) ∧ Chain w (some x.g) r (hd C n)) ∧ Chain w (lst (some x.g) r) C n
    rw [chain_app r C (some x.g) n, hd_app]
    exact ⟨fun ⟨a, b, c⟩ => ⟨⟨a, b⟩, c⟩, fun ⟨⟨a, b⟩, c⟩ => ⟨a, b, c⟩⟩
theorem Chain.keep {S : Nat → Prop} {w w' : World} (hk : Keep S w w') : ∀ {N : List Nd} {p n : Option Nat}, Chain w p N n → (∀ x ∈ N, ¬ S x.g) → Chain w' p N n
  | [], _, _, _, _ => trivial
  | x :: r, p, n, h, hs => ⟨(hk.block x.g (heap_lt h.1) (hs x (by simp))).trans h.1, Chain.keep hk h.2 (fun y hy => hs y (by simp [hy]))⟩
theorem Chain.node {w : World} : ∀ {N : List Nd} {p n : Option Nat}, Chain w p N n → ∀ x ∈ N, ∃ p' n', NodeAt w x p' n'
  | [], _, _, _, x, hx => by simp at hx
  | y :: r, p, n, h, x, hx => by
    rcases List.mem_cons.1 hx with rfl | hx
    · exact ⟨_, _, h.1⟩
    · exact Chain.node h.2 x hx
/-- A cell of a known block is set. -/
theorem set_blk {w : World} {g j : Nat} {cs : Array Value} {t : TypeId} (h : w.heap[g]? = some (.cells cs t (0, 0))) (u : Value) : (w.setCell ⟨g, j, none⟩ u).heap[g]? = some (.cells (cs.setIfInBounds j u) t (0, 0)) := by
  simp [World.setCell, Array.getElem?_modify, h]
theorem set_far {w : World} {g j b : Nat} (u : Value) (h : b ≠ g) : (w.setCell ⟨g, j, none⟩ u).heap[b]? = w.heap[b]? := Below.heap_setCell _ _ _ _ h
/-! ### the map -/
/-- How an element of the map reads: the number of its block. -/
def pEl : Value → Option (DataW Unit × List MemPlace)
  | .pointer none => some (.lit (.int .i64 (-1)), [])
  | .pointer (some a) => if a.off = 0 ∧ a.spot = none then some (.lit (.int .i64 (a.block : Int)), []) else none
  | _ => none
def gI (x : Option Nd) : Int := match x with
  | none => -1
  | some x => (x.g : Int)
theorem pEl_none : pEl (.pointer none) = some (.lit (.int .i64 (-1)), []) := rfl
theorem pEl_some (g : Nat) : pEl (ptr (some g)) = some (.lit (.int .i64 (g : Int)), []) := by simp [pEl, ptr]
theorem pEl_inv {v : Value} {z : Int} {ps : List MemPlace} (h : pEl v = some (.lit (.int .i64 z), ps)) : (z = -1 ∧ v = ptr none) ∨ ∃ g : Nat, z = (g : Int) ∧ v = ptr (some g) := by
  unfold pEl at h
  split at h
  · simp at h; exact Or.inl ⟨h.1.symm, rfl⟩
  next a =>
    split at h
    next hc =>
      simp at h
      refine Or.inr ⟨a.block, h.1.symm, ?_⟩
      obtain ⟨b, o, s⟩ := a
      simp only at hc
      obtain ⟨rfl, rfl⟩ := hc
      rfl
    · cases h
  · cases h
def fndN (N : List Nd) (k : Int) : Option Nd := N.find? (fun x => decide (x.it.lba = k))
theorem fndN_it (N : List Nd) (k : Int) : (fndN N k).map (·.it) = fnd (N.map (·.it)) k := by
  unfold fndN fnd
  rw [List.find?_map]
  rfl
theorem fndN_some {N : List Nd} {k : Int} {x : Nd} (h : fndN N k = some x) : x ∈ N ∧ x.it.lba = k := by
  unfold fndN at h
  exact ⟨List.mem_of_find?_eq_some h, by simpa using List.find?_some h⟩
/-- THE MAP LEADS FROM EACH LBA TO ITS ENTRY. -/
def MP (w : World) (mb : Nat) (N : List Nd) : Prop :=
  ∃ D : DataW Unit, w.ownsMap Try.prog 3 pEl mb N.length D ∧ Maps.size D = N.length ∧ ∀ k : Int, Maps.has D (.int .i64 k) = (fndN N k).isSome ∧ D.atKey (.int .i64 k) (.lit (.int .i64 (-1))) = .lit (.int .i64 (gI (fndN N k)))
theorem law : Keyed Try.prog 3 := int_keyed Try.underlying3
theorem tight {w : World} {b n : Nat} {D : DataW Unit} (h : w.ownsMap Try.prog 3 pEl b n D) : w.ownsMap Try.prog 3 pEl b (Maps.size D) D := by
  obtain ⟨es, clock, hb, F, hs, hD⟩ := h
  refine ⟨es, clock, hb, F, ?_, hD⟩
  rw [hD]
  simp [Maps.size, length_sorted]
theorem MP.blk {w : World} {mb : Nat} {N : List Nd} (h : MP w mb N) : ∃ es c, w.heap[mb]? = some (.map es c) := by
  obtain ⟨D, ⟨es, clock, hb, _⟩, _⟩ := h
  exact ⟨es, clock, hb⟩
theorem MP.keep {S : Nat → Prop} {w w' : World} {mb : Nat} {N : List Nd} (h : MP w mb N) (hk : Keep S w w') (hs : ¬ S mb) : MP w' mb N := by
  obtain ⟨D, ⟨es, clock, hb, r⟩, q⟩ := h
  exact ⟨D, ⟨es, clock, (hk.block mb (heap_lt hb) hs).trans hb, r⟩, q⟩
theorem mp_new (w : World) : MP (w.alloc (.map #[] 0)) w.heap.size [] :=
  ⟨.map [], World.ownsMap_made w _ _ _, rfl, fun k => ⟨rfl, rfl⟩⟩
theorem lit_ne {a b : Int} (h : a ≠ b) : Lit.int .i64 a ≠ Lit.int .i64 b := fun e => h (by cases e; rfl)
theorem key_lit (k : Int) (hk : -9223372036854775808 ≤ k ∧ k ≤ 9223372036854775807) : keyOf Try.prog 3 (.int .i64 k) = some (.int .i64 k) := keyOf_int_mk Try.underlying3 (WalkArith.wf_i64 (by omega))
theorem fndN_snoc (N : List Nd) (x : Nd) (k : Int) (h : fndN N x.it.lba = none) : fndN (N ++ [x]) k = if k = x.it.lba then some x else fndN N k := by
  unfold fndN at *
  rw [List.find?_append]
  by_cases e : k = x.it.lba
  · subst e
    rw [h, if_pos rfl]
    simp
  · rw [if_neg e]
    have : [x].find? (fun y => decide (y.it.lba = k)) = none := by
      rw [List.find?_eq_none]
      intro y hy
      simp at hy
      subst hy
      simpa using fun h => e h.symm
    rw [this]
    cases List.find? (fun y => decide (y.it.lba = k)) N <;> rfl
theorem fndN_mid (A C : List Nd) (x : Nd) (k : Int) (h : ((A ++ x :: C).map (·.it.lba)).Nodup) : fndN (A ++ C) k = if k = x.it.lba then none else fndN (A ++ x :: C) k := by
  unfold fndN
  rw [List.map_append, List.map_cons, List.nodup_append] at h
  obtain ⟨h1, h2, h3⟩ := h
  rw [List.nodup_cons] at h2
  by_cases e : k = x.it.lba
  · subst e
    rw [if_pos rfl, List.find?_eq_none]
    intro y hy
    rw [List.mem_append] at hy
    rcases hy with hy | hy
    · have := h3 _ (List.mem_map.2 ⟨y, hy, rfl⟩) x.it.lba (by simp)
      simpa using this
    · have : y.it.lba ≠ x.it.lba := fun e => h2.1 (by rw [← e]; exact List.mem_map.2 ⟨y, hy, rfl⟩)
      simpa using this
  · rw [if_neg e, List.find?_append, List.find?_append, List.find?_cons_of_neg]
    simpa using fun h => e h.symm
/-- It is taken out. -/
theorem mp_del {w w' : World} {mb n : Nat} {A C : List Nd} {x : Nd} {D : DataW Unit} (h : MP w mb (A ++ x :: C)) (hD : w.ownsMap Try.prog 3 pEl mb n D) (hn : ((A ++ x :: C).map (·.it.lba)).Nodup) (hw : w'.ownsMap Try.prog 3 pEl mb n (D.del (.int .i64 x.it.lba))) : MP w' mb (A ++ C) := by
  obtain ⟨D', hD', h1, h2⟩ := h
  obtain rfl : D = D' := by
    obtain ⟨es, c, e1, _, _, e2⟩ := hD
    obtain ⟨es', c', e1', _, _, e2'⟩ := hD'
    rw [e1] at e1'
    cases e1'
    rw [e2, e2']
  have hh : Maps.has D (.int .i64 x.it.lba) = true := by
    rw [(h2 _).1]
    have : ∃ y, fndN (A ++ x :: C) x.it.lba = some y := by
      cases e : fndN (A ++ x :: C) x.it.lba with
      | some y => exact ⟨y, rfl⟩
      | none =>
        unfold fndN at e
        rw [List.find?_eq_none] at e
        have := e x (by simp)
        simp at this
    obtain ⟨y, e⟩ := this
    rw [e]; rfl
  have hs := Maps.size_del (k := .int .i64 x.it.lba) (hD.tidy law)
  rw [hh, h1] at hs
  have hs' : Maps.size (D.del (.int .i64 x.it.lba)) = (A ++ C).length := by
    simp at hs ⊢
    omega
  refine ⟨_, by rw [← hs']; exact tight hw, hs', fun k => ?_⟩
  rw [fndN_mid A C x k hn]
  by_cases e : k = x.it.lba
  · subst e
    rw [if_pos rfl]
    exact ⟨Maps.has_del_same, Maps.atKey_del_same _⟩
  · rw [if_neg e]
    exact ⟨by rw [Maps.has_del_other (lit_ne e)]; exact (h2 k).1, by rw [Maps.atKey_del_other (lit_ne e)]; exact (h2 k).2⟩
/-- One more is laid in. -/
theorem mp_put {w w' : World} {mb n m : Nat} {N : List Nd} {x : Nd} {D : DataW Unit} (h : MP w mb N) (hD : w.ownsMap Try.prog 3 pEl mb n D) (hx : fndN N x.it.lba = none) (hw : w'.ownsMap Try.prog 3 pEl mb m (D.put (.int .i64 x.it.lba) (.lit (.int .i64 (x.g : Int))))) : MP w' mb (N ++ [x]) := by
  obtain ⟨D', hD', h1, h2⟩ := h
  obtain rfl : D = D' := by
    obtain ⟨es, c, e1, _, _, e2⟩ := hD
    obtain ⟨es', c', e1', _, _, e2'⟩ := hD'
    rw [e1] at e1'
    cases e1'
    rw [e2, e2']
  have hh : Maps.has D (.int .i64 x.it.lba) = false := by rw [(h2 _).1, hx]; rfl
  have hs := Maps.size_put (k := .int .i64 x.it.lba) (hD.tidy law) (.lit (.int .i64 (x.g : Int)))
  rw [hh, h1] at hs
  have hs' : Maps.size (D.put (.int .i64 x.it.lba) (.lit (.int .i64 (x.g : Int)))) = (N ++ [x]).length := by
    simp at hs ⊢
    omega
  refine ⟨_, by rw [← hs']; exact tight hw, hs', fun k => ?_⟩
  rw [fndN_snoc N x k hx]
  by_cases e : k = x.it.lba
  · subst e
    rw [if_pos rfl]
    have hl : WideAt.IsKeyLit (.int .i64 x.it.lba) := trivial
    exact ⟨Maps.has_put_same hD.isMap hl _, Maps.atKey_put_same hD.isMap hl _ _⟩
  · rw [if_neg e]
    exact ⟨by rw [Maps.has_put_other (lit_ne e)]; exact (h2 k).1, by rw [Maps.atKey_put_other (lit_ne e)]; exact (h2 k).2⟩
end Go.Proofs.Ytphacdnepjpmoaf
