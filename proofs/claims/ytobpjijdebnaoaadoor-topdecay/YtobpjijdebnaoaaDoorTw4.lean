/- Part of the proof. -/
import Derived.Test.YtobpjijdebnaoaaDoorTw2
import Derived.Test.YtobpjijdebnaoaaDoorTwK
import Derived.Conc.LeavingOf
import Derived.ProofKit
import Derived.OpenShut
import Derived.SizedLaws
import Derived.Deep.Slices
namespace Go.Proofs.YtobpjijdebnaoaaDoor
open Go Go.Conc
/-- A row of the ghost's that nobody writes: the real block that it stands for, known from lo on. -/
structure Cp where
  cells : Array Value
  elem : TypeId
  lo : Nat
  real : Option Nat
def Cp.obj (c : Cp) : Obj := .cells c.cells c.elem (0, c.cells.size)
abbrev cp0 : Cp := ⟨#[], 0, 0, none⟩
section
variable (W : World) (C : List Cp)
def ghW : World := { W with heap := W.heap ++ (C.map Cp.obj).toArray }
def ghE (a b : Nat) : Prop := ∃ k c, C[k]? = some c ∧ a = W.heap.size + k ∧ c.real = some b
def ghZ (a : Nat) : Prop := W.heap.size ≤ a ∧ a < W.heap.size + C.length
def ghLo (a : Nat) : Nat := if a < W.heap.size then 0 else ((C[a - W.heap.size]?).map (·.lo)).getD 0
def ghPt (a : Nat) : Bool := decide (a < W.heap.size ∨ W.heap.size + C.length ≤ a)
theorem ghPl (a : Nat) (h : ghPt W C a = true) : ghLo W C a = 0 := by
  have h' := of_decide_eq_true h
  unfold ghLo
  split
  · rfl
  · rw [List.getElem?_eq_none (by omega)]
    rfl
theorem ghE_z {a b : Nat} (h : ghE W C a b) : ghZ W C a := by
  obtain ⟨k, c, h1, rfl, _⟩ := h
  have := (List.getElem?_eq_some_iff.1 h1).1
  exact ⟨by omega, by omega⟩
theorem ghW_size : (ghW W C).heap.size = W.heap.size + C.length := by simp [ghW]
theorem ghW_at {k : Nat} {c : Cp} (h : C[k]? = some c) : (ghW W C).heap[W.heap.size + k]? = some c.obj := by
  unfold ghW
  simp only []
  rw [Array.getElem?_append_right (by omega), show W.heap.size + k - W.heap.size = k by omega]
  simp [h]
theorem ghLo_at {k : Nat} {c : Cp} (h : C[k]? = some c) : ghLo W C (W.heap.size + k) = c.lo := by
  unfold ghLo
  rw [if_neg (by omega), show W.heap.size + k - W.heap.size = k by omega, h]
  rfl
/-- What each copy must be. -/
def CpOk (fns : Fx) (G : Nat) (c : Cp) : Prop :=
  ∀ b, c.real = some b → G < b ∧ ∃ c' fr', W.heap[b]? = some (.cells c' c.elem fr') ∧ c.cells.size ≤ c'.size ∧ ∀ i (h : i < c.cells.size) (h' : i < c'.size), c.lo ≤ i → VR fns (ghE W C) c.cells[i] c'[i]
theorem gh_wr {P : Program} {fns : Fx} (hlo : fns.lo = ghLo W C) (hpt : fns.pt = ghPt W C) (hg : P.globals.size < W.heap.size) (hC : ∀ (k : Nat) (c : Cp), C[k]? = some c → CpOk W C fns P.globals.size c) : WR P fns (ghE W C) (ghZ W C) (ghW W C) W := by
  refine ⟨fun a h => ?_, fun a h => ?_, ?_, hg, fun a b x y => ?_, fun a b a' b' x y => ⟨fun e => ?_, fun e hp => ?_⟩, fun a b x => ?_⟩
  · rw [ghW_size]; exact h.2
  · rw [hpt]
    refine decide_eq_true ?_
    by_cases h1 : a < W.heap.size
    · exact .inl h1
    · refine .inr ?_
      by_cases h2 : a < W.heap.size + C.length
      · exact (h ⟨by omega, h2⟩).elim
      · omega
  · rw [ghW_size]; omega
  · obtain ⟨k, c, h1, rfl, h3⟩ := x
    have := (hC k c h1 b h3).1
    omega
  · obtain ⟨k, c, h1, rfl, h3⟩ := x
    obtain ⟨k', c', h1', e', h3'⟩ := y
    obtain rfl : k = k' := by omega
    rw [h1] at h1'
    obtain rfl := Option.some.inj h1'
    rw [h3] at h3'
    exact Option.some.inj h3'
  · rw [hpt] at hp
    have hz := ghE_z W C x
    have := of_decide_eq_true hp
    have h1 := hz.1
    have h2 := hz.2
    omega
  · have hz := ghE_z W C x
    obtain ⟨k, c, h1, rfl, h3⟩ := x
    obtain ⟨_, c', fr', h4, h5, h6⟩ := hC k c h1 b h3
    refine .inl ⟨c.cells, c', c.elem, (0, c.cells.size), fr', ghW_at W C h1, h4, ⟨h5, fun hn => (hn hz).elim, fun i h h' hl => h6 i h h' ?_⟩, fun hn => (hn hz).elim, fun _ i hi => ⟨Nat.zero_le _, hi⟩⟩
    rw [hlo, ghLo_at W C h1] at hl
    exact hl
end
/-! ### pages -/
def elA (W : World) (b : Nat) : TypeId := match W.heap[b]? with
  | some (.cells _ el _) => el
  | _ => 0
def clA (W : World) (b : Nat) : Array Value := match W.heap[b]? with
  | some (.cells c _ _) => c
  | _ => #[]
theorem cell_row {W : World} {b o : Nat} {v : Value} (h : W.cell? ⟨b, o, none⟩ = some v) : (∃ fr, W.heap[b]? = some (.cells (clA W b) (elA W b) fr)) ∧ (clA W b)[o]? = some v := by
  unfold World.cell? at h
  cases hh : W.heap[b]? with
  | none => simp [hh] at h
  | some ob =>
    cases ob with
    | cells cc el fr =>
      simp [hh] at h
      refine ⟨⟨fr, by simp [clA, elA, hh]⟩, ?_⟩
      simp [clA, hh]
      exact h
    | _ => simp [hh] at h
/-- A page that came in. -/
structure PIn (W : World) (A : Option Addr) (l c : Nat) : Prop where
  le : l ≤ c
  most : c ≤ 9223372036854775807
  byte : ∀ j, j < c → ∃ b o z, A = some ⟨b, o, none⟩ ∧ W.cell? ⟨b, o + j, none⟩ = some (.int .u8 z) ∧ 0 ≤ z ∧ z ≤ 255
/-- Pages that came in. -/
structure PsIn (W : World) (pa : Option Addr) (cap : Nat) (A : Nat → Option Addr) (l c : Nat → Nat) : Prop where
  cell : ∀ i, i < cap → ∃ b o, pa = some ⟨b, o, none⟩ ∧ W.cell? ⟨b, o + i, none⟩ = some (.slice (A i) (l i) (c i))
  page : ∀ i, i < cap → PIn W (A i) (l i) (c i)
section
variable (W : World) (n0 : Nat) (pa : Option Addr) (cap : Nat) (A : Nat → Option Addr) (l c : Nat → Nat)
/-- A page's place on the ghost's side. -/
def gA (i : Nat) : Option Addr := if c i = 0 then A i else (A i).map fun x => ⟨n0 + 1 + i, x.off, none⟩
def gpa : Option Addr := if cap = 0 then pa else pa.map fun x => ⟨n0, x.off, none⟩
def rowCp : Cp := if cap = 0 then cp0 else match pa with
  | none => cp0
  | some x => ⟨Array.ofFn (n := x.off + cap) fun i => if i.val < x.off then .tuple #[] else .slice (gA n0 A c (i.val - x.off)) (l (i.val - x.off)) (c (i.val - x.off)), elA W x.block, x.off, some x.block⟩
def pageCp (i : Nat) : Cp := if c i = 0 then cp0 else match A i with
  | none => cp0
  | some x => ⟨(clA W x.block).extract 0 (x.off + c i), elA W x.block, x.off, some x.block⟩
def pgsCp : List Cp := rowCp W n0 pa cap A l c :: (List.range cap).map (pageCp W A c)
theorem pgs_len : (pgsCp W n0 pa cap A l c).length = cap + 1 := by simp [pgsCp]
theorem pgs_0 : (pgsCp W n0 pa cap A l c)[0]? = some (rowCp W n0 pa cap A l c) := rfl
theorem pgs_at {i : Nat} (h : i < cap) : (pgsCp W n0 pa cap A l c)[1 + i]? = some (pageCp W A c i) := by
  unfold pgsCp
  rw [Nat.add_comm, List.getElem?_cons_succ]
  simp [h]
end
/-- The copies D lie in C from k0 on. -/
def PlA (C D : List Cp) (k0 : Nat) : Prop := ∀ k, k < D.length → C[k0 + k]? = D[k]?
section
variable {W : World} {C : List Cp} {k0 : Nat} {pa : Option Addr} {len cap : Nat} {A : Nat → Option Addr} {l c : Nat → Nat} {fns : Fx} {G : Nat}
theorem row_of (h : PsIn W pa cap A l c) (hc : cap ≠ 0) : ∃ b o, pa = some ⟨b, o, none⟩ ∧ (∃ fr, W.heap[b]? = some (.cells (clA W b) (elA W b) fr)) ∧ o + cap ≤ (clA W b).size ∧ ∀ i, i < cap → (clA W b)[o + i]? = some (.slice (A i) (l i) (c i)) := by
  obtain ⟨b, o, e, h0⟩ := h.cell 0 (by omega)
  have hall : ∀ i, i < cap → (clA W b)[o + i]? = some (.slice (A i) (l i) (c i)) := fun i hi => by
    obtain ⟨b', o', e', hi'⟩ := h.cell i hi
    rw [e] at e'
    cases e'
    exact (cell_row hi').2
  have hl := (Array.getElem?_eq_some_iff.1 (hall (cap - 1) (by omega))).1
  exact ⟨b, o, e, (cell_row h0).1, by omega, hall⟩
theorem page_of {A : Option Addr} {l c : Nat} (h : PIn W A l c) (hc : c ≠ 0) : ∃ b o, A = some ⟨b, o, none⟩ ∧ (∃ fr, W.heap[b]? = some (.cells (clA W b) (elA W b) fr)) ∧ o + c ≤ (clA W b).size ∧ ∀ j, j < c → ∃ z, W.cell? ⟨b, o + j, none⟩ = some (.int .u8 z) ∧ (clA W b)[o + j]? = some (.int .u8 z) ∧ 0 ≤ z ∧ z ≤ 255 := by
  obtain ⟨b, o, z, e, h0, _⟩ := h.byte 0 (by omega)
  have hall : ∀ j, j < c → ∃ z, W.cell? ⟨b, o + j, none⟩ = some (.int .u8 z) ∧ (clA W b)[o + j]? = some (.int .u8 z) ∧ 0 ≤ z ∧ z ≤ 255 := fun j hj => by
    obtain ⟨b', o', z, e', hi', hz⟩ := h.byte j hj
    rw [e] at e'
    cases e'
    exact ⟨z, hi', (cell_row hi').2, hz⟩
  obtain ⟨_, _, h1, _⟩ := hall (c - 1) (by omega)
  have hl := (Array.getElem?_eq_some_iff.1 h1).1
  exact ⟨b, o, e, (cell_row h0).1, by omega, hall⟩
theorem pl_row (hP : PlA C (pgsCp W (W.heap.size + k0) pa cap A l c) k0) : C[k0]? = some (rowCp W (W.heap.size + k0) pa cap A l c) := by
  have := hP 0 (by rw [pgs_len]; omega)
  rw [Nat.add_zero] at this
  exact this
theorem pl_page (hP : PlA C (pgsCp W (W.heap.size + k0) pa cap A l c) k0) {i : Nat} (hi : i < cap) : C[k0 + 1 + i]? = some (pageCp W A c i) := by
  have := hP (1 + i) (by rw [pgs_len]; omega)
  rw [pgs_at _ _ _ _ _ _ _ hi] at this
  rw [Nat.add_assoc]
  exact this
theorem rowCp_some {b o : Nat} (hc : cap ≠ 0) (e : pa = some ⟨b, o, none⟩) (n0 : Nat) : rowCp W n0 pa cap A l c = ⟨Array.ofFn (n := o + cap) fun i => if i.val < o then .tuple #[] else .slice (gA n0 A c (i.val - o)) (l (i.val - o)) (c (i.val - o)), elA W b, o, some b⟩ := by
  unfold rowCp
  rw [if_neg hc, e]
theorem pageCp_some {b o i : Nat} (hc : c i ≠ 0) (e : A i = some ⟨b, o, none⟩) : pageCp W A c i = ⟨(clA W b).extract 0 (o + c i), elA W b, o, some b⟩ := by
  unfold pageCp
  rw [if_neg hc, e]
/-- A page is alike. -/
theorem vr_page (hlo : fns.lo = ghLo W C) (hP : PlA C (pgsCp W (W.heap.size + k0) pa cap A l c) k0) (h : PsIn W pa cap A l c) {i : Nat} (hi : i < cap) : VR fns (ghE W C) (.slice (gA (W.heap.size + k0) A c i) (l i) (c i)) (.slice (A i) (l i) (c i)) := by
  refine vr_slice.2 ⟨_, rfl, ?_⟩
  have hp := h.page i hi
  by_cases hc : c i = 0
  · have hle := hp.le
    exact .inr ⟨by omega, hc, by unfold gA; rw [if_pos hc]⟩
  · obtain ⟨b, o, e, _⟩ := page_of hp hc
    have hk := pl_page hP hi
    rw [pageCp_some hc e] at hk
    refine .inl ?_
    unfold gA
    rw [if_neg hc, e]
    have hb : W.heap.size + k0 + 1 + i = W.heap.size + (k0 + 1 + i) := by omega
    refine ⟨⟨k0 + 1 + i, _, hk, hb, rfl⟩, rfl, rfl, ?_⟩
    show fns.lo (W.heap.size + k0 + 1 + i) ≤ o
    rw [hb, hlo, ghLo_at W C hk]
    exact Nat.le_refl _
/-- The pages' row is alike. -/
theorem vr_pages (hlo : fns.lo = ghLo W C) (hP : PlA C (pgsCp W (W.heap.size + k0) pa cap A l c) k0) (h : PsIn W pa cap A l c) (hle : len ≤ cap) : VR fns (ghE W C) (.slice (gpa (W.heap.size + k0) pa cap) len cap) (.slice pa len cap) := by
  refine vr_slice.2 ⟨_, rfl, ?_⟩
  by_cases hc : cap = 0
  · exact .inr ⟨by omega, hc, by unfold gpa; rw [if_pos hc]⟩
  · obtain ⟨b, o, e, _⟩ := row_of h hc
    have hk := pl_row hP
    rw [rowCp_some hc e] at hk
    refine .inl ?_
    unfold gpa
    rw [if_neg hc, e]
    refine ⟨⟨k0, _, hk, rfl, rfl⟩, rfl, rfl, ?_⟩
    show fns.lo (W.heap.size + k0) ≤ o
    rw [hlo, ghLo_at W C hk]
    exact Nat.le_refl _
/-- Each copy is what it must be. -/
theorem cps_ok (hlo : fns.lo = ghLo W C) (hP : PlA C (pgsCp W (W.heap.size + k0) pa cap A l c) k0) (h : PsIn W pa cap A l c) (hG : ∀ b o v, W.cell? ⟨b, o, none⟩ = some v → ((∃ a l c, v = .slice a l c) ∨ ∃ z, v = .int .u8 z) → G < b) {d : Cp} (hd : d ∈ pgsCp W (W.heap.size + k0) pa cap A l c) : CpOk W C fns G d := by
  intro b hb
  rcases List.mem_cons.1 hd with rfl | hd
  · by_cases hc : cap = 0
    · unfold rowCp at hb
      rw [if_pos hc] at hb
      cases hb
    · obtain ⟨b', o, e, ⟨fr, hh⟩, hsz, hall⟩ := row_of h hc
      have er := rowCp_some (W := W) (A := A) (l := l) (c := c) hc e (W.heap.size + k0)
      rw [er] at hb ⊢
      simp only [Option.some.injEq] at hb
      subst hb
      refine ⟨?_, clA W b', fr, hh, by simpa using hsz, fun i h1 h2 hlo' => ?_⟩
      · obtain ⟨b2, o2, e2, h0⟩ := h.cell 0 (by omega)
        rw [e] at e2
        cases e2
        exact hG _ _ _ h0 (.inl ⟨_, _, _, rfl⟩)
      · simp only [Array.size_ofFn] at h1
        simp only [Array.getElem_ofFn] at hlo' ⊢
        rw [if_neg (by omega)]
        have hi := hall (i - o) (by omega)
        rw [show o + (i - o) = i by omega, Array.getElem?_eq_getElem h2] at hi
        rw [Option.some.inj hi]
        exact vr_page hlo hP h (by omega)
  · obtain ⟨i, hi, rfl⟩ := List.mem_map.1 hd
    have hi' := List.mem_range.1 hi
    by_cases hc : c i = 0
    · unfold pageCp at hb
      rw [if_pos hc] at hb
      cases hb
    · obtain ⟨b', o, e, ⟨fr, hh⟩, hsz, hall⟩ := page_of (h.page i hi') hc
      have er := pageCp_some (W := W) (A := A) (c := c) hc e
      rw [er] at hb ⊢
      simp only [Option.some.injEq] at hb
      subst hb
      refine ⟨?_, clA W b', fr, hh, by simp; omega, fun j h1 h2 hlo' => ?_⟩
      · obtain ⟨z, h0, _⟩ := hall 0 (by omega)
        exact hG _ _ _ h0 (.inr ⟨z, rfl⟩)
      · have hlo2 : o ≤ j := hlo'
        simp only [Array.size_extract] at h1
        simp only [Array.getElem_extract, Nat.zero_add]
        obtain ⟨z, _, hz, _⟩ := hall (j - o) (by omega)
        rw [show o + (j - o) = j by omega, Array.getElem?_eq_getElem h2] at hz
        rw [Option.some.inj hz]
        exact vr_scalar rfl
/-- On the ghost's side they are pages. -/
theorem met_pages (hP : PlA C (pgsCp W (W.heap.size + k0) pa cap A l c) k0) (h : PsIn W pa cap A l c) (hle : len ≤ cap) : Met (ghW W C) (gpa (W.heap.size + k0) pa cap) len := by
  intro i hi
  have hc : cap ≠ 0 := by omega
  obtain ⟨b, o, e, _, _, _⟩ := row_of h hc
  have hk := pl_row hP
  rw [rowCp_some hc e] at hk
  have hp := h.page i (by omega)
  refine ⟨⟨W.heap.size + k0, o, none⟩, gA (W.heap.size + k0) A c i, l i, c i, by unfold gpa; rw [if_neg hc, e]; rfl, ?_, ⟨hp.le, by have := hp.le; have := hp.most; omega, fun j hj => ?_⟩⟩
  · rw [add_none rfl]
    unfold World.cell?
    simp only [ghW_at W C hk, Cp.obj]
    simp only [Option.isSome_none, Bool.false_eq_true, if_false]
    rw [Array.getElem?_eq_getElem (by simp; omega)]
    simp only [Array.getElem_ofFn]
    rw [if_neg (by omega), show o + i - o = i by omega]
  · have hle2 := hp.le
    have hci : c i ≠ 0 := by omega
    obtain ⟨b', o', e', _, hsz, hall⟩ := page_of hp hci
    obtain ⟨z, _, hz, h0, h1⟩ := hall j (by omega)
    have hk2 := pl_page hP (i := i) (by omega)
    rw [pageCp_some hci e'] at hk2
    refine ⟨⟨W.heap.size + k0 + 1 + i, o', none⟩, z, by unfold gA; rw [if_neg hci, e']; rfl, ?_, h0, h1⟩
    rw [add_none rfl]
    unfold World.cell?
    rw [show W.heap.size + k0 + 1 + i = W.heap.size + (k0 + 1 + i) by omega]
    simp only [ghW_at W C hk2, Cp.obj]
    simp only [Option.isSome_none, Bool.false_eq_true, if_false]
    rw [Array.getElem?_extract, if_pos (by omega), Nat.zero_add]
    exact hz
end
end Go.Proofs.YtobpjijdebnaoaaDoor
namespace Go.Proofs.YtobpjijdebnaoaaDoor
open Go Go.Conc Go.ChangeShapes Go.WideShapes Go.ChangeAt Go.RowKit
section
variable {H : Type} {enc : TypeId × Value → H}
/-- As the library's, with the world's shape handed on. -/
theorem leaving_shaped {a : Assume} {C : Checked} {os : Os} {f : FuncId} {fn : Func} {s : ChangeSpec} {conds : List PathCond} {apart fresh handsOn again : Bool}
    (own : ownKnob C.prog.godebug = none) (started : os.Started) (hfn : C.prog.funcs[f]? = some fn)
    (witness : ∃ (w : World) (tape : Tape) (i : Input), w.os = os ∧ (w.forCall tape i).Shaped C.prog ∧ i.vars = [] ∧ Input.okWide C.prog (w.forCall tape i) .any w.heap.size f i ∧
      s.pre6 enc C.prog fn conds apart (w.forCall tape i).memory i.args ∧ a.holds C.prog (lone (Frame.enter C.prog f i.args .normal) [] (w.forCall tape i)))
    (runs : ∀ (W : World) (base : Nat) (args : Array Value) (ds gs : List (DataW H)) (before : List MemPlace), W.ShapedOpen C.prog →
      (∀ (j : Nat) t v, fn.params[j]? = some t → args[j]? = some v → Value.okWide C.prog W .any base t v) →
      DataW.Whole enc C.prog fn.params.toList s.vars apart W args.toList ds gs before →
      ∃ M last o w' t', runNT C.prog (M + 1) (solo (G (Frame.enter C.prog f args .normal) []) W) #[] = (.ended o w', t') ∧ runN C.prog M (solo (G (Frame.enter C.prog f args .normal) []) W) = .next last ∧
        step C.prog last = .ended o w' ∧ Conc.Good C.prog (fun v W' => s.post enc C.prog fn apart fresh handsOn again W args v W') last o w' t') :
    ReturnsInLeavingWide a C os f .any (s.pre6 enc C.prog fn conds apart) (s.post enc C.prog fn apart fresh handsOn again) := by
  refine returnsInLeavingWide_of_good own started witness ?_
  intro w tape i _ hsh _ hok hpre _
  obtain ⟨_, _, _, fn', hfn', _, _, _, _, hval⟩ := hok
  obtain rfl : fn' = fn := Option.some.inj (hfn'.symm.trans hfn)
  obtain ⟨⟨ds, gs, before, hw, _⟩, _⟩ := hpre
  have hw' := DataW.Whole.of_heap (w' := w.forCall tape i) (by rfl) hw
  obtain ⟨M, last, o, w', t', h1, h2, h3, h4⟩ := runs (w.forCall tape i) w.heap.size i.args ds gs before hsh hval hw'
  exact ⟨M, last, o, w', t', h1, h2, h3, h4.mono fun v hp => ChangeSpec.post_blind hp⟩
end
/-! ### the program's own blocks -/
/-! ### pages that came in -/
theorem cells1p : Tryd.prog.cellsOf 22 = 1 := by kernel_rfl
theorem cells1b : Tryd.prog.cellsOf 5 = 1 := by kernel_rfl
section
variable {H : Type} {enc : TypeId × Value → H} {W : World}
theorem page_in {fuel : Nat} {v : Value} {x : DataW H × List MemPlace} (h : DataW.trod enc Tryd.prog W 0 (fun _ => true) true fuel 22 [v] = some x) : ∃ A l c, v = .slice A l c ∧ PIn W A l c := by
  rcases open_ints Tryd.underlying22 Tryd.underlying5 cells1b h with ⟨hcs, _⟩ | ⟨x', len, cap, zs, hcs, _, hl, hm, hz, _, hcell, hwz⟩
  · simp at hcs
    exact ⟨none, 0, 0, hcs, ⟨Nat.le_refl _, by omega, fun j hj => by omega⟩⟩
  · simp at hcs
    have hzl : zs.length = cap := by simpa using hz
    refine ⟨some x', len, cap, hcs, ⟨hl, by unfold maxLen at hm; omega, fun j hj => ?_⟩⟩
    obtain ⟨b, off, rfl, hc⟩ := ints_at hcell (by omega)
    have hb := bounds_u8 (hwz (zs.getD j 0) (by
      rw [List.getD_eq_getElem?_getD, List.getElem?_eq_getElem (by omega : j < zs.length)]; exact List.getElem_mem _))
    exact ⟨b, off, zs.getD j 0, rfl, hc j (by omega), hb.1, by omega⟩
theorem pages_in {v : Value} {d : DataW H} {p : List MemPlace} (h : DataW.Trod enc Tryd.prog W 0 (fun _ => true) true 42 v d p) (hv : ∃ a len cap, v = .slice a len cap) :
    ∃ (pa : Option Addr) (len cap : Nat) (A : Nat → Option Addr) (l c : Nat → Nat), v = .slice pa len cap ∧ len ≤ cap ∧ PsIn W pa cap A l c := by
  obtain ⟨a0, l0, c0, rfl⟩ := hv
  obtain ⟨fuel, hf⟩ := h
  rcases Go.Deep.open_slice1 Tryd.underlying42 cells1p hf with ⟨hcs, _⟩ | ⟨a, len, cap, m, n, V, D, Pl, hcs, _, hl, hm, hmm, _, hel⟩
  · simp [Value.cells] at hcs
    obtain ⟨rfl, rfl, rfl⟩ := hcs
    exact ⟨none, 0, 0, fun _ => none, fun _ => 0, fun _ => 0, rfl, Nat.le_refl _, ⟨fun i hi => by omega, fun i hi => by omega⟩⟩
  · simp [Value.cells] at hcs
    obtain ⟨rfl, rfl, rfl⟩ := hcs
    have hmc : m = c0 := by simpa using hmm
    subst hmc
    have hx : ∀ i : Nat, ∃ t : Option Addr × Nat × Nat, i < m → W.cell? (a.add i) = some (.slice t.1 t.2.1 t.2.2) ∧ PIn W t.1 t.2.1 t.2.2 := fun i => by
      by_cases hi : i < m
      · obtain ⟨h1, h2⟩ := hel i hi
        obtain ⟨A, l, c, e, hp⟩ := page_in h2
        exact ⟨(A, l, c), fun _ => ⟨by rw [h1, e], hp⟩⟩
      · exact ⟨(none, 0, 0), fun x => absurd x hi⟩
    obtain ⟨f, hf2⟩ := Classical.axiomOfChoice hx
    refine ⟨some a, _, m, fun i => (f i).1, fun i => (f i).2.1, fun i => (f i).2.2, rfl, hl, ⟨fun i hi => ?_, fun i hi => (hf2 i hi).2⟩⟩
    have h1 := (hf2 i hi).1
    have h0 := (hf2 0 (by omega)).1
    have hsp : a.spot = none := cell_spot (by simpa [Addr.add] using h0)
    rw [add_none hsp] at h1
    exact ⟨a.block, a.off, by cases a; simp only at hsp; subst hsp; rfl, h1⟩
end
theorem pgs_on {w : World} {pa : Option Addr} {L : List YtobpjijdebnaoaaDoorQ.Pg} (h : YtobpjijdebnaoaaDoorQ.Pgs w pa L) (t : Nat → Question → Nat) (d : Nat) : YtobpjijdebnaoaaDoorQ.Pgs (wOn w t d) pa L := by
  rcases h with e | ⟨b, off, e, hat⟩
  · exact .inl e
  · exact .inr ⟨b, off, e, fun i hi => ⟨(hat i hi).1, ⟨(hat i hi).2.all, (hat i hi).2.lies, (hat i hi).2.cap, (hat i hi).2.most⟩⟩⟩
theorem below_of {W w : World} (h : W.heap.size ≤ w.heap.size ∧ (∀ b, b < W.heap.size → w.heap[b]? = W.heap[b]?) ∧ w.tape = W.tape ∧ w.os = W.os ∧ w.output = W.output) : Below W.heap.size W w := ⟨h.2.2.2.1, h.2.2.1, h.2.2.2.2, h.1, h.2.1⟩
/-- A block that no copy stands for. -/
theorem k0_start {W : World} {C : List Cp} {v0 : Nat} (hv : v0 < W.heap.size) (hC : ∀ (k : Nat) (c : Cp), C[k]? = some c → c.real ≠ some v0) : K0 v0 W.heap[v0]? (ghE W C) (fun _ => False) W :=
  ⟨fun a x => by obtain ⟨k, c, h1, _, h3⟩ := x; exact hC k c h1 h3, fun h => h, hv, rfl⟩
end Go.Proofs.YtobpjijdebnaoaaDoor
namespace Go.Proofs.YtobpjijdebnaoaaDoor
open Go Go.Conc
/-- A block that nobody may write. -/
def frz : Obj → Obj
  | .cells c e _ => .cells c e (0, c.size)
  | o => o
section
variable (W : World) (C : List Cp) (Gs : List Nat)
def ghWG : World := { W with heap := (W.heap.mapIdx fun i o => if Gs.contains i then frz o else o) ++ (C.map Cp.obj).toArray }
def ghEG (a b : Nat) : Prop := ghE W C a b ∨ (a = b ∧ a ∈ Gs)
def ghZG (a : Nat) : Prop := ghZ W C a ∨ a ∈ Gs
theorem ghEG_z {a b : Nat} (h : ghEG W C Gs a b) : ghZG W C Gs a := h.elim (fun x => .inl (ghE_z W C x)) (fun x => .inr x.2)
theorem ghWG_size : (ghWG W C Gs).heap.size = W.heap.size + C.length := by simp [ghWG]
theorem ghWG_at {k : Nat} {c : Cp} (h : C[k]? = some c) : (ghWG W C Gs).heap[W.heap.size + k]? = some c.obj := by
  unfold ghWG
  simp only []
  rw [Array.getElem?_append_right (by simp), show W.heap.size + k - (W.heap.mapIdx fun i o => if Gs.contains i then frz o else o).size = k by simp]
  simp [h]
theorem ghWG_var {g : Nat} {o : Obj} (hg : g ∈ Gs) (h : W.heap[g]? = some o) : (ghWG W C Gs).heap[g]? = some (frz o) := by
  have hlt := (Array.getElem?_eq_some_iff.1 h).1
  unfold ghWG
  simp only []
  rw [Array.getElem?_append_left (by simpa using hlt), Array.getElem?_mapIdx, h]
  simp [hg]
/-- What each variable must be. -/
def GvOk (fns : Fx) (G : Nat) (g : Nat) : Prop := g ≤ G ∧ ∃ c e fr, W.heap[g]? = some (.cells c e fr) ∧ ∀ i (h : i < c.size), VR fns (ghEG W C Gs) c[i] c[i]
theorem gh_wrG {P : Program} {fns : Fx} (hlo : fns.lo = ghLo W C) (hpt : fns.pt = ghPt W C) (hg : P.globals.size < W.heap.size) (hC : ∀ (k : Nat) (c : Cp), C[k]? = some c → CpOk W C fns P.globals.size c) (hG : ∀ g, g ∈ Gs → GvOk W C Gs fns P.globals.size g) : WR P fns (ghEG W C Gs) (ghZG W C Gs) (ghWG W C Gs) W := by
  have hsm : ∀ g, g ∈ Gs → g < W.heap.size := fun g h => Nat.lt_of_le_of_lt (hG g h).1 hg
  refine ⟨fun a h => ?_, fun a h => ?_, ?_, hg, fun a b x y => ?_, fun a b a' b' x y => ⟨fun e => ?_, fun e hp => ?_⟩, fun a b x => ?_⟩
  · rw [ghWG_size]
    rcases h with h | h
    · exact h.2
    · have := hsm a h; omega
  · rw [hpt]
    refine decide_eq_true ?_
    by_cases h1 : a < W.heap.size
    · exact .inl h1
    · refine .inr ?_
      by_cases h2 : a < W.heap.size + C.length
      · exact (h (.inl ⟨by omega, h2⟩)).elim
      · omega
  · rw [ghWG_size]; omega
  · rcases x with ⟨k, c, h1, rfl, h3⟩ | x
    · have := (hC k c h1 b h3).1
      omega
    · exact x.1
  · rcases x with ⟨k, c, h1, rfl, h3⟩ | ⟨x1, x2⟩
    · rcases y with ⟨k', c', h1', e', h3'⟩ | ⟨y1, y2⟩
      · obtain rfl : k = k' := by omega
        rw [h1] at h1'
        obtain rfl := Option.some.inj h1'
        rw [h3] at h3'
        exact Option.some.inj h3'
      · have := hsm _ y2; omega
    · rcases y with ⟨k', c', h1', e', h3'⟩ | ⟨y1, y2⟩
      · have := hsm _ x2; omega
      · omega
  · rcases x with x | ⟨x1, x2⟩
    · rw [hpt] at hp
      have hz := ghE_z W C x
      have := of_decide_eq_true hp
      have h1 := hz.1
      have h2 := hz.2
      omega
    · rcases y with ⟨k', c', h1', e', h3'⟩ | ⟨y1, y2⟩
      · have h1 := (hC k' c' h1' b' h3').1
        have h2 := (hG _ x2).1
        omega
      · omega
  · have hz := ghEG_z W C Gs x
    rcases x with ⟨k, c, h1, rfl, h3⟩ | ⟨rfl, x2⟩
    · obtain ⟨_, c', fr', h4, h5, h6⟩ := hC k c h1 b h3
      refine .inl ⟨c.cells, c', c.elem, (0, c.cells.size), fr', ghWG_at W C Gs h1, h4, ⟨h5, fun hn => (hn hz).elim, fun i h h' hl => (h6 i h h' ?_).up fun _ _ x => .inl x⟩, fun hn => (hn hz).elim, fun _ i hi => ⟨Nat.zero_le _, hi⟩⟩
      rw [hlo, ghLo_at W C h1] at hl
      exact hl
    · obtain ⟨_, c, e, fr, h4, h5⟩ := hG a x2
      exact .inl ⟨c, c, e, (0, c.size), fr, ghWG_var W C Gs x2 h4, h4, ⟨Nat.le_refl _, fun hn => (hn hz).elim, fun i h _ _ => h5 i h⟩, fun hn => (hn hz).elim, fun _ i hi => ⟨Nat.zero_le _, hi⟩⟩
end
end Go.Proofs.YtobpjijdebnaoaaDoor
