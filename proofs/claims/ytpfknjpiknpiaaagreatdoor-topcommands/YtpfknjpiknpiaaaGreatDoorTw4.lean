/- Part of the proof. -/
import Derived.Test.YtpfknjpiknpiaaaGreatDoorTw2
import Derived.Test.YtpfknjpiknpiaaaGreatDoorTwK
import Derived.Conc.LeavingOf
import Derived.ProofKit
import Derived.OpenShut
import Derived.SizedLaws
import Derived.Deep.Slices
namespace Go.Proofs.YtpfknjpiknpiaaaGreatDoor
open Go Go.Conc
structure Cp where
  cells : Array Value
  elem : TypeId
  lo : Nat
  real : Option Nat
def Cp.obj (c : Cp) : Obj := .cells c.cells c.elem (0, c.cells.size)
abbrev cp0 : Cp := ⟨#[], 0, 0, none⟩
section
variable (W : World) (C : List Cp)
def ghE (a b : Nat) : Prop := ∃ k c, C[k]? = some c ∧ a = W.heap.size + k ∧ c.real = some b
def ghZ (a : Nat) : Prop := W.heap.size ≤ a ∧ a < W.heap.size + C.length
def ghLo (a : Nat) : Nat := if a < W.heap.size then 0 else ((C[a - W.heap.size]?).map (·.lo)).getD 0
def ghPt (a : Nat) : Bool := decide (a < W.heap.size ∨ W.heap.size + C.length ≤ a)
theorem ghPl (a : Nat) (h : ghPt W C a = true) : ghLo W C a = 0 := by
  have h' := of_decide_eq_true h
  unfold ghLo
  split
  · rfl
  · rw [List.getElem?_eq_none (by omega)]
    rfl
theorem ghE_z {a b : Nat} (h : ghE W C a b) : ghZ W C a := by
  obtain ⟨k, c, h1, rfl, _⟩ := h
  have := (List.getElem?_eq_some_iff.1 h1).1
  exact ⟨by omega, by omega⟩
theorem ghLo_at {k : Nat} {c : Cp} (h : C[k]? = some c) : ghLo W C (W.heap.size + k) = c.lo := by
  unfold ghLo
  rw [if_neg (by omega), show W.heap.size + k - W.heap.size = k by omega, h]
  rfl
def CpOk (fns : Fx) (G : Nat) (c : Cp) : Prop :=
  ∀ b, c.real = some b → G < b ∧ ∃ c' fr', W.heap[b]? = some (.cells c' c.elem fr') ∧ c.cells.size ≤ c'.size ∧ ∀ i (h : i < c.cells.size) (h' : i < c'.size), c.lo ≤ i → VR fns (ghE W C) c.cells[i] c'[i]
end
/-! ### pages -/
def elA (W : World) (b : Nat) : TypeId := match W.heap[b]? with
  | some (.cells _ el _) => el
  | _ => 0
def clA (W : World) (b : Nat) : Array Value := match W.heap[b]? with
  | some (.cells c _ _) => c
  | _ => #[]
theorem cell_row {W : World} {b o : Nat} {v : Value} (h : W.cell? ⟨b, o, none⟩ = some v) : (∃ fr, W.heap[b]? = some (.cells (clA W b) (elA W b) fr)) ∧ (clA W b)[o]? = some v := by
  unfold World.cell? at h
  cases hh : W.heap[b]? with
  | none => simp [hh] at h
  | some ob =>
    cases ob with
    | cells cc el fr =>
      simp [hh] at h
      refine ⟨⟨fr, by simp [clA, elA, hh]⟩, ?_⟩
      simp [clA, hh]
      exact h
    | _ => simp [hh] at h
structure PIn (W : World) (A : Option Addr) (l c : Nat) : Prop where
  le : l ≤ c
  most : c ≤ 9223372036854775807
  byte : ∀ j, j < c → ∃ b o z, A = some ⟨b, o, none⟩ ∧ W.cell? ⟨b, o + j, none⟩ = some (.int .u8 z) ∧ 0 ≤ z ∧ z ≤ 255
structure PsIn (W : World) (pa : Option Addr) (cap : Nat) (A : Nat → Option Addr) (l c : Nat → Nat) : Prop where
  cell : ∀ i, i < cap → ∃ b o, pa = some ⟨b, o, none⟩ ∧ W.cell? ⟨b, o + i, none⟩ = some (.slice (A i) (l i) (c i))
  page : ∀ i, i < cap → PIn W (A i) (l i) (c i)
section
variable (W : World) (n0 : Nat) (pa : Option Addr) (cap : Nat) (A : Nat → Option Addr) (l c : Nat → Nat)
def gA (i : Nat) : Option Addr := if c i = 0 then A i else (A i).map fun x => ⟨n0 + 1 + i, x.off, none⟩
def gpa : Option Addr := if cap = 0 then pa else pa.map fun x => ⟨n0, x.off, none⟩
end
section
variable {W : World} {C : List Cp} {k0 : Nat} {pa : Option Addr} {len cap : Nat} {A : Nat → Option Addr} {l c : Nat → Nat} {fns : Fx} {G : Nat}
end
end Go.Proofs.YtpfknjpiknpiaaaGreatDoor
namespace Go.Proofs.YtpfknjpiknpiaaaGreatDoor
open Go Go.Conc Go.ChangeShapes Go.WideShapes Go.ChangeAt Go.RowKit
section
variable {H : Type} {enc : TypeId × Value → H}
end
/-! ### the program's own blocks -/
/-! ### pages that came in -/
section
variable {H : Type} {enc : TypeId × Value → H} {W : World}
end
theorem below_of {W w : World} (h : W.heap.size ≤ w.heap.size ∧ (∀ b, b < W.heap.size → w.heap[b]? = W.heap[b]?) ∧ w.tape = W.tape ∧ w.os = W.os ∧ w.output = W.output) : Below W.heap.size W w := ⟨h.2.2.2.1, h.2.2.1, h.2.2.2.2, h.1, h.2.1⟩
end Go.Proofs.YtpfknjpiknpiaaaGreatDoor
namespace Go.Proofs.YtpfknjpiknpiaaaGreatDoor
open Go Go.Conc
def frz : Obj → Obj
  | .cells c e _ => .cells c e (0, c.size)
  | o => o
section
variable (W : World) (C : List Cp) (Gs : List Nat)
def ghWG : World := { W with heap := (W.heap.mapIdx fun i o => if Gs.contains i then frz o else o) ++ (C.map Cp.obj).toArray }
def ghEG (a b : Nat) : Prop := ghE W C a b ∨ (a = b ∧ a ∈ Gs)
def ghZG (a : Nat) : Prop := ghZ W C a ∨ a ∈ Gs
theorem ghEG_z {a b : Nat} (h : ghEG W C Gs a b) : ghZG W C Gs a := h.elim (fun x => .inl (ghE_z W C x)) (fun x => .inr x.2)
theorem ghWG_size : (ghWG W C Gs).heap.size = W.heap.size + C.length := by simp [ghWG]
theorem ghWG_at {k : Nat} {c : Cp} (h : C[k]? = some c) : (ghWG W C Gs).heap[W.heap.size + k]? = some c.obj := by
  unfold ghWG
  simp only []
  rw [Array.getElem?_append_right (by simp), show W.heap.size + k - (W.heap.mapIdx fun i o => if Gs.contains i then frz o else o).size = k by simp]
  simp [h]
theorem ghWG_var {g : Nat} {o : Obj} (hg : g ∈ Gs) (h : W.heap[g]? = some o) : (ghWG W C Gs).heap[g]? = some (frz o) := by
  have hlt := (Array.getElem?_eq_some_iff.1 h).1
  unfold ghWG
  simp only []
  rw [Array.getElem?_append_left (by simpa using hlt), Array.getElem?_mapIdx, h]
  simp [hg]
def GvOk (fns : Fx) (G : Nat) (g : Nat) : Prop := g ≤ G ∧ ∃ c e fr, W.heap[g]? = some (.cells c e fr) ∧ ∀ i (h : i < c.size), VR fns (ghEG W C Gs) c[i] c[i]
theorem gh_wrG {P : Program} {fns : Fx} (hlo : fns.lo = ghLo W C) (hpt : fns.pt = ghPt W C) (hg : P.globals.size < W.heap.size) (hC : ∀ (k : Nat) (c : Cp), C[k]? = some c → CpOk W C fns P.globals.size c) (hG : ∀ g, g ∈ Gs → GvOk W C Gs fns P.globals.size g) : WR P fns (ghEG W C Gs) (ghZG W C Gs) (ghWG W C Gs) W := by
  have hsm : ∀ g, g ∈ Gs → g < W.heap.size := fun g h => Nat.lt_of_le_of_lt (hG g h).1 hg
  refine ⟨fun a h => ?_, fun a h => ?_, ?_, hg, fun a b x y => ?_, fun a b a' b' x y => ⟨fun e => ?_, fun e hp => ?_⟩, fun a b x => ?_⟩
  · rw [ghWG_size]
    rcases h with h | h
    · exact h.2
    · have := hsm a h; omega
  · rw [hpt]
    refine decide_eq_true ?_
    by_cases h1 : a < W.heap.size
    · exact .inl h1
    · refine .inr ?_
      by_cases h2 : a < W.heap.size + C.length
      · exact (h (.inl ⟨by omega, h2⟩)).elim
      · omega
  · rw [ghWG_size]; omega
  · rcases x with ⟨k, c, h1, rfl, h3⟩ | x
    · have := (hC k c h1 b h3).1
      omega
    · exact x.1
  · rcases x with ⟨k, c, h1, rfl, h3⟩ | ⟨x1, x2⟩
    · rcases y with ⟨k', c', h1', e', h3'⟩ | ⟨y1, y2⟩
      · obtain rfl : k = k' := by omega
        rw [h1] at h1'
        obtain rfl := Option.some.inj h1'
        rw [h3] at h3'
        exact Option.some.inj h3'
      · have := hsm _ y2; omega
    · rcases y with ⟨k', c', h1', e', h3'⟩ | ⟨y1, y2⟩
      · have := hsm _ x2; omega
      · omega
  · rcases x with x | ⟨x1, x2⟩
    · rw [hpt] at hp
      have hz := ghE_z W C x
      have := of_decide_eq_true hp
      have h1 := hz.1
      have h2 := hz.2
      omega
    · rcases y with ⟨k', c', h1', e', h3'⟩ | ⟨y1, y2⟩
      · have h1 := (hC k' c' h1' b' h3').1
        have h2 := (hG _ x2).1
        omega
      · omega
  · have hz := ghEG_z W C Gs x
    rcases x with ⟨k, c, h1, rfl, h3⟩ | ⟨rfl, x2⟩
    · obtain ⟨_, c', fr', h4, h5, h6⟩ := hC k c h1 b h3
      refine .inl ⟨c.cells, c', c.elem, (0, c.cells.size), fr', ghWG_at W C Gs h1, h4, ⟨h5, fun hn => (hn hz).elim, fun i h h' hl => (h6 i h h' ?_).up fun _ _ x => .inl x⟩, fun hn => (hn hz).elim, fun _ i hi => ⟨Nat.zero_le _, hi⟩⟩
      rw [hlo, ghLo_at W C h1] at hl
      exact hl
    · obtain ⟨_, c, e, fr, h4, h5⟩ := hG a x2
      exact .inl ⟨c, c, e, (0, c.size), fr, ghWG_var W C Gs x2 h4, h4, ⟨Nat.le_refl _, fun hn => (hn hz).elim, fun i h _ _ => h5 i h⟩, fun hn => (hn hz).elim, fun _ i hi => ⟨Nat.zero_le _, hi⟩⟩
end
end Go.Proofs.YtpfknjpiknpiaaaGreatDoor
