/- Part of the proof. -/
import Derived.Test.YtobpjijdebnaoaaDoorTw3
namespace Go.Proofs.YtobpjijdebnaoaaDoor
open Go Go.Conc
abbrev scanL : List FuncId := [11, 5, 7, 25, 26, 27, 28, 29, 30, 31, 24, 12, 13, 14, 15, 43, 44, 45, 32, 9, 66, 67, 68, 69, 70, 71, 72, 73, 74, 75, 21, 22, 23, 82, 83, 84, 85, 86, 36, 37, 87]
abbrev scanT : List TypeId := [130, 3, 47, 24, 44, 66, 5, 22, 25]
abbrev scanJ : List FuncId := [25]
def scanFx (R : Array Func) (lo : Nat → Nat) (pt : Nat → Bool) (pl : ∀ a, pt a = true → lo a = 0) : Fx := ⟨fun f => scanL.contains f, lo, fun t => scanT.contains t, R, fun f => scanJ.contains f, false, fun _ => false, pt, pl, fun h => by cases h⟩
section
variable (R : Array Func) (lo : Nat → Nat) (pt : Nat → Bool) (pl : ∀ a, pt a = true → lo a = 0)
theorem scan_tys (t : TypeId) (h : (scanFx R lo pt pl).tys t = true) : t ∈ scanT := by simpa [scanFx] using h
theorem scan_ok (f : FuncId) (h : (scanFx R lo pt pl).ok f = true) : f ∈ scanL := by simpa [scanFx] using h
theorem scan_zeros : zeros (YtobpjijdebnaoaaDoorQ.Al.progOf Tryd.prog) (scanFx R lo pt pl) := zeros_of (l := scanT) (scan_tys R lo pt pl) (by kernel_rfl)
theorem funcs_else (P : Program) (f : FuncId) (h : f ≠ 25) : P.funcs[f]? = (YtobpjijdebnaoaaDoorQ.Al.progOf P).funcs[f]? := by
  unfold YtobpjijdebnaoaaDoorQ.Al.progOf YtobpjijdebnaoaaDoorQ.Al.funcsOf
  simp only []
  rw [Array.getElem?_setIfInBounds_ne h.symm]
theorem scan_j (f : FuncId) (h : (scanFx R lo pt pl).jf f = false) : f ≠ 25 := by simpa [scanFx] using h
theorem own_re (P : Program) (fns : Fx) : (fns.own P).re P = P := rfl
theorem own_rf (P : Program) (fns : Fx) (f : FuncId) : (fns.own P).rf[f]? = P.funcs[f]? := rfl
end
section
variable (lo : Nat → Nat) (pt : Nat → Bool) (pl : ∀ a, pt a = true → lo a = 0)
theorem scan_prog : okProg (YtobpjijdebnaoaaDoorQ.Al.progOf Tryd.prog) (scanFx Tryd.prog.funcs lo pt pl) := okProg_of (l := scanL) (scan_ok _ lo pt pl) (by kernel_rfl) (fun f _ hj => funcs_else Tryd.prog f (scan_j _ lo pt pl f hj))
theorem scan_own : okOne (YtobpjijdebnaoaaDoorQ.Al.progOf Tryd.prog) ((scanFx Tryd.prog.funcs lo pt pl).own (YtobpjijdebnaoaaDoorQ.Al.progOf Tryd.prog)) := ⟨okProg_of (l := scanL) (scan_ok Tryd.prog.funcs lo pt pl) (by kernel_rfl) (fun f _ _ => own_rf _ _ f), own_re _ _, fun _ => rfl⟩
theorem scan_zeros' : zeros (YtobpjijdebnaoaaDoorQ.Al.progOf Tryd.prog) ((scanFx Tryd.prog.funcs lo pt pl).own (YtobpjijdebnaoaaDoorQ.Al.progOf Tryd.prog)) := zeros_of (l := scanT) (scan_tys Tryd.prog.funcs lo pt pl) (by kernel_rfl)
theorem scan_re : (scanFx Tryd.prog.funcs lo pt pl).re (YtobpjijdebnaoaaDoorQ.Al.progOf Tryd.prog) = Tryd.prog := rfl
theorem scan_look (Z : Nat → Prop) (v0 : Nat) (o0 : Option Obj) : JC (YtobpjijdebnaoaaDoorQ.Al.progOf Tryd.prog) (scanFx Tryd.prog.funcs lo pt pl) Z v0 o0 25 := look_jc v0 o0 rfl (scan_re lo pt pl) (scan_zeros' lo pt pl) (scan_own lo pt pl) rfl
end
end Go.Proofs.YtobpjijdebnaoaaDoor
