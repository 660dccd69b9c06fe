/-
  The functions that the laws of chapter 10 reach: gone through step by step, but for scan.look.
-/
import Derived.Test.YtdkafcgangcgbagGreatDoorTw3
namespace Go.Proofs.YtdkafcgangcgbagGreatDoor
open Go Go.Conc

abbrev scanL : List FuncId := [3, 4, 5, 6, 7, 8, 9, 10, 75, 11, 12, 13, 14, 15, 16, 17, 18, 19, 20, 21, 22, 86, 89, 90, 91, 28, 29, 30, 32, 33, 93, 48, 54, 55, 56, 57, 58, 59, 60, 61, 62, 63, 73, 74, 76, 78, 79, 80, 81, 82, 87, 88, 92]
abbrev scanT : List TypeId := [136, 3, 31, 38, 46, 48, 5, 36, 28]
abbrev scanJ : List FuncId := [11, 18]
def scanFx (R : Array Func) (lo : Nat → Nat) (pt : Nat → Bool) (pl : ∀ a, pt a = true → lo a = 0) : Fx := ⟨fun f => scanL.contains f, lo, fun t => scanT.contains t, R, fun f => scanJ.contains f, false, fun _ => false, pt, pl, fun h => by cases h⟩
section
variable (R : Array Func) (lo : Nat → Nat) (pt : Nat → Bool) (pl : ∀ a, pt a = true → lo a = 0)
theorem scan_tys (t : TypeId) (h : (scanFx R lo pt pl).tys t = true) : t ∈ scanT := by simpa [scanFx] using h
theorem scan_ok (f : FuncId) (h : (scanFx R lo pt pl).ok f = true) : f ∈ scanL := by simpa [scanFx] using h
theorem scan_zeros : zeros (YtdkafcgangcgbagGreatDoorQ.Al.progOf Tryz.prog) (scanFx R lo pt pl) := zeros_of (l := scanT) (scan_tys R lo pt pl) (by kernel_rfl)
theorem funcs_else (P : Program) (f : FuncId) (h : f ≠ 11 ∧ f ≠ 18) : P.funcs[f]? = (YtdkafcgangcgbagGreatDoorQ.Al.progOf P).funcs[f]? := by
  unfold YtdkafcgangcgbagGreatDoorQ.Al.progOf YtdkafcgangcgbagGreatDoorQ.Al.funcsOf
  simp only []
  rw [Array.getElem?_setIfInBounds_ne h.2.symm, Array.getElem?_setIfInBounds_ne h.1.symm]
theorem scan_j (f : FuncId) (h : (scanFx R lo pt pl).jf f = false) : f ≠ 11 ∧ f ≠ 18 := by simpa [scanFx] using h
theorem own_re (P : Program) (fns : Fx) : (fns.own P).re P = P := rfl
theorem own_rf (P : Program) (fns : Fx) (f : FuncId) : (fns.own P).rf[f]? = P.funcs[f]? := rfl
end
section
variable (lo : Nat → Nat) (pt : Nat → Bool) (pl : ∀ a, pt a = true → lo a = 0)
theorem scan_prog : okProg (YtdkafcgangcgbagGreatDoorQ.Al.progOf Tryz.prog) (scanFx Tryz.prog.funcs lo pt pl) := okProg_of (l := scanL) (scan_ok _ lo pt pl) (by kernel_rfl) (fun f _ hj => funcs_else Tryz.prog f (scan_j _ lo pt pl f hj))
theorem scan_own : okOne (YtdkafcgangcgbagGreatDoorQ.Al.progOf Tryz.prog) ((scanFx Tryz.prog.funcs lo pt pl).own (YtdkafcgangcgbagGreatDoorQ.Al.progOf Tryz.prog)) := ⟨okProg_of (l := scanL) (scan_ok Tryz.prog.funcs lo pt pl) (by kernel_rfl) (fun f _ _ => own_rf _ _ f), own_re _ _, fun _ => rfl⟩
theorem scan_zeros' : zeros (YtdkafcgangcgbagGreatDoorQ.Al.progOf Tryz.prog) ((scanFx Tryz.prog.funcs lo pt pl).own (YtdkafcgangcgbagGreatDoorQ.Al.progOf Tryz.prog)) := zeros_of (l := scanT) (scan_tys Tryz.prog.funcs lo pt pl) (by kernel_rfl)
theorem scan_re : (scanFx Tryz.prog.funcs lo pt pl).re (YtdkafcgangcgbagGreatDoorQ.Al.progOf Tryz.prog) = Tryz.prog := rfl
theorem scan_look (Z : Nat → Prop) (v0 : Nat) (o0 : Option Obj) : JC (YtdkafcgangcgbagGreatDoorQ.Al.progOf Tryz.prog) (scanFx Tryz.prog.funcs lo pt pl) Z v0 o0 11 := look_jc v0 o0 rfl (scan_re lo pt pl) (scan_zeros' lo pt pl) (scan_own lo pt pl) rfl
end
end Go.Proofs.YtdkafcgangcgbagGreatDoor
