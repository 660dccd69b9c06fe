/-
  The functions that the laws of chapter 10 reach: gone through step by step, but for scan.look.
-/
import Derived.Test.YtgeigfgmokikcagTw3
namespace Go.Proofs.Ytgeigfgmokikcag
open Go Go.Conc

abbrev scanL : List FuncId := [5, 6, 13, 15, 14, 12, 10, 16, 23, 24, 25, 26, 27, 28, 29, 19, 20, 21, 22, 38, 39, 40, 32, 56, 62, 63, 64, 65, 66, 67, 68, 69, 70, 71, 85, 86, 87, 89, 90, 91, 92, 93, 97, 98, 99]
abbrev scanT : List TypeId := [140, 3, 43, 48, 66, 5, 39, 23]
abbrev scanJ : List FuncId := [23]
def scanFx (R : Array Func) (lo : Nat → Nat) (pt : Nat → Bool) (pl : ∀ a, pt a = true → lo a = 0) : Fx := ⟨fun f => scanL.contains f, lo, fun t => scanT.contains t, R, fun f => scanJ.contains f, false, fun _ => false, pt, pl, fun h => by cases h⟩
section
variable (R : Array Func) (lo : Nat → Nat) (pt : Nat → Bool) (pl : ∀ a, pt a = true → lo a = 0)
theorem scan_tys (t : TypeId) (h : (scanFx R lo pt pl).tys t = true) : t ∈ scanT := by simpa [scanFx] using h
theorem scan_ok (f : FuncId) (h : (scanFx R lo pt pl).ok f = true) : f ∈ scanL := by simpa [scanFx] using h
theorem scan_zeros : zeros (YtgeigfgmokikcagQ.Al.progOf Try.prog) (scanFx R lo pt pl) := zeros_of (l := scanT) (scan_tys R lo pt pl) (by kernel_rfl)
theorem funcs_else (P : Program) (f : FuncId) (h : f ≠ 23) : P.funcs[f]? = (YtgeigfgmokikcagQ.Al.progOf P).funcs[f]? := by
  unfold YtgeigfgmokikcagQ.Al.progOf YtgeigfgmokikcagQ.Al.funcsOf
  simp only []
  rw [Array.getElem?_setIfInBounds_ne h.symm]
theorem scan_j (f : FuncId) (h : (scanFx R lo pt pl).jf f = false) : f ≠ 23 := by simpa [scanFx] using h
theorem own_re (P : Program) (fns : Fx) : (fns.own P).re P = P := rfl
theorem own_rf (P : Program) (fns : Fx) (f : FuncId) : (fns.own P).rf[f]? = P.funcs[f]? := rfl
end
section
variable (lo : Nat → Nat) (pt : Nat → Bool) (pl : ∀ a, pt a = true → lo a = 0)
theorem scan_prog : okProg (YtgeigfgmokikcagQ.Al.progOf Try.prog) (scanFx Try.prog.funcs lo pt pl) := okProg_of (l := scanL) (scan_ok _ lo pt pl) (by kernel_rfl) (fun f _ hj => funcs_else Try.prog f (scan_j _ lo pt pl f hj))
theorem scan_own : okOne (YtgeigfgmokikcagQ.Al.progOf Try.prog) ((scanFx Try.prog.funcs lo pt pl).own (YtgeigfgmokikcagQ.Al.progOf Try.prog)) := ⟨okProg_of (l := scanL) (scan_ok Try.prog.funcs lo pt pl) (by kernel_rfl) (fun f _ _ => own_rf _ _ f), own_re _ _, fun _ => rfl⟩
theorem scan_zeros' : zeros (YtgeigfgmokikcagQ.Al.progOf Try.prog) ((scanFx Try.prog.funcs lo pt pl).own (YtgeigfgmokikcagQ.Al.progOf Try.prog)) := zeros_of (l := scanT) (scan_tys Try.prog.funcs lo pt pl) (by kernel_rfl)
theorem scan_re : (scanFx Try.prog.funcs lo pt pl).re (YtgeigfgmokikcagQ.Al.progOf Try.prog) = Try.prog := rfl
theorem scan_look (Z : Nat → Prop) : JC (YtgeigfgmokikcagQ.Al.progOf Try.prog) (scanFx Try.prog.funcs lo pt pl) Z 23 := look_jc rfl (scan_re lo pt pl) (scan_zeros' lo pt pl) (scan_own lo pt pl) rfl
end
end Go.Proofs.Ytgeigfgmokikcag
