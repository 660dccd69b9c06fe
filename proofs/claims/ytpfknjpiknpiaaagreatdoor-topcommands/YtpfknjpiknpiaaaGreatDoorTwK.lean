/- Part of the proof. -/
import Derived.Test.YtpfknjpiknpiaaaGreatDoorTw3
namespace Go.Proofs.YtpfknjpiknpiaaaGreatDoor
open Go Go.Conc
section
variable (R : Array Func) (lo : Nat → Nat) (pt : Nat → Bool) (pl : ∀ a, pt a = true → lo a = 0)
theorem funcs_else (P : Program) (f : FuncId) (h : f ≠ 29) : P.funcs[f]? = (YtpfknjpiknpiaaaGreatDoorQ.Al.progOf P).funcs[f]? := by
  unfold YtpfknjpiknpiaaaGreatDoorQ.Al.progOf YtpfknjpiknpiaaaGreatDoorQ.Al.funcsOf
  simp only []
  rw [Array.getElem?_setIfInBounds_ne h.symm]
theorem own_re (P : Program) (fns : Fx) : (fns.own P).re P = P := rfl
theorem own_rf (P : Program) (fns : Fx) (f : FuncId) : (fns.own P).rf[f]? = P.funcs[f]? := rfl
end
section
variable (lo : Nat → Nat) (pt : Nat → Bool) (pl : ∀ a, pt a = true → lo a = 0)
end
end Go.Proofs.YtpfknjpiknpiaaaGreatDoor
