/-
  A call of a Go function by its contract, as one step of a region that draws its order.
-/
import Derived.Test.YtohngekkbgklfaaSearch
namespace Go.Proofs.Ytohngekkbgklfaa
open Go.RowKit
set_option linter.unusedVariables false

theorem step_call {ops : Array Oper} {o : Oper} {a : Act} {W : World} {K : Act → World → Prop} {Q : Exit → Act → World → Prop} {E : Prop} (hgd : o.guard = none) (F : FuncId) (fn : Func) (hfn : Try.prog.funcs[F]? = some fn) (hnm : (fn.name == "runtime.NumGoroutine") = false) (hbd : fn.body.isNone = false) (xs : Array Operand) (ats : Array TypeId)
    (ho : o.op = .call { callee := .value (.func F), args := xs, argTypes := ats }) (args : Array Value) (hargs : xs.map a.eval = args) (v : Value) (R : World → Prop) (H : Calls Try.prog F args W fun e w' => e = .returned v ∧ R w') (h : ∀ w', R w' → K (a.put o.dst v) w') :
    if Region.wanted o (yielded ops a.tmps) = true then Oper.wp Try.prog o a W K Q else E := by
  have hw : Region.wanted o (yielded ops a.tmps) = true := by simp [Region.wanted, hgd]
  rw [if_pos hw]
  subst hargs
  unfold Oper.wp
  have e : ((execOp a.eval o).run Try.prog W) = .ok (.enter F (xs.map a.eval)) W := by
    have hn : ¬ fn.name = "runtime.NumGoroutine" := by simpa using hnm
    have hb : ¬ fn.body = none := fun e => by rw [e] at hbd; cases hbd
    simp [execOp, ho, resolve, invoke, Act.eval, Deferred.ofValue, callFunc, hfn, hn, hb]
  rw [e, Oper.upon_enter]
  exact H.mono (fun e w' ⟨he, hr⟩ => by subst he; exact h w' hr)
end Go.Proofs.Ytohngekkbgklfaa
