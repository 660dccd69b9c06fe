/- Part of the proof. -/
import Derived.Test.YtobpjijdebnaoaaDoorTwK
namespace Go.Proofs.YtobpjijdebnaoaaDoor
open Go Go.Conc
abbrev topL : List FuncId := [3, 4, 5, 6, 7, 8, 9, 10, 11, 12, 13, 14, 15, 16, 17, 18, 19, 20, 21, 22, 23, 24, 25, 26, 27, 28, 29, 30, 31, 32, 33, 34, 35, 36, 37, 43, 44, 45, 46, 66, 67, 68, 69, 70, 71, 72, 73, 74, 75, 82, 83, 84, 85, 86, 87]
abbrev topT : List TypeId := [130, 3, 47, 24, 44, 66, 5, 22, 25]
abbrev topJ : List FuncId := [25]
def topFx (R : Array Func) (lo : Nat → Nat) (pt : Nat → Bool) (pl : ∀ a, pt a = true → lo a = 0) : Fx := ⟨fun f => topL.contains f, lo, fun t => topT.contains t, R, fun f => topJ.contains f, false, fun g => g == 0, pt, pl, fun h => by cases h⟩
section
variable (R : Array Func) (lo : Nat → Nat) (pt : Nat → Bool) (pl : ∀ a, pt a = true → lo a = 0)
theorem top_tys (t : TypeId) (h : (topFx R lo pt pl).tys t = true) : t ∈ topT := by simpa [topFx] using h
theorem top_okf (f : FuncId) (h : (topFx R lo pt pl).ok f = true) : f ∈ topL := by simpa [topFx] using h
theorem top_zeros : zeros (YtobpjijdebnaoaaDoorQ.Al.progOf Tryd.prog) (topFx R lo pt pl) := zeros_of (l := topT) (top_tys R lo pt pl) (by kernel_rfl)
theorem top_j (f : FuncId) (h : (topFx R lo pt pl).jf f = false) : f ≠ 25 := by simpa [topFx] using h
end
section
variable (lo : Nat → Nat) (pt : Nat → Bool) (pl : ∀ a, pt a = true → lo a = 0)
theorem top_prog : okProg (YtobpjijdebnaoaaDoorQ.Al.progOf Tryd.prog) (topFx Tryd.prog.funcs lo pt pl) := okProg_of (l := topL) (top_okf _ lo pt pl) (by kernel_rfl) (fun f _ hj => funcs_else Tryd.prog f (top_j _ lo pt pl f hj))
theorem top_own : okOne (YtobpjijdebnaoaaDoorQ.Al.progOf Tryd.prog) ((topFx Tryd.prog.funcs lo pt pl).own (YtobpjijdebnaoaaDoorQ.Al.progOf Tryd.prog)) := ⟨okProg_of (l := topL) (top_okf Tryd.prog.funcs lo pt pl) (by kernel_rfl) (fun f _ _ => own_rf _ _ f), own_re _ _, fun _ => rfl⟩
theorem top_zeros' : zeros (YtobpjijdebnaoaaDoorQ.Al.progOf Tryd.prog) ((topFx Tryd.prog.funcs lo pt pl).own (YtobpjijdebnaoaaDoorQ.Al.progOf Tryd.prog)) := zeros_of (l := topT) (top_tys Tryd.prog.funcs lo pt pl) (by kernel_rfl)
theorem top_re : (topFx Tryd.prog.funcs lo pt pl).re (YtobpjijdebnaoaaDoorQ.Al.progOf Tryd.prog) = Tryd.prog := rfl
theorem top_look (Z : Nat → Prop) (v0 : Nat) (o0 : Option Obj) : JC (YtobpjijdebnaoaaDoorQ.Al.progOf Tryd.prog) (topFx Tryd.prog.funcs lo pt pl) Z v0 o0 25 := look_jc v0 o0 rfl (top_re lo pt pl) (top_zeros' lo pt pl) (top_own lo pt pl) rfl
theorem top_jc (Z : Nat → Prop) (v0 : Nat) (o0 : Option Obj) (f : FuncId) (h : (topFx Tryd.prog.funcs lo pt pl).jf f = true) : JC (YtobpjijdebnaoaaDoorQ.Al.progOf Tryd.prog) (topFx Tryd.prog.funcs lo pt pl) Z v0 o0 f := by
  have hf : f = 25 := by simpa [topFx] using h
  subst hf
  exact top_look lo pt pl Z v0 o0
end
end Go.Proofs.YtobpjijdebnaoaaDoor
