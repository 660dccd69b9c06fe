/- Part of the proof. -/
import Derived.Test.YtpfknjpiknpiaaaGreatDoorTwK
namespace Go.Proofs.YtpfknjpiknpiaaaGreatDoor
open Go Go.Conc
abbrev topL : List FuncId := [3, 4, 5, 6, 7, 8, 9, 10, 11, 12, 13, 14, 15, 16, 17, 18, 19, 20, 21, 22, 23, 24, 25, 26, 27, 28, 29, 30, 31, 32, 33, 34, 35, 36, 37, 38, 39, 40, 41, 42, 43, 44, 45, 46, 47, 53, 54, 55, 56, 57, 58, 59, 60, 61, 76, 82, 83, 84, 85, 86, 87, 88, 89, 90, 91, 92, 93, 99, 100, 101, 103, 104, 105, 106, 107, 108, 109, 110]
abbrev topT : List TypeId := [166, 3, 54, 46, 53, 80, 5, 33, 22, 69, 97, 94, 24, 56, 42]
abbrev topJ : List FuncId := [29]
def topFx (R : Array Func) (lo : Nat → Nat) (pt : Nat → Bool) (pl : ∀ a, pt a = true → lo a = 0) : Fx := ⟨fun f => topL.contains f, lo, fun t => topT.contains t, R, fun f => topJ.contains f, false, fun g => g == 0, pt, pl, fun h => by cases h⟩
section
variable (R : Array Func) (lo : Nat → Nat) (pt : Nat → Bool) (pl : ∀ a, pt a = true → lo a = 0)
theorem top_tys (t : TypeId) (h : (topFx R lo pt pl).tys t = true) : t ∈ topT := by simpa [topFx] using h
theorem top_okf (f : FuncId) (h : (topFx R lo pt pl).ok f = true) : f ∈ topL := by simpa [topFx] using h
theorem top_zeros : zeros (YtpfknjpiknpiaaaGreatDoorQ.Al.progOf Tryz.prog) (topFx R lo pt pl) := zeros_of (l := topT) (top_tys R lo pt pl) (by kernel_rfl)
theorem top_j (f : FuncId) (h : (topFx R lo pt pl).jf f = false) : f ≠ 29 := by simpa [topFx] using h
end
section
variable (lo : Nat → Nat) (pt : Nat → Bool) (pl : ∀ a, pt a = true → lo a = 0)
theorem top_prog : okProg (YtpfknjpiknpiaaaGreatDoorQ.Al.progOf Tryz.prog) (topFx Tryz.prog.funcs lo pt pl) := okProg_of (l := topL) (top_okf _ lo pt pl) (by kernel_rfl) (fun f _ hj => funcs_else Tryz.prog f (top_j _ lo pt pl f hj))
theorem top_own : okOne (YtpfknjpiknpiaaaGreatDoorQ.Al.progOf Tryz.prog) ((topFx Tryz.prog.funcs lo pt pl).own (YtpfknjpiknpiaaaGreatDoorQ.Al.progOf Tryz.prog)) := ⟨okProg_of (l := topL) (top_okf Tryz.prog.funcs lo pt pl) (by kernel_rfl) (fun f _ _ => own_rf _ _ f), own_re _ _, fun _ => rfl⟩
theorem top_zeros' : zeros (YtpfknjpiknpiaaaGreatDoorQ.Al.progOf Tryz.prog) ((topFx Tryz.prog.funcs lo pt pl).own (YtpfknjpiknpiaaaGreatDoorQ.Al.progOf Tryz.prog)) := zeros_of (l := topT) (top_tys Tryz.prog.funcs lo pt pl) (by kernel_rfl)
theorem top_re : (topFx Tryz.prog.funcs lo pt pl).re (YtpfknjpiknpiaaaGreatDoorQ.Al.progOf Tryz.prog) = Tryz.prog := rfl
theorem top_look (Z : Nat → Prop) (v0 : Nat) (o0 : Option Obj) : JC (YtpfknjpiknpiaaaGreatDoorQ.Al.progOf Tryz.prog) (topFx Tryz.prog.funcs lo pt pl) Z v0 o0 29 := look_jc v0 o0 rfl (top_re lo pt pl) (top_zeros' lo pt pl) (top_own lo pt pl) rfl
theorem top_jc (Z : Nat → Prop) (v0 : Nat) (o0 : Option Obj) (f : FuncId) (h : (topFx Tryz.prog.funcs lo pt pl).jf f = true) : JC (YtpfknjpiknpiaaaGreatDoorQ.Al.progOf Tryz.prog) (topFx Tryz.prog.funcs lo pt pl) Z v0 o0 f := by
  have hf : f = 29 := by simpa [topFx] using h
  subst hf
  exact top_look lo pt pl Z v0 o0
end
end Go.Proofs.YtpfknjpiknpiaaaGreatDoor
