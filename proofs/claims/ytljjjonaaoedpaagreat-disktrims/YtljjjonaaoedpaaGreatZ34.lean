/- Part of the proof. -/
import Derived.Test.YtljjjonaaoedpaaGreatZ33
namespace Go.Proofs.YtljjjonaaoedpaaGreat
open Tryz (prog)
open Go Go.Conc
abbrev QN:List FuncId:=[4,3,5,6,7,14,8,9,10,11,15,12,13,16,17,18,19,20,21,22,23,27,28,24,25,26,29,30,31,32,33,34,35,36,37,38,39,45,46,47,48,49,40,43,44,50,51,52,53,54,55,56,57,58,59,60,61,62,63,64,65,66,72,73,74,75,76,77,78,79,67,80,68,69,70,71,81,82,83,84,85,86,87,88,89,90,91,99,100,101,102,92,93,103,104,105,106,107,127,128,129,130,131,132,133,134,135,136,137,138,139,140,141,142,143,144,145,146,147,154,155,156,157,158,159,160,161,162,163,164,165,166,167,168,169,170,171,172,173,174,175]
abbrev QO:List TypeId:=[235,3,58,68,111,151,5,34,93,23,33,53,55,77,64,90,95,123,4]
abbrev aap:List FuncId:=[72,25]
def iM(R:Array Func)(lo:Nat->Nat)(pt:Nat->Bool)(pl:∀ a,pt a=true->lo a=0):Fx:=⟨λf=>QN.contains f,lo,λt=>QO.contains t,R,λf=>aap.contains f,true,λ_=>false,pt,pl⟩
section
variable (R:Array Func) (lo:Nat->Nat) (pt:Nat->Bool) (pl:∀ a,pt a=true->lo a=0)
theorem Gn(t:TypeId)(h:(iM R lo pt pl).tys t=true):t∈QO:=by simpa [iM] using h
theorem Nb(f:FuncId)(h:(iM R lo pt pl).ok f=true):f∈QN:=by simpa [iM] using h
theorem wo:zeros (ah.Al.PB prog false) (iM R lo pt pl):=vg (l:=QO) (Gn R lo pt pl) (by kernel_rfl)
theorem Nc(P:Program)(f:FuncId)(h:f≠72/\f≠25):P.funcs[f]?=(ah.Al.PB P false).funcs[f]?:=by
 show P.funcs[f]?=(ah.Al.ow P)[f]?
 unfold ah.Al.ow
 rw[Array.getElem?_setIfInBounds_ne h.2.symm,Array.getElem?_setIfInBounds_ne h.1.symm]
theorem Yk(f:FuncId)(h:(iM R lo pt pl).jf f=false):f≠72/\f≠25:=by simpa [iM] using h
theorem Vm(P:Program)(fns:Fx):(fns.own P).re P=P:=rfl
theorem Vn(P:Program)(fns:Fx)(f:FuncId):(fns.own P).rf[f]?=P.funcs[f]?:=rfl
end
theorem EN:Oz (ah.Al.PB prog false):=yY (QM (by kernel_rfl))
section
variable (lo:Nat->Nat) (pt:Nat->Bool) (pl:∀ a,pt a=true->lo a=0)
theorem zV:jQ (ah.Al.PB prog false) (iM prog.funcs lo pt pl):=qO (l:=QN) (Nb _ lo pt pl) (by kernel_rfl) (λf _ hj=>Nc prog f (Yk _ lo pt pl f hj))
theorem rW:okOne (ah.Al.PB prog false) ((iM prog.funcs lo pt pl).own (ah.Al.PB prog false)):=⟨qO (l:=QN) (Nb prog.funcs lo pt pl) (by kernel_rfl) (λf _ _=>Vn _ _ f),Vm _ _,λ_=>rfl⟩
theorem kM:zeros (ah.Al.PB prog false) ((iM prog.funcs lo pt pl).own (ah.Al.PB prog false)):=vg (l:=QO) (Gn prog.funcs lo pt pl) (by kernel_rfl)
theorem Nf:(iM prog.funcs lo pt pl).re (ah.Al.PB prog false)=prog:=rfl
theorem JD(Z:Nat->Prop)(v0:Nat)(o0:Option Obj)(f:FuncId)(h:(iM prog.funcs lo pt pl).jf f=true):JC (ah.Al.PB prog false) (iM prog.funcs lo pt pl) Z v0 o0 f:=by
 have hf:f=72\/f=25:=by simpa [iM] using h
 rcases hf with rfl|rfl
 ·exact QI v0 o0 rfl (Nf lo pt pl) (kM lo pt pl) (rW lo pt pl) rfl
 ·exact Yj v0 o0 rfl (Nf lo pt pl) (kM lo pt pl) (rW lo pt pl) rfl
end
