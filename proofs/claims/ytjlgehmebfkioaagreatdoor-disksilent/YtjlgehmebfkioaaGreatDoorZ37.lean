/- Part of the proof. -/
import Derived.Test.YtjlgehmebfkioaaGreatDoorZ36
open Go.Proofs.Tryz (prog)
open Go.Proofs.ah.Al (PB)
namespace Go.Proofs.YtjlgehmebfkioaaGreatDoor
open Go Go.Conc
abbrev Vo:List FuncId:=[6,9,10,12,13,14,16,18,19,22,23,25,26,27,28,30,31,32,34,35,36,38,39,40,41,42,43,44,45,46,47,48,50,51,52,53,54,55,58,59,60,61,62,63,64,65,66,67,68,69,74,75,76,77,78,79,80,81,82,83,84,85,86,87,88,89,90,91,92,93,94,95,96,97,98,99,100,101,102,103,111,112,113,114,115,116,117,118,119,120,121,122,123,124,125,126,127,147,148,149,150,151,152,153,154,155,156,157,158,159,160,161,162,163,170,171,172,173,174,175,176,177,178,179,180,181,182,183,184,185,186,187,188,189,190,191,192,193,194,195,196,197,198,199,200,3,11,15,17,33,4,8,29,5,20,21,24,37,7]
abbrev Vp:List TypeId:=[262,3,31,88,110,151,5,60,114,23,38,56,47,50,97,79,133,116,180,4]
abbrev afg:List FuncId:=[74,42,34]
def jL(R:Array Func)(lo:Nat->Nat)(pt:Nat->Bool)(pl:∀ a,pt a=true->lo a=0):Fx:=⟨λf=>Vo.contains f,lo,λt=>Vp.contains t,R,λf=>afg.contains f,true,λ_=>false,pt,pl⟩
section
variable (R:Array Func) (lo:Nat->Nat) (pt:Nat->Bool) (pl:∀ a,pt a=true->lo a=0)
theorem Ku(t:TypeId)(h:(jL R lo pt pl).tys t=true):t∈Vp:=by simpa [jL] using h
theorem Q7(f:FuncId)(h:(jL R lo pt pl).ok f=true):f∈Vo:=by simpa [jL] using h
theorem KH:zeros (PB prog false) (jL R lo pt pl):=yQ (l:=Vp) (Ku R lo pt pl) (by kernel_rfl)
theorem Q8(P:Program)(f:FuncId)(h:f≠74/\f≠34/\f≠42):P.funcs[f]?=(ah.Al.PB P false).funcs[f]?:=by
 show P.funcs[f]?=(ah.Al.qy P)[f]?
 unfold ah.Al.qy
 rw[Array.getElem?_setIfInBounds_ne h.2.2.symm,Array.getElem?_setIfInBounds_ne h.2.1.symm,Array.getElem?_setIfInBounds_ne h.1.symm]
theorem ac5(f:FuncId)(h:(jL R lo pt pl).jf f=false):f≠74/\f≠34/\f≠42:=by
 have h2:f≠74/\f≠42/\f≠34:=by simpa [jL] using h
 exact⟨h2.1,h2.2.2,h2.2.1⟩
theorem ZX(P:Program)(fns:Fx):(fns.own P).re P=P:=rfl
theorem ZY(P:Program)(fns:Fx)(f:FuncId):(fns.own P).rf[f]?=P.funcs[f]?:=rfl
end
theorem Rt:SG (PB prog false):=Cm (Vm (by kernel_rfl))
section
variable (lo:Nat->Nat) (pt:Nat->Bool) (pl:∀ a,pt a=true->lo a=0)
theorem Nh:kS (PB prog false) (jL prog.funcs lo pt pl):=uo (l:=Vo) (Q7 _ lo pt pl) (by kernel_rfl) (λf _ hj=>Q8 prog f (ac5 _ lo pt pl f hj))
theorem u6:gT (PB prog false) ((jL prog.funcs lo pt pl).own (PB prog false)):=⟨uo (l:=Vo) (Q7 prog.funcs lo pt pl) (by kernel_rfl) (λf _ _=>ZY _ _ f),ZX _ _,λ_=>rfl⟩
theorem lZ:zeros (PB prog false) ((jL prog.funcs lo pt pl).own (PB prog false)):=yQ (l:=Vp) (Ku prog.funcs lo pt pl) (by kernel_rfl)
theorem I8:(jL prog.funcs lo pt pl).re (PB prog false)=prog:=rfl
theorem Wx(Z:Nat->Prop){o0:Option Obj}(hO:ETy o0)(f:FuncId)(h:(jL prog.funcs lo pt pl).jf f=true):JC (PB prog false) (jL prog.funcs lo pt pl) Z 0 o0 f:=by
 have hf:f=74\/f=42\/f=34:=by simpa [jL] using h
 rcases hf with rfl|rfl|rfl
 .exact Ve _ o0 rfl (I8 lo pt pl) (lZ lo pt pl) (u6 lo pt pl) rfl
 .exact ac4 _ o0 rfl (I8 lo pt pl) (lZ lo pt pl) (u6 lo pt pl) rfl
 .exact Vk hO rfl (I8 lo pt pl) (lZ lo pt pl) (u6 lo pt pl) rfl
end
