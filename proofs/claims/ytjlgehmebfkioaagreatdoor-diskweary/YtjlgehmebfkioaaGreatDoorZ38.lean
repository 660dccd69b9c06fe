/- Part of the proof. -/
import Derived.Test.YtjlgehmebfkioaaGreatDoorZ37
open Go.Proofs.Tryz (prog)
open Go.Proofs.ah.Al (PB)
namespace Go.Proofs.YtjlgehmebfkioaaGreatDoor
open Go Go.Conc
abbrev VU:List FuncId:=[6,9,10,12,13,14,16,18,19,22,23,25,26,27,28,30,31,32,34,35,36,38,39,40,41,42,43,44,45,46,47,48,50,51,52,53,54,55,58,59,60,61,62,63,64,65,66,67,68,69,74,75,76,77,78,79,80,81,82,83,84,85,86,87,88,89,90,91,92,93,94,95,96,97,98,99,100,101,102,103,111,112,113,114,115,116,117,118,119,120,121,122,123,124,125,126,127,147,148,149,150,151,152,153,154,155,156,157,158,159,160,161,162,163,170,171,172,173,174,175,176,177,178,179,180,181,182,183,184,185,186,187,188,189,190,191,192,193,194,195,196,197,198,199,200,3,11,15,17,33,4,8,29,5,20,21,24,37,7]
abbrev VW:List TypeId:=[262,3,31,88,110,151,5,60,114,23,38,56,47,50,97,79,133,116,180,4]
abbrev afU:List FuncId:=[74,42,34]
def jO(R:Array Func)(lo:Nat->Nat)(pt:Nat->Bool)(pl:∀ a,pt a=true->lo a=0):Fx:=⟨λf=>VU.contains f,lo,λt=>VW.contains t,R,λf=>afU.contains f,true,λ_=>false,pt,pl⟩
section
variable (R:Array Func) (lo:Nat->Nat) (pt:Nat->Bool) (pl:∀ a,pt a=true->lo a=0)
theorem KN(t:TypeId)(h:(jO R lo pt pl).tys t=true):t∈VW:=by simpa [jO] using h
theorem RA(f:FuncId)(h:(jO R lo pt pl).ok f=true):f∈VU:=by simpa [jO] using h
theorem La:zeros (PB prog false) (jO R lo pt pl):=zh (l:=VW) (KN R lo pt pl) (by kernel_rfl)
theorem RB(P:Program)(f:FuncId)(h:f≠74/\f≠34/\f≠42):P.funcs[f]?=(ah.Al.PB P false).funcs[f]?:=by
 show P.funcs[f]?=(ah.Al.qJ P)[f]?
 unfold ah.Al.qJ
 rw[Array.getElem?_setIfInBounds_ne h.2.2.symm,Array.getElem?_setIfInBounds_ne h.2.1.symm,Array.getElem?_setIfInBounds_ne h.1.symm]
theorem adF(f:FuncId)(h:(jO R lo pt pl).jf f=false):f≠74/\f≠34/\f≠42:=by
 have h2:f≠74/\f≠42/\f≠34:=by simpa [jO] using h
 exact⟨h2.1,h2.2.2,h2.2.1⟩
theorem aaA(P:Program)(fns:Fx):(fns.own P).re P=P:=rfl
theorem aaB(P:Program)(fns:Fx)(f:FuncId):(fns.own P).rf[f]?=P.funcs[f]?:=rfl
end
theorem R_:TB (PB prog false):=CP (VT (by kernel_rfl))
section
variable (lo:Nat->Nat) (pt:Nat->Bool) (pl:∀ a,pt a=true->lo a=0)
theorem NQ:kV (PB prog false) (jO prog.funcs lo pt pl):=uJ (l:=VU) (RA _ lo pt pl) (by kernel_rfl) (λf _ hj=>RB prog f (adF _ lo pt pl f hj))
theorem vG:gW (PB prog false) ((jO prog.funcs lo pt pl).own (PB prog false)):=⟨uJ (l:=VU) (RA prog.funcs lo pt pl) (by kernel_rfl) (λf _ _=>aaB _ _ f),aaA _ _,λ_=>rfl⟩
theorem lZ:zeros (PB prog false) ((jO prog.funcs lo pt pl).own (PB prog false)):=zh (l:=VW) (KN prog.funcs lo pt pl) (by kernel_rfl)
theorem Jl:(jO prog.funcs lo pt pl).re (PB prog false)=prog:=rfl
theorem Xh(Z:Nat->Prop){o0:Option Obj}(hO:ETy o0)(f:FuncId)(h:(jO prog.funcs lo pt pl).jf f=true):JC (PB prog false) (jO prog.funcs lo pt pl) Z 0 o0 f:=by
 have hf:f=74\/f=42\/f=34:=by simpa [jO] using h
 rcases hf with rfl|rfl|rfl
 .exact VI _ o0 rfl (Jl lo pt pl) (lZ lo pt pl) (vG lo pt pl) rfl
 .exact adE _ o0 rfl (Jl lo pt pl) (lZ lo pt pl) (vG lo pt pl) rfl
 .exact VP hO rfl (Jl lo pt pl) (lZ lo pt pl) (vG lo pt pl) rfl
end
