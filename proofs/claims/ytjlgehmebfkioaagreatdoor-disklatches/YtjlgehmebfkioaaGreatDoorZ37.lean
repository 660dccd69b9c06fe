/- Part of the proof. -/
import Derived.Test.YtjlgehmebfkioaaGreatDoorZ36
open Go.Proofs.Tryz (prog)
open Go.Proofs.ah.Al (PB)
namespace Go.Proofs.YtjlgehmebfkioaaGreatDoor
open Go Go.Conc
abbrev V8:List FuncId:=[6,9,10,12,13,14,16,18,19,22,23,25,26,27,28,30,31,32,34,35,36,38,39,40,41,42,43,44,45,46,47,48,50,51,52,53,54,55,58,59,60,61,62,63,64,65,66,67,68,69,74,75,76,77,78,79,80,81,82,83,84,85,86,87,88,89,90,91,92,93,94,95,96,97,98,99,100,101,102,103,111,112,113,114,115,116,117,118,119,120,121,122,123,124,125,126,127,147,148,149,150,151,152,153,154,155,156,157,158,159,160,161,162,163,170,171,172,173,174,175,176,177,178,179,180,181,182,183,184,185,186,187,188,189,190,191,192,193,194,195,196,197,198,199,200,3,11,15,17,33,4]
abbrev V9:List TypeId:=[262,3,31,88,110,151,5,60,114,23,38,47,50,97,79,133,116,180,4]
abbrev afO:List FuncId:=[74,42,34]
def jR(R:Array Func)(lo:Nat->Nat)(pt:Nat->Bool)(pl:∀ a,pt a=true->lo a=0):Fx:=⟨λf=>V8.contains f,lo,λt=>V9.contains t,R,λf=>afO.contains f,true,λ_=>false,pt,pl⟩
section
variable (R:Array Func) (lo:Nat->Nat) (pt:Nat->Bool) (pl:∀ a,pt a=true->lo a=0)
theorem KY(t:TypeId)(h:(jR R lo pt pl).tys t=true):t∈V9:=by simpa [jR] using h
theorem RQ(f:FuncId)(h:(jR R lo pt pl).ok f=true):f∈V8:=by simpa [jR] using h
theorem Lb:zeros (PB prog false) (jR R lo pt pl):=zm (l:=V9) (KY R lo pt pl) (by kernel_rfl)
theorem RU(P:Program)(f:FuncId)(h:f≠74/\f≠34/\f≠42):P.funcs[f]?=(ah.Al.PB P false).funcs[f]?:=by
 show P.funcs[f]?=(ah.Al.qJ P)[f]?
 unfold ah.Al.qJ
 rw[Array.getElem?_setIfInBounds_ne h.2.2.symm,Array.getElem?_setIfInBounds_ne h.2.1.symm,Array.getElem?_setIfInBounds_ne h.1.symm]
theorem adG(f:FuncId)(h:(jR R lo pt pl).jf f=false):f≠74/\f≠34/\f≠42:=by
 have h2:f≠74/\f≠42/\f≠34:=by simpa [jR] using h
 exact⟨h2.1,h2.2.2,h2.2.1⟩
theorem aaF(P:Program)(fns:Fx):(fns.own P).re P=P:=rfl
theorem aaG(P:Program)(fns:Fx)(f:FuncId):(fns.own P).rf[f]?=P.funcs[f]?:=rfl
end
theorem Sj:TP (PB prog false):=CX (V7 (by kernel_rfl))
section
variable (lo:Nat->Nat) (pt:Nat->Bool) (pl:∀ a,pt a=true->lo a=0)
theorem NT:lg (PB prog false) (jR prog.funcs lo pt pl):=uS (l:=V8) (RQ _ lo pt pl) (by kernel_rfl) (λf _ hj=>RU prog f (adG _ lo pt pl f hj))
theorem vI:gY (PB prog false) ((jR prog.funcs lo pt pl).own (PB prog false)):=⟨uS (l:=V8) (RQ prog.funcs lo pt pl) (by kernel_rfl) (λf _ _=>aaG _ _ f),aaF _ _,λ_=>rfl⟩
theorem mq:zeros (PB prog false) ((jR prog.funcs lo pt pl).own (PB prog false)):=zm (l:=V9) (KY prog.funcs lo pt pl) (by kernel_rfl)
theorem Jy:(jR prog.funcs lo pt pl).re (PB prog false)=prog:=rfl
theorem Xh(Z:Nat->Prop){o0:Option Obj}(hO:ETy o0)(f:FuncId)(h:(jR prog.funcs lo pt pl).jf f=true):JC (PB prog false) (jR prog.funcs lo pt pl) Z 0 o0 f:=by
 have hf:f=74\/f=42\/f=34:=by simpa [jR] using h
 rcases hf with rfl|rfl|rfl
 .exact VU _ o0 rfl (Jy lo pt pl) (mq lo pt pl) (vI lo pt pl) rfl
 .exact adF _ o0 rfl (Jy lo pt pl) (mq lo pt pl) (vI lo pt pl) rfl
 .exact V5 hO rfl (Jy lo pt pl) (mq lo pt pl) (vI lo pt pl) rfl
end
