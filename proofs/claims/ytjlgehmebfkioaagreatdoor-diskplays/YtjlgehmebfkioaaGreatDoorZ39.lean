/- Part of the proof. -/
import Derived.Test.YtjlgehmebfkioaaGreatDoorZ38
open Go.Proofs.Tryz renaming prog->aa
open Go.Proofs.ah.Al (PB)
open Array renaming getElem?_setIfInBounds_ne->aE
open Go renaming FuncId->fR,Program->ar
namespace Go.Proofs.YtjlgehmebfkioaaGreatDoor
open Go Go.Conc
abbrev Wd:List fR:=[6,9,10,12,13,14,16,18,19,22,23,25,26,27,28,30,31,32,34,35,36,38,39,40,41,42,43,44,45,46,47,48,50,51,52,53,54,55,58,59,60,61,62,63,64,65,66,67,68,69,74,75,76,77,78,79,80,81,82,83,84,85,86,87,88,89,90,91,92,93,94,95,96,97,98,99,100,101,102,103,111,112,113,114,115,116,117,118,119,120,121,122,123,124,125,126,127,147,148,149,150,151,152,153,154,155,156,157,158,159,160,161,162,163,170,171,172,173,174,175,176,177,178,179,180,181,182,183,184,185,186,187,188,189,190,191,192,193,194,195,196,197,198,199,200,3,11,15,17,33,4,8,29,5,20,21,24,37,7]
abbrev Wh:List TypeId:=[262,3,31,88,110,151,5,60,114,23,38,56,47,50,97,79,133,116,180,4]
abbrev afX:List fR:=[74,42,34]
def jR(R:Array Func)(lo:Nat->Nat)(pt:Nat->Bool)(pl:∀ a,pt a=true->lo a=0):Fx:=⟨λf=>Wd.contains f,lo,λt=>Wh.contains t,R,λf=>afX.contains f,true,λ_=>false,pt,pl⟩
section
variable (R:Array Func) (lo:Nat->Nat) (pt:Nat->Bool) (pl:∀ a,pt a=true->lo a=0)
theorem KV(t:TypeId)(h:(jR R lo pt pl).tys t=true):t∈Wh:=by simpa [jR] using h
theorem RU(f:fR)(h:(jR R lo pt pl).ok f=true):f∈Wd:=by simpa [jR] using h
theorem Lc:zeros (PB aa false) (jR R lo pt pl):=zm (l:=Wh) (KV R lo pt pl) (by kernel_rfl)
theorem RV(P:ar)(f:fR)(h:f≠74/\f≠34/\f≠42):P.funcs[f]?=(ah.Al.PB P false).funcs[f]?:=by
 show P.funcs[f]?=(ah.Al.qK P)[f]?
 unfold ah.Al.qK
 rw[aE h.2.2.symm,aE h.2.1.symm,aE h.1.symm]
theorem adO(f:fR)(h:(jR R lo pt pl).jf f=false):f≠74/\f≠34/\f≠42:=by
 have h2:f≠74/\f≠42/\f≠34:=by simpa [jR] using h
 exact⟨h2.1,h2.2.2,h2.2.1⟩
theorem aaI(P:ar)(fns:Fx):(fns.own P).re P=P:=rfl
theorem aaJ(P:ar)(fns:Fx)(f:fR):(fns.own P).rf[f]?=P.funcs[f]?:=rfl
end
theorem Sr:TU (PB aa false):=CU (V_ (by kernel_rfl))
section
variable (lo:Nat->Nat) (pt:Nat->Bool) (pl:∀ a,pt a=true->lo a=0)
theorem NW:lg (PB aa false) (jR aa.funcs lo pt pl):=uT (l:=Wd) (RU _ lo pt pl) (by kernel_rfl) (λf _ hj=>RV aa f (adO _ lo pt pl f hj))
theorem vJ:gY (PB aa false) ((jR aa.funcs lo pt pl).own (PB aa false)):=⟨uT (l:=Wd) (RU aa.funcs lo pt pl) (by kernel_rfl) (λf _ _=>aaJ _ _ f),aaI _ _,λ_=>rfl⟩
theorem mD:zeros (PB aa false) ((jR aa.funcs lo pt pl).own (PB aa false)):=zm (l:=Wh) (KV aa.funcs lo pt pl) (by kernel_rfl)
theorem Ju:(jR aa.funcs lo pt pl).re (PB aa false)=aa:=rfl
theorem Xk(Z:Nat->Prop){o0:Option Obj}(hO:ETy o0)(f:fR)(h:(jR aa.funcs lo pt pl).jf f=true):JC (PB aa false) (jR aa.funcs lo pt pl) Z 0 o0 f:=by
 have hf:f=74\/f=42\/f=34:=by simpa [jR] using h
 rcases hf with rfl|rfl|rfl
 .exact VY _ o0 rfl (Ju lo pt pl) (mD lo pt pl) (vJ lo pt pl) rfl
 .exact adN _ o0 rfl (Ju lo pt pl) (mD lo pt pl) (vJ lo pt pl) rfl
 .exact V8 hO rfl (Ju lo pt pl) (mD lo pt pl) (vJ lo pt pl) rfl
end
