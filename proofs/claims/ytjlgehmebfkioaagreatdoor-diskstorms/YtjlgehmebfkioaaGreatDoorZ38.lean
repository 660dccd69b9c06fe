/- Part of the proof. -/
import Derived.Test.YtjlgehmebfkioaaGreatDoorZ37
open Go.Proofs.Tryz renaming prog->aa
open Go.Proofs.ah.Al (PB)
open Array renaming getElem?_setIfInBounds_ne->az
open Go renaming FuncId->gw,Program->ar
namespace Go.Proofs.YtjlgehmebfkioaaGreatDoor
open Go Go.Conc
abbrev WI:List gw:=[6,9,10,12,13,14,16,18,19,22,23,25,26,27,28,30,31,32,34,35,36,38,39,40,41,42,43,44,45,46,47,48,50,51,52,53,54,55,58,59,60,61,62,63,64,65,66,67,68,69,74,75,76,77,78,79,80,81,82,83,84,85,86,87,88,89,90,91,92,93,94,95,96,97,98,99,100,101,102,103,111,112,113,114,115,116,117,118,119,120,121,122,123,124,125,126,127,147,148,149,150,151,152,153,154,155,156,157,158,159,160,161,162,163,170,171,172,173,174,175,176,177,178,179,180,181,182,183,184,185,186,187,188,189,190,191,192,193,194,195,196,197,198,199,200,3,11,15,17,33,4,8,29,5,20,21,24,37,7]
abbrev WJ:List TypeId:=[262,3,31,88,110,151,5,60,114,23,38,56,47,50,97,79,133,116,180,4]
abbrev agA:List gw:=[74,42,34]
def jT(R:Array Func)(lo:Nat->Nat)(pt:Nat->Bool)(pl:∀ a,pt a=true->lo a=0):Fx:=⟨λf=>WI.contains f,lo,λt=>WJ.contains t,R,λf=>agA.contains f,true,λ_=>false,pt,pl⟩
section
variable (R:Array Func) (lo:Nat->Nat) (pt:Nat->Bool) (pl:∀ a,pt a=true->lo a=0)
theorem Lr(t:TypeId)(h:(jT R lo pt pl).tys t=true):t∈WJ:=by simpa [jT] using h
theorem SA(f:gw)(h:(jT R lo pt pl).ok f=true):f∈WI:=by simpa [jT] using h
theorem LU:zeros (PB aa false) (jT R lo pt pl):=zI (l:=WJ) (Lr R lo pt pl) (by kernel_rfl)
theorem SC(P:ar)(f:gw)(h:f≠74/\f≠34/\f≠42):P.funcs[f]?=(ah.Al.PB P false).funcs[f]?:=by
 show P.funcs[f]?=(ah.Al.qQ P)[f]?
 unfold ah.Al.qQ
 rw[az h.2.2.symm,az h.2.1.symm,az h.1.symm]
theorem aei(f:gw)(h:(jT R lo pt pl).jf f=false):f≠74/\f≠34/\f≠42:=by
 have h2:f≠74/\f≠42/\f≠34:=by simpa [jT] using h
 exact⟨h2.1,h2.2.2,h2.2.1⟩
theorem aa'(P:ar)(fns:Fx):(fns.own P).re P=P:=rfl
theorem abb(P:ar)(fns:Fx)(f:gw):(fns.own P).rf[f]?=P.funcs[f]?:=rfl
end
theorem Ti:Us (PB aa false):=Dj (WH (by kernel_rfl))
section
variable (lo:Nat->Nat) (pt:Nat->Bool) (pl:∀ a,pt a=true->lo a=0)
theorem OG:lu (PB aa false) (jT aa.funcs lo pt pl):=uY (l:=WI) (SA _ lo pt pl) (by kernel_rfl) (λf _ hj=>SC aa f (aei _ lo pt pl f hj))
theorem vR:g_ (PB aa false) ((jT aa.funcs lo pt pl).own (PB aa false)):=⟨uY (l:=WI) (SA aa.funcs lo pt pl) (by kernel_rfl) (λf _ _=>abb _ _ f),aa' _ _,λ_=>rfl⟩
theorem mE:zeros (PB aa false) ((jT aa.funcs lo pt pl).own (PB aa false)):=zI (l:=WJ) (Lr aa.funcs lo pt pl) (by kernel_rfl)
theorem JV:(jT aa.funcs lo pt pl).re (PB aa false)=aa:=rfl
theorem XV(Z:Nat->Prop){o0:Option Obj}(hO:ETy o0)(f:gw)(h:(jT aa.funcs lo pt pl).jf f=true):JC (PB aa false) (jT aa.funcs lo pt pl) Z 0 o0 f:=by
 have hf:f=74\/f=42\/f=34:=by simpa [jT] using h
 rcases hf with rfl|rfl|rfl
 .exact Wx _ o0 rfl (JV lo pt pl) (mE lo pt pl) (vR lo pt pl) rfl
 .exact aeh _ o0 rfl (JV lo pt pl) (mE lo pt pl) (vR lo pt pl) rfl
 .exact WE hO rfl (JV lo pt pl) (mE lo pt pl) (vR lo pt pl) rfl
end
