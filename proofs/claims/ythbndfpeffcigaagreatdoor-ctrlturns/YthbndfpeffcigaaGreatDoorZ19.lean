/- Part of the proof. -/
import Derived.Test.YthbndfpeffcigaaGreatDoorProg
import Derived.Conc.WgGenN3
import Derived.Conc.Events
open Go.Proofs.Tryz (prog)
namespace Go.Proofs
abbrev Tryz.link:Go.Conc.Lib.WgLink:={ add:=129,done:=131,wait:=133,relMerge:=144,disable:=145,enable:=146,inBubble:=147,associate:=148,fatal:=149,uOr:=150,uAdd:=151,raceRead:=152,uLoad:=153,uStore:=154,disassociate:=155,semrelease:=156,acquire:=159,isAssociated:=160,uCas:=161,raceWrite:=162,semacquire:=163,orU64:=179,addU64:=180,loadU64:=181,storeU64:=182,casU64:=188,tWgP:=279,tUP:=166,tAssoc:=281,tWg:=266,tAU:=263,tU64:=244,tUint:=124,tU32:=264,tPU32:=285,tPAU:=316,tPU64:=318,tNoCopy:=261,tANoCopy:=257,tAlign64:=258 }
theorem Tryz.acu:Go.Conc.Lib.WgLib prog Tryz.link :=
 ⟨Tryz.func129,Tryz.func131,Tryz.func133,Tryz.func144,Tryz.func145,Tryz.func146,Tryz.func147,Tryz.func148,Tryz.func149,Tryz.func150,Tryz.func151,Tryz.func152,Tryz.func153,Tryz.func154,Tryz.func155,Tryz.func156,Tryz.func159,Tryz.func160,Tryz.func161,Tryz.func162,Tryz.func163,Tryz.func179,Tryz.func180,Tryz.func181,Tryz.func182,Tryz.func188,Tryz.underlying279,Tryz.runUnderlying279,Tryz.sizeOf279,Tryz.isAgg279,Tryz.zeroValue279,Tryz.underlying166,Tryz.runUnderlying166,Tryz.sizeOf166,Tryz.isAgg166,Tryz.zeroValue166,Tryz.underlying281,Tryz.runUnderlying281,Tryz.sizeOf281,Tryz.isAgg281,Tryz.zeroValue281,Tryz.underlying266,Tryz.runUnderlying266,Tryz.sizeOf266,Tryz.isAgg266,Tryz.zeroValue266,Tryz.underlying263,Tryz.runUnderlying263,Tryz.sizeOf263,Tryz.isAgg263,Tryz.zeroValue263,Tryz.underlying244,Tryz.runUnderlying244,Tryz.sizeOf244,Tryz.isAgg244,Tryz.zeroValue244,Tryz.underlying124,Tryz.runUnderlying124,Tryz.sizeOf124,Tryz.isAgg124,Tryz.zeroValue124,Tryz.underlying264,Tryz.runUnderlying264,Tryz.sizeOf264,Tryz.isAgg264,Tryz.zeroValue264,Tryz.underlying285,Tryz.runUnderlying285,Tryz.sizeOf285,Tryz.isAgg285,Tryz.zeroValue285,Tryz.underlying316,Tryz.runUnderlying316,Tryz.sizeOf316,Tryz.isAgg316,Tryz.zeroValue316,Tryz.underlying318,Tryz.runUnderlying318,Tryz.sizeOf318,Tryz.isAgg318,Tryz.zeroValue318,Tryz.underlying0,Tryz.runUnderlying0,Tryz.sizeOf0,Tryz.isAgg0,Tryz.zeroValue0,Tryz.underlying3,Tryz.runUnderlying3,Tryz.sizeOf3,Tryz.isAgg3,Tryz.zeroValue3,Tryz.underlying4,Tryz.runUnderlying4,Tryz.sizeOf4,Tryz.isAgg4,Tryz.zeroValue4,Tryz.underlying9,Tryz.runUnderlying9,Tryz.sizeOf9,Tryz.isAgg9,Tryz.zeroValue9,Tryz.underlying20,Tryz.runUnderlying20,Tryz.sizeOf20,Tryz.isAgg20,Tryz.zeroValue20,Tryz.underlying21,Tryz.runUnderlying21,Tryz.sizeOf21,Tryz.isAgg21,Tryz.zeroValue21,(by kernel_rfl),(by kernel_rfl)⟩
end Go.Proofs
namespace Go.Proofs.YthbndfpeffcigaaGreatDoor
open Go
theorem eight(n:Nat)(h:1<=n/\n<=8):n=1\/n=2\/n=3\/n=4\/n=5\/n=6\/n=7\/n=8:=by omega
variable {a:Addr} {x':Array Value} {f:Fn} {c:Nat} {b:Option Addr} {v':Value}
structure Fx where
 ok:FuncId->Bool
 lo:Nat->Nat
 tys:TypeId->Bool
 rf:Array Func
 jf:FuncId->Bool
 full:Bool
 gl:Nat->Bool
 pt:Nat->Bool
 pl:∀ a,pt a=true->lo a=0
 me:String->Bool
 it:TypeId->Bool
def Fx.re(fns:Fx)(P:Program):Program:={ P with funcs:=fns.rf }
def Fx.pn(fns:Fx)(a:Nat):Prop:=fns.full=true\/fns.pt a=true
theorem Fx.Jq(fns:Fx){a:Nat}(h:fns.pt a=true)(n:Nat):fns.pn a/\fns.lo a<=n:=⟨.inr h,by rw[fns.pl _ h];exact Nat.zero_le _⟩
def AS(fns:Fx)(E:Nat->Nat->Prop)(a b:Addr):Prop:=E a.block b.block/\a.off=b.off/\a.spot=b.spot/\fns.lo a.block<=a.off
def AR(fns:Fx)(E:Nat->Nat->Prop)(a b:Addr):Prop:=E a.block b.block/\a.off=b.off/\a.spot=b.spot/\fns.pn a.block/\fns.lo a.block<=a.off
def OS(fns:Fx)(E:Nat->Nat->Prop):Option Addr->Option Addr->Prop
 |none,none=>True
 |some a,some b=>AS fns E a b
 |_,_=>False
def OA(fns:Fx)(E:Nat->Nat->Prop):Option Addr->Option Addr->Prop
 |none,none=>True
 |some a,some b=>AR fns E a b
 |_,_=>False
def SR(fns:Fx)(E:Nat->Nat->Prop)(l c:Nat)(a b:Option Addr):Prop:=OS fns E a b\/(l=0/\c=0/\a=b)
def mq(fns:Fx):Fn->Bool
 | .func f=>fns.ok f&&!fns.jf f
 | .method m=>fns.me m
 |_=>false
def RG(fns:Fx)(E:Nat->Nat->Prop)(f f':Fn):Prop:=(f'=f/\mq fns f=true)\/(fns.full=true/\∃ l l',f=.yield l/\f'=.yield l'/\E l l')
def VR(fns:Fx)(E:Nat->Nat->Prop):Value->Value->Prop
 | .bool a,v'=>v'=.bool a
 | .int k n,v'=>v'=.int k n
 | .float _ _,_=>False
 | .complex _ _ _,_=>False
 | .string a,v'=>v'=.string a
 | .pointer a,v'=>∃ b,v'=.pointer b/\OA fns E a b
 | .slice a l c,v'=>∃ b,v'=.slice b l c/\SR fns E l c a b
 | .map r,v'=>r=none/\v'=.map none
 | .chan r,v'=>r=none/\v'=.chan none
 | .func f x y,v'=>∃ f' x' y',v'=.func f' x' y'/\RG fns E f f'/\(x.size=x'.size/\∀ i (h:i<x.size) (h':i<x'.size),VR fns E x[i] x'[i])/\(y.size=y'.size/\∀ i (h:i<y.size) (h':i<y'.size),VR fns E y[i] y'[i])
 | .nilFunc,v'=>v'=.nilFunc
 | .iface t v,v'=>∃ u,v'=.iface t u/\VR fns E v u/\fns.it t=true
 | .nilIface,v'=>v'=.nilIface
 | .agg x,v'=>∃ x',v'=.agg x'/\(x.size=x'.size/\∀ i (h:i<x.size) (h':i<x'.size),VR fns E x[i] x'[i])
 | .tuple x,v'=>∃ x',v'=.tuple x'/\(x.size=x'.size/\∀ i (h:i<x.size) (h':i<x'.size),VR fns E x[i] x'[i])
def aV(fns:Fx)(E:Nat->Nat->Prop)(x x':Array Value):Prop:=x.size=x'.size/\∀ i (h:i<x.size) (h':i<x'.size),VR fns E x[i] x'[i]
section
variable {fns:Fx} {E:Nat->Nat->Prop} {v:Value}
theorem j4{b:Bool}:VR fns E (.bool b) v↔v=.bool b:=by rw[VR]
theorem dB{k:IntKind}{n:Int}:VR fns E (.int k n) v↔v=.int k n:=by rw[VR]
theorem bV{k:FloatKind}{n:Nat}:¬VR fns E (.float k n) v:=by rw[VR];exact id
theorem bL{k:FloatKind}{n m:Nat}:¬VR fns E (.complex k n m) v:=by rw[VR];exact id
theorem dL{b:ByteArray}:VR fns E (.string b) v↔v=.string b:=by rw[VR]
theorem aN{a:Option Addr}:VR fns E (.pointer a) v↔∃ b,v=.pointer b/\OA fns E a b:=by rw[VR]
theorem aO{a:Option Addr}{l:Nat}:VR fns E (.slice a l c) v↔∃ b,v=.slice b l c/\SR fns E l c a b:=by rw[VR]
theorem dZ{r:Option Nat}:VR fns E (.map r) v↔r=none/\v=.map none:=by rw[VR]
theorem cZ{r:Option Nat}:VR fns E (.chan r) v↔r=none/\v=.chan none:=by rw[VR]
theorem cu{x y:Array Value}:VR fns E (.func f x y) v↔∃ f' x' y',v=.func f' x' y'/\RG fns E f f'/\aV fns E x x'/\aV fns E y y':=by rw[VR];rfl
theorem GV:VR fns E .nilFunc v↔v=.nilFunc:=by rw[VR]
theorem dG:VR fns E .nilIface v↔v=.nilIface:=by rw[VR]
theorem bf{t:TypeId}{u:Value}:VR fns E (.iface t u) v↔∃ u',v=.iface t u'/\VR fns E u u'/\fns.it t=true:=by rw[VR]
theorem bQ{x:Array Value}:VR fns E (.agg x) v↔∃ x',v=.agg x'/\aV fns E x x':=by rw[VR];rfl
theorem bq{x:Array Value}:VR fns E (.tuple x) v↔∃ x',v=.tuple x'/\aV fns E x x':=by rw[VR];rfl
end
variable {fns:Fx} {E E':Nat->Nat->Prop}
theorem RG.up{f':Fn}(h:RG fns E f f')(hE:∀ a b,E a b->E' a b):RG fns E' f f':=h.imp id λ⟨u,l,l',a,b,c⟩=>⟨u,l,l',a,b,hE _ _ c⟩
theorem RG.eq{f':Fn}(h:RG fns E f f')(hE:∀ a b,E a b->a=b):f'=f:=by
 rcases h with h|⟨_,l,l',rfl,rfl,h⟩
 .exact h.1
 .rw[hE _ _ h]
theorem AR.as{b:Addr}(h:AR fns E a b):AS fns E a b:=⟨h.1,h.2.1,h.2.2.1,h.2.2.2.2⟩
theorem AS.full{b:Addr}(h:AS fns E a b)(hf:fns.full=true):AR fns E a b:=⟨h.1,h.2.1,h.2.2.1,.inl hf,h.2.2.2⟩
theorem AS.up{b:Addr}(h:AS fns E a b)(hE:∀ a b,E a b->E' a b):AS fns E' a b:=⟨hE _ _ h.1,h.2⟩
theorem AS.add{b:Addr}(h:AS fns E a b)(n:Nat):AS fns E (a.add n) (b.add n):=by
 unfold Addr.add
 split
 .exact h
 .exact⟨h.1,by simp[h.2.1],rfl,Nat.le_trans h.2.2.2 (Nat.le_add_right _ _)⟩
theorem OS.up{a:Option Addr}(h:OS fns E a b)(hE:∀ a b,E a b->E' a b):OS fns E' a b:=by
 cases a<;>cases b<;>first|exact h|exact AS.up h hE
theorem gU:OS fns E none b↔b=none:=by cases b<;>simp[OS]
theorem dO:OS fns E (some a) b↔∃ b',b=some b'/\AS fns E a b':=by cases b<;>simp[OS]
theorem SR.up{l:Nat}{a:Option Addr}(h:SR fns E l c a b)(hE:∀ a b,E a b->E' a b):SR fns E' l c a b:=h.imp (λx=>x.up hE) id
theorem u_{l:Nat}:SR fns E l c none b↔b=none:=⟨λh=>h.elim gU.1 λx=>x.2.2.symm,λe=>.inl (gU.2 e)⟩
theorem Jr{l:Nat}(h:SR fns E l c (some a) b):∃ b',b=some b':=h.elim (λx=>let ⟨b',e,_⟩:=dO.1 x;⟨b',e⟩) λx=>⟨a,x.2.2.symm⟩
theorem AR.up{b:Addr}(h:AR fns E a b)(hE:∀ a b,E a b->E' a b):AR fns E' a b:=⟨hE _ _ h.1,h.2⟩
theorem AR.add{b:Addr}(h:AR fns E a b)(n:Nat):AR fns E (a.add n) (b.add n):=by
 unfold Addr.add
 split
 .exact h
 .exact⟨h.1,by simp[h.2.1],rfl,h.2.2.2.1,Nat.le_trans h.2.2.2.2 (Nat.le_add_right _ _)⟩
theorem OA.up{a:Option Addr}(h:OA fns E a b)(hE:∀ a b,E a b->E' a b):OA fns E' a b:=by
 cases a<;>cases b<;>first|exact h|exact AR.up h hE
theorem jq:OA fns E none b↔b=none:=by cases b<;>simp[OA]
theorem cB:OA fns E (some a) b↔∃ b',b=some b'/\AR fns E a b':=by cases b<;>simp[OA]
theorem VR.upN(hE:∀ a b,E a b->E' a b):∀ (n:Nat) (v v':Value),SizeOf.sizeOf v<n->VR fns E v v'->VR fns E' v v':=by
 intro n
 induction n with
 |zero=>intro v v' h;omega
 |succ n ih =>
  have arr:∀ x x':Array Value,(∀ i (h:i<x.size),SizeOf.sizeOf x[i]<n)->aV fns E x x'->aV fns E' x x' :=
   λx x' h2 h3=>⟨h3.1,λi h h'=>ih _ _ (h2 i h) (h3.2 i h h')⟩
  intro v v' hn hv
  cases v with
  |pointer a=>obtain⟨b,rfl,h⟩:=aN.1 hv;exact aN.2 ⟨b,rfl,h.up hE⟩
  |slice a l c=>obtain⟨b,rfl,h⟩:=aO.1 hv;exact aO.2 ⟨b,rfl,h.up hE⟩
  |func f x y =>
   obtain⟨f',x',y',rfl,h2,h3,h4⟩:=cu.1 hv
   exact cu.2 ⟨f',x',y',rfl,h2.up hE,arr _ _ (λi h=>by have:=Array.sizeOf_getElem x i h;simp at hn;omega) h3,arr _ _ (λi h=>by have:=Array.sizeOf_getElem y i h;simp at hn;omega) h4⟩
  |iface t u=>obtain⟨u',rfl,h⟩:=bf.1 hv;exact bf.2 ⟨u',rfl,ih _ _ (by simp at hn;omega) h.1,h.2⟩
  |agg x=>obtain⟨x',rfl,h⟩:=bQ.1 hv;exact bQ.2 ⟨x',rfl,arr _ _ (λi h=>by have:=Array.sizeOf_getElem x i h;simp at hn;omega) h⟩
  |tuple x=>obtain⟨x',rfl,h⟩:=bq.1 hv;exact bq.2 ⟨x',rfl,arr _ _ (λi h=>by have:=Array.sizeOf_getElem x i h;simp at hn;omega) h⟩
  |_=>rw[VR] at hv ⊢;exact hv
theorem VR.up{v:Value}(h:VR fns E v v')(hE:∀ a b,E a b->E' a b):VR fns E' v v':=VR.upN hE (SizeOf.sizeOf v+1) v v' (by omega) h
theorem aV.up{x:Array Value}(h:aV fns E x x')(hE:∀ a b,E a b->E' a b):aV fns E' x x':=⟨h.1,λi a b=>(h.2 i a b).up hE⟩
theorem AR.eq{b:Addr}(h:AR fns E a b)(hE:∀ a b,E a b->a=b):b=a:=by
 obtain⟨a1,a2,a3⟩:=a
 obtain⟨b1,b2,b3⟩:=b
 obtain⟨h1,h2,h3,_⟩:=h
 simp only at h1 h2 h3
 rw[hE _ _ h1,h2,h3]
theorem OA.eq{a:Option Addr}(h:OA fns E a b)(hE:∀ a b,E a b->a=b):b=a:=by
 cases a with
 |none=>exact jq.1 h
 |some a=>obtain⟨b',rfl,g⟩:=cB.1 h;rw[AR.eq g hE]
theorem AS.eq{b:Addr}(h:AS fns E a b)(hE:∀ a b,E a b->a=b):b=a:=by
 obtain⟨a1,a2,a3⟩:=a
 obtain⟨b1,b2,b3⟩:=b
 obtain⟨h1,h2,h3,_⟩:=h
 simp only at h1 h2 h3
 rw[hE _ _ h1,h2,h3]
theorem OS.eq{a:Option Addr}(h:OS fns E a b)(hE:∀ a b,E a b->a=b):b=a:=by
 cases a with
 |none=>exact gU.1 h
 |some a=>obtain⟨b',rfl,g⟩:=dO.1 h;rw[AS.eq g hE]
theorem SR.eq{l:Nat}{a:Option Addr}(h:SR fns E l c a b)(hE:∀ a b,E a b->a=b):b=a:=h.elim (λx=>x.eq hE) λx=>x.2.2.symm
theorem VR.eqN(hE:∀ a b,E a b->a=b):∀ (n:Nat) (v v':Value),SizeOf.sizeOf v<n->VR fns E v v'->v'=v:=by
 intro n
 induction n with
 |zero=>intro v v' h;omega
 |succ n ih =>
  have arr:∀ x x':Array Value,(∀ i (h:i<x.size),SizeOf.sizeOf x[i]<n)->aV fns E x x'->x'=x :=
   λx x' h2 h3=>Array.ext h3.1.symm λi h h'=>ih _ _ (h2 i h') (h3.2 i h' h)
  intro v v' hn hv
  cases v with
  |pointer a=>obtain⟨b,rfl,h⟩:=aN.1 hv;rw[h.eq hE]
  |slice a l c=>obtain⟨b,rfl,h⟩:=aO.1 hv;rw[h.eq hE]
  |map r=>obtain⟨rfl,rfl⟩:=dZ.1 hv;rfl
  |chan r=>obtain⟨rfl,rfl⟩:=cZ.1 hv;rfl
  |func f x y =>
   obtain⟨f',x',y',rfl,h2,h3,h4⟩:=cu.1 hv
   rw[h2.eq hE,arr _ _ (λi h=>by have:=Array.sizeOf_getElem x i h;simp at hn;omega) h3,arr _ _ (λi h=>by have:=Array.sizeOf_getElem y i h;simp at hn;omega) h4]
  |iface t u=>obtain⟨u',rfl,h⟩:=bf.1 hv;rw[ih _ _ (by simp at hn;omega) h.1]
  |agg x=>obtain⟨x',rfl,h⟩:=bQ.1 hv;rw[arr _ _ (λi h=>by have:=Array.sizeOf_getElem x i h;simp at hn;omega) h]
  |tuple x=>obtain⟨x',rfl,h⟩:=bq.1 hv;rw[arr _ _ (λi h=>by have:=Array.sizeOf_getElem x i h;simp at hn;omega) h]
  |float=>exact(bV hv).elim
  |complex=>exact(bL hv).elim
  |_=>rw[VR] at hv;exact hv
theorem VR.eq{v:Value}(h:VR fns E v v')(hE:∀ a b,E a b->a=b):v'=v:=VR.eqN hE (SizeOf.sizeOf v+1) v v' (by omega) h
theorem aV.eq{x:Array Value}(h:aV fns E x x')(hE:∀ a b,E a b->a=b):x'=x:=Array.ext h.1.symm λi a b=>(h.2 i b a).eq hE
def scalar:Value->Bool
 | .bool _ | .int _ _ | .string _ | .pointer none | .slice none _ _ | .map none | .chan none | .nilFunc | .nilIface=>true
 |_=>false
def mD:Value->Bool
 | .agg x=>x.all scalar
 | .tuple x=>x.all scalar
 |v=>scalar v
theorem aH{v:Value}(h:scalar v=true):VR fns E v v:=by
 unfold scalar at h
 split at h<;>first|(simp[VR,OA];done)|(simp[VR,SR,OS];done)|cases h
theorem ny{x:Array Value}(h:x.all scalar=true):aV fns E x x :=
 ⟨rfl,λi a _=>aH (by rw[Array.all_eq_true] at h;exact h i a)⟩
theorem eX:aV fns E #[] #[]:=⟨rfl,λi h=>by simp at h⟩
theorem jL{v:Value}(h:mD v=true):VR fns E v v:=by
 unfold mD at h
 split at h
 .exact bQ.2 ⟨_,rfl,ny h⟩
 .exact bq.2 ⟨_,rfl,ny h⟩
 .exact aH h
theorem dR{v:Value}(h:VR fns E v v'):aV fns E #[v] #[v']:=⟨rfl,λi a b=>by
 have:i=0:=by simp at a;omega
 subst this;exact h⟩
theorem aV.append{x y y':Array Value}(h:aV fns E x x')(g:aV fns E y y'):aV fns E (x++y) (x'++y'):=by
 refine⟨by simp[h.1,g.1],λi a b=>?_⟩
 have hx:=h.1
 by_cases hi:i<x.size
 .rw[Array.getElem_append_left hi,Array.getElem_append_left (hx▸hi)]
  exact h.2 i hi (hx▸hi)
 .rw[Array.getElem_append_right (by omega),Array.getElem_append_right (by omega)]
  simp only[<-hx]
  exact g.2 _ _ _
theorem aV.push{x:Array Value}{v:Value}(h:aV fns E x x')(g:VR fns E v v'):aV fns E (x.push v) (x'.push v'):=by
 have:=h.append (dR g)
 simpa using this
theorem aV.get?{x:Array Value}(h:aV fns E x x')(i:Nat){v:Value}(hv:x[i]?=some v):∃ v',x'[i]?=some v'/\VR fns E v v':=by
 obtain⟨hi,rfl⟩:=Array.getElem?_eq_some_iff.1 hv
 exact⟨x'[i]'(h.1▸hi),Array.getElem?_eq_getElem _,h.2 i hi _⟩
theorem aV.none{x:Array Value}(h:aV fns E x x')(i:Nat)(hv:x[i]?=none):x'[i]?=none:=by
 rw[Array.getElem?_eq_none_iff] at hv ⊢;have:=h.1;omega
theorem aV.set{x:Array Value}(h:aV fns E x x')(i:Nat){v:Value}(hv:VR fns E v v'):aV fns E (x.setIfInBounds i v) (x'.setIfInBounds i v'):=by
 refine⟨by simp[h.1],λj a b=>?_⟩
 simp only[Array.size_setIfInBounds] at a b
 rw[Array.getElem_setIfInBounds,Array.getElem_setIfInBounds]
 split
 .exact hv
 .exact h.2 j a b
theorem aV.extract{x:Array Value}(h:aV fns E x x')(i j:Nat):aV fns E (x.extract i j) (x'.extract i j):=by
 refine⟨by simp[h.1],λk a b=>?_⟩
 simp only[Array.getElem_extract]
 exact h.2 _ _ _
theorem aV.rep{n:Nat}{v:Value}(h:VR fns E v v):aV fns E (Array.replicate n v) (Array.replicate n v):=⟨rfl,λi a b=>by simpa using h⟩
def O_(fns:Fx):Value->Bool
 | .iface t v=>scalar v&&fns.it t
 |v=>mD v
theorem X3{v:Value}(h:O_ fns v=true):VR fns E v v:=by
 cases v with
 |iface t u=>simp only[O_,Bool.and_eq_true] at h;exact bf.2 ⟨_,rfl,aH h.1,h.2⟩
 |_=>exact jL h
theorem lI{v:Value}(h:VR fns E v v'):aV fns E v.cells v'.cells:=by
 have h0:=h
 cases v with
 |agg x=>obtain⟨x',rfl,g⟩:=bQ.1 h;exact g
 |pointer a=>obtain⟨b,rfl,_⟩:=aN.1 h;exact dR h0
 |slice a l c=>obtain⟨b,rfl,_⟩:=aO.1 h;exact dR h0
 |map r=>obtain⟨rfl,rfl⟩:=dZ.1 h;exact dR h0
 |chan r=>obtain⟨rfl,rfl⟩:=cZ.1 h;exact dR h0
 |func f x y=>obtain⟨f',x',y',rfl,_⟩:=cu.1 h;exact dR h0
 |iface t u=>obtain⟨u',rfl,_⟩:=bf.1 h;exact dR h0
 |tuple x=>obtain⟨x',rfl,_⟩:=bq.1 h;exact dR h0
 |float=>exact(bV h).elim
 |complex=>exact(bL h).elim
 |_=>rw[VR] at h;subst h;exact dR h0
theorem iN:VR fns E (.tuple #[]) (.tuple #[]):=bq.2 ⟨_,rfl,eX⟩
def isInt(d:TypeDesc):Bool:=d matches .int _
def simple:TypeDesc->Bool
 | .int _ | .bool | .string=>true
 |_=>false
def qJ(P:Program)(t:TypeId)(y:Operand):Bool :=
 match y with
 | .const .nilIface=>true
 | .const (.slice none _ _)=>true
 |_=>match P.underlying t with
  |some d=>simple d
  |none=>true
def mE(P:Program)(fns:Fx)(t:TypeId):Bool:=match P.underlying t with
 |some (.struct fs)=>fs.all (λf=>match P.underlying f.type with
  |some d=>simple d
  |none=>true)&&!P.stoodInHeld t&&!(fns.re P).stoodInHeld t&&!P.eqGuardType P.depth t&&!(fns.re P).eqGuardType P.depth t
 |_=>false
def nilPtr(P:Program)(t:TypeId)(y:Operand):Bool:=match y with
 | .const (.pointer none)=>match P.underlying t with
   |some (.pointer _)=>true
   |_=>false
 |_=>false
def BH(P:Program)(fns:Fx)(t:TypeId)(y:Operand):Bool:=qJ P t y||mE P fns t||nilPtr P t y
def Tw(l:List Oper):List Nat:=l.filterMap λo=>match o.op with
 | .indexAddr _ _ _=>o.dst
 |_=>none
def X4(s:List Nat)(l:List Oper):List Nat:=l.filterMap λo=>match o.op with
 | .fieldAddr _ (.tmp t) _=>if s.contains t then o.dst else none
 |_=>none
def ae'(c:Code):List Nat:=Tw c.opers++X4 (Tw c.opers) c.opers++X4 (Tw c.opers++X4 (Tw c.opers) c.opers) c.opers
def o7(P:Program)(f:FuncId)(t:Nat):Bool:=match (P.funcs[f]?).bind (·.body) with
 |some c=>(ae' c).contains t
 |none=>false
def bP(fns:Fx)(ia:Nat->Bool):Operand->Bool
 | .tmp t=>fns.full||!ia t
 | .const v=>O_ fns v
 | .func f=>fns.ok f&&!fns.jf f
 | .global g=>fns.gl g
def Er(fns:Fx)(ia:Nat->Bool):Operand->Bool
 | .tmp _=>true
 |x=>bP fns ia x
def sj(P:Program)(fns:Fx)(t:TypeId):Bool:=match P.underlying t with
 |some (.slice e)=>fns.tys e
 |_=>true
def GX(P:Program)(src dst:TypeId):Bool :=
 match P.underlying src,P.underlying dst with
 |some (.int _),some (.int _)=>true
 |some (.slice e),some .string=>match P.underlying e with
  |some (.int .u8)=>true
  |_=>false
 |_,_=>false
def wM(ia:Nat->Bool):ResultVar->Bool
 | .tmp t=>!ia t
 | .cell _ _=>true
def X5(fns:Fx)(f:FuncId):Bool:=match fns.rf[f]? with
    |some fn=>fn.name != "runtime.NumGoroutine"&&fn.body.isSome
    |none=>false
def lJ(P:Program)(fns:Fx)(f:FuncId):Bool :=
 fns.ok f&&X5 fns f&&match P.funcs[f]? with
  |some fn=>fn.name != "runtime.NumGoroutine"&&fn.body.isSome&&fn.results.all (wM (o7 P f))
  |none=>false
def wP(P:Program)(fns:Fx)(f:FuncId)(n:Nat):Bool:=!fns.jf f||match P.funcs[f]? with
    |some fn=>fn.params.size==n
    |none=>false
def wQ(P:Program)(fns:Fx)(ia:Nat->Bool)(c:Call):Bool :=
 c.args.all (bP fns ia)&&match c.callee with
  | .builtin .len=>true
  | .builtin .copy=>true
  | .builtin .cap=>true
  | .builtin .max=>true
  | .builtin .min=>true
  | .builtin .clear=>match c.argTypes[0]? with
    |some t=>sj P fns t
    |none=>true
  | .builtin .append=>(match c.argTypes[0]? with
    |some t=>sj P fns t
    |none=>true)&&match c.argTypes[1]? with
    |some t=>match P.underlying t with
     |some d=>!isInt d
     |none=>true
    |none=>true
  | .value (.func f)=>lJ P fns f&&wP P fns f c.args.size
  | .value (.tmp t)=>fns.full||!ia t
  | .invoke r m=>bP fns ia r&&fns.me m
  |_=>false
def Es(P:Program)(t:TypeId):Bool:=match P.underlying t with
 |some (.interface _)=>false
 |_=>true
def gY(P:Program)(fns:Fx)(ia:Nat->Bool):Op->Bool
 | .move x | .assign x | .box _ x | .unOp _ _ x | .extract x _ | .nilCheck x=>bP fns ia x
 | .makeInterface t x=>bP fns ia x&&fns.it t
 | .pick c a b=>bP fns ia c&&bP fns ia a&&bP fns ia b
 | .alloc t=>fns.tys t
 | .build t ps=>fns.tys t&&ps.all λp=>bP fns ia p.2
 | .buildSlice t _ ps=>sj P fns t&&ps.all λp=>bP fns ia p.2
 | .load _ x=>Er fns ia x
 | .store _ a v=>Er fns ia a&&bP fns ia v
 | .makeSlice t a v=>sj P fns t&&bP fns ia a&&bP fns ia v
 | .binOp _ t x y _=>bP fns ia x&&bP fns ia y&&BH P fns t y
 | .convert s d x=>bP fns ia x&&GX P s d
 | .slice _ x lo hi mx=>bP fns ia x&&lo.all (bP fns ia)&&hi.all (bP fns ia)&&mx.all (bP fns ia)
 | .call c=>wQ P fns ia c
 | .index _ x i=>bP fns ia x&&bP fns ia i
 | .panic x=>bP fns ia x
 | .field _ x _=>bP fns ia x
 | .makeFunc fn a b=>mq fns fn&&a.all (bP fns ia)&&b.all (bP fns ia)
 | .typeAssert x _ t c=>bP fns ia x&&Es P t&&(!c||fns.tys t)
 |_=>false
def mF(P:Program)(fns:Fx)(ia:Nat->Bool)(o:Oper):Bool:=match o.op with
 | .indexAddr _ a v=>bP fns ia a&&bP fns ia v&&(fns.full||o.dst.all ia)
 | .fieldAddr _ x _=>bP fns ia x||(Er fns ia x&&o.dst.all ia)
 |op=>gY P fns ia op
def bT(P:Program)(fns:Fx)(ia:Nat->Bool):Code->Bool
 | .skip | .exit _ | .label _ | .goto _ | .ret=>true
 | .region _ ops _=>ops.all λo=>mF P fns ia o
 | .seq a b=>bT P fns ia a&&bT P fns ia b
 | .cond c a b=>bP fns ia c&&bT P fns ia a&&bT P fns ia b
 | .block _ b | .loop b | .scope b=>bT P fns ia b
 | .rangeFunc f _ a b=>fns.full&&bP fns ia f&&bT P fns ia a&&bT P fns ia b
 |_=>false
def Js(P:Program)(fns:Fx)(f:FuncId):Prop:=(∃ fn,P.funcs[f]?=some fn/\fn.results.all (wM (o7 P f))=true)/\fns.rf[f]?=P.funcs[f]?
def zX:Code->Bool
 | .ret | .exit _ | .goto _=>true
 |_=>false
def LoC(P:Program)(fns:Fx)(E:Nat->Nat->Prop)(r:Loop)(x:Array Value)(d:Nat):Prop :=
 (fns.full=false->x=r.tmps/\d=r.defers)/\(fns.full=true->aV fns E r.tmps x/\E r.defers d/\Js P fns r.fn/\bT P fns (o7 P r.fn) r.assign=true/\bT P fns (o7 P r.fn) r.body=true)
def BJ(P:Program)(fns:Fx)(E:Nat->Nat->Prop)(o o':Obj):Prop :=
 (∃ r x d,o=.loop r/\o'=.loop { r with tmps:=x,defers:=d }/\(∀ c,r.pending=some c->zX c=true)/\LoC P fns E r x d) \/
 ∃ d,(d=none\/d=some [])/\o=.deferred d/\o'=.deferred d
section
variable {P:Program} {fns:Fx} {E E':Nat->Nat->Prop} {o o':Obj}
theorem LoC.up{r:Loop}{x:Array Value}{d:Nat}(h:LoC P fns E r x d)(hE:∀ a b,E a b->E' a b):LoC P fns E' r x d:=⟨h.1,λu=>let ⟨a,b,c⟩:=h.2 u;⟨a.up hE,hE _ _ b,c⟩⟩
theorem LoC.eq{r:Loop}{x:Array Value}{d:Nat}(h:LoC P fns E r x d)(hE:∀ a b,E a b->a=b):x=r.tmps/\d=r.defers:=by
 cases hu:fns.full with
 |false=>exact h.1 hu
 |true=>obtain⟨a,b,_⟩:=h.2 hu;exact⟨a.eq hE,(hE _ _ b).symm⟩
theorem BJ.up(h:BJ P fns E o o')(hE:∀ a b,E a b->E' a b):BJ P fns E' o o':=h.imp (λ⟨r,x,d,h1,h2,h3,h4⟩=>⟨r,x,d,h1,h2,h3,h4.up hE⟩) id
theorem BJ.eq(h:BJ P fns E o o')(hE:∀ a b,E a b->a=b):o'=o:=by
 rcases h with ⟨r,x,d,rfl,rfl,_,h4⟩|⟨d,_,rfl,rfl⟩
 .obtain⟨rfl,rfl⟩:=h4.eq hE
  rfl
 .rfl
theorem BJ.two(h:BJ P fns E o o'):((∃ r,o=.loop r)/\∃ r,o'=.loop r)\/((∃ d,o=.deferred d)/\∃ d,o'=.deferred d):=by
 rcases h with ⟨r,x,d,rfl,rfl,_⟩|⟨d,_,rfl,rfl⟩
 .exact .inl ⟨⟨_,rfl⟩,_,rfl⟩
 .exact .inr ⟨⟨_,rfl⟩,_,rfl⟩
end
variable {a a':Addr} {c c':Array Value} {lo:Nat} {z:Prop}
structure CR(fns:Fx)(E:Nat->Nat->Prop)(z:Prop)(lo:Nat)(c c':Array Value):Prop where
 le:c.size<=c'.size
 eq:¬z->c'.size=c.size
 at_:∀ i (h:i<c.size) (h':i<c'.size),lo<=i->VR fns E c[i] c'[i]
theorem CR.up{fns:Fx}{E E':Nat->Nat->Prop}(h:CR fns E z lo c c')(hE:∀ a b,E a b->E' a b):CR fns E' z lo c c':=⟨h.le,h.eq,λi a b l=>(h.at_ i a b l).up hE⟩
theorem CR.of{fns:Fx}{E:Nat->Nat->Prop}(h:aV fns E c c'):CR fns E z lo c c':=⟨Nat.le_of_eq h.1,λ_=>h.1.symm,λi a b _=>h.2 i a b⟩
theorem CR.all{fns:Fx}{E:Nat->Nat->Prop}(h:CR fns E z lo c c')(hz:¬z)(hl:lo=0):aV fns E c c':=⟨(h.eq hz).symm,λi a b=>h.at_ i a b (by omega)⟩
theorem CR.get?{fns:Fx}{E:Nat->Nat->Prop}(h:CR fns E z lo c c'){i:Nat}(hl:lo<=i){v:Value}(hv:c[i]?=some v):∃ v',c'[i]?=some v'/\VR fns E v v':=by
 obtain⟨hi,rfl⟩:=Array.getElem?_eq_some_iff.1 hv
 have:=h.le
 exact⟨c'[i]'(by omega),Array.getElem?_eq_getElem _,h.at_ i hi _ hl⟩
def Tx(P:Program):Prop:=∀ (e:TypeId) (k off:Nat) (n:Int) (o:Nat),0<n->cellAtBytes P P.depth e k off n=some o->off<=o
structure WR(P:Program)(fns:Fx)(E:Nat->Nat->Prop)(Z:Nat->Prop)(gh re:World):Prop where
 iO:∀ a,Z a->a<gh.heap.size
 iY:(∀ a,¬Z a->fns.pt a=true)/\(fns.full=true->Tx P)
 jG:P.globals.size<gh.heap.size
 lK:P.globals.size<re.heap.size
 glob:∀ a b,E a b->(a<=P.globals.size\/b<=P.globals.size)->a=b
 inj:∀ a b a' b',E a b->E a' b'->(a=a'->b=b')/\(b=b'->fns.pn a->a=a')
 cells:∀ a b,E a b->(∃ c c' elem fr fr',gh.heap[a]?=some (.cells c elem fr)/\re.heap[b]?=some (.cells c' elem fr')/\CR fns E (Z a) (fns.lo a) c c'/\(¬Z a->fr'=fr)/\(Z a->∀ i,i<c.size->fr.1<=i/\i<fr.2)) \/
  (∃ x x' lost,gh.heap[a]?=some (.number x lost)/\re.heap[b]?=some (.number x' lost)/\AR fns E x x') \/
  ((fns.full=true->¬Z a)/\∃ o o',gh.heap[a]?=some o/\re.heap[b]?=some o'/\BJ P fns E o o')
def GY:Mark->Bool
 | .extern _ | .noRoom=>true
 |_=>false
def blk:Loc->Option Nat
 | .cell a=>some a.block
 | .obj r=>some r
 |_=>none
def qK(E:Nat->Nat->Prop)(Z:Nat->Prop)(e:Event):Prop :=
 (∃ b,blk e.loc=some b/\e.sync=false/\∃ a,E a b/\(e.write=true->¬Z a))\/(∃ m,e.loc=.mark m/\GY m=true)
def dead:Halt->Bool
 | .panic _ | .stuck _=>true
 | .unsupported (.initOrder _)=>false
 | .unsupported _=>true
 |_=>false
def Calm(w w':World):Prop:=∀ (b:Nat) (ds:List Deferred),w'.heap[b]?=some (Obj.deferred (some ds))->ds=[]\/w.heap[b]?=some (Obj.deferred (some ds))
theorem Calm.refl(w:World):Calm w w:=λ_ _ e=>.inr e
theorem Calm.push(w:World)(c:Array Value)(el:TypeId)(f:Nat × Nat):Calm w { w with heap:=w.heap.push (.cells c el f) }:=λb ds e=>.inr (by
 simp only[Array.getElem?_push] at e
 split at e
 .cases e
 .exact e)
theorem Calm.trans{w w' w'':World}(h:Calm w w')(k:Calm w' w''):Calm w w'':=λb ds e=>(k b ds e).elim .inl (h b ds)
structure Out(P:Program)(fns:Fx)(E E':Nat->Nat->Prop)(Z:Nat->Prop)(gh re f_ re':World):Prop where
 up:∀ a b,E a b->E' a b
 wr:WR P fns E' Z f_ re'
 fresh:∀ a b,E' a b->E a b\/(gh.heap.size<=a/\re.heap.size<=b)
 Et:gh.heap.size<=f_.heap.size
 rsize:re.heap.size<=re'.heap.size
 o9:f_.tape=gh.tape
 wR:re'.tape=re.tape
 wS:gh.drawn<=f_.drawn
 Eu:re'.drawn=re.drawn+(f_.drawn-gh.drawn)
 gos:f_.os=gh.os
 X6:f_.output=gh.output
 os:re'.os=re.os
 output:re'.output=re.output
 keep:∀ b,b<re.heap.size->(∀ a,E a b->Z a)->re'.heap[b]?=re.heap[b]?
 Ev:∀ a,a<gh.heap.size->(∀ b,E a b->Z a)->f_.heap[a]?=gh.heap[a]?
 sizes:f_.heap.size+re.heap.size=re'.heap.size+gh.heap.size
 news:∀ i,gh.heap.size+i<f_.heap.size->E' (gh.heap.size+i) (re.heap.size+i)
variable {P:Program} {fns:Fx} {E E' BK:Nat->Nat->Prop} {Z:Nat->Prop} {gh re f_ re' GZ Ew:World}
theorem Out.refl(h:WR P fns E Z gh re):Out P fns E E Z gh re gh re :=
 ⟨λ_ _ x=>x,h,λ_ _ x=>.inl x,Nat.le_refl _,Nat.le_refl _,rfl,rfl,Nat.le_refl _,by simp,rfl,rfl,rfl,rfl,λ_ _ _=>rfl,λ_ _ _=>rfl,Nat.add_comm _ _,λi hi=>by omega⟩
theorem Out.trans(h:Out P fns E E' Z gh re f_ re')(k:Out P fns E' BK Z f_ re' GZ Ew):Out P fns E BK Z gh re GZ Ew:=by
 refine⟨λa b x=>k.up a b (h.up a b x),k.wr,λa b x=>?_,Nat.le_trans h.Et k.Et,Nat.le_trans h.rsize k.rsize,k.o9.trans h.o9,k.wR.trans h.wR,Nat.le_trans h.wS k.wS,?_,k.gos.trans h.gos,k.X6.trans h.X6,k.os.trans h.os,k.output.trans h.output,λb hb hz=>?_,λa ha hz=>?_,?_,λi hi=>?_⟩
 .rcases k.fresh a b x with x|⟨x,y⟩
  .exact h.fresh a b x
  .exact .inr ⟨Nat.le_trans h.Et x,Nat.le_trans h.rsize y⟩
 .have:=k.Eu;have:=h.Eu;have:=h.wS;have:=k.wS;omega
 .rw[k.keep b (Nat.lt_of_lt_of_le hb h.rsize) λa x=>?_,h.keep b hb hz]
  rcases h.fresh a b x with x|⟨_,y⟩
  .exact hz a x
  .omega
 .rw[k.Ev a (Nat.lt_of_lt_of_le ha h.Et) λb x=>?_,h.Ev a ha hz]
  rcases h.fresh a b x with x|⟨y,_⟩
  .exact hz b x
  .omega
 .have:=h.sizes;have:=k.sizes;omega
 .by_cases hlt:gh.heap.size+i<f_.heap.size
  .exact k.up _ _ (h.news i hlt)
  .have s1:=h.sizes
   have s2:=h.Et
   have:=k.news (gh.heap.size+i-f_.heap.size) (by omega)
   have e1:f_.heap.size+(gh.heap.size+i-f_.heap.size)=gh.heap.size+i:=by omega
   have e2:re'.heap.size+(gh.heap.size+i-f_.heap.size)=re.heap.size+i:=by omega
   rwa [e1,e2] at this
theorem Out.calm(h:Out P fns E E' Z gh re f_ re'):Calm gh f_:=by
 intro b ds e
 have kind:∀ y,E' b y->ds=[]:=λy hy=>by
  rcases h.wr.cells _ _ hy with ⟨_,_,_,_,_,k1,_⟩|⟨_,_,_,k1,_⟩|⟨_,o,o',k1,_,k3⟩
  .rw[k1] at e;cases e
  .rw[k1] at e;cases e
  .rw[k1] at e
   cases e
   rcases k3 with ⟨r,x,d,k4,_⟩|⟨d,k4,k5,_⟩
   .cases k4
   .cases k5
    rcases k4 with k4|k4<;>cases k4
    rfl
 have hlt:b<f_.heap.size:=(Array.getElem?_eq_some_iff.1 e).1
 by_cases hb:b<gh.heap.size
 .by_cases hx:∃ y,E b y/\¬Z b
  .obtain⟨y,hy,_⟩:=hx
   exact .inl (kind y (h.up _ _ hy))
  .rw[h.Ev b hb λy hy=>Classical.byContradiction λhz=>hx ⟨y,hy,hz⟩] at e
   exact .inr e
 .have:=h.news (b-gh.heap.size) (by omega)
  have e1:gh.heap.size+(b-gh.heap.size)=b:=by omega
  rw[e1] at this
  exact .inl (kind _ this)
theorem qK.up{e:Event}(h:qK E Z e)(hE:∀ a b,E a b->E' a b):qK E' Z e:=by
 rcases h with ⟨b,h1,h2,a,h3,h4⟩|h
 .exact .inl ⟨b,h1,h2,a,hE _ _ h3,h4⟩
 .exact .inr h
def Same(gh f_ re:World):Prop:=∀ j,gh.drawn+j<f_.drawn->re.tape (re.drawn+j)=gh.tape (gh.drawn+j)
def au(P:Program)(fns:Fx)(Z:Nat->Prop)(E:Nat->Nat->Prop){α β:Type}(s:Sem α)(s':Sem β)(Φ:(Nat->Nat->Prop)->α->β->Prop):Prop :=
 ∀ gh re,WR P fns E Z gh re->match s.run P gh with
   | .halt h w=>dead h=true/\Calm gh w
   | .ok a f_=>Same gh f_ re->∃ E' b re',s'.run (fns.re P) re=.ok b re'/\Out P fns E E' Z gh re f_ re'/\Φ E' a b/\∀ es,∀ e∈s'.events (fns.re P) re es,e∈es\/qK E' Z e
section
variable {α β γ δ:Type}
theorem au.pure{a:α}{b:β}{Φ:(Nat->Nat->Prop)->α->β->Prop}(h:Φ E a b):au P fns Z E (Pure.pure a) (Pure.pure b) Φ:=by
 intro gh re hw
 simp only[Sem.run_pure]
 exact λ_=>⟨E,b,re,rfl,Out.refl hw,h,λes e he=>.inl (by simpa using he)⟩
theorem au.dead{h:Halt}(hd:dead h=true){s':Sem β}{Φ:(Nat->Nat->Prop)->α->β->Prop}:au P fns Z E (Sem.halt h) s' Φ:=by
 intro gh re hw
 exact⟨hd,Calm.refl _⟩
theorem au.stuck{why:String}{s':Sem β}{Φ:(Nat->Nat->Prop)->α->β->Prop}:au P fns Z E (Go.stuck why) s' Φ:=au.dead rfl
theorem au.mono{s:Sem α}{s':Sem β}{Φ Ψ:(Nat->Nat->Prop)->α->β->Prop}(h:au P fns Z E s s' Φ)(hm:∀ E' a b,(∀ a b,E a b->E' a b)->Φ E' a b->Ψ E' a b):au P fns Z E s s' Ψ:=by
 intro gh re hw
 have:=h gh re hw
 revert this
 cases s.run P gh with
 |halt h w=>exact id
 |ok a f_ =>
  intro h hs
  obtain⟨E',b,re',h1,h2,h3,h4⟩:=h hs
  exact⟨E',b,re',h1,h2,hm _ _ _ h2.up h3,h4⟩
theorem au.bind{s:Sem α}{s':Sem β}{f:α->Sem γ}{f':β->Sem δ}{Φ:(Nat->Nat->Prop)->α->β->Prop}{Ψ:(Nat->Nat->Prop)->γ->δ->Prop}
 (h:au P fns Z E s s' Φ) (hf:∀ E' a b,(∀ a b,E a b->E' a b)->Φ E' a b->au P fns Z E' (f a) (f' b) Ψ):au P fns Z E (s >>= f) (s' >>= f') Ψ:=by
 intro gh re hw
 have hh:=h gh re hw
 rw[Sem.run_bind]
 revert hh
 cases hs:s.run P gh with
 |halt h w=>exact id
 |ok a f_ =>
  intro h1
  simp only[Result.andThen_ok]
  -- the second part runs from f_
  cases hr:(f a).run P f_ with
  |halt hh ww =>
   -- it halts: whatever the real tape is: take one that agrees
   have h0:=h gh { re with tape:=λi=>gh.tape (gh.drawn+(i-re.drawn)) } ⟨hw.iO,hw.iY,hw.jG,hw.lK,hw.glob,hw.inj,hw.cells⟩
   rw[hs] at h0
   obtain⟨E',b,re',e1,e2,e3,e4⟩:=h0 (λj _=>by simp)
   have:=hf E' a b e2.up e3 f_ re' e2.wr
   rw[hr] at this
   exact⟨this.1,e2.calm.trans this.2⟩
  |ok c GZ =>
   intro same
   have mono:f_.drawn<=GZ.drawn/\f_.tape=gh.tape/\gh.drawn<=f_.drawn:=by
    have h0:=h gh { re with tape:=λi=>gh.tape (gh.drawn+(i-re.drawn)) } ⟨hw.iO,hw.iY,hw.jG,hw.lK,hw.glob,hw.inj,hw.cells⟩
    rw[hs] at h0
    obtain⟨E',b,re',e1,e2,e3,e4⟩:=h0 (λj _=>by simp)
    have h2:=hf E' a b e2.up e3 f_ { re' with tape:=λi=>f_.tape (f_.drawn+(i-re'.drawn)) } ⟨e2.wr.iO,e2.wr.iY,e2.wr.jG,e2.wr.lK,e2.wr.glob,e2.wr.inj,e2.wr.cells⟩
    rw[hr] at h2
    obtain⟨BK,b2,Ew,k1,k2,k3,k4⟩:=h2 (λj _=>by simp)
    exact⟨k2.wS,e2.o9,e2.wS⟩
   obtain⟨E',b,re',e1,e2,e3,e4⟩:=h1 (λj hj=>same j (by omega))
   have h2:=hf E' a b e2.up e3 f_ re' e2.wr
   rw[hr] at h2
   obtain⟨BK,b2,Ew,k1,k2,k3,k4⟩:=h2 (λj hj=>by
    rw[e2.wR,e2.Eu,e2.o9]
    have:=same (f_.drawn-gh.drawn+j) (by omega)
    have e:gh.drawn+(f_.drawn-gh.drawn+j)=f_.drawn+j:=by omega
    rw[e] at this
    rw[<-this]
    congr 1
    omega)
   refine⟨BK,b2,Ew,?_,e2.trans k2,k3,λes e he=>?_⟩
   .rw[Sem.run_bind,e1];simpa using k1
   .rw[Sem.events_bind,e1] at he
    simp only[Result.evThen_ok] at he
    rcases k4 _ _ he with he|he
    .exact(e4 _ _ he).imp id λx=>x.up k2.up
    .exact .inr he
theorem au.program:au P fns Z E program program (λ_ p q=>p=P/\q=fns.re P):=by
 intro gh re hw
 exact λ_=>⟨E,fns.re P,re,rfl,Out.refl hw,⟨rfl,rfl⟩,λes e he=>.inl (by simpa [Go.program,Sem.events,Sem.runT] using he)⟩
theorem au.mark{m:Mark}(hb:GY m=true):au P fns Z E (mark m) (mark m) (λ_ _ _=>True):=by
 intro gh re hw
 refine λ_=>⟨E,(),re,rfl,Out.refl hw,trivial,λes e he=>?_⟩
 simp only[Go.mark,Sem.events,Sem.runT,Array.mem_push] at he
 rcases he with he|rfl
 .exact .inl he
 .exact .inr (.inr ⟨m,rfl,hb⟩)
theorem au.askRoom(n:Nat):au P fns Z E (askRoom n) (askRoom n) (λ_ _ _=>True):=by
 unfold Go.askRoom
 split
 .exact au.mark rfl
 .exact au.pure trivial
theorem WR.cell(h:WR P fns E Z gh re)(ha:AS fns E a a'){v:Value}(hv:gh.cell? a=some v):∃ v',re.cell? a'=some v'/\VR fns E v v':=by
 rcases h.cells _ _ ha.1 with ⟨c,c',elem,fr,fr',h1,h2,h3,_,_⟩|⟨x,x',l,h1,_⟩|⟨_,o,o',h1,_,h3⟩
 .simp only[World.cell?,h1,h2,<-ha.2.2.1,<-ha.2.1] at hv ⊢
  split at hv
  .cases hv
  .rename_i hs
   simp only[hs]
   exact h3.get? ha.2.2.2 hv
 .simp[World.cell?,h1] at hv
 .rcases h3.two with ⟨⟨r,rfl⟩,_⟩|⟨⟨r,rfl⟩,_⟩<;>simp[World.cell?,h1] at hv
theorem WR.far(h:WR P fns E Z gh re)(ha:AS fns E a a')(b:Bool):∃ s,gh.farLoad P a b=.error (.stuck s):=by
 rcases h.cells _ _ ha.1 with ⟨c,c',elem,fr,fr',h1,_⟩|⟨x,x',l,h1,_⟩|⟨_,o,o',h1,_,h3⟩
 rotate_left 2
 .rcases h3.two with ⟨⟨r,rfl⟩,_⟩|⟨⟨r,rfl⟩,_⟩<;>exact⟨_,by simp only[World.farLoad,World.noCell,h1];rfl⟩
 all_goals exact⟨_,by simp only[World.farLoad,World.noCell,h1];rfl⟩
theorem WR.afb(h:WR P fns E Z gh re)(ha:AS fns E a a')(v:Value)(b:Bool):∃ s,gh.farStore P a v b=.error (.stuck s):=by
 rcases h.cells _ _ ha.1 with ⟨c,c',elem,fr,fr',h1,_⟩|⟨x,x',l,h1,_⟩|⟨_,o,o',h1,_,h3⟩
 rotate_left 2
 .rcases h3.two with ⟨⟨r,rfl⟩,_⟩|⟨⟨r,rfl⟩,_⟩<;>exact⟨_,by simp only[World.farStore,World.noCell,h1];rfl⟩
 all_goals exact⟨_,by simp only[World.farStore,World.noCell,h1];rfl⟩
theorem au.load(ha:AS fns E a a'):au P fns Z E (load a) (load a') (λE' v v'=>VR fns E' v v'):=by
 intro gh re hw
 rw[run_load]
 cases hc:gh.cell? a with
 |none =>
  obtain⟨s,hs⟩:=hw.far (P:=P) ha (Mode.plain==.atomic)
  simp only[hs];exact⟨rfl,Calm.refl _⟩
 |some v =>
  obtain⟨v',h1,h2⟩:=hw.cell ha hc
  refine λ_=>⟨E,v',re,by rw[run_load,h1],Out.refl hw,h2,λes e he=>?_⟩
  rw[events_load,h1] at he
  simp only[Array.mem_push] at he
  rcases he with he|rfl
  .exact .inl he
  .exact .inr (.inl ⟨a'.block,rfl,rfl,a.block,ha.1,λx=>by cases x⟩)
theorem au.choose{q:Question}:au P fns Z E (choose q) (choose q) (λ_ n n'=>n'=n):=by
 intro gh re hw
 by_cases hf:q.forced=true
 .rw[run_choose,if_pos hf]
  refine λ_=>⟨E,0,re,by rw[run_choose,if_pos hf],Out.refl hw,rfl,λes e he=>.inl ?_⟩
  simp only[Go.choose,Sem.events,Sem.runT,if_pos hf] at he
  exact he
 .rw[run_choose,if_neg hf]
  intro same
  refine⟨E,q.cut (re.tape re.drawn q),{ re with drawn:=re.drawn+1 },by rw[run_choose,if_neg hf],?_,?_,λes e he=>.inl ?_⟩
  .exact⟨λ_ _ x=>x,⟨hw.iO,hw.iY,hw.jG,hw.lK,hw.glob,hw.inj,hw.cells⟩,λ_ _ x=>.inl x,Nat.le_refl _,Nat.le_refl _,rfl,rfl,by simp,by simp,rfl,rfl,rfl,rfl,λ_ _ _=>rfl,λ_ _ _=>rfl,Nat.add_comm _ _,λi hi=>by simp at hi;omega⟩
  .have:=same 0 (by simp)
   simp only[Nat.add_zero] at this
   rw[this]
  .simp only[Go.choose,Sem.events,Sem.runT,if_neg hf] at he
   exact he
end
variable {a a':Addr} {b:Nat} {o:Obj} {v':Value}
variable {P:Program} {fns:Fx} {E E' BK:Nat->Nat->Prop} {Z:Nat->Prop} {gh re f_ re' GZ Ew:World}
theorem heap_setCell{w:World}{v:Value}{c:Array Value}{elem:TypeId}{fr:Nat × Nat}(h:w.heap[a.block]?=some (.cells c elem fr))(hs:a.spot.isSome=false)(b:Nat) :
 (w.setCell a v).heap[b]?=if b=a.block then some (.cells (c.setIfInBounds a.off v) elem fr) else w.heap[b]?:=by
 unfold World.setCell
 simp only[Array.getElem?_modify]
 by_cases hb:a.block=b
 .subst hb;simp[h,hs]
 .have:b≠a.block:=λe=>hb e.symm
  simp[hb,this]
theorem au.store{v:Value}(ha:AS fns E a a')(hv:VR fns E v v'):au P fns Z E (store a v) (store a' v') (λ_ _ _=>True):=by
 intro gh re hw
 by_cases ho:v.oneCell'=true
 .have ho':v'.oneCell'=true:=by
   cases v with
   |pointer a=>obtain⟨b,rfl,_⟩:=aN.1 hv;rfl
   |slice a l c=>obtain⟨b,rfl,_⟩:=aO.1 hv;rfl
   |map r=>obtain⟨rfl,rfl⟩:=dZ.1 hv;rfl
   |chan r=>obtain⟨rfl,rfl⟩:=cZ.1 hv;rfl
   |func f x y=>obtain⟨f',x',y',rfl,_⟩:=cu.1 hv;rfl
   |iface t u=>obtain⟨u',rfl,_⟩:=bf.1 hv;rfl
   |agg x=>cases ho
   |tuple x=>cases ho
   |float=>exact(bV hv).elim
   |complex=>exact(bL hv).elim
   |_=>rw[VR] at hv;subst hv;rfl
  rw[run_store P gh a v _ ho]
  cases hc:gh.cell? a with
  |none =>
   obtain⟨s,hs⟩:=hw.afb (P:=P) ha v (Mode.plain==.atomic)
   simp only[hs];exact⟨rfl,Calm.refl _⟩
  |some u =>
   obtain⟨u',h1,h2⟩:=hw.cell ha hc
   obtain⟨c,c',elem,fr,fr',k1,k2,k3,k4,k5⟩:∃ c c' elem fr fr',gh.heap[a.block]?=some (.cells c elem fr)/\re.heap[a'.block]?=some (.cells c' elem fr')/\CR fns E (Z a.block) (fns.lo a.block) c c'/\(¬Z a.block->fr'=fr)/\(Z a.block->∀ i,i<c.size->fr.1<=i/\i<fr.2):=by
    rcases hw.cells _ _ ha.1 with h|⟨x,x',l,h1,_⟩|⟨_,o,o',h1,_,h3⟩
    .exact h
    .simp[World.cell?,h1] at hc
    .rcases h3.two with ⟨⟨r,rfl⟩,_⟩|⟨⟨r,rfl⟩,_⟩<;>simp[World.cell?,h1] at hc
   have hsp:a.spot.isSome=false:=by
    cases hsp:a.spot.isSome with
    |false=>rfl
    |true=>simp[World.cell?,k1,hsp] at hc
   have hoff:a.off<c.size:=by
    simp only[World.cell?,k1,hsp] at hc
    exact(Array.getElem?_eq_some_iff.1 hc).1
   by_cases hfz:gh.frozen? a=true
   .simp only[hfz];exact⟨rfl,Calm.refl _⟩
   .have hnz:¬Z a.block:=λhz=>hfz (by simp[World.frozen?,k1,k5 hz a.off hoff])
    have afc:a'.spot.isSome=false:=by rw[<-ha.2.2.1];exact hsp
    have hfz':re.frozen? a'=false:=by
     have:gh.frozen? a=re.frozen? a':=by simp only[World.frozen?,k1,k2,k4 hnz,ha.2.1]
     rw[<-this];simpa using hfz
    simp only[hfz]
    intro _
    have g1:=heap_setCell (v:=v) k1 hsp
    have g2:=heap_setCell (v:=v') k2 afc
    have ra:aV fns E (c.setIfInBounds a.off v) (c'.setIfInBounds a'.off v'):=by rw[<-ha.2.1];exact(k3.all hnz (fns.pl _ (hw.iY.1 _ hnz))).set _ hv
    refine⟨E,(),re.setCell a' v',by rw[run_store (fns.re P) re a' v' _ ho',h1];simp[hfz'],⟨λ_ _ x=>x,⟨λx hx=>by simpa [World.setCell] using hw.iO x hx,hw.iY,by simpa [World.setCell] using hw.jG,by simpa [World.setCell] using hw.lK,hw.glob,hw.inj,λx y hxy=>?_⟩,λ_ _ x=>.inl x,by simp[World.setCell],by simp[World.setCell],rfl,rfl,Nat.le_refl _,by simp[World.setCell],rfl,rfl,rfl,rfl,λb _ hz=>?_,λb _ hz=>?_,by simp[World.setCell,Nat.add_comm],λi hi=>by simp[World.setCell] at hi;omega⟩,trivial,λes e he=>?_⟩
    .rw[g1,g2]
     by_cases hx:x=a.block
     .have hy:y=a'.block:=(hw.inj _ _ _ _ hxy ha.1).1 hx
      subst hx;subst hy
      rw[if_pos rfl,if_pos rfl]
      exact .inl ⟨_,_,elem,fr,fr',rfl,rfl,CR.of ra,k4,λhz i hi=>k5 hz i (by simpa using hi)⟩
     .have hy:y≠a'.block:=λe=>hx ((hw.inj _ _ _ _ ha.1 hxy).2 e.symm (.inr (hw.iY.1 _ hnz))).symm
      rw[if_neg hx,if_neg hy]
      exact hw.cells _ _ hxy
    .rw[g2,if_neg]
     intro e
     exact hnz (hz a.block (e▸ha.1))
    .rw[g1,if_neg]
     intro e
     subst e
     exact hnz (hz a'.block ha.1)
    .rw[events_store _ _ _ _ _ _ ho',h1] at he
     simp only[hfz',Bool.false_eq_true,if_false,Array.mem_push] at he
     rcases he with he|rfl
     .exact .inl he
     .exact .inr (.inl ⟨a'.block,rfl,rfl,a.block,ha.1,λ_=>hnz⟩)
 .have:∃ s,(Go.store a v).run P gh=.halt (.stuck s) gh:=by
   cases v with
   |agg x=>exact⟨_,rfl⟩
   |tuple x=>exact⟨_,rfl⟩
   |_=>exact absurd rfl ho
  obtain⟨s,hs⟩:=this
  rw[hs];exact⟨rfl,Calm.refl _⟩
theorem lt_of_heap{w:World}(h:w.heap[b]?=some o):b<w.heap.size:=(Array.getElem?_eq_some_iff.1 h).1
theorem WR.lt(hw:WR P fns E Z gh re){a:Nat}(x:E a b):a<gh.heap.size/\b<re.heap.size:=by
 rcases hw.cells _ _ x with ⟨_,_,_,_,_,k1,k2,_⟩|⟨_,_,_,k1,k2,_⟩|⟨_,_,_,k1,k2,_⟩<;>exact⟨lt_of_heap k1,lt_of_heap k2⟩
theorem Out.new(hw:WR P fns E Z gh re){o':Obj} (ho:∀ jT:Nat->Nat->Prop,(∀ a b,E a b->jT a b) ->
 (∃ c c' elem fr,o=.cells c elem fr/\o'=.cells c' elem fr/\aV fns jT c c')\/(∃ x x' lost,o=.number x lost/\o'=.number x' lost/\AR fns jT x x')\/BJ P fns jT o o') :
 Out P fns E (λa b=>E a b\/(a=gh.heap.size/\b=re.heap.size)) Z gh re { gh with heap:=gh.heap.push o } { re with heap:=re.heap.push o' }:=by
 have g1:∀ b,b<gh.heap.size->(gh.heap.push o)[b]?=gh.heap[b]?:=λb hb=>by rw[Array.getElem?_push_lt hb,Array.getElem?_eq_getElem hb]
 have g2:∀ b,b<re.heap.size->(re.heap.push o')[b]?=re.heap[b]?:=λb hb=>by rw[Array.getElem?_push_lt hb,Array.getElem?_eq_getElem hb]
 have up:∀ a b,E a b->(E a b\/(a=gh.heap.size/\b=re.heap.size)):=λa b x=>.inl x
 have b1:=hw.jG
 have b2:=hw.lK
 refine⟨up,⟨λa ha=>?_,hw.iY,by simp;omega,by simp;omega,λa b x y=>?_,λa b a' b' x y=>?_,λa b x=>?_⟩,λa b x=>?_,by simp,by simp,rfl,rfl,Nat.le_refl _,by simp,rfl,rfl,rfl,rfl,λb hb _=>g2 b hb,λa ha _=>g1 a ha,by simp;omega,λi hi=>?_⟩
 .have:=hw.iO a ha;simp;omega
 .rcases x with x|⟨rfl,rfl⟩
  .exact hw.glob _ _ x y
  .omega
 .rcases x with x|⟨rfl,rfl⟩<;>rcases y with y|⟨rfl,rfl⟩
  .exact hw.inj _ _ _ _ x y
  .have:=hw.lt x;exact⟨λe=>by omega,λe=>by omega⟩
  .have:=hw.lt y;exact⟨λe=>by omega,λe=>by omega⟩
  .exact⟨λ_=>rfl,λ_ _=>rfl⟩
 .rcases x with x|⟨rfl,rfl⟩
  .have hl:=hw.lt x
   rcases hw.cells _ _ x with ⟨d,d',el,fr,fr',k1,k2,k3,k4,k5⟩|⟨x,x',l,k1,k2,k3⟩|⟨hz,o,o',k1,k2,k3⟩
   .exact .inl ⟨d,d',el,fr,fr',by rw[g1 _ hl.1];exact k1,by rw[g2 _ hl.2];exact k2,k3.up up,k4,k5⟩
   .exact .inr (.inl ⟨x,x',l,by rw[g1 _ hl.1];exact k1,by rw[g2 _ hl.2];exact k2,k3.up up⟩)
   .exact .inr (.inr ⟨hz,o,o',by rw[g1 _ hl.1];exact k1,by rw[g2 _ hl.2];exact k2,k3.up up⟩)
  .rcases ho _ up with ⟨c,c',elem,fr,rfl,rfl,hc⟩|⟨x,x',l,rfl,rfl,hx⟩|hx
   .exact .inl ⟨c,c',elem,fr,fr,by simp,by simp,CR.of hc,λ_=>rfl,λhz=>absurd (hw.iO _ hz) (Nat.lt_irrefl _)⟩
   .exact .inr (.inl ⟨x,x',l,by simp,by simp,hx⟩)
   .exact .inr (.inr ⟨λ_ hz=>absurd (hw.iO _ hz) (Nat.lt_irrefl _),o,o',by simp,by simp,hx⟩)
 .rcases x with x|⟨rfl,rfl⟩
  .exact .inl x
  .exact .inr ⟨Nat.le_refl _,Nat.le_refl _⟩
 .simp only[Array.size_push] at hi
  have:i=0:=by omega
  subst this
  exact .inr ⟨rfl,rfl⟩
theorem au.newObj{o':Obj} (ho:∀ jT:Nat->Nat->Prop,(∀ a b,E a b->jT a b) ->
 (∃ c c' elem fr,o=.cells c elem fr/\o'=.cells c' elem fr/\aV fns jT c c')\/(∃ x x' lost,o=.number x lost/\o'=.number x' lost/\AR fns jT x x')\/BJ P fns jT o o') :
 au P fns Z E (newObj o) (newObj o') (λE' r r'=>E' r r'/\fns.pt r=true):=by
 intro gh re hw
 show Same gh { gh with heap:=gh.heap.push o } re->_
 intro _
 exact⟨_,re.heap.size,_,rfl,Out.new hw ho,⟨.inr ⟨rfl,rfl⟩,hw.iY.1 _ λhz=>Nat.lt_irrefl _ (hw.iO _ hz)⟩,λes e he=>.inl (by simpa [Go.newObj,Sem.events,Sem.runT] using he)⟩
theorem au.newRow{elem:TypeId}{c c':Array Value}(hc:aV fns E c c'):au P fns Z E (newRow elem c) (newRow elem c') (λE' a a'=>AR fns E' a a'):=by
 unfold Go.newRow
 exact au.bind (au.newObj λjT up=>.inl ⟨c,c',elem,_,rfl,rfl,hc.up up⟩) λE' r r' up h=>au.pure ⟨h.1,rfl,rfl,fns.Jq h.2 _⟩
def ShR(s s':Option (TypeId × Nat)):Prop:=(s=none/\s'=none)\/∃ e n n',s=some (e,n)/\s'=some (e,n')/\n<=n'
theorem ShR.isSome{s s':Option (TypeId × Nat)}(h:ShR s s'):s'.isSome=s.isSome:=by
 rcases h with ⟨rfl,rfl⟩|⟨e,n,n',rfl,rfl,_⟩<;>rfl
theorem WR.shape(hw:WR P fns E Z gh re){a:Nat}(x:E a b):ShR (gh.shape? a) (re.shape? b):=by
 rcases hw.cells _ _ x with ⟨c,c',el,fr,fr',k1,k2,k3,_⟩|⟨x,x',l,k1,k2,_⟩|⟨_,o,o',k1,k2,k3⟩
 rotate_left 2
 .rcases k3.two with ⟨⟨r,rfl⟩,r',rfl⟩|⟨⟨r,rfl⟩,r',rfl⟩<;>exact .inl ⟨by simp only[World.shape?,k1],by simp only[World.shape?,k2]⟩
 .exact .inr ⟨el,c.size,c'.size,by simp only[World.shape?,k1],by simp only[World.shape?,k2],k3.le⟩
 .exact .inl ⟨by simp only[World.shape?,k1],by simp only[World.shape?,k2]⟩
theorem au.shape{a:Nat}(x:E a b):au P fns Z E (Go.shape a) (Go.shape b) (λ_ s s'=>ShR s s'):=by
 intro gh re hw
 show Same gh gh re->_
 exact λ_=>⟨E,_,re,rfl,Out.refl hw,hw.shape x,λes e he=>.inl (by simpa [Go.shape,Sem.events,Sem.runT] using he)⟩
theorem au.newVar{t:TypeId}{v:Value}(hv:VR fns E v v'):au P fns Z E (newVar t v) (newVar t v') (λE' a a'=>AR fns E' a a'):=au.newRow (lI hv)
theorem au.typeInfo(t:TypeId):au P fns Z E (typeInfo t) (typeInfo t) (λ_ i i'=>i'=i/\P.info? t=some i):=by
 unfold Go.typeInfo
 refine au.bind au.program (λE' p q _ h=>?_)
 obtain⟨rfl,rfl⟩:=h
 rw[show (fns.re p).info? t=p.info? t from rfl]
 split
 .rename_i i hi;exact au.pure ⟨rfl,hi⟩
 .exact au.stuck
theorem au.underlying(t:TypeId):au P fns Z E (underlying t) (underlying t) (λ_ i i'=>i'=i/\P.underlying t=some i):=by
 unfold Go.underlying
 refine au.bind au.program (λE' p q _ h=>?_)
 obtain⟨rfl,rfl⟩:=h
 rw[show (fns.re p).underlying t=p.underlying t from rfl]
 split
 .rename_i i hi;exact au.pure ⟨rfl,hi⟩
 .exact au.stuck
theorem au.sizeOf(t:TypeId):au P fns Z E (Go.sizeOf t) (Go.sizeOf t) (λ_ i i'=>i'=i):=by
 unfold Go.sizeOf
 exact au.bind (au.typeInfo t) (λE' p q _ h=>au.pure (by rw[h.1]))
theorem au.isAgg(t:TypeId):au P fns Z E (isAgg t) (isAgg t) (λ_ i i'=>i'=i):=by
 unfold Go.isAgg
 refine au.bind (au.underlying t) (λE' p q _ h=>?_)
 obtain⟨rfl,_⟩:=h
 split<;>exact au.pure rfl
def zeros(P:Program)(fns:Fx):Prop:=∀ t i v,fns.tys t=true->P.info? t=some i->i.zero=some v->mD v=true
theorem au.zeroValue(hz:zeros P fns)(t:TypeId)(ht:fns.tys t=true):au P fns Z E (zeroValue t) (zeroValue t) (λ_ v v'=>v'=v/\mD v=true):=by
 unfold Go.zeroValue
 refine au.bind (au.typeInfo t) (λE' p q _ h=>?_)
 obtain⟨rfl,hi⟩:=h
 split
 .rename_i v hv;exact au.pure ⟨rfl,hz _ _ _ ht hi hv⟩
 .exact au.dead rfl
theorem au.loadCellsFrom:∀ (n i:Nat) {E:Nat->Nat->Prop} {a a':Addr} {acc acc':Array Value},AS fns E a a'->aV fns E acc acc'->au P fns Z E (loadCellsFrom a i n acc) (loadCellsFrom a' i n acc') (λE' x x'=>aV fns E' x x')
 |0,i,E,a,a',acc,acc',ha,h=>by unfold Go.loadCellsFrom;exact au.pure h
 |n+1,i,E,a,a',acc,acc',ha,h=>by
  unfold Go.loadCellsFrom
  exact au.bind (au.load (ha.add i)) λE' v v' up hv=>au.loadCellsFrom n (i+1) (ha.up up) ((h.up up).push hv)
theorem au.loadCells(n:Nat)(ha:AS fns E a a'):au P fns Z E (loadCells a n) (loadCells a' n) (λE' x x'=>aV fns E' x x'):=au.loadCellsFrom n 0 ha eX
theorem au.storeCells:∀ (vs vs':List Value) (i:Nat) {E:Nat->Nat->Prop} {a a':Addr},AS fns E a a'->aV fns E vs.toArray vs'.toArray->au P fns Z E (storeCells a vs i) (storeCells a' vs' i) (λ_ _ _=>True)
 | [],[],i,E,a,a',ha,h=>by unfold Go.storeCells;exact au.pure trivial
 | [],v'::vs',i,E,a,a',ha,h=>by have:=h.1;simp at this
 |v::vs,[],i,E,a,a',ha,h=>by have:=h.1;simp at this
 |v::vs,v'::vs',i,E,a,a',ha,h=>by
  unfold Go.storeCells
  have h0:VR fns E v v':=by simpa using h.2 0 (by simp) (by simp)
  have h1:aV fns E vs.toArray vs'.toArray:=⟨by have:=h.1;simpa using this,λj a b=>by
   have:=h.2 (j+1) (by simpa using a) (by simpa using b)
   simpa using this⟩
  exact au.bind (au.store (ha.add i) h0) λE' _ _ up _=>au.storeCells vs vs' (i+1) (ha.up up) (h1.up up)
theorem au.loadVar(t:TypeId)(ha:AS fns E a a'):au P fns Z E (loadVar t a) (loadVar t a') (λE' v v'=>VR fns E' v v'):=by
 unfold Go.loadVar
 refine au.bind (au.isAgg t) (λE1 b b' up h=>?_)
 subst h
 split
 .refine au.bind (au.sizeOf t) (λE2 n n' dH h=>?_)
  subst h
  exact au.bind (au.loadCells _ ((ha.up up).up dH)) λE3 x x' fH h=>au.pure (bQ.2 ⟨_,rfl,h⟩)
 .exact au.load (ha.up up)
theorem fC{x x':Array Value}(h:aV fns E x x'):aV fns E x.toList.toArray x'.toList.toArray:=by simpa using h
def aK(P:Program){α:Type}(s:Sem α):Prop:=∀ gh,∃ h w,s.run P gh=.halt h w/\dead h=true/\Calm gh w
section
variable {α β γ:Type}
theorem au.dies{s:Sem α}{s':Sem β}{Φ:(Nat->Nat->Prop)->α->β->Prop}(h:aK P s):au P fns Z E s s' Φ:=by
 intro gh re _
 obtain⟨h,w,e,hd⟩:=h gh
 rw[e];exact hd
theorem aK.halt{h:Halt}(hd:dead h=true):aK P (Sem.halt h:Sem α):=λgh=>⟨h,gh,rfl,hd,Calm.refl _⟩
theorem aK.stuck{why:String}:aK P (Go.stuck why:Sem α):=aK.halt rfl
theorem aK.panic{v:Value}:aK P (goPanic v:Sem α):=aK.halt rfl
theorem aK.bind{s:Sem α}{f:α->Sem β}(h:aK P s):aK P (s >>= f):=λgh=>by
 obtain⟨h,w,e,hd⟩:=h gh
 exact⟨h,w,by rw[Sem.run_bind,e];rfl,hd⟩
theorem aK.nD{s:Sem α}{f:α->Sem β}(hs:∀ gh,(∃ a w,s.run P gh=.ok a w/\Calm gh w)\/∃ h w,s.run P gh=.halt h w/\dead h=true/\Calm gh w)(h:∀ a,aK P (f a)):aK P (s >>= f):=λgh=>by
 rcases hs gh with ⟨a,w,e,hc⟩|⟨h,w,e,hd⟩
 .obtain⟨h,w',e',hd,hc'⟩:=h a w
  exact⟨h,w',by rw[Sem.run_bind,e];exact e',hd,hc.trans hc'⟩
 .exact⟨h,w,by rw[Sem.run_bind,e];rfl,hd⟩
theorem BN(t:TypeId)(gh:World):(∃ a w,(elemOf t).run P gh=.ok a w/\Calm gh w)\/∃ h w,(elemOf t).run P gh=.halt h w/\dead h=true/\Calm gh w:=by
 simp only[Go.elemOf,Go.underlying,Sem.run_bind,run_program,Result.andThen_ok]
 cases P.underlying t with
 |none=>exact .inr ⟨_,_,rfl,rfl,Calm.refl _⟩
 |some d=>cases d<;>first|exact .inl ⟨_,_,rfl,Calm.refl _⟩|exact .inr ⟨_,_,rfl,rfl,Calm.refl _⟩
theorem aK.runtimePanic(e:RuntimeError):aK P (runtimePanic e:Sem α):=by
 unfold Go.runtimePanic
 refine aK.nD (λgh=>.inl ⟨_,_,rfl,λ_ _ e=>.inr e⟩) λp=>?_
 cases e<;>dsimp only<;>first
  |exact aK.panic
  |exact aK.nD (BN _) λ_=>aK.nD (λgh=>.inl ⟨_,_,rfl,Calm.push _ _ _ _⟩) λ_=>aK.panic
theorem aK.boundsPanic(k:IntKind)(x y:Int)(c:BoundsCode):aK P (boundsPanic k x y c:Sem α):=by
 unfold Go.boundsPanic
 dsimp only
 split
 .refine aK.nD (λgh=>.inl ?_) λs=>aK.runtimePanic _
  rw[Sem.run_map,run_choose]
  split<;>exact⟨_,_,rfl,λ_ _ e=>.inr e⟩
 .exact aK.nD (λgh=>.inl ⟨_,_,rfl,λ_ _ e=>.inr e⟩) λs=>aK.runtimePanic _
end
theorem au.storeVar(t:TypeId){v:Value}(ha:AS fns E a a')(hv:VR fns E v v'):au P fns Z E (storeVar t a v) (storeVar t a' v') (λ_ _ _=>True):=by
 unfold Go.storeVar
 have hc:=lI hv
 refine au.bind (au.sizeOf t) (λE1 n n' up h=>?_)
 subst h
 rw[<-hc.1]
 dsimp only
 split
 .exact au.dies aK.stuck.bind
 .exact au.storeCells _ _ 0 (ha.up up) (fC (hc.up up))
