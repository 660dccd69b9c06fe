/- Part of the proof. -/
import Derived.Test.YtjlgehmebfkioaaGreatDoorProg
import Derived.Conc.WgGenN3
import Derived.Conc.Events
open Go.Proofs.Tryz (prog)
namespace Go.Proofs
abbrev Tryz.link:Go.Conc.Lib.WgLink:={ add:=106,done:=108,wait:=110,relMerge:=128,disable:=129,enable:=130,inBubble:=131,associate:=132,fatal:=133,uOr:=134,uAdd:=135,raceRead:=136,uLoad:=137,uStore:=138,disassociate:=139,semrelease:=140,acquire:=142,isAssociated:=143,uCas:=144,raceWrite:=145,semacquire:=146,orU64:=164,addU64:=165,loadU64:=166,storeU64:=167,casU64:=169,tWgP:=222,tUP:=137,tAssoc:=224,tWg:=203,tAU:=201,tU64:=199,tUint:=93,tU32:=92,tPU32:=228,tPAU:=254,tPU64:=256,tNoCopy:=198,tANoCopy:=194,tAlign64:=195 }
theorem Tryz.acg:Go.Conc.Lib.WgLib prog Tryz.link :=
 ⟨Tryz.func106,Tryz.func108,Tryz.func110,Tryz.func128,Tryz.func129,Tryz.func130,Tryz.func131,Tryz.func132,Tryz.func133,Tryz.func134,Tryz.func135,Tryz.func136,Tryz.func137,Tryz.func138,Tryz.func139,Tryz.func140,Tryz.func142,Tryz.func143,Tryz.func144,Tryz.func145,Tryz.func146,Tryz.func164,Tryz.func165,Tryz.func166,Tryz.func167,Tryz.func169,Tryz.underlying222,Tryz.runUnderlying222,Tryz.sizeOf222,Tryz.isAgg222,Tryz.zeroValue222,Tryz.underlying137,Tryz.runUnderlying137,Tryz.sizeOf137,Tryz.isAgg137,Tryz.zeroValue137,Tryz.underlying224,Tryz.runUnderlying224,Tryz.sizeOf224,Tryz.isAgg224,Tryz.zeroValue224,Tryz.underlying203,Tryz.runUnderlying203,Tryz.sizeOf203,Tryz.isAgg203,Tryz.zeroValue203,Tryz.underlying201,Tryz.runUnderlying201,Tryz.sizeOf201,Tryz.isAgg201,Tryz.zeroValue201,Tryz.underlying199,Tryz.runUnderlying199,Tryz.sizeOf199,Tryz.isAgg199,Tryz.zeroValue199,Tryz.underlying93,Tryz.runUnderlying93,Tryz.sizeOf93,Tryz.isAgg93,Tryz.zeroValue93,Tryz.underlying92,Tryz.runUnderlying92,Tryz.sizeOf92,Tryz.isAgg92,Tryz.zeroValue92,Tryz.underlying228,Tryz.runUnderlying228,Tryz.sizeOf228,Tryz.isAgg228,Tryz.zeroValue228,Tryz.underlying254,Tryz.runUnderlying254,Tryz.sizeOf254,Tryz.isAgg254,Tryz.zeroValue254,Tryz.underlying256,Tryz.runUnderlying256,Tryz.sizeOf256,Tryz.isAgg256,Tryz.zeroValue256,Tryz.underlying0,Tryz.runUnderlying0,Tryz.sizeOf0,Tryz.isAgg0,Tryz.zeroValue0,Tryz.underlying3,Tryz.runUnderlying3,Tryz.sizeOf3,Tryz.isAgg3,Tryz.zeroValue3,Tryz.underlying4,Tryz.runUnderlying4,Tryz.sizeOf4,Tryz.isAgg4,Tryz.zeroValue4,Tryz.underlying9,Tryz.runUnderlying9,Tryz.sizeOf9,Tryz.isAgg9,Tryz.zeroValue9,Tryz.underlying20,Tryz.runUnderlying20,Tryz.sizeOf20,Tryz.isAgg20,Tryz.zeroValue20,Tryz.underlying21,Tryz.runUnderlying21,Tryz.sizeOf21,Tryz.isAgg21,Tryz.zeroValue21,(by kernel_rfl),(by kernel_rfl)⟩
end Go.Proofs
namespace Go.Proofs.YtjlgehmebfkioaaGreatDoor
open Go
theorem eight(n:Nat)(h:1<=n/\n<=8):n=1\/n=2\/n=3\/n=4\/n=5\/n=6\/n=7\/n=8:=by omega
variable {a:Addr} {x':Array Value} {c:Nat} {b:Option Addr} {v':Value}
structure Fx where
 ok:FuncId->Bool
 lo:Nat->Nat
 tys:TypeId->Bool
 rf:Array Func
 jf:FuncId->Bool
 full:Bool
 gl:Nat->Bool
 pt:Nat->Bool
 pl:∀ a,pt a=true->lo a=0
def Fx.re(fns:Fx)(P:Program):Program:={ P with funcs:=fns.rf }
def Fx.pn(fns:Fx)(a:Nat):Prop:=fns.full=true\/fns.pt a=true
theorem Fx.JX(fns:Fx){a:Nat}(h:fns.pt a=true)(n:Nat):fns.pn a/\fns.lo a<=n:=⟨.inr h,by rw[fns.pl _ h];exact Nat.zero_le _⟩
def AS(fns:Fx)(E:Nat->Nat->Prop)(a b:Addr):Prop:=E a.block b.block/\a.off=b.off/\a.spot=b.spot/\fns.lo a.block<=a.off
def AR(fns:Fx)(E:Nat->Nat->Prop)(a b:Addr):Prop:=E a.block b.block/\a.off=b.off/\a.spot=b.spot/\fns.pn a.block/\fns.lo a.block<=a.off
def OS(fns:Fx)(E:Nat->Nat->Prop):Option Addr->Option Addr->Prop
 |none,none=>True
 |some a,some b=>AS fns E a b
 |_,_=>False
def OA(fns:Fx)(E:Nat->Nat->Prop):Option Addr->Option Addr->Prop
 |none,none=>True
 |some a,some b=>AR fns E a b
 |_,_=>False
def SR(fns:Fx)(E:Nat->Nat->Prop)(l c:Nat)(a b:Option Addr):Prop:=OS fns E a b\/(l=0/\c=0/\a=b)
def oH(fns:Fx):Fn->Bool
 | .func f=>fns.ok f&&!fns.jf f
 |_=>false
def VR(fns:Fx)(E:Nat->Nat->Prop):Value->Value->Prop
 | .bool a,v'=>v'=.bool a
 | .int k n,v'=>v'=.int k n
 | .float _ _,_=>False
 | .complex _ _ _,_=>False
 | .string a,v'=>v'=.string a
 | .pointer a,v'=>∃ b,v'=.pointer b/\OA fns E a b
 | .slice a l c,v'=>∃ b,v'=.slice b l c/\SR fns E l c a b
 | .map r,v'=>r=none/\v'=.map none
 | .chan r,v'=>r=none/\v'=.chan none
 | .func f x y,v'=>∃ x' y',v'=.func f x' y'/\oH fns f=true/\(x.size=x'.size/\∀ i (h:i<x.size) (h':i<x'.size),VR fns E x[i] x'[i])/\(y.size=y'.size/\∀ i (h:i<y.size) (h':i<y'.size),VR fns E y[i] y'[i])
 | .nilFunc,v'=>v'=.nilFunc
 | .iface t v,v'=>∃ u,v'=.iface t u/\VR fns E v u
 | .nilIface,v'=>v'=.nilIface
 | .agg x,v'=>∃ x',v'=.agg x'/\(x.size=x'.size/\∀ i (h:i<x.size) (h':i<x'.size),VR fns E x[i] x'[i])
 | .tuple x,v'=>∃ x',v'=.tuple x'/\(x.size=x'.size/\∀ i (h:i<x.size) (h':i<x'.size),VR fns E x[i] x'[i])
def aV(fns:Fx)(E:Nat->Nat->Prop)(x x':Array Value):Prop:=x.size=x'.size/\∀ i (h:i<x.size) (h':i<x'.size),VR fns E x[i] x'[i]
section
variable {fns:Fx} {E:Nat->Nat->Prop} {v:Value}
theorem l5{b:Bool}:VR fns E (.bool b) v↔v=.bool b:=by rw[VR]
theorem dD{k:IntKind}{n:Int}:VR fns E (.int k n) v↔v=.int k n:=by rw[VR]
theorem b_{k:FloatKind}{n:Nat}:¬VR fns E (.float k n) v:=by rw[VR];exact id
theorem bO{k:FloatKind}{n m:Nat}:¬VR fns E (.complex k n m) v:=by rw[VR];exact id
theorem dN{b:ByteArray}:VR fns E (.string b) v↔v=.string b:=by rw[VR]
theorem aM{a:Option Addr}:VR fns E (.pointer a) v↔∃ b,v=.pointer b/\OA fns E a b:=by rw[VR]
theorem aJ{a:Option Addr}{l:Nat}:VR fns E (.slice a l c) v↔∃ b,v=.slice b l c/\SR fns E l c a b:=by rw[VR]
theorem fE{r:Option Nat}:VR fns E (.map r) v↔r=none/\v=.map none:=by rw[VR]
theorem dI{r:Option Nat}:VR fns E (.chan r) v↔r=none/\v=.chan none:=by rw[VR]
theorem dz{f:Fn}{x y:Array Value}:VR fns E (.func f x y) v↔∃ x' y',v=.func f x' y'/\oH fns f=true/\aV fns E x x'/\aV fns E y y':=by rw[VR];rfl
theorem Iw:VR fns E .nilFunc v↔v=.nilFunc:=by rw[VR]
theorem dX:VR fns E .nilIface v↔v=.nilIface:=by rw[VR]
theorem bE{t:TypeId}{u:Value}:VR fns E (.iface t u) v↔∃ u',v=.iface t u'/\VR fns E u u':=by rw[VR]
theorem bW{x:Array Value}:VR fns E (.agg x) v↔∃ x',v=.agg x'/\aV fns E x x':=by rw[VR];rfl
theorem bK{x:Array Value}:VR fns E (.tuple x) v↔∃ x',v=.tuple x'/\aV fns E x x':=by rw[VR];rfl
end
variable {fns:Fx} {E E':Nat->Nat->Prop}
theorem AR.as{b:Addr}(h:AR fns E a b):AS fns E a b:=⟨h.1,h.2.1,h.2.2.1,h.2.2.2.2⟩
theorem AS.full{b:Addr}(h:AS fns E a b)(hf:fns.full=true):AR fns E a b:=⟨h.1,h.2.1,h.2.2.1,.inl hf,h.2.2.2⟩
theorem AS.up{b:Addr}(h:AS fns E a b)(hE:∀ a b,E a b->E' a b):AS fns E' a b:=⟨hE _ _ h.1,h.2⟩
theorem AS.add{b:Addr}(h:AS fns E a b)(n:Nat):AS fns E (a.add n) (b.add n):=by
 unfold Addr.add
 split
 .exact h
 .exact⟨h.1,by simp[h.2.1],rfl,Nat.le_trans h.2.2.2 (Nat.le_add_right _ _)⟩
theorem OS.up{a:Option Addr}(h:OS fns E a b)(hE:∀ a b,E a b->E' a b):OS fns E' a b:=by
 cases a<;>cases b<;>first|exact h|exact AS.up h hE
theorem iJ:OS fns E none b↔b=none:=by cases b<;>simp[OS]
theorem dR:OS fns E (some a) b↔∃ b',b=some b'/\AS fns E a b':=by cases b<;>simp[OS]
theorem SR.up{l:Nat}{a:Option Addr}(h:SR fns E l c a b)(hE:∀ a b,E a b->E' a b):SR fns E' l c a b:=h.imp (λx=>x.up hE) id
theorem vQ{l:Nat}:SR fns E l c none b↔b=none:=⟨λh=>h.elim iJ.1 λx=>x.2.2.symm,λe=>.inl (iJ.2 e)⟩
theorem JY{l:Nat}(h:SR fns E l c (some a) b):∃ b',b=some b':=h.elim (λx=>let ⟨b',e,_⟩:=dR.1 x;⟨b',e⟩) λx=>⟨a,x.2.2.symm⟩
theorem AR.up{b:Addr}(h:AR fns E a b)(hE:∀ a b,E a b->E' a b):AR fns E' a b:=⟨hE _ _ h.1,h.2⟩
theorem AR.add{b:Addr}(h:AR fns E a b)(n:Nat):AR fns E (a.add n) (b.add n):=by
 unfold Addr.add
 split
 .exact h
 .exact⟨h.1,by simp[h.2.1],rfl,h.2.2.2.1,Nat.le_trans h.2.2.2.2 (Nat.le_add_right _ _)⟩
theorem OA.up{a:Option Addr}(h:OA fns E a b)(hE:∀ a b,E a b->E' a b):OA fns E' a b:=by
 cases a<;>cases b<;>first|exact h|exact AR.up h hE
theorem jQ:OA fns E none b↔b=none:=by cases b<;>simp[OA]
theorem dA:OA fns E (some a) b↔∃ b',b=some b'/\AR fns E a b':=by cases b<;>simp[OA]
theorem VR.upN(hE:∀ a b,E a b->E' a b):∀ (n:Nat) (v v':Value),SizeOf.sizeOf v<n->VR fns E v v'->VR fns E' v v':=by
 intro n
 induction n with
 |zero=>intro v v' h;omega
 |succ n ih =>
  have arr:∀ x x':Array Value,(∀ i (h:i<x.size),SizeOf.sizeOf x[i]<n)->aV fns E x x'->aV fns E' x x' :=
   λx x' h2 h3=>⟨h3.1,λi h h'=>ih _ _ (h2 i h) (h3.2 i h h')⟩
  intro v v' hn hv
  cases v with
  |pointer a=>obtain⟨b,rfl,h⟩:=aM.1 hv;exact aM.2 ⟨b,rfl,h.up hE⟩
  |slice a l c=>obtain⟨b,rfl,h⟩:=aJ.1 hv;exact aJ.2 ⟨b,rfl,h.up hE⟩
  |func f x y =>
   obtain⟨x',y',rfl,h2,h3,h4⟩:=dz.1 hv
   exact dz.2 ⟨x',y',rfl,h2,arr _ _ (λi h=>by have:=Array.sizeOf_getElem x i h;simp at hn;omega) h3,arr _ _ (λi h=>by have:=Array.sizeOf_getElem y i h;simp at hn;omega) h4⟩
  |iface t u=>obtain⟨u',rfl,h⟩:=bE.1 hv;exact bE.2 ⟨u',rfl,ih _ _ (by simp at hn;omega) h⟩
  |agg x=>obtain⟨x',rfl,h⟩:=bW.1 hv;exact bW.2 ⟨x',rfl,arr _ _ (λi h=>by have:=Array.sizeOf_getElem x i h;simp at hn;omega) h⟩
  |tuple x=>obtain⟨x',rfl,h⟩:=bK.1 hv;exact bK.2 ⟨x',rfl,arr _ _ (λi h=>by have:=Array.sizeOf_getElem x i h;simp at hn;omega) h⟩
  |_=>rw[VR] at hv ⊢;exact hv
theorem VR.up{v:Value}(h:VR fns E v v')(hE:∀ a b,E a b->E' a b):VR fns E' v v':=VR.upN hE (SizeOf.sizeOf v+1) v v' (by omega) h
theorem aV.up{x:Array Value}(h:aV fns E x x')(hE:∀ a b,E a b->E' a b):aV fns E' x x':=⟨h.1,λi a b=>(h.2 i a b).up hE⟩
theorem AR.eq{b:Addr}(h:AR fns E a b)(hE:∀ a b,E a b->a=b):b=a:=by
 obtain⟨a1,a2,a3⟩:=a
 obtain⟨b1,b2,b3⟩:=b
 obtain⟨h1,h2,h3,_⟩:=h
 simp only at h1 h2 h3
 rw[hE _ _ h1,h2,h3]
theorem OA.eq{a:Option Addr}(h:OA fns E a b)(hE:∀ a b,E a b->a=b):b=a:=by
 cases a with
 |none=>exact jQ.1 h
 |some a=>obtain⟨b',rfl,g⟩:=dA.1 h;rw[AR.eq g hE]
theorem AS.eq{b:Addr}(h:AS fns E a b)(hE:∀ a b,E a b->a=b):b=a:=by
 obtain⟨a1,a2,a3⟩:=a
 obtain⟨b1,b2,b3⟩:=b
 obtain⟨h1,h2,h3,_⟩:=h
 simp only at h1 h2 h3
 rw[hE _ _ h1,h2,h3]
theorem OS.eq{a:Option Addr}(h:OS fns E a b)(hE:∀ a b,E a b->a=b):b=a:=by
 cases a with
 |none=>exact iJ.1 h
 |some a=>obtain⟨b',rfl,g⟩:=dR.1 h;rw[AS.eq g hE]
theorem SR.eq{l:Nat}{a:Option Addr}(h:SR fns E l c a b)(hE:∀ a b,E a b->a=b):b=a:=h.elim (λx=>x.eq hE) λx=>x.2.2.symm
theorem VR.eqN(hE:∀ a b,E a b->a=b):∀ (n:Nat) (v v':Value),SizeOf.sizeOf v<n->VR fns E v v'->v'=v:=by
 intro n
 induction n with
 |zero=>intro v v' h;omega
 |succ n ih =>
  have arr:∀ x x':Array Value,(∀ i (h:i<x.size),SizeOf.sizeOf x[i]<n)->aV fns E x x'->x'=x :=
   λx x' h2 h3=>Array.ext h3.1.symm λi h h'=>ih _ _ (h2 i h') (h3.2 i h' h)
  intro v v' hn hv
  cases v with
  |pointer a=>obtain⟨b,rfl,h⟩:=aM.1 hv;rw[h.eq hE]
  |slice a l c=>obtain⟨b,rfl,h⟩:=aJ.1 hv;rw[h.eq hE]
  |map r=>obtain⟨rfl,rfl⟩:=fE.1 hv;rfl
  |chan r=>obtain⟨rfl,rfl⟩:=dI.1 hv;rfl
  |func f x y =>
   obtain⟨x',y',rfl,h2,h3,h4⟩:=dz.1 hv
   rw[arr _ _ (λi h=>by have:=Array.sizeOf_getElem x i h;simp at hn;omega) h3,arr _ _ (λi h=>by have:=Array.sizeOf_getElem y i h;simp at hn;omega) h4]
  |iface t u=>obtain⟨u',rfl,h⟩:=bE.1 hv;rw[ih _ _ (by simp at hn;omega) h]
  |agg x=>obtain⟨x',rfl,h⟩:=bW.1 hv;rw[arr _ _ (λi h=>by have:=Array.sizeOf_getElem x i h;simp at hn;omega) h]
  |tuple x=>obtain⟨x',rfl,h⟩:=bK.1 hv;rw[arr _ _ (λi h=>by have:=Array.sizeOf_getElem x i h;simp at hn;omega) h]
  |float=>exact(b_ hv).elim
  |complex=>exact(bO hv).elim
  |_=>rw[VR] at hv;exact hv
theorem VR.eq{v:Value}(h:VR fns E v v')(hE:∀ a b,E a b->a=b):v'=v:=VR.eqN hE (SizeOf.sizeOf v+1) v v' (by omega) h
theorem aV.eq{x:Array Value}(h:aV fns E x x')(hE:∀ a b,E a b->a=b):x'=x:=Array.ext h.1.symm λi a b=>(h.2 i b a).eq hE
def scalar:Value->Bool
 | .bool _ | .int _ _ | .string _ | .pointer none | .slice none _ _ | .map none | .chan none | .nilFunc | .nilIface=>true
 |_=>false
def mF:Value->Bool
 | .agg x=>x.all scalar
 | .tuple x=>x.all scalar
 | .iface _ v=>scalar v
 |v=>scalar v
theorem aG{v:Value}(h:scalar v=true):VR fns E v v:=by
 unfold scalar at h
 split at h<;>first|(simp[VR,OA];done)|(simp[VR,SR,OS];done)|cases h
theorem nN{x:Array Value}(h:x.all scalar=true):aV fns E x x :=
 ⟨rfl,λi a _=>aG (by rw[Array.all_eq_true] at h;exact h i a)⟩
theorem gu:aV fns E #[] #[]:=⟨rfl,λi h=>by simp at h⟩
theorem jU{v:Value}(h:mF v=true):VR fns E v v:=by
 unfold mF at h
 split at h
 .exact bW.2 ⟨_,rfl,nN h⟩
 .exact bK.2 ⟨_,rfl,nN h⟩
 .exact bE.2 ⟨_,rfl,aG h⟩
 .exact aG h
theorem fI{v:Value}(h:VR fns E v v'):aV fns E #[v] #[v']:=⟨rfl,λi a b=>by
 have:i=0:=by simp at a;omega
 subst this;exact h⟩
theorem aV.append{x y y':Array Value}(h:aV fns E x x')(g:aV fns E y y'):aV fns E (x++y) (x'++y'):=by
 refine⟨by simp[h.1,g.1],λi a b=>?_⟩
 have hx:=h.1
 by_cases hi:i<x.size
 .rw[Array.getElem_append_left hi,Array.getElem_append_left (hx▸hi)]
  exact h.2 i hi (hx▸hi)
 .rw[Array.getElem_append_right (by omega),Array.getElem_append_right (by omega)]
  simp only[<-hx]
  exact g.2 _ _ _
theorem aV.push{x:Array Value}{v:Value}(h:aV fns E x x')(g:VR fns E v v'):aV fns E (x.push v) (x'.push v'):=by
 have:=h.append (fI g)
 simpa using this
theorem aV.get?{x:Array Value}(h:aV fns E x x')(i:Nat){v:Value}(hv:x[i]?=some v):∃ v',x'[i]?=some v'/\VR fns E v v':=by
 obtain⟨hi,rfl⟩:=Array.getElem?_eq_some_iff.1 hv
 exact⟨x'[i]'(h.1▸hi),Array.getElem?_eq_getElem _,h.2 i hi _⟩
theorem aV.set{x:Array Value}(h:aV fns E x x')(i:Nat){v:Value}(hv:VR fns E v v'):aV fns E (x.setIfInBounds i v) (x'.setIfInBounds i v'):=by
 refine⟨by simp[h.1],λj a b=>?_⟩
 simp only[Array.size_setIfInBounds] at a b
 rw[Array.getElem_setIfInBounds,Array.getElem_setIfInBounds]
 split
 .exact hv
 .exact h.2 j a b
theorem aV.extract{x:Array Value}(h:aV fns E x x')(i j:Nat):aV fns E (x.extract i j) (x'.extract i j):=by
 refine⟨by simp[h.1],λk a b=>?_⟩
 simp only[Array.getElem_extract]
 exact h.2 _ _ _
theorem aV.rep{n:Nat}{v:Value}(h:VR fns E v v):aV fns E (Array.replicate n v) (Array.replicate n v):=⟨rfl,λi a b=>by simpa using h⟩
theorem lK{v:Value}(h:VR fns E v v'):aV fns E v.cells v'.cells:=by
 have h0:=h
 cases v with
 |agg x=>obtain⟨x',rfl,g⟩:=bW.1 h;exact g
 |pointer a=>obtain⟨b,rfl,_⟩:=aM.1 h;exact fI h0
 |slice a l c=>obtain⟨b,rfl,_⟩:=aJ.1 h;exact fI h0
 |map r=>obtain⟨rfl,rfl⟩:=fE.1 h;exact fI h0
 |chan r=>obtain⟨rfl,rfl⟩:=dI.1 h;exact fI h0
 |func f x y=>obtain⟨x',y',rfl,_⟩:=dz.1 h;exact fI h0
 |iface t u=>obtain⟨u',rfl,_⟩:=bE.1 h;exact fI h0
 |tuple x=>obtain⟨x',rfl,_⟩:=bK.1 h;exact fI h0
 |float=>exact(b_ h).elim
 |complex=>exact(bO h).elim
 |_=>rw[VR] at h;subst h;exact fI h0
theorem iW:VR fns E (.tuple #[]) (.tuple #[]):=bK.2 ⟨_,rfl,gu⟩
variable {a a':Addr} {c c':Array Value} {lo:Nat} {z:Prop}
structure CR(fns:Fx)(E:Nat->Nat->Prop)(z:Prop)(lo:Nat)(c c':Array Value):Prop where
 le:c.size<=c'.size
 eq:¬z->c'.size=c.size
 at_:∀ i (h:i<c.size) (h':i<c'.size),lo<=i->VR fns E c[i] c'[i]
theorem CR.up{fns:Fx}{E E':Nat->Nat->Prop}(h:CR fns E z lo c c')(hE:∀ a b,E a b->E' a b):CR fns E' z lo c c':=⟨h.le,h.eq,λi a b l=>(h.at_ i a b l).up hE⟩
theorem CR.of{fns:Fx}{E:Nat->Nat->Prop}(h:aV fns E c c'):CR fns E z lo c c':=⟨Nat.le_of_eq h.1,λ_=>h.1.symm,λi a b _=>h.2 i a b⟩
theorem CR.all{fns:Fx}{E:Nat->Nat->Prop}(h:CR fns E z lo c c')(hz:¬z)(hl:lo=0):aV fns E c c':=⟨(h.eq hz).symm,λi a b=>h.at_ i a b (by omega)⟩
theorem CR.get?{fns:Fx}{E:Nat->Nat->Prop}(h:CR fns E z lo c c'){i:Nat}(hl:lo<=i){v:Value}(hv:c[i]?=some v):∃ v',c'[i]?=some v'/\VR fns E v v':=by
 obtain⟨hi,rfl⟩:=Array.getElem?_eq_some_iff.1 hv
 have:=h.le
 exact⟨c'[i]'(by omega),Array.getElem?_eq_getElem _,h.at_ i hi _ hl⟩
def TB(P:Program):Prop:=∀ (e:TypeId) (k off:Nat) (n:Int) (o:Nat),0<n->cellAtBytes P P.depth e k off n=some o->off<=o
structure WR(P:Program)(fns:Fx)(E:Nat->Nat->Prop)(Z:Nat->Prop)(gh re:World):Prop where
 jB:∀ a,Z a->a<gh.heap.size
 jK:(∀ a,¬Z a->fns.pt a=true)/\(fns.full=true->TB P)
 j5:P.globals.size<gh.heap.size
 mG:P.globals.size<re.heap.size
 glob:∀ a b,E a b->(a<=P.globals.size\/b<=P.globals.size)->a=b
 inj:∀ a b a' b',E a b->E a' b'->(a=a'->b=b')/\(b=b'->fns.pn a->a=a')
 cells:∀ a b,E a b->(∃ c c' elem fr fr',gh.heap[a]?=some (.cells c elem fr)/\re.heap[b]?=some (.cells c' elem fr')/\CR fns E (Z a) (fns.lo a) c c'/\(¬Z a->fr'=fr)/\(Z a->∀ i,i<c.size->fr.1<=i/\i<fr.2)) \/
  (∃ x x' lost,gh.heap[a]?=some (.number x lost)/\re.heap[b]?=some (.number x' lost)/\AR fns E x x')
def Iy:Mark->Bool
 | .extern _ | .noRoom=>true
 |_=>false
def blk:Loc->Option Nat
 | .cell a=>some a.block
 | .obj r=>some r
 |_=>none
def zS(E:Nat->Nat->Prop)(Z:Nat->Prop)(e:Event):Prop :=
 (∃ b,blk e.loc=some b/\e.sync=false/\∃ a,E a b/\(e.write=true->¬Z a))\/(∃ m,e.loc=.mark m/\Iy m=true)
def dead:Halt->Bool
 | .panic _ | .stuck _=>true
 | .unsupported (.initOrder _)=>false
 | .unsupported _=>true
 |_=>false
structure Out(P:Program)(fns:Fx)(E E':Nat->Nat->Prop)(Z:Nat->Prop)(gh re ji re':World):Prop where
 up:∀ a b,E a b->E' a b
 wr:WR P fns E' Z ji re'
 fresh:∀ a b,E' a b->E a b\/(gh.heap.size<=a/\re.heap.size<=b)
 FN:gh.heap.size<=ji.heap.size
 rsize:re.heap.size<=re'.heap.size
 qY:ji.tape=gh.tape
 AU:re'.tape=re.tape
 yC:gh.drawn<=ji.drawn
 JZ:re'.drawn=re.drawn+(ji.drawn-gh.drawn)
 gos:ji.os=gh.os
 X4:ji.output=gh.output
 os:re'.os=re.os
 output:re'.output=re.output
 keep:∀ b,b<re.heap.size->(∀ a,E a b->Z a)->re'.heap[b]?=re.heap[b]?
 J2:∀ a,a<gh.heap.size->(∀ b,E a b->Z a)->ji.heap[a]?=gh.heap[a]?
 sizes:ji.heap.size+re.heap.size=re'.heap.size+gh.heap.size
 news:∀ i,gh.heap.size+i<ji.heap.size->E' (gh.heap.size+i) (re.heap.size+i)
variable {P:Program} {fns:Fx} {E E' DJ:Nat->Nat->Prop} {Z:Nat->Prop} {gh re ji re' MF Iz:World}
theorem Out.refl(h:WR P fns E Z gh re):Out P fns E E Z gh re gh re :=
 ⟨λ_ _ x=>x,h,λ_ _ x=>.inl x,Nat.le_refl _,Nat.le_refl _,rfl,rfl,Nat.le_refl _,by simp,rfl,rfl,rfl,rfl,λ_ _ _=>rfl,λ_ _ _=>rfl,Nat.add_comm _ _,λi hi=>by omega⟩
theorem Out.trans(h:Out P fns E E' Z gh re ji re')(k:Out P fns E' DJ Z ji re' MF Iz):Out P fns E DJ Z gh re MF Iz:=by
 refine⟨λa b x=>k.up a b (h.up a b x),k.wr,λa b x=>?_,Nat.le_trans h.FN k.FN,Nat.le_trans h.rsize k.rsize,k.qY.trans h.qY,k.AU.trans h.AU,Nat.le_trans h.yC k.yC,?_,k.gos.trans h.gos,k.X4.trans h.X4,k.os.trans h.os,k.output.trans h.output,λb hb hz=>?_,λa ha hz=>?_,?_,λi hi=>?_⟩
 .rcases k.fresh a b x with x|⟨x,y⟩
  .exact h.fresh a b x
  .exact .inr ⟨Nat.le_trans h.FN x,Nat.le_trans h.rsize y⟩
 .have:=k.JZ;have:=h.JZ;have:=h.yC;have:=k.yC;omega
 .rw[k.keep b (Nat.lt_of_lt_of_le hb h.rsize) λa x=>?_,h.keep b hb hz]
  rcases h.fresh a b x with x|⟨_,y⟩
  .exact hz a x
  .omega
 .rw[k.J2 a (Nat.lt_of_lt_of_le ha h.FN) λb x=>?_,h.J2 a ha hz]
  rcases h.fresh a b x with x|⟨y,_⟩
  .exact hz b x
  .omega
 .have:=h.sizes;have:=k.sizes;omega
 .by_cases hlt:gh.heap.size+i<ji.heap.size
  .exact k.up _ _ (h.news i hlt)
  .have s1:=h.sizes
   have s2:=h.FN
   have:=k.news (gh.heap.size+i-ji.heap.size) (by omega)
   have e1:ji.heap.size+(gh.heap.size+i-ji.heap.size)=gh.heap.size+i:=by omega
   have e2:re'.heap.size+(gh.heap.size+i-ji.heap.size)=re.heap.size+i:=by omega
   rwa [e1,e2] at this
theorem zS.up{e:Event}(h:zS E Z e)(hE:∀ a b,E a b->E' a b):zS E' Z e:=by
 rcases h with ⟨b,h1,h2,a,h3,h4⟩|h
 .exact .inl ⟨b,h1,h2,a,hE _ _ h3,h4⟩
 .exact .inr h
def Same(gh ji re:World):Prop:=∀ j,gh.drawn+j<ji.drawn->re.tape (re.drawn+j)=gh.tape (gh.drawn+j)
def ak(P:Program)(fns:Fx)(Z:Nat->Prop)(E:Nat->Nat->Prop){α β:Type}(s:Sem α)(s':Sem β)(Φ:(Nat->Nat->Prop)->α->β->Prop):Prop :=
 ∀ gh re,WR P fns E Z gh re->match s.run P gh with
   | .halt h _=>dead h=true
   | .ok a ji=>Same gh ji re->∃ E' b re',s'.run (fns.re P) re=.ok b re'/\Out P fns E E' Z gh re ji re'/\Φ E' a b/\∀ es,∀ e∈s'.events (fns.re P) re es,e∈es\/zS E' Z e
section
variable {α β γ δ:Type}
theorem ak.pure{a:α}{b:β}{Φ:(Nat->Nat->Prop)->α->β->Prop}(h:Φ E a b):ak P fns Z E (Pure.pure a) (Pure.pure b) Φ:=by
 intro gh re hw
 simp only[Sem.run_pure]
 exact λ_=>⟨E,b,re,rfl,Out.refl hw,h,λes e he=>.inl (by simpa using he)⟩
theorem ak.dead{h:Halt}(hd:dead h=true){s':Sem β}{Φ:(Nat->Nat->Prop)->α->β->Prop}:ak P fns Z E (Sem.halt h) s' Φ:=by
 intro gh re hw
 simpa using hd
theorem ak.stuck{why:String}{s':Sem β}{Φ:(Nat->Nat->Prop)->α->β->Prop}:ak P fns Z E (Go.stuck why) s' Φ:=ak.dead rfl
theorem ak.mono{s:Sem α}{s':Sem β}{Φ Ψ:(Nat->Nat->Prop)->α->β->Prop}(h:ak P fns Z E s s' Φ)(hm:∀ E' a b,(∀ a b,E a b->E' a b)->Φ E' a b->Ψ E' a b):ak P fns Z E s s' Ψ:=by
 intro gh re hw
 have:=h gh re hw
 revert this
 cases s.run P gh with
 |halt h w=>exact id
 |ok a ji =>
  intro h hs
  obtain⟨E',b,re',h1,h2,h3,h4⟩:=h hs
  exact⟨E',b,re',h1,h2,hm _ _ _ h2.up h3,h4⟩
theorem ak.bind{s:Sem α}{s':Sem β}{f:α->Sem γ}{f':β->Sem δ}{Φ:(Nat->Nat->Prop)->α->β->Prop}{Ψ:(Nat->Nat->Prop)->γ->δ->Prop}
 (h:ak P fns Z E s s' Φ) (hf:∀ E' a b,(∀ a b,E a b->E' a b)->Φ E' a b->ak P fns Z E' (f a) (f' b) Ψ):ak P fns Z E (s >>= f) (s' >>= f') Ψ:=by
 intro gh re hw
 have hh:=h gh re hw
 rw[Sem.run_bind]
 revert hh
 cases hs:s.run P gh with
 |halt h w=>exact id
 |ok a ji =>
  intro h1
  simp only[Result.andThen_ok]
  -- the second part runs from ji
  cases hr:(f a).run P ji with
  |halt hh ww =>
   -- it halts: whatever the real tape is: take one that agrees
   have h0:=h gh { re with tape:=λi=>gh.tape (gh.drawn+(i-re.drawn)) } ⟨hw.jB,hw.jK,hw.j5,hw.mG,hw.glob,hw.inj,hw.cells⟩
   rw[hs] at h0
   obtain⟨E',b,re',e1,e2,e3,e4⟩:=h0 (λj _=>by simp)
   have:=hf E' a b e2.up e3 ji re' e2.wr
   rw[hr] at this
   exact this
  |ok c MF =>
   intro same
   have mono:ji.drawn<=MF.drawn/\ji.tape=gh.tape/\gh.drawn<=ji.drawn:=by
    have h0:=h gh { re with tape:=λi=>gh.tape (gh.drawn+(i-re.drawn)) } ⟨hw.jB,hw.jK,hw.j5,hw.mG,hw.glob,hw.inj,hw.cells⟩
    rw[hs] at h0
    obtain⟨E',b,re',e1,e2,e3,e4⟩:=h0 (λj _=>by simp)
    have h2:=hf E' a b e2.up e3 ji { re' with tape:=λi=>ji.tape (ji.drawn+(i-re'.drawn)) } ⟨e2.wr.jB,e2.wr.jK,e2.wr.j5,e2.wr.mG,e2.wr.glob,e2.wr.inj,e2.wr.cells⟩
    rw[hr] at h2
    obtain⟨DJ,b2,Iz,k1,k2,k3,k4⟩:=h2 (λj _=>by simp)
    exact⟨k2.yC,e2.qY,e2.yC⟩
   obtain⟨E',b,re',e1,e2,e3,e4⟩:=h1 (λj hj=>same j (by omega))
   have h2:=hf E' a b e2.up e3 ji re' e2.wr
   rw[hr] at h2
   obtain⟨DJ,b2,Iz,k1,k2,k3,k4⟩:=h2 (λj hj=>by
    rw[e2.AU,e2.JZ,e2.qY]
    have:=same (ji.drawn-gh.drawn+j) (by omega)
    have e:gh.drawn+(ji.drawn-gh.drawn+j)=ji.drawn+j:=by omega
    rw[e] at this
    rw[<-this]
    congr 1
    omega)
   refine⟨DJ,b2,Iz,?_,e2.trans k2,k3,λes e he=>?_⟩
   .rw[Sem.run_bind,e1];simpa using k1
   .rw[Sem.events_bind,e1] at he
    simp only[Result.evThen_ok] at he
    rcases k4 _ _ he with he|he
    .exact(e4 _ _ he).imp id λx=>x.up k2.up
    .exact .inr he
theorem ak.program:ak P fns Z E program program (λ_ p q=>p=P/\q=fns.re P):=by
 intro gh re hw
 exact λ_=>⟨E,fns.re P,re,rfl,Out.refl hw,⟨rfl,rfl⟩,λes e he=>.inl (by simpa [Go.program,Sem.events,Sem.runT] using he)⟩
theorem ak.mark{m:Mark}(hb:Iy m=true):ak P fns Z E (mark m) (mark m) (λ_ _ _=>True):=by
 intro gh re hw
 refine λ_=>⟨E,(),re,rfl,Out.refl hw,trivial,λes e he=>?_⟩
 simp only[Go.mark,Sem.events,Sem.runT,Array.mem_push] at he
 rcases he with he|rfl
 .exact .inl he
 .exact .inr (.inr ⟨m,rfl,hb⟩)
theorem ak.askRoom(n:Nat):ak P fns Z E (askRoom n) (askRoom n) (λ_ _ _=>True):=by
 unfold Go.askRoom
 split
 .exact ak.mark rfl
 .exact ak.pure trivial
theorem WR.cell(h:WR P fns E Z gh re)(ha:AS fns E a a'){v:Value}(hv:gh.cell? a=some v):∃ v',re.cell? a'=some v'/\VR fns E v v':=by
 rcases h.cells _ _ ha.1 with ⟨c,c',elem,fr,fr',h1,h2,h3,_,_⟩|⟨x,x',l,h1,_⟩
 .simp only[World.cell?,h1,h2,<-ha.2.2.1,<-ha.2.1] at hv ⊢
  split at hv
  .cases hv
  .rename_i hs
   simp only[hs]
   exact h3.get? ha.2.2.2 hv
 .simp[World.cell?,h1] at hv
theorem WR.far(h:WR P fns E Z gh re)(ha:AS fns E a a')(b:Bool):∃ s,gh.farLoad P a b=.error (.stuck s):=by
 rcases h.cells _ _ ha.1 with ⟨c,c',elem,fr,fr',h1,_⟩|⟨x,x',l,h1,_⟩ <;>
 exact⟨_,by simp only[World.farLoad,World.noCell,h1];rfl⟩
theorem WR.ae6(h:WR P fns E Z gh re)(ha:AS fns E a a')(v:Value)(b:Bool):∃ s,gh.farStore P a v b=.error (.stuck s):=by
 rcases h.cells _ _ ha.1 with ⟨c,c',elem,fr,fr',h1,_⟩|⟨x,x',l,h1,_⟩ <;>
 exact⟨_,by simp only[World.farStore,World.noCell,h1];rfl⟩
theorem ak.load(ha:AS fns E a a'):ak P fns Z E (load a) (load a') (λE' v v'=>VR fns E' v v'):=by
 intro gh re hw
 rw[run_load]
 cases hc:gh.cell? a with
 |none =>
  obtain⟨s,hs⟩:=hw.far (P:=P) ha (Mode.plain==.atomic)
  simp only[hs];rfl
 |some v =>
  obtain⟨v',h1,h2⟩:=hw.cell ha hc
  refine λ_=>⟨E,v',re,by rw[run_load,h1],Out.refl hw,h2,λes e he=>?_⟩
  rw[events_load,h1] at he
  simp only[Array.mem_push] at he
  rcases he with he|rfl
  .exact .inl he
  .exact .inr (.inl ⟨a'.block,rfl,rfl,a.block,ha.1,λx=>by cases x⟩)
theorem ak.choose{q:Question}:ak P fns Z E (choose q) (choose q) (λ_ n n'=>n'=n):=by
 intro gh re hw
 by_cases hf:q.forced=true
 .rw[run_choose,if_pos hf]
  refine λ_=>⟨E,0,re,by rw[run_choose,if_pos hf],Out.refl hw,rfl,λes e he=>.inl ?_⟩
  simp only[Go.choose,Sem.events,Sem.runT,if_pos hf] at he
  exact he
 .rw[run_choose,if_neg hf]
  intro same
  refine⟨E,q.cut (re.tape re.drawn q),{ re with drawn:=re.drawn+1 },by rw[run_choose,if_neg hf],?_,?_,λes e he=>.inl ?_⟩
  .exact⟨λ_ _ x=>x,⟨hw.jB,hw.jK,hw.j5,hw.mG,hw.glob,hw.inj,hw.cells⟩,λ_ _ x=>.inl x,Nat.le_refl _,Nat.le_refl _,rfl,rfl,by simp,by simp,rfl,rfl,rfl,rfl,λ_ _ _=>rfl,λ_ _ _=>rfl,Nat.add_comm _ _,λi hi=>by simp at hi;omega⟩
  .have:=same 0 (by simp)
   simp only[Nat.add_zero] at this
   rw[this]
  .simp only[Go.choose,Sem.events,Sem.runT,if_neg hf] at he
   exact he
end
variable {a a':Addr} {b:Nat} {o:Obj} {v':Value}
variable {P:Program} {fns:Fx} {E E' DJ:Nat->Nat->Prop} {Z:Nat->Prop} {gh re ji re' MF Iz:World}
theorem heap_setCell{w:World}{v:Value}{c:Array Value}{elem:TypeId}{fr:Nat × Nat}(h:w.heap[a.block]?=some (.cells c elem fr))(hs:a.spot.isSome=false)(b:Nat) :
 (w.setCell a v).heap[b]?=if b=a.block then some (.cells (c.setIfInBounds a.off v) elem fr) else w.heap[b]?:=by
 unfold World.setCell
 simp only[Array.getElem?_modify]
 by_cases hb:a.block=b
 .subst hb;simp[h,hs]
 .have:b≠a.block:=λe=>hb e.symm
  simp[hb,this]
theorem ak.store{v:Value}(ha:AS fns E a a')(hv:VR fns E v v'):ak P fns Z E (store a v) (store a' v') (λ_ _ _=>True):=by
 intro gh re hw
 by_cases ho:v.oneCell'=true
 .have ho':v'.oneCell'=true:=by
   cases v with
   |pointer a=>obtain⟨b,rfl,_⟩:=aM.1 hv;rfl
   |slice a l c=>obtain⟨b,rfl,_⟩:=aJ.1 hv;rfl
   |map r=>obtain⟨rfl,rfl⟩:=fE.1 hv;rfl
   |chan r=>obtain⟨rfl,rfl⟩:=dI.1 hv;rfl
   |func f x y=>obtain⟨x',y',rfl,_⟩:=dz.1 hv;rfl
   |iface t u=>obtain⟨u',rfl,_⟩:=bE.1 hv;rfl
   |agg x=>cases ho
   |tuple x=>cases ho
   |float=>exact(b_ hv).elim
   |complex=>exact(bO hv).elim
   |_=>rw[VR] at hv;subst hv;rfl
  rw[run_store P gh a v _ ho]
  cases hc:gh.cell? a with
  |none =>
   obtain⟨s,hs⟩:=hw.ae6 (P:=P) ha v (Mode.plain==.atomic)
   simp only[hs];rfl
  |some u =>
   obtain⟨u',h1,h2⟩:=hw.cell ha hc
   obtain⟨c,c',elem,fr,fr',k1,k2,k3,k4,k5⟩:∃ c c' elem fr fr',gh.heap[a.block]?=some (.cells c elem fr)/\re.heap[a'.block]?=some (.cells c' elem fr')/\CR fns E (Z a.block) (fns.lo a.block) c c'/\(¬Z a.block->fr'=fr)/\(Z a.block->∀ i,i<c.size->fr.1<=i/\i<fr.2):=by
    rcases hw.cells _ _ ha.1 with h|⟨x,x',l,h1,_⟩
    .exact h
    .simp[World.cell?,h1] at hc
   have hsp:a.spot.isSome=false:=by
    cases hsp:a.spot.isSome with
    |false=>rfl
    |true=>simp[World.cell?,k1,hsp] at hc
   have hoff:a.off<c.size:=by
    simp only[World.cell?,k1,hsp] at hc
    exact(Array.getElem?_eq_some_iff.1 hc).1
   by_cases hfz:gh.frozen? a=true
   .simp only[hfz];rfl
   .have hnz:¬Z a.block:=λhz=>hfz (by simp[World.frozen?,k1,k5 hz a.off hoff])
    have ae7:a'.spot.isSome=false:=by rw[<-ha.2.2.1];exact hsp
    have hfz':re.frozen? a'=false:=by
     have:gh.frozen? a=re.frozen? a':=by simp only[World.frozen?,k1,k2,k4 hnz,ha.2.1]
     rw[<-this];simpa using hfz
    simp only[hfz]
    intro _
    have g1:=heap_setCell (v:=v) k1 hsp
    have g2:=heap_setCell (v:=v') k2 ae7
    have ra:aV fns E (c.setIfInBounds a.off v) (c'.setIfInBounds a'.off v'):=by rw[<-ha.2.1];exact(k3.all hnz (fns.pl _ (hw.jK.1 _ hnz))).set _ hv
    refine⟨E,(),re.setCell a' v',by rw[run_store (fns.re P) re a' v' _ ho',h1];simp[hfz'],⟨λ_ _ x=>x,⟨λx hx=>by simpa [World.setCell] using hw.jB x hx,hw.jK,by simpa [World.setCell] using hw.j5,by simpa [World.setCell] using hw.mG,hw.glob,hw.inj,λx y hxy=>?_⟩,λ_ _ x=>.inl x,by simp[World.setCell],by simp[World.setCell],rfl,rfl,Nat.le_refl _,by simp[World.setCell],rfl,rfl,rfl,rfl,λb _ hz=>?_,λb _ hz=>?_,by simp[World.setCell,Nat.add_comm],λi hi=>by simp[World.setCell] at hi;omega⟩,trivial,λes e he=>?_⟩
    .rw[g1,g2]
     by_cases hx:x=a.block
     .have hy:y=a'.block:=(hw.inj _ _ _ _ hxy ha.1).1 hx
      subst hx;subst hy
      rw[if_pos rfl,if_pos rfl]
      exact .inl ⟨_,_,elem,fr,fr',rfl,rfl,CR.of ra,k4,λhz i hi=>k5 hz i (by simpa using hi)⟩
     .have hy:y≠a'.block:=λe=>hx ((hw.inj _ _ _ _ ha.1 hxy).2 e.symm (.inr (hw.jK.1 _ hnz))).symm
      rw[if_neg hx,if_neg hy]
      exact hw.cells _ _ hxy
    .rw[g2,if_neg]
     intro e
     exact hnz (hz a.block (e▸ha.1))
    .rw[g1,if_neg]
     intro e
     subst e
     exact hnz (hz a'.block ha.1)
    .rw[events_store _ _ _ _ _ _ ho',h1] at he
     simp only[hfz',Bool.false_eq_true,if_false,Array.mem_push] at he
     rcases he with he|rfl
     .exact .inl he
     .exact .inr (.inl ⟨a'.block,rfl,rfl,a.block,ha.1,λ_=>hnz⟩)
 .have:∃ s,(Go.store a v).run P gh=.halt (.stuck s) gh:=by
   cases v with
   |agg x=>exact⟨_,rfl⟩
   |tuple x=>exact⟨_,rfl⟩
   |_=>exact absurd rfl ho
  obtain⟨s,hs⟩:=this
  rw[hs];rfl
theorem lt_of_heap{w:World}(h:w.heap[b]?=some o):b<w.heap.size:=(Array.getElem?_eq_some_iff.1 h).1
theorem WR.lt(hw:WR P fns E Z gh re){a:Nat}(x:E a b):a<gh.heap.size/\b<re.heap.size:=by
 rcases hw.cells _ _ x with ⟨_,_,_,_,_,k1,k2,_⟩|⟨_,_,_,k1,k2,_⟩<;>exact⟨lt_of_heap k1,lt_of_heap k2⟩
theorem Out.new(hw:WR P fns E Z gh re){o':Obj} (ho:∀ mH:Nat->Nat->Prop,(∀ a b,E a b->mH a b) ->
 (∃ c c' elem fr,o=.cells c elem fr/\o'=.cells c' elem fr/\aV fns mH c c')\/(∃ x x' lost,o=.number x lost/\o'=.number x' lost/\AR fns mH x x')) :
 Out P fns E (λa b=>E a b\/(a=gh.heap.size/\b=re.heap.size)) Z gh re { gh with heap:=gh.heap.push o } { re with heap:=re.heap.push o' }:=by
 have g1:∀ b,b<gh.heap.size->(gh.heap.push o)[b]?=gh.heap[b]?:=λb hb=>by rw[Array.getElem?_push_lt hb,Array.getElem?_eq_getElem hb]
 have g2:∀ b,b<re.heap.size->(re.heap.push o')[b]?=re.heap[b]?:=λb hb=>by rw[Array.getElem?_push_lt hb,Array.getElem?_eq_getElem hb]
 have up:∀ a b,E a b->(E a b\/(a=gh.heap.size/\b=re.heap.size)):=λa b x=>.inl x
 have b1:=hw.j5
 have b2:=hw.mG
 refine⟨up,⟨λa ha=>?_,hw.jK,by simp;omega,by simp;omega,λa b x y=>?_,λa b a' b' x y=>?_,λa b x=>?_⟩,λa b x=>?_,by simp,by simp,rfl,rfl,Nat.le_refl _,by simp,rfl,rfl,rfl,rfl,λb hb _=>g2 b hb,λa ha _=>g1 a ha,by simp;omega,λi hi=>?_⟩
 .have:=hw.jB a ha;simp;omega
 .rcases x with x|⟨rfl,rfl⟩
  .exact hw.glob _ _ x y
  .omega
 .rcases x with x|⟨rfl,rfl⟩<;>rcases y with y|⟨rfl,rfl⟩
  .exact hw.inj _ _ _ _ x y
  .have:=hw.lt x;exact⟨λe=>by omega,λe=>by omega⟩
  .have:=hw.lt y;exact⟨λe=>by omega,λe=>by omega⟩
  .exact⟨λ_=>rfl,λ_ _=>rfl⟩
 .rcases x with x|⟨rfl,rfl⟩
  .have hl:=hw.lt x
   rcases hw.cells _ _ x with ⟨d,d',el,fr,fr',k1,k2,k3,k4,k5⟩|⟨x,x',l,k1,k2,k3⟩
   .exact .inl ⟨d,d',el,fr,fr',by rw[g1 _ hl.1];exact k1,by rw[g2 _ hl.2];exact k2,k3.up up,k4,k5⟩
   .exact .inr ⟨x,x',l,by rw[g1 _ hl.1];exact k1,by rw[g2 _ hl.2];exact k2,k3.up up⟩
  .rcases ho _ up with ⟨c,c',elem,fr,rfl,rfl,hc⟩|⟨x,x',l,rfl,rfl,hx⟩
   .exact .inl ⟨c,c',elem,fr,fr,by simp,by simp,CR.of hc,λ_=>rfl,λhz=>absurd (hw.jB _ hz) (Nat.lt_irrefl _)⟩
   .exact .inr ⟨x,x',l,by simp,by simp,hx⟩
 .rcases x with x|⟨rfl,rfl⟩
  .exact .inl x
  .exact .inr ⟨Nat.le_refl _,Nat.le_refl _⟩
 .simp only[Array.size_push] at hi
  have:i=0:=by omega
  subst this
  exact .inr ⟨rfl,rfl⟩
theorem ak.newObj{o':Obj} (ho:∀ mH:Nat->Nat->Prop,(∀ a b,E a b->mH a b) ->
 (∃ c c' elem fr,o=.cells c elem fr/\o'=.cells c' elem fr/\aV fns mH c c')\/(∃ x x' lost,o=.number x lost/\o'=.number x' lost/\AR fns mH x x')) :
 ak P fns Z E (newObj o) (newObj o') (λE' r r'=>E' r r'/\fns.pt r=true):=by
 intro gh re hw
 show Same gh { gh with heap:=gh.heap.push o } re->_
 intro _
 exact⟨_,re.heap.size,_,rfl,Out.new hw ho,⟨.inr ⟨rfl,rfl⟩,hw.jK.1 _ λhz=>Nat.lt_irrefl _ (hw.jB _ hz)⟩,λes e he=>.inl (by simpa [Go.newObj,Sem.events,Sem.runT] using he)⟩
theorem ak.newRow{elem:TypeId}{c c':Array Value}(hc:aV fns E c c'):ak P fns Z E (newRow elem c) (newRow elem c') (λE' a a'=>AR fns E' a a'):=by
 unfold Go.newRow
 exact ak.bind (ak.newObj λmH up=>.inl ⟨c,c',elem,_,rfl,rfl,hc.up up⟩) λE' r r' up h=>ak.pure ⟨h.1,rfl,rfl,fns.JX h.2 _⟩
def ShR(s s':Option (TypeId × Nat)):Prop:=(s=none/\s'=none)\/∃ e n n',s=some (e,n)/\s'=some (e,n')/\n<=n'
theorem ShR.isSome{s s':Option (TypeId × Nat)}(h:ShR s s'):s'.isSome=s.isSome:=by
 rcases h with ⟨rfl,rfl⟩|⟨e,n,n',rfl,rfl,_⟩<;>rfl
theorem WR.shape(hw:WR P fns E Z gh re){a:Nat}(x:E a b):ShR (gh.shape? a) (re.shape? b):=by
 rcases hw.cells _ _ x with ⟨c,c',el,fr,fr',k1,k2,k3,_⟩|⟨x,x',l,k1,k2,_⟩
 .exact .inr ⟨el,c.size,c'.size,by simp only[World.shape?,k1],by simp only[World.shape?,k2],k3.le⟩
 .exact .inl ⟨by simp only[World.shape?,k1],by simp only[World.shape?,k2]⟩
theorem ak.shape{a:Nat}(x:E a b):ak P fns Z E (Go.shape a) (Go.shape b) (λ_ s s'=>ShR s s'):=by
 intro gh re hw
 show Same gh gh re->_
 exact λ_=>⟨E,_,re,rfl,Out.refl hw,hw.shape x,λes e he=>.inl (by simpa [Go.shape,Sem.events,Sem.runT] using he)⟩
theorem ak.newVar{t:TypeId}{v:Value}(hv:VR fns E v v'):ak P fns Z E (newVar t v) (newVar t v') (λE' a a'=>AR fns E' a a'):=ak.newRow (lK hv)
theorem ak.typeInfo(t:TypeId):ak P fns Z E (typeInfo t) (typeInfo t) (λ_ i i'=>i'=i/\P.info? t=some i):=by
 unfold Go.typeInfo
 refine ak.bind ak.program (λE' p q _ h=>?_)
 obtain⟨rfl,rfl⟩:=h
 rw[show (fns.re p).info? t=p.info? t from rfl]
 split
 .rename_i i hi;exact ak.pure ⟨rfl,hi⟩
 .exact ak.stuck
theorem ak.underlying(t:TypeId):ak P fns Z E (underlying t) (underlying t) (λ_ i i'=>i'=i/\P.underlying t=some i):=by
 unfold Go.underlying
 refine ak.bind ak.program (λE' p q _ h=>?_)
 obtain⟨rfl,rfl⟩:=h
 rw[show (fns.re p).underlying t=p.underlying t from rfl]
 split
 .rename_i i hi;exact ak.pure ⟨rfl,hi⟩
 .exact ak.stuck
theorem ak.sizeOf(t:TypeId):ak P fns Z E (Go.sizeOf t) (Go.sizeOf t) (λ_ i i'=>i'=i):=by
 unfold Go.sizeOf
 exact ak.bind (ak.typeInfo t) (λE' p q _ h=>ak.pure (by rw[h.1]))
theorem ak.isAgg(t:TypeId):ak P fns Z E (isAgg t) (isAgg t) (λ_ i i'=>i'=i):=by
 unfold Go.isAgg
 refine ak.bind (ak.underlying t) (λE' p q _ h=>?_)
 obtain⟨rfl,_⟩:=h
 split<;>exact ak.pure rfl
def zeros(P:Program)(fns:Fx):Prop:=∀ t i v,fns.tys t=true->P.info? t=some i->i.zero=some v->mF v=true
theorem ak.zeroValue(hz:zeros P fns)(t:TypeId)(ht:fns.tys t=true):ak P fns Z E (zeroValue t) (zeroValue t) (λ_ v v'=>v'=v/\mF v=true):=by
 unfold Go.zeroValue
 refine ak.bind (ak.typeInfo t) (λE' p q _ h=>?_)
 obtain⟨rfl,hi⟩:=h
 split
 .rename_i v hv;exact ak.pure ⟨rfl,hz _ _ _ ht hi hv⟩
 .exact ak.dead rfl
theorem ak.loadCellsFrom:∀ (n i:Nat) {E:Nat->Nat->Prop} {a a':Addr} {acc acc':Array Value},AS fns E a a'->aV fns E acc acc'->ak P fns Z E (loadCellsFrom a i n acc) (loadCellsFrom a' i n acc') (λE' x x'=>aV fns E' x x')
 |0,i,E,a,a',acc,acc',ha,h=>by unfold Go.loadCellsFrom;exact ak.pure h
 |n+1,i,E,a,a',acc,acc',ha,h=>by
  unfold Go.loadCellsFrom
  exact ak.bind (ak.load (ha.add i)) λE' v v' up hv=>ak.loadCellsFrom n (i+1) (ha.up up) ((h.up up).push hv)
theorem ak.loadCells(n:Nat)(ha:AS fns E a a'):ak P fns Z E (loadCells a n) (loadCells a' n) (λE' x x'=>aV fns E' x x'):=ak.loadCellsFrom n 0 ha gu
theorem ak.storeCells:∀ (vs vs':List Value) (i:Nat) {E:Nat->Nat->Prop} {a a':Addr},AS fns E a a'->aV fns E vs.toArray vs'.toArray->ak P fns Z E (storeCells a vs i) (storeCells a' vs' i) (λ_ _ _=>True)
 | [],[],i,E,a,a',ha,h=>by unfold Go.storeCells;exact ak.pure trivial
 | [],v'::vs',i,E,a,a',ha,h=>by have:=h.1;simp at this
 |v::vs,[],i,E,a,a',ha,h=>by have:=h.1;simp at this
 |v::vs,v'::vs',i,E,a,a',ha,h=>by
  unfold Go.storeCells
  have h0:VR fns E v v':=by simpa using h.2 0 (by simp) (by simp)
  have h1:aV fns E vs.toArray vs'.toArray:=⟨by have:=h.1;simpa using this,λj a b=>by
   have:=h.2 (j+1) (by simpa using a) (by simpa using b)
   simpa using this⟩
  exact ak.bind (ak.store (ha.add i) h0) λE' _ _ up _=>ak.storeCells vs vs' (i+1) (ha.up up) (h1.up up)
theorem ak.loadVar(t:TypeId)(ha:AS fns E a a'):ak P fns Z E (loadVar t a) (loadVar t a') (λE' v v'=>VR fns E' v v'):=by
 unfold Go.loadVar
 refine ak.bind (ak.isAgg t) (λE1 b b' up h=>?_)
 subst h
 split
 .refine ak.bind (ak.sizeOf t) (λE2 n n' dV h=>?_)
  subst h
  exact ak.bind (ak.loadCells _ ((ha.up up).up dV)) λE3 x x' gy h=>ak.pure (bW.2 ⟨_,rfl,h⟩)
 .exact ak.load (ha.up up)
theorem gQ{x x':Array Value}(h:aV fns E x x'):aV fns E x.toList.toArray x'.toList.toArray:=by simpa using h
def aK(P:Program){α:Type}(s:Sem α):Prop:=∀ gh,∃ h w,s.run P gh=.halt h w/\dead h=true
section
variable {α β γ:Type}
theorem ak.dies{s:Sem α}{s':Sem β}{Φ:(Nat->Nat->Prop)->α->β->Prop}(h:aK P s):ak P fns Z E s s' Φ:=by
 intro gh re _
 obtain⟨h,w,e,hd⟩:=h gh
 rw[e];exact hd
theorem aK.halt{h:Halt}(hd:dead h=true):aK P (Sem.halt h:Sem α):=λgh=>⟨h,gh,rfl,hd⟩
theorem aK.stuck{why:String}:aK P (Go.stuck why:Sem α):=aK.halt rfl
theorem aK.panic{v:Value}:aK P (goPanic v:Sem α):=aK.halt rfl
theorem aK.bind{s:Sem α}{f:α->Sem β}(h:aK P s):aK P (s >>= f):=λgh=>by
 obtain⟨h,w,e,hd⟩:=h gh
 exact⟨h,w,by rw[Sem.run_bind,e];rfl,hd⟩
theorem aK.nO{s:Sem α}{f:α->Sem β}(hs:∀ gh,(∃ a w,s.run P gh=.ok a w)\/∃ h w,s.run P gh=.halt h w/\dead h=true)(h:∀ a,aK P (f a)):aK P (s >>= f):=λgh=>by
 rcases hs gh with ⟨a,w,e⟩|⟨h,w,e,hd⟩
 .obtain⟨h,w',e',hd⟩:=h a w
  exact⟨h,w',by rw[Sem.run_bind,e];exact e',hd⟩
 .exact⟨h,w,by rw[Sem.run_bind,e];rfl,hd⟩
theorem CZ(t:TypeId)(gh:World):(∃ a w,(elemOf t).run P gh=.ok a w)\/∃ h w,(elemOf t).run P gh=.halt h w/\dead h=true:=by
 simp only[Go.elemOf,Go.underlying,Sem.run_bind,run_program,Result.andThen_ok]
 cases P.underlying t with
 |none=>exact .inr ⟨_,_,rfl,rfl⟩
 |some d=>cases d<;>first|exact .inl ⟨_,_,rfl⟩|exact .inr ⟨_,_,rfl,rfl⟩
theorem aK.runtimePanic(e:RuntimeError):aK P (runtimePanic e:Sem α):=by
 unfold Go.runtimePanic
 refine aK.nO (λgh=>.inl ⟨_,_,rfl⟩) λp=>?_
 cases e<;>dsimp only<;>first
  |exact aK.panic
  |exact aK.nO (CZ _) λ_=>aK.nO (λgh=>.inl ⟨_,_,rfl⟩) λ_=>aK.panic
theorem aK.boundsPanic(k:IntKind)(x y:Int)(c:BoundsCode):aK P (boundsPanic k x y c:Sem α):=by
 unfold Go.boundsPanic
 dsimp only
 split
 .refine aK.nO (λgh=>.inl ?_) λs=>aK.runtimePanic _
  rw[Sem.run_map,run_choose]
  split<;>exact⟨_,_,rfl⟩
 .exact aK.nO (λgh=>.inl ⟨_,_,rfl⟩) λs=>aK.runtimePanic _
end
theorem ak.storeVar(t:TypeId){v:Value}(ha:AS fns E a a')(hv:VR fns E v v'):ak P fns Z E (storeVar t a v) (storeVar t a' v') (λ_ _ _=>True):=by
 unfold Go.storeVar
 have hc:=lK hv
 refine ak.bind (ak.sizeOf t) (λE1 n n' up h=>?_)
 subst h
 rw[<-hc.1]
 dsimp only
 split
 .exact ak.dies aK.stuck.bind
 .exact ak.storeCells _ _ 0 (ha.up up) (gQ (hc.up up))
variable {a a':Addr} {b:Nat} {v':Value}
variable {P:Program} {fns:Fx} {E E' DJ:Nat->Nat->Prop} {Z:Nat->Prop} {gh re ji re' MF Iz:World}
theorem ak.getObj{a:Nat}(x:E a b):ak P fns Z E (Go.getObj a) (Go.getObj b) (λE' o o'=>∃ y y' lost,o=.number y lost/\o'=.number y' lost/\AR fns E' y y'):=by
 intro gh re hw
 rcases hw.cells _ _ x with ⟨c,c',el,fr,fr',k1,k2,k3,_⟩|⟨y,y',l,k1,k2,k3⟩
 .simp only[Go.getObj,Sem.run,k1];rfl
 .simp only[Go.getObj,Sem.run,k1]
  intro _
  refine⟨E,.number y' l,re,by simp only[k2],Out.refl hw,⟨y,y',l,rfl,rfl,k3⟩,λes e he=>?_⟩
  simp only[Sem.events,Sem.runT,k2,Array.mem_push] at he
  rcases he with he|rfl
  .exact .inl he
  .exact .inr (.inl ⟨b,rfl,rfl,a,x,λh=>by cases h⟩)
theorem ak.viewAt{a:Nat}(x:E a b):ak P fns Z E (viewAt a) (viewAt b) (λ_ s s'=>s=none/\s'=none):=by
 unfold Go.viewAt
 refine ak.bind (ak.shape x) λE1 s s' up h=>?_
 rw[h.isSome]
 split
 .exact ak.pure ⟨rfl,rfl⟩
 .refine ak.bind (ak.getObj (up _ _ x)) λE2 o o' dV h=>?_
  obtain⟨y,y',l,rfl,rfl,_⟩:=h
  exact ak.pure ⟨rfl,rfl⟩
theorem ak.numberAt{a:Nat}(x:E a b):ak P fns Z E (numberAt a) (numberAt b) (λE' s s'=>(s=none/\s'=none)\/∃ y y' l,s=some (y,l)/\s'=some (y',l)/\AR fns E' y y'):=by
 unfold Go.numberAt
 refine ak.bind (ak.shape x) λE1 s s' up h=>?_
 rw[h.isSome]
 split
 .exact ak.pure (.inl ⟨rfl,rfl⟩)
 .refine ak.bind (ak.getObj (up _ _ x)) λE2 o o' dV h=>?_
  obtain⟨y,y',l,rfl,rfl,hy⟩:=h
  exact ak.pure (.inr ⟨y,y',l,rfl,rfl,hy⟩)
theorem ak.behindNumber(ha:AR fns E a a'):ak P fns Z E (behindNumber a) (behindNumber a') (λE' s s'=>AR fns E' s.1 s'.1/\s.2=s'.2):=by
 unfold Go.behindNumber
 refine ak.bind (ak.numberAt ha.1) λE1 s s' up h=>ak.pure ?_
 rcases h with ⟨rfl,rfl⟩|⟨y,y',l,rfl,rfl,hy⟩
 .exact⟨ha.up up,rfl⟩
 .exact⟨hy,rfl⟩
theorem ak.asNumber(ha:AR fns E a a')(lost:Bool):ak P fns Z E (asNumber a lost) (asNumber a' lost) (λE' v v'=>VR fns E' v v'):=by
 unfold Go.asNumber
 exact ak.bind (ak.newObj λmH up=>.inr ⟨a,a',lost,rfl,rfl,ha.up up⟩) λE1 r r' up h=>ak.pure (aM.2 ⟨_,rfl,h.1,rfl,rfl,fns.JX h.2 _⟩)
theorem ak.noView(ha:AS fns E a a'):ak P fns Z E (noView a) (noView a') (λ_ _ _=>True):=by
 unfold Go.noView
 refine ak.bind (ak.viewAt ha.1) λE1 s s' up h=>?_
 obtain⟨rfl,rfl⟩:=h
 exact ak.pure trivial
theorem pU(P:Program)(fns:Fx)(d:Nat)(t:TypeId)(o:Nat):byteOfCell (fns.re P) d t o=byteOfCell P d t o:=by
 induction d generalizing t o with
 |zero=>rfl
 |succ d ih =>
  unfold byteOfCell
  simp only[ih]
  rfl
theorem ak.byteOf(ha:AS fns E a a'):ak P fns Z E (byteOf a) (byteOf a') (λ_ n n'=>n'=n):=by
 unfold Go.byteOf
 rw[<-ha.2.2.1,<-ha.2.1]
 dsimp only
 split
 .exact ak.pure rfl
 .refine ak.bind ak.program λE1 p q up h=>?_
  obtain⟨rfl,rfl⟩:=h
  refine ak.bind (ak.noView (ha.up up)) λE2 _ _ dV _=>?_
  refine ak.bind (ak.shape (dV _ _ (up _ _ ha.1))) λE3 s s' gy h=>?_
  rcases h with ⟨rfl,rfl⟩|⟨e,n,n',rfl,rfl,_⟩
  .exact ak.stuck
  .dsimp only
   rw[show (fns.re p).cellsOf e=p.cellsOf e from rfl,show (fns.re p).depth=p.depth from rfl,pU,show (fns.re p).bytesOf e=p.bytesOf e from rfl]
   split
   .exact ak.pure rfl
   .split
    .exact ak.pure rfl
    .exact ak.stuck
theorem ak.partAt(ha:AR fns E a a')(c b:Nat):ak P fns Z E (partAt a c b) (partAt a' c b) (λE' x x'=>AR fns E' x x'):=by
 unfold Go.partAt
 refine ak.bind (ak.byteOf ha.as) λE1 n n' up h=>?_
 subst h
 have hp:AR fns E1 { block:=a.block,off:=a.off+c } { block:=a'.block,off:=a'.off+c }:=⟨up _ _ ha.1,by simp[ha.2.1],rfl,ha.2.2.2.1,Nat.le_trans ha.2.2.2.2 (Nat.le_add_right _ _)⟩
 dsimp only
 refine ak.bind (ak.byteOf hp.as) λE2 n n' dV h=>ak.pure ?_
 subst h
 split
 .exact hp.up dV
 .exact⟨dV _ _ hp.1,hp.2.1,rfl,hp.2.2.2⟩
theorem ak.fieldPlace(ha:AR fns E a a')(f:Field):ak P fns Z E (fieldPlace a f) (fieldPlace a' f) (λE' x x'=>AR fns E' x x'):=by
 unfold Go.fieldPlace
 refine ak.bind (ak.sizeOf _) λE1 n n' up h=>?_
 subst h
 split
 .exact ak.partAt (ha.up up) _ _
 .exact ak.pure ((ha.up up).add _)
theorem ak.TD(ha:AS fns E a a')(c b:Nat):ak P fns Z E (Go.partAt a c b) (Go.partAt a' c b) (λE' x x'=>AS fns E' x x'):=by
 unfold Go.partAt
 refine ak.bind (ak.byteOf ha) λE1 n n' up h=>?_
 subst h
 have hp:AS fns E1 { block:=a.block,off:=a.off+c } { block:=a'.block,off:=a'.off+c }:=⟨up _ _ ha.1,by simp[ha.2.1],rfl,Nat.le_trans ha.2.2.2 (Nat.le_add_right _ _)⟩
 dsimp only
 refine ak.bind (ak.byteOf hp) λE2 n n' dV h=>ak.pure ?_
 subst h
 split
 .exact hp.up dV
 .exact⟨dV _ _ hp.1,hp.2.1,rfl,hp.2.2.2⟩
theorem ak.FP(ha:AS fns E a a')(f:Field):ak P fns Z E (Go.fieldPlace a f) (Go.fieldPlace a' f) (λE' x x'=>AS fns E' x x'):=by
 unfold Go.fieldPlace
 refine ak.bind (ak.sizeOf _) λE1 n n' up h=>?_
 subst h
 split
 .exact ak.TD (ha.up up) _ _
 .exact ak.pure ((ha.up up).add _)
theorem ak.asIntOf{v:Value}(hv:VR fns E v v'):ak P fns Z E (asIntOf v) (asIntOf v') (λ_ n n'=>n'=n):=by
 cases v with
 |int k n=>rw[dD] at hv;subst hv;exact ak.pure rfl
 |pointer a=>cases a<;>exact ak.dies (aK.halt rfl)
 |_=>exact ak.dies (aK.halt rfl)
theorem ak.asInt{v:Value}(hv:VR fns E v v'):ak P fns Z E (asInt v) (asInt v') (λ_ n n'=>n'=n):=by
 unfold Go.asInt
 exact ak.bind (ak.asIntOf hv) λE1 n n' up h=>ak.pure (by rw[h])
theorem ak.asBool{v:Value}(hv:VR fns E v v'):ak P fns Z E (asBool v) (asBool v') (λ_ n n'=>n'=n):=by
 cases v with
 |bool b=>rw[l5] at hv;subst hv;exact ak.pure rfl
 |_=>exact ak.dies (aK.halt rfl)
theorem ak.asAddr{v:Value}(hv:VR fns E v v'):ak P fns Z E (asAddr v) (asAddr v') (λE' a a'=>AR fns E' a a'):=by
 cases v with
 |pointer a =>
  obtain⟨b,rfl,h⟩:=aM.1 hv
  cases a with
  |none=>exact ak.dies (show aK P (Go.runtimePanic .nilDeref) from aK.runtimePanic _)
  |some a=>obtain⟨b',rfl,h⟩:=dA.1 h;exact ak.pure h
 |_=>exact ak.dies (aK.halt rfl)
theorem ak.sureAddr{v:Value}(hv:VR fns E v v'):ak P fns Z E (Instr.sureAddr v) (Instr.sureAddr v') (λE' a a'=>AR fns E' a a'):=by
 cases v with
 |pointer a =>
  obtain⟨b,rfl,h⟩:=aM.1 hv
  cases a with
  |none=>exact ak.dies (aK.halt rfl)
  |some a=>obtain⟨b',rfl,h⟩:=dA.1 h;exact ak.pure h
 |_=>exact ak.dies (aK.halt rfl)
def VZ(fns:Fx)(E:Nat->Nat->Prop)(v v':Value):Prop:=VR fns E v v'\/∃ a b,v=.pointer (some a)/\v'=.pointer (some b)/\AS fns E a b
theorem VZ.full{v:Value}(h:VZ fns E v v')(hf:fns.full=true):VR fns E v v':=by
 rcases h with h|⟨a,b,rfl,rfl,h⟩
 .exact h
 .exact aM.2 ⟨_,rfl,dA.2 ⟨_,rfl,h.full hf⟩⟩
theorem VZ.up{v:Value}(h:VZ fns E v v')(hE:∀ a b,E a b->E' a b):VZ fns E' v v':=by
 rcases h with h|⟨a,b,rfl,rfl,h⟩
 .exact .inl (h.up hE)
 .exact .inr ⟨a,b,rfl,rfl,h.up hE⟩
theorem ak.ug{v:Value}(hv:VZ fns E v v'):ak P fns Z E (Instr.sureAddr v) (Instr.sureAddr v') (λE' a a'=>AS fns E' a a'):=by
 rcases hv with hv|⟨a,b,rfl,rfl,h⟩
 .exact(ak.sureAddr hv).mono λ_ _ _ _ h=>h.as
 .exact ak.pure h
theorem ak.loadAt(t:TypeId){v:Value}(hv:VZ fns E v v'):ak P fns Z E (Instr.loadAt t v) (Instr.loadAt t v') (λE' v v'=>VR fns E' v v'):=by
 unfold Instr.loadAt
 exact ak.bind (ak.ug hv) λE1 a a' up h=>ak.loadVar t h
theorem ak.storeAt(t:TypeId){v x x':Value}(hv:VZ fns E v v')(hx:VR fns E x x'):ak P fns Z E (Instr.storeAt t v x) (Instr.storeAt t v' x') (λ_ _ _=>True):=by
 unfold Instr.storeAt
 exact ak.bind (ak.ug hv) λE1 a a' up h=>ak.storeVar t h (hx.up up)
theorem ak.fieldAt(s:TypeId){v:Value}(hv:VR fns E v v')(f:Nat):ak P fns Z E (Instr.fieldAt s v f) (Instr.fieldAt s v' f) (λE' v v'=>VR fns E' v v'):=by
 unfold Instr.fieldAt
 refine ak.bind (ak.underlying s) λE1 d d' up h=>?_
 obtain⟨rfl,_⟩:=h
 split
 .split
  .refine ak.bind (ak.sureAddr (hv.up up)) λE2 a a' dV h=>?_
   exact ak.bind (ak.fieldPlace h _) λE3 x x' gy h=>ak.pure (aM.2 ⟨_,rfl,h⟩)
  .exact ak.stuck
 .exact ak.stuck
theorem ak.Pt(s:TypeId){v:Value}(hv:VZ fns E v v')(f:Nat):ak P fns Z E (Instr.fieldAt s v f) (Instr.fieldAt s v' f) (λE' v v'=>VZ fns E' v v'):=by
 unfold Instr.fieldAt
 refine ak.bind (ak.underlying s) λE1 d d' up h=>?_
 obtain⟨rfl,_⟩:=h
 split
 .split
  .refine ak.bind (ak.ug (hv.up up)) λE2 a a' dV h=>?_
   exact ak.bind (ak.FP h _) λE3 x x' gy h=>ak.pure (.inr ⟨_,_,rfl,rfl,h⟩)
  .exact ak.stuck
 .exact ak.stuck
theorem ak.alloc(hz:zeros P fns)(t:TypeId)(ht:fns.tys t=true):ak P fns Z E (Instr.alloc t true (.tuple #[])) (Instr.alloc t true (.tuple #[])) (λE' v v'=>VR fns E' v v'):=by
 unfold Instr.alloc
 refine ak.bind (ak.zeroValue hz t ht) λE1 v v' up h=>?_
 obtain⟨rfl,hc⟩:=h
 exact ak.bind (ak.newVar (jU hc)) λE2 a a' dV h=>ak.pure (aM.2 ⟨_,rfl,h⟩)
theorem ak.box(t:TypeId){v:Value}(hv:VR fns E v v'):ak P fns Z E (Instr.box t v) (Instr.box t v') (λE' v v'=>VR fns E' v v'):=by
 unfold Instr.box
 exact ak.bind (ak.newVar hv) λE2 a a' dV h=>ak.pure (aM.2 ⟨_,rfl,h⟩)
def uh(fns:Fx)(E:Nat->Nat->Prop)(x x':List (Nat × Value)):Prop:=x.map (·.1)=x'.map (·.1)/\aV fns E (x.map (·.2)).toArray (x'.map (·.2)).toArray
theorem foldl_set(off:Nat):∀ (l l':List Value) (k:Nat) {c c':Array Value},aV fns E l.toArray l'.toArray->aV fns E c c' ->
 aV fns E ((l.zipIdx k).foldl (λcs (x:Value × Nat)=>cs.setIfInBounds (off+x.2) x.1) c) ((l'.zipIdx k).foldl (λcs (x:Value × Nat)=>cs.setIfInBounds (off+x.2) x.1) c')
 | [],[],k,c,c',h,hc=>hc
 | [],v'::vs',k,c,c',h,hc=>by have:=h.1;simp at this
 |v::vs,[],k,c,c',h,hc=>by have:=h.1;simp at this
 |v::vs,v'::vs',k,c,c',h,hc=>by
  have h0:VR fns E v v':=by simpa using h.2 0 (by simp) (by simp)
  have h1:aV fns E vs.toArray vs'.toArray:=⟨by have:=h.1;simpa using this,λj a b=>by
   have:=h.2 (j+1) (by simpa using a) (by simpa using b)
   simpa using this⟩
  simp only[List.zipIdx_cons,List.foldl_cons]
  exact foldl_set off vs vs' (k+1) h1 (hc.set _ h0)
theorem mI(place:Nat->Option (Nat × Nat)):∀ (l l':List (Nat × Value)) {c c':Array Value},uh fns E l l'->aV fns E c c' ->
 (∃ d d',Instr.fill place c l=some d/\Instr.fill place c' l'=some d'/\aV fns E d d')\/(Instr.fill place c l=none)
 | [],[],c,c',h,hc=>.inl ⟨c,c',rfl,rfl,hc⟩
 | [],v'::vs',c,c',h,hc=>by have:=h.1;simp at this
 |v::vs,[],c,c',h,hc=>by have:=h.1;simp at this
 | (i,v)::vs,(i',v')::vs',c,c',h,hc=>by
   obtain⟨g1,g2⟩:=h
   simp only[List.map_cons,List.cons.injEq] at g1
   obtain⟨rfl,g1⟩:=g1
   have h0:VR fns E v v':=by simpa using g2.2 0 (by simp) (by simp)
   have h1:uh fns E vs vs':=⟨g1,⟨by have:=g2.1;simpa using this,λj a b=>by
    have:=g2.2 (j+1) (by simpa using a) (by simpa using b)
    simpa using this⟩⟩
   have hv:=lK h0
   unfold Instr.fill
   cases place i with
   |none=>exact .inr rfl
   |some x =>
    obtain⟨off,size⟩:=x
    dsimp only
    rw[<-hv.1,<-hc.1]
    split
    .exact .inr rfl
    .refine mI place vs vs' h1 ?_
     have:=foldl_set off v.cells.toList v'.cells.toList 0 (by simpa using hv) hc
     rw[<-Array.foldl_toList,<-Array.foldl_toList]
     simpa [Array.toList_zipIdx] using this
