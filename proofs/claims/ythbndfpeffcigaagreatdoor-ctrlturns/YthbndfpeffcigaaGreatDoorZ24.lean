/- Part of the proof. -/
import Derived.Test.YthbndfpeffcigaaGreatDoorZ23
import Derived.Conc.CrowdTrace
namespace Go.Proofs.YthbndfpeffcigaaGreatDoor
open Go Go.Conc
variable {a b:Option Addr} {gh:World}
variable {P:Program} {Z:Nat->Prop} {fns:Fx} {main:Bool} {E E':Nat->Nat->Prop} {K:List Frame}
def dom(E:Nat->Nat->Prop)(a b:Nat):Prop:=a=b/\∃ x,E a x
theorem AR.dom{a b:Addr}(h:AR fns E a b):AR fns (dom E) a a:=⟨⟨rfl,_,h.1⟩,rfl,rfl,h.2.2.2⟩
theorem OA.dom(h:OA fns E a b):OA fns (dom E) a a:=by
 cases a with
 |none=>trivial
 |some a=>obtain⟨b',rfl,g⟩:=cB.1 h;exact AR.dom g
theorem AS.dom{a b:Addr}(h:AS fns E a b):AS fns (dom E) a a:=⟨⟨rfl,_,h.1⟩,rfl,rfl,h.2.2.2⟩
theorem OS.dom(h:OS fns E a b):OS fns (dom E) a a:=by
 cases a with
 |none=>trivial
 |some a=>obtain⟨b',rfl,g⟩:=dO.1 h;exact AS.dom g
theorem SR.dom{l c:Nat}(h:SR fns E l c a b):SR fns (dom E) l c a a:=h.imp (λx=>x.dom) λx=>⟨x.1,x.2.1,rfl⟩
theorem RG.dom{f f':Fn}(h:RG fns E f f'):RG fns (dom E) f f:=h.imp (λx=>⟨rfl,x.2⟩) λ⟨u,l,_,a,_,c⟩=>⟨u,l,l,a,a,rfl,_,c⟩
theorem VR.afo:∀ (n:Nat) (v v':Value),SizeOf.sizeOf v<n->VR fns E v v'->VR fns (dom E) v v:=by
 intro n
 induction n with
 |zero=>intro v v' h;omega
 |succ n ih =>
  have arr:∀ x x':Array Value,(∀ i (h:i<x.size),SizeOf.sizeOf x[i]<n)->aV fns E x x'->aV fns (dom E) x x :=
   λx x' h2 h3=>⟨rfl,λi h _=>ih _ _ (h2 i h) (h3.2 i h (h3.1▸h))⟩
  intro v v' hn hv
  cases v with
  |pointer a=>obtain⟨b,rfl,h⟩:=aN.1 hv;exact aN.2 ⟨_,rfl,h.dom⟩
  |slice a l c=>obtain⟨b,rfl,h⟩:=aO.1 hv;exact aO.2 ⟨_,rfl,h.dom⟩
  |map r=>obtain⟨rfl,rfl⟩:=dZ.1 hv;exact dZ.2 ⟨rfl,rfl⟩
  |chan r=>obtain⟨rfl,rfl⟩:=cZ.1 hv;exact cZ.2 ⟨rfl,rfl⟩
  |func f x y =>
   obtain⟨f',x',y',rfl,h2,h3,h4⟩:=cu.1 hv
   exact cu.2 ⟨_,_,_,rfl,h2.dom,arr _ _ (λi h=>by have:=Array.sizeOf_getElem x i h;simp at hn;omega) h3,arr _ _ (λi h=>by have:=Array.sizeOf_getElem y i h;simp at hn;omega) h4⟩
  |iface t u=>obtain⟨u',rfl,h⟩:=bf.1 hv;exact bf.2 ⟨_,rfl,ih _ _ (by simp at hn;omega) h.1,h.2⟩
  |agg x=>obtain⟨x',rfl,h⟩:=bQ.1 hv;exact bQ.2 ⟨_,rfl,arr _ _ (λi h=>by have:=Array.sizeOf_getElem x i h;simp at hn;omega) h⟩
  |tuple x=>obtain⟨x',rfl,h⟩:=bq.1 hv;exact bq.2 ⟨_,rfl,arr _ _ (λi h=>by have:=Array.sizeOf_getElem x i h;simp at hn;omega) h⟩
  |float=>exact(bV hv).elim
  |complex=>exact(bL hv).elim
  |_=>rw[VR]
theorem VR.dom{v v':Value}(h:VR fns E v v'):VR fns (dom E) v v:=VR.afo (SizeOf.sizeOf v+1) v v' (by omega) h
theorem aV.dom{x x':Array Value}(h:aV fns E x x'):aV fns (dom E) x x:=⟨rfl,λi a _=>(h.2 i a (h.1▸a)).dom⟩
theorem VZ.dom{v v':Value}(h:VZ fns E v v'):VZ fns (dom E) v v:=by
 rcases h with h|⟨a,b,rfl,rfl,h⟩
 .exact .inl h.dom
 .exact .inr ⟨a,a,rfl,rfl,h.dom⟩
theorem TR.dom{ia:Nat->Bool}{x x':Array Value}(h:TR fns ia E x x'):TR fns ia (dom E) x x:=⟨rfl,λi a _=>(h.2 i a (h.1▸a)).imp (·.dom) λy=>⟨y.1,y.2.dom⟩⟩
theorem CR.dom{z:Prop}{lo:Nat}{c c':Array Value}(h:CR fns E z lo c c'):CR fns (dom E) z lo c c:=⟨Nat.le_refl _,λ_=>rfl,λi a _ l=>(h.at_ i a (by have:=h.le;omega) l).dom⟩
theorem IR.dom{i i':Item}(h:IR fns E i i'):IR fns (dom E) i i:=by
 cases i with
 |inRangeFunc l=>obtain⟨l',h1,h2,h3⟩:=h;exact⟨l,rfl,h2,rfl,_,h3⟩
 |endRangeFunc l=>obtain⟨l',h1,h2,h3⟩:=h;exact⟨l,rfl,h2,rfl,_,h3⟩
 |_=>rfl
theorem IL.dom:∀ {k t:List Item},IL fns E k t->IL fns (dom E) k k
 | [],_,_=>rfl
 |i::k,_,⟨_,_,_,h2,h3⟩=>⟨i,k,rfl,h2.dom,IL.dom h3⟩
theorem DL.dom:∀ {l l':List Deferred},DL fns E l l'->DL fns (dom E) l l
 | [],_,_=>rfl
 |_::ds,_,⟨b,_,_,h1,_,h3,h4⟩=>⟨b,b,ds,h1,by rw[h1],⟨h3.1,rfl,_,h3.2⟩,DL.dom h4⟩
theorem OE.dom{o o':Option Nat}(h:OE fns E o o'):OE fns (dom E) o o:=by
 cases o with
 |none=>rfl
 |some l=>obtain⟨l',h1,h2,h3⟩:=h;exact⟨l,rfl,h2,rfl,_,h3⟩
theorem BJ.dom{o o':Obj}(h:BJ P fns E o o'):BJ P fns (dom E) o o:=by
 rcases h with ⟨r,x,d,rfl,rfl,h3,h4⟩|⟨d,h1,rfl,rfl⟩
 .exact .inl ⟨r,r.tmps,r.defers,rfl,rfl,h3,λ_=>⟨rfl,rfl⟩,λu=>let ⟨a,b,c⟩:=h4.2 u;⟨a.dom,⟨rfl,_,b⟩,c⟩⟩
 .exact .inr ⟨d,h1,rfl,rfl⟩
theorem FR.dom{fr fr':Frame}(h:FR P fns E fr fr'):FR P fns (dom E) fr fr :=
 ⟨rfl,h.tmps.dom,h.todo.dom,h.ok,h.d.dom,rfl,h.runs,h.k,h.k,h.r.dom,h.func,h.same,λg hg=>⟨⟨rfl,_,(h.gs g hg).1⟩,(h.gs g hg).2⟩⟩
theorem FL.dom:∀ {L:List (Frame × Frame)},FL P fns E L->∃ L',L'.map (·.1)=L.map (·.1)/\L'.map (·.2)=L.map (·.1)/\FL P fns (dom E) L'
 | [],_=>⟨[],rfl,rfl,trivial⟩
 |p::L,h=>by
  obtain⟨L',h1,h2,h3⟩:=FL.dom h.2
  refine⟨(p.1,p.1)::L',by simp[h1],by simp[h2],⟨?_,h.1.2⟩,h3⟩
  exact h.1.1.dom
theorem GR.dom{T:List Frame}{g g':Goroutine}(h:GR P fns E T K g g'):GR P fns (dom E) T T g g:=by
 obtain⟨fr,fr',L,rfl,rfl,hF,hL⟩:=h
 obtain⟨L',h1,h2,h3⟩:=hL.dom
 refine⟨fr,fr,L',by rw[h1],by rw[h2],?_,h3⟩
 exact hF.dom
theorem WR.dom{re:World}(h:WR P fns E Z gh re):WR P fns (dom E) Z gh gh:=by
 refine⟨h.iO,h.iY,h.jG,h.jG,λa b x _=>x.1,λa b a' b' x y=>?_,λa b x=>?_⟩
 .rw[<-x.1,<-y.1]
  exact⟨λe=>e,λe _=>e⟩
 .obtain⟨rfl,y,hy⟩:=x
  rcases h.cells _ _ hy with ⟨c,c',el,fr,fr',k1,k2,k3,k4,k5⟩|⟨x,x',l,k1,k2,k3⟩|⟨hz,o,o',k1,k2,k3⟩
  .exact .inl ⟨c,c,el,fr,fr,k1,k1,k3.dom,λ_=>rfl,k5⟩
  .exact .inr (.inl ⟨x,x,l,k1,k1,k3.dom⟩)
  .exact .inr (.inr ⟨hz,o,o,k1,k1,k3.dom⟩)
theorem acD{g g':Goroutine}{re:World}(hg:GR P fns E [aQ] K g g')(hw:WR P fns E Z gh re):Cl P fns Z [aQ] g gh:=⟨dom E,λ_ _ x=>x.1,hg.dom,hw.dom⟩
def xg(P:Program)(Q:Value->World->Prop)(g:Goroutine)(w:World):Prop :=
 ∃ fn v t d,P.funcs[g.frame.fn]?=some fn/\(results fn g.frame.tmps).run P (eP w t d)=.ok v (eP w t d)/\Q v (eP w t d)
theorem xg.on{Q:Value->World->Prop}(g:Goroutine)(w:World)(t:Nat->Question->Nat)(d:Nat)(h:xg P Q g w):xg P Q g (eP w t d) :=
 let ⟨fn,v,t',d',h⟩:=h;⟨fn,v,t',d',h⟩
theorem G9{f:FuncId}{args:Array Value}{Q:Value->World->Prop}(hc:Cl P fns Z [aQ] (G (Frame.enter P f args .normal) [aQ]) gh)(h:∀ t d,Calls P f args (eP gh t d) (λe w'=>∃ v,e=.returned v/\Q v w')) :
 Ends P fns Z (xg P Q) (G (Frame.enter P f args .normal) [aQ]) gh:=by
 refine⟨hc,λt d=>?_⟩
 obtain⟨e,w',fr,⟨v,rfl,hq⟩,⟨N,hN⟩,hfn,hm,hd,hk,fn,hf,hr⟩:=h t d [aQ]
 exact⟨N,fr,w',hN,⟨rfl,hm,hd⟩,fn,v,w'.tape,w'.drawn,hf,hr,hq⟩
end Go.Proofs.YthbndfpeffcigaaGreatDoor
namespace Go.Proofs.YthbndfpeffcigaaGreatDoor
open Go Go.Conc
open Go.ConcN (fork_knows)
def LJ(dM Fz:Nat->Prop)(Own:Nat->Nat->Prop)(g b:Nat)(x:Touch):Prop :=
 (dM b/\x.kind≠.plain/\(x.kind=.said->g=0))\/(Own g b/\x.kind=.plain)\/(Fz b/\x.write=false/\x.kind=.plain)
structure Sep(Sx dM Fz:Nat->Prop)(Own:Nat->Nat->Prop):Prop where
 own:∀ g g' b,Own g b->Own g' b->g=g'
 oF:∀ g b,Own g b->¬Fz b
 oA:∀ g b,Own g b->¬dM b
 oS:∀ g b,Own g b->¬Sx b
 fA:∀ b,Fz b->¬dM b
 fS:∀ b,Fz b->¬Sx b
 aS:∀ b,dM b->¬Sx b
def aY(m0 j g:Nat):Prop:=g=0\/(m0<=g/\g<m0+j)
structure TI(m0 j tz:Nat)(Sx dM Fz:Nat->Prop)(Own:Nat->Nat->Prop)(B:Nat)(t:Trace):Prop where
 clean:∀ said,¬Race said t
 len:tz<=t.size
 old:∀ i x,i<tz->touchAt t i=some x->x.loc.isMemory=true->(∀ g,aY m0 j g->Knows t g i)\/(dX Sx x.loc/\x.kind=.atomic)
 new:∀ (i:Nat) op x,tz<=i->t[i]?=some op->op.act.touch?=some x->x.loc.isMemory=true->aY m0 j op.g/\∃ b,blk x.loc=some b/\LJ dM Fz Own op.g b x
 over:∀ i g,i<tz->t.g? i=some g->g≠0->t.counts i->∃ k,t.g? k=some 0/\HappensBefore t i k
 seen:∀ op∈t,op.act.low B
section
variable {m0 j tz:Nat} {Sx dM Fz:Nat->Prop} {Own Own':Nat->Nat->Prop} {B B':Nat} {t u:Trace}
theorem TI.mono(h:TI m0 j tz Sx dM Fz Own B t)(hO:∀ g b,Own g b->Own' g b)(hB:B<=B'):TI m0 j tz Sx dM Fz Own' B' t :=
 ⟨h.clean,h.len,h.old,λi op x hi ho hx hm=>let ⟨h0,b,h1,h2⟩:=h.new i op x hi ho hx hm;⟨h0,b,h1,h2.imp id λy=>y.imp (λz=>⟨hO _ _ z.1,z.2⟩) id⟩,h.over,λop hop=>MemAct.low_mono hB (h.seen op hop)⟩
theorem TI.grow(h:TI m0 j tz Sx dM Fz Own B t)(hB:B<=B')(hc:∀ said,¬Race said (t++u))
 (hu:∀ op∈u,(∀ x,op.act.touch?=some x->x.loc.isMemory=true->aY m0 j op.g/\∃ b,blk x.loc=some b/\LJ dM Fz Own op.g b x)/\op.act.low B'):TI m0 j tz Sx dM Fz Own B' (t++u):=by
 have hl:=h.len
 refine⟨hc,by simp;omega,λi x hi hx hm=>?_,λi op x hi ho hx hm=>?_,λi g hi hg hne hcn=>?_,λop hop=>?_⟩
 .rw[touchAt_old (by omega)] at hx
  exact(h.old i x hi hx hm).imp (λk g hg=>(k g hg).app u) id
 .rcases getElem?_append_cases ho with ⟨_,ho'⟩|⟨_,hou⟩
  .exact h.new i op x hi ho' hx hm
  .exact(hu op hou).1 x hx hm
 .have hi':i<t.size:=by omega
  obtain⟨k,hk,hb⟩:=h.over i g hi (by rw[<-g?_old hi'];exact hg) hne ((counts_old hi').1 hcn)
  have hkl:k<t.size:=by
   unfold Trace.g? at hk
   obtain⟨z,hz,_⟩:=Option.map_eq_some_iff.1 hk
   exact lt_size_of_getElem? hz
  exact⟨k,by rw[g?_old hkl];exact hk,hb_app u hb⟩
 .rcases Array.mem_append.1 hop with hop|hop
  .exact MemAct.low_mono hB (h.seen op hop)
  .exact(hu op hop).2
theorem Pz{l l':Loc}{b b':Nat}(h:blk l=some b)(h':blk l'=some b')(e:l=l'):b=b':=by rw[e,h'] at h;exact(Option.some.inj h).symm
theorem TI.app(S:Sep Sx dM Fz Own)(h:TI m0 j tz Sx dM Fz Own B t){g:Nat}(hg:aY m0 j g)(hB:B<=B')
 (hu:∀ op∈u,op.g=g/\(∀ x,op.act.touch?=some x->x.loc.isMemory=true->∃ b,blk x.loc=some b/\LJ dM Fz Own g b x)/\op.act.low B'):TI m0 j tz Sx dM Fz Own B' (t++u):=by
 refine h.grow hB (λsaid=>noRace_append (h.clean said) (λop hop=>(hu op hop).1) λi a ha op hop y hy hc=>?_) λop hop=>⟨λx hx hm=>(hu op hop).1▸⟨hg,(hu op hop).2.1 x hx hm⟩,(hu op hop).2.2⟩
 obtain⟨b',hb',hN⟩:=(hu op hop).2.1 y hy (hc.1▸hc.2.1)
 by_cases hi:i<tz
 .rcases h.old i a hi ha hc.2.1 with k|⟨⟨b,hb,hS⟩,_⟩
  .exact k g hg
  .obtain rfl:=Pz hb hb' hc.1
   rcases hN with ⟨x,_⟩|⟨x,_⟩|⟨x,_⟩
   .exact(S.aS _ x hS).elim
   .exact(S.oS _ _ x hS).elim
   .exact(S.fS _ x hS).elim
 .obtain⟨op',ho',G_⟩:=touch_of ha
  obtain⟨_,b,hb,hM⟩:=h.new i op' a (by omega) ho' G_ hc.2.1
  obtain rfl:=Pz hb hb' hc.1
  have own:op'.g=g->Knows t g i:=λe=>by
   have:=knows_own ho'
   rwa [e] at this
  obtain⟨hl,hm,hw,hk⟩:=hc
  rcases hM with ⟨m1,m2,m3⟩|⟨m1,m2⟩|⟨m1,m2,m3⟩<;>rcases hN with ⟨n1,n2,n3⟩|⟨n1,n2⟩|⟨n1,n2,n3⟩
  .rcases hk with hk|hk|⟨_,k1,k2⟩
   .exact(m2 hk).elim
   .exact(n2 hk).elim
   .exact own ((m3 k1).trans (n3 k2).symm)
  .exact(S.oA _ _ n1 m1).elim
  .exact(S.fA _ n1 m1).elim
  .exact(S.oA _ _ m1 n1).elim
  .exact own (S.own _ _ _ m1 n1)
  .exact(S.oF _ _ m1 n1).elim
  .exact(S.fA _ m1 n1).elim
  .exact(S.oF _ _ n1 m1).elim
  .rcases hw with hw|hw
   .rw[m2] at hw;cases hw
   .rw[n2] at hw;cases hw
theorem TI.mute(h:TI m0 j tz Sx dM Fz Own B t){g:Nat}(hB:B<=B')(hu:∀ op∈u,op.g=g/\op.act.touch?=none/\op.act.low B'):TI m0 j tz Sx dM Fz Own B' (t++u) :=
 h.grow hB (λsaid=>noRace_append (h.clean said) (λop hop=>(hu op hop).1) λi a _ op hop y hy _=>by rw[(hu op hop).2.1] at hy;cases hy)
  λop hop=>⟨λx hx=>(by rw[(hu op hop).2.1] at hx;cases hx),(hu op hop).2.2⟩
theorem TI.fork(h:TI m0 j tz Sx dM Fz Own B t){x y:MemOp}(hx:x.g=0/\x.act=.go (m0+j))(hy:y.g=m0+j/\y.act=.start)(h0:Deaf t 0=0)(hk:Deaf t (m0+j)=0):TI m0 (j+1) tz Sx dM Fz Own B (t++#[x,y]):=by
 have e:t++#[x,y]=(t++#[x])++#[y]:=by apply Array.ext';simp
 have h1:TI m0 j tz Sx dM Fz Own B (t++#[x]):=h.mute (g:=0) (Nat.le_refl _) λop hop=>by
  have:op=x:=by simpa using hop
  subst this
  exact⟨hx.1,by rw[hx.2];rfl,by rw[hx.2];trivial⟩
 have h2:TI m0 j tz Sx dM Fz Own B (t++#[x,y]):=by
  rw[e]
  exact h1.mute (g:=m0+j) (Nat.le_refl _) λop hop=>by
   have:op=y:=by simpa using hop
   subst this
   exact⟨hy.1,by rw[hy.2];rfl,by rw[hy.2];trivial⟩
 refine⟨h2.clean,h2.len,λi a hi ha hm=>?_,λi op a hi ho ha hm=>let ⟨h0,h1⟩:=h2.new i op a hi ho ha hm;⟨h0.imp id λz=>⟨z.1,by omega⟩,h1⟩,h2.over,h2.seen⟩
 have hl:=h.len
 rw[touchAt_old (by omega)] at ha
 rcases h.old i a hi ha hm with k|k
 .refine .inl λg hg=>?_
  by_cases hgj:g=m0+j
  .subst hgj
   exact fork_knows hx hy h0 hk (k 0 (.inl rfl))
  .exact(k g (hg.imp id λz=>⟨z.1,by omega⟩)).app _
 .exact .inr k
theorem PD{Sx:Nat->Prop}(h:Past (dX Sx) B t):TI m0 0 t.size Sx dM Fz Own B t :=
 ⟨h.clean,Nat.le_refl _,λi x _ hx hm=>(h.known i x hx hm).imp (λk g hg=>by
  rcases hg with rfl|hg
  .exact k
  .omega) id,
  λi op x hi ho _ _=>by have:=lt_size_of_getElem? ho;omega,λi g _ hg hne hc=>h.over i g hg hne hc,h.seen⟩
end
end Go.Proofs.YthbndfpeffcigaaGreatDoor
namespace Go.Proofs.YthbndfpeffcigaaGreatDoor
open Go Go.Conc
def sA(Wg:Nat):Addr:=⟨Wg,0,none⟩
structure iU(Wg g r:Nat)(t:Trace):Prop where
 at_:∃ op,t[r]?=some op/\op.g=g/\op.act=.mark (.releaseMerge (sA Wg))
 heard:t.heard r
 late:∀ (i:Nat) op x,r<i->t[i]?=some op->op.g=g->op.act.touch?=some x->x.kind=.atomic/\blk x.loc=some Wg/\¬t.heard i
section
variable {m0 j tz:Nat} {Sx dM Fz:Nat->Prop} {Own Own':Nat->Nat->Prop} {B B':Nat} {t u:Trace} {Wg g r:Nat}
theorem iU.lt(h:iU Wg g r t):r<t.size:=by obtain⟨op,h1,_⟩:=h.at_;exact lt_size_of_getElem? h1
theorem iU.app(h:iU Wg g r t)(hu:∀ (i:Nat) op x,t.size<=i->(t++u)[i]?=some op->op.g=g->op.act.touch?=some x->x.kind=.atomic/\blk x.loc=some Wg/\¬(t++u).heard i):iU Wg g r (t++u):=by
 obtain⟨op,h1,h2,h3⟩:=h.at_
 refine⟨⟨op,by rw[getElem?_append_old h.lt];exact h1,h2,h3⟩,(heard_old h.lt).2 h.heard,λi op x hi ho hg hx=>?_⟩
 by_cases hlt:i<t.size
 .rw[getElem?_append_old hlt] at ho
  obtain⟨a,b,c⟩:=h.late i op x hi ho hg hx
  exact⟨a,b,λhh=>c ((heard_old hlt).1 hh)⟩
 .exact hu i op x (by omega) ho hg hx
theorem iU.other(h:iU Wg g r t)(hu:∀ op∈u,op.g≠g):iU Wg g r (t++u):=h.app λi op x hi ho hg _=>by
 rcases getElem?_append_cases ho with ⟨hlt,_⟩|⟨_,hm⟩
 .omega
 .exact(hu op hm hg).elim
theorem iU.still(h:iU Wg g r t)(hu:∀ op∈u,op.act.touch?=none):iU Wg g r (t++u):=h.app λi op x hi ho _ hx=>by
 rcases getElem?_append_cases ho with ⟨hlt,_⟩|⟨_,hm⟩
 .omega
 .rw[hu op hm] at hx;cases hx
theorem iU.deaf(h:iU Wg g r t){fn:FuncId}{pos:String}{es:Array Event}(hd:1<=Deaf t g)(he:∀ e∈es,e.sync=true/\∃ a:Addr,e.loc=.cell a/\a.block=Wg):iU Wg g r (t++MemOp.ofEvents g fn pos es):=by
 have marks:∀ e∈es,e.loc≠.mark .disable/\e.loc≠.mark .enable:=λe hx=>by
  obtain⟨_,a,h1,_⟩:=he e hx
  rw[h1];exact⟨by simp,by simp⟩
 refine h.app λi op x hi ho hg hx=>?_
 rcases getElem?_append_cases ho with ⟨hlt,_⟩|⟨_,hm⟩
 .omega
 .obtain⟨e,hes,rfl⟩:=Go.Conc.mem_ofEvents hm
  obtain⟨h1,a,h2,h3⟩:=he e hes
  obtain⟨loc,wr,sy⟩:=e
  simp only at h1 h2
  subst h1 h2
  simp only[MemAct.ofEvent,MemAct.touch?,Option.some.injEq] at hx
  subst hx
  refine⟨rfl,by simp[blk,h3],λ⟨g',hg',hdf⟩=>?_⟩
  have e1:g'=g:=by
   have:(t++MemOp.ofEvents g fn pos es).g? i=some g:=by simp only[Trace.g?,ho,Option.map_some]
   rw[this] at hg'
   exact(Option.some.inj hg').symm
  subst e1
  obtain⟨k,rfl⟩:∃ k,i=t.size+k:=⟨i-t.size,by omega⟩
  have hk:k<=es.size:=by
   have:=lt_size_of_getElem? ho
   rw[Array.size_append,ofEvents_eq,Array.size_map] at this
   omega
  rw[deaf_inside t g' fn pos es k hk] at hdf
  have:=deafBehind_still (es:=es.extract 0 k) (λe hx=>marks e (by
   obtain⟨q,hq,rfl⟩:=Array.mem_iff_getElem.1 hx
   rw[Array.getElem_extract]
   exact Array.getElem_mem _)) (Deaf t g')
  rw[this] at hdf
  omega
theorem iU.new{y:MemOp}(hg:y.g=g)(hy:y.act=.mark (.releaseMerge (sA Wg)))(hd:Deaf t g=0):iU Wg g t.size (t++#[y]):=by
 have hl:(t++#[y])[t.size]?=some y:=by rw[Array.getElem?_append_right (Nat.le_refl _)];simp
 refine⟨⟨y,hl,hg,hy⟩,⟨g,by simp only[Trace.g?,hl,Option.map_some,hg],by rw[deaf_old (Nat.le_refl _)];exact hd⟩,λi op x hi ho _ _=>?_⟩
 have:=lt_size_of_getElem? ho
 simp at this
 omega
theorem PE{n:Nat}(h:TI m0 n tz Sx dM Fz Own B t)(hr:∀ g,m0<=g->g<m0+n->∃ r,iU Wg g r t)(hn:NoRelease (sA Wg) t)(h0:Deaf t 0=0)(hW:Wg<B){y:MemOp}(hg:y.g=0)(hy:y.act=.mark (.acquire (sA Wg))) :
 Past (dX λb=>Sx b\/b=Wg) B (t++#[y]):=by
 have hl:(t++#[y])[t.size]?=some y:=by rw[Array.getElem?_append_right (Nat.le_refl _)];simp
 have hnone:∀ op∈#[y],op.act.touch?=none:=λop hop=>by
  have:op=y:=by simpa using hop
  subst this;rw[hy];rfl
 have h1:TI m0 n tz Sx dM Fz Own B (t++#[y]):=h.mute (g:=0) (Nat.le_refl _) λop hop=>by
  have:op=y:=by simpa using hop
  subst this
  exact⟨hg,by rw[hy];rfl,by rw[hy];exact hW⟩
 have hhy:(t++#[y]).heard t.size:=⟨0,by simp only[Trace.g?,hl,Option.map_some,hg],by rw[deaf_old (Nat.le_refl _)];exact h0⟩
 -- what a worker did ahead of its release happens before the acquire
 have edge:∀ g r i op,iU Wg g r t->t[i]?=some op->op.g=g->i<r->HappensBefore (t++#[y]) i t.size:=by
  intro g r i op hR hi hgi hlt
  obtain⟨o,o1,o2,o3⟩:=hR.at_
  have e1:HappensBefore t i r:=hb_po hlt hi o1 (by rw[hgi,o2])
  have o1':(t++#[y])[r]?=some o:=by rw[getElem?_append_old hR.lt];exact o1
  refine(hb_app _ e1).trans (.single (.inr ⟨.marked (a:=sA Wg) hR.lt (.inr (by rw[act?_of o1',o3])) (by rw[act?_of hl,hy]) (λk k1 k2 e=>?_),(heard_old hR.lt).2 hR.heard,hhy⟩))
  rw[act?_old k2] at e
  exact hn k e
 refine⟨h1.clean,λi a ha hm=>?_,λi g hgi hne hc=>?_,?_,h1.seen⟩
 .by_cases hi:i<tz
  .rcases h1.old i a hi ha hm with k|⟨⟨b,b1,b2⟩,k⟩
   .exact .inl (k 0 (.inl rfl))
   .exact .inr ⟨⟨b,b1,.inl b2⟩,k⟩
  .obtain⟨op,ho,G_⟩:=touch_of ha
   obtain⟨hcr,b,hb,hN⟩:=h1.new i op a (by omega) ho G_ hm
   have hlt:i<t.size:=by
    rcases getElem?_append_cases ho with ⟨z,_⟩|⟨_,hmem⟩
    .exact z
    .rw[hnone op hmem] at G_;cases G_
   have ho':t[i]?=some op:=by rw[<-getElem?_append_old hlt];exact ho
   rcases hcr with h00|⟨g1,g2⟩
   .have:=knows_own ho
    rw[h00] at this
    exact .inl this
   .obtain⟨r,hR⟩:=hr op.g g1 g2
    rcases Nat.lt_trichotomy i r with hir|hir|hir
    .exact .inl ⟨t.size,y,hl,hg,.inr (edge _ _ _ _ hR ho' rfl hir)⟩
    .subst hir
     obtain⟨o,o1,_,o3⟩:=hR.at_
     rw[ho'] at o1
     cases o1
     rw[o3] at G_;cases G_
    .obtain⟨k1,k2,_⟩:=hR.late i op a hir ho' rfl G_
     exact .inr ⟨⟨Wg,k2,.inr rfl⟩,k1⟩
 .by_cases hi:i<tz
  .exact h1.over i g hi hgi hne hc
  .obtain⟨x,hx,hm,hcn⟩:=hc
   obtain⟨op,ho,G_⟩:=touch_of hx
   obtain⟨hcr,_⟩:=h1.new i op x (by omega) ho G_ hm
   have hlt:i<t.size:=by
    rcases getElem?_append_cases ho with ⟨z,_⟩|⟨_,hmem⟩
    .exact z
    .rw[hnone op hmem] at G_;cases G_
   have ho':t[i]?=some op:=by rw[<-getElem?_append_old hlt];exact ho
   have eg:op.g=g:=by
    simp only[Trace.g?,ho,Option.map_some,Option.some.injEq] at hgi
    exact hgi
   rcases hcr with h00|⟨g1,g2⟩
   .exact(hne (by rw[<-eg,h00])).elim
   .obtain⟨r,hR⟩:=hr op.g g1 g2
    rcases Nat.lt_trichotomy i r with hir|hir|hir
    .exact⟨t.size,by simp only[Trace.g?,hl,Option.map_some,hg],edge _ _ _ _ hR ho' rfl hir⟩
    .subst hir
     obtain⟨o,o1,_,o3⟩:=hR.at_
     rw[ho'] at o1
     cases o1
     rw[o3] at G_;cases G_
    .obtain⟨k1,_,k3⟩:=hR.late i op x hir ho' rfl G_
     rcases hcn with hcn|hcn
     .exact(hcn k1).elim
     .exact(k3 ((heard_old hlt).1 hcn)).elim
 .rw[Deaf_push]
  simp only[deafStep,hy]
  exact h0
end
