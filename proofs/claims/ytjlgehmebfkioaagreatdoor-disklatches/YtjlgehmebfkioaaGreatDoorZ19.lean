/- Part of the proof. -/
import Derived.Test.YtjlgehmebfkioaaGreatDoorZ18
import Derived.Conc.CrowdTrace
import Derived.Conc.CrowdComm
namespace Go.Proofs.YtjlgehmebfkioaaGreatDoor
open Go Go.Conc
variable {P:Program} {Z:Nat->Prop} {fns:Fx} {md main:Bool} {E E':Nat->Nat->Prop} {k0:List Item} {K:List Frame}
def dom(E:Nat->Nat->Prop)(a b:Nat):Prop:=a=b/\∃ x,E a x
theorem AR.dom{a b:Addr}(h:AR fns E a b):AR fns (dom E) a a:=⟨⟨rfl,_,h.1⟩,rfl,rfl,h.2.2.2⟩
theorem OA.dom{a b:Option Addr}(h:OA fns E a b):OA fns (dom E) a a:=by
 cases a with
 |none=>trivial
 |some a=>obtain⟨b',rfl,g⟩:=dB.1 h;exact AR.dom g
theorem AS.dom{a b:Addr}(h:AS fns E a b):AS fns (dom E) a a:=⟨⟨rfl,_,h.1⟩,rfl,rfl,h.2.2.2⟩
theorem OS.dom{a b:Option Addr}(h:OS fns E a b):OS fns (dom E) a a:=by
 cases a with
 |none=>trivial
 |some a=>obtain⟨b',rfl,g⟩:=dS.1 h;exact AS.dom g
theorem SR.dom{l c:Nat}{a b:Option Addr}(h:SR fns E l c a b):SR fns (dom E) l c a a:=h.imp (λx=>x.dom) λx=>⟨x.1,x.2.1,rfl⟩
theorem VR.afa:∀ (n:Nat) (v v':Value),SizeOf.sizeOf v<n->VR fns E v v'->VR fns (dom E) v v:=by
 intro n
 induction n with
 |zero=>intro v v' h;omega
 |succ n ih =>
  have arr:∀ x x':Array Value,(∀ i (h:i<x.size),SizeOf.sizeOf x[i]<n)->aU fns E x x'->aU fns (dom E) x x :=
   λx x' h2 h3=>⟨rfl,λi h _=>ih _ _ (h2 i h) (h3.2 i h (h3.1▸h))⟩
  intro v v' hn hv
  cases v with
  |pointer a=>obtain⟨b,rfl,h⟩:=aM.1 hv;exact aM.2 ⟨_,rfl,h.dom⟩
  |slice a l c=>obtain⟨b,rfl,h⟩:=aJ.1 hv;exact aJ.2 ⟨_,rfl,h.dom⟩
  |map r=>obtain⟨rfl,rfl⟩:=fE.1 hv;exact fE.2 ⟨rfl,rfl⟩
  |chan r=>obtain⟨rfl,rfl⟩:=dJ.1 hv;exact dJ.2 ⟨rfl,rfl⟩
  |func f x y =>
   obtain⟨x',y',rfl,h2,h3,h4⟩:=dA.1 hv
   exact dA.2 ⟨_,_,rfl,h2,arr _ _ (λi h=>by have:=Array.sizeOf_getElem x i h;simp at hn;omega) h3,arr _ _ (λi h=>by have:=Array.sizeOf_getElem y i h;simp at hn;omega) h4⟩
  |iface t u=>obtain⟨u',rfl,h⟩:=bE.1 hv;exact bE.2 ⟨_,rfl,ih _ _ (by simp at hn;omega) h⟩
  |agg x=>obtain⟨x',rfl,h⟩:=bX.1 hv;exact bX.2 ⟨_,rfl,arr _ _ (λi h=>by have:=Array.sizeOf_getElem x i h;simp at hn;omega) h⟩
  |tuple x=>obtain⟨x',rfl,h⟩:=bK.1 hv;exact bK.2 ⟨_,rfl,arr _ _ (λi h=>by have:=Array.sizeOf_getElem x i h;simp at hn;omega) h⟩
  |float=>exact(b_ hv).elim
  |complex=>exact(bO hv).elim
  |_=>rw[VR]
theorem VR.dom{v v':Value}(h:VR fns E v v'):VR fns (dom E) v v:=VR.afa (SizeOf.sizeOf v+1) v v' (by omega) h
theorem aU.dom{x x':Array Value}(h:aU fns E x x'):aU fns (dom E) x x:=⟨rfl,λi a _=>(h.2 i a (h.1▸a)).dom⟩
theorem VZ.dom{v v':Value}(h:VZ fns E v v'):VZ fns (dom E) v v:=by
 rcases h with h|⟨a,b,rfl,rfl,h⟩
 .exact .inl h.dom
 .exact .inr ⟨a,a,rfl,rfl,h.dom⟩
theorem TR.dom{ia:Nat->Bool}{x x':Array Value}(h:TR fns ia E x x'):TR fns ia (dom E) x x:=⟨rfl,λi a _=>(h.2 i a (h.1▸a)).imp (·.dom) λy=>⟨y.1,y.2.dom⟩⟩
theorem CR.dom{z:Prop}{lo:Nat}{c c':Array Value}(h:CR fns E z lo c c'):CR fns (dom E) z lo c c:=⟨Nat.le_refl _,λ_=>rfl,λi a _ l=>(h.at_ i a (by have:=h.le;omega) l).dom⟩
theorem FR.dom{fr fr':Frame}(h:FR P fns E k0 fr fr'):FR P fns (dom E) [] fr fr :=
 ⟨rfl,h.tmps.dom,by rw[List.append_nil],h.ok,h.d,h.d,rfl,h.runs,h.k,h.k,h.r,h.r,h.func,h.same,λg hg=>⟨⟨rfl,_,(h.gs g hg).1⟩,(h.gs g hg).2⟩⟩
theorem FL.dom:∀ {L:List (Frame × Frame)},FL P fns E k0 L->∃ L',L'.map (·.1)=L.map (·.1)/\L'.map (·.2)=L.map (·.1)/\FL P fns (dom E) [] L'
 | [],_=>⟨[],rfl,rfl,trivial⟩
 |p::L,h=>by
  obtain⟨L',h1,h2,h3⟩:=FL.dom h.2
  refine⟨(p.1,p.1)::L',by simp[h1],by simp[h2],⟨?_,h.1.2⟩,h3⟩
  rw[rR]
  exact h.1.1.dom
theorem GR.dom{T:List Frame}{g g':Goroutine}(h:GR P fns E k0 T K g g'):GR P fns (dom E) [] T T g g:=by
 obtain⟨fr,fr',L,rfl,rfl,hF,hL⟩:=h
 obtain⟨L',h1,h2,h3⟩:=hL.dom
 refine⟨fr,fr,L',by rw[h1],by rw[h2],?_,h3⟩
 rw[rR]
 exact hF.dom
theorem WR.dom{gh re:World}(h:WR P fns E Z gh re):WR P fns (dom E) Z gh gh:=by
 refine⟨h.jE,h.jM,h.kL,h.kL,λa b x _=>x.1,λa b a' b' x y=>?_,λa b x=>?_⟩
 .rw[<-x.1,<-y.1]
  exact⟨λe=>e,λe _=>e⟩
 .obtain⟨rfl,y,hy⟩:=x
  rcases h.cells _ _ hy with ⟨c,c',el,fr,fr',k1,k2,k3,k4,k5⟩|⟨x,x',l,k1,k2,k3⟩
  .exact .inl ⟨c,c,el,fr,fr,k1,k1,k3.dom,λ_=>rfl,k5⟩
  .exact .inr ⟨x,x,l,k1,k1,k3.dom⟩
theorem acw{g g':Goroutine}{gh re:World}(hg:GR P fns E k0 [aL] K g g')(hw:WR P fns E Z gh re):Cl P fns Z [aL] g gh:=⟨dom E,λ_ _ x=>x.1,hg.dom,hw.dom⟩
def yY(P:Program)(Q:Value->World->Prop)(g:Goroutine)(w:World):Prop :=
 ∃ fn v t d,P.funcs[g.frame.fn]?=some fn/\(results fn g.frame.tmps).run P (eU w t d)=.ok v (eU w t d)/\Q v (eU w t d)
theorem yY.on{Q:Value->World->Prop}(g:Goroutine)(w:World)(t:Nat->Question->Nat)(d:Nat)(h:yY P Q g w):yY P Q g (eU w t d) :=
 let ⟨fn,v,t',d',h⟩:=h;⟨fn,v,t',d',h⟩
theorem I4{f:FuncId}{args:Array Value}{gh:World}{Q:Value->World->Prop}(hc:Cl P fns Z [aL] (G (Frame.enter P f args .normal) [aL]) gh)(h:∀ t d,Calls P f args (eU gh t d) (λe w'=>∃ v,e=.returned v/\Q v w')) :
 Ends P fns Z true (yY P Q) (G (Frame.enter P f args .normal) [aL]) gh:=by
 refine⟨hc,λt d=>?_⟩
 obtain⟨e,w',fr,⟨v,rfl,hq⟩,⟨N,hN⟩,hfn,hm,hd,hk,fn,hf,hr⟩:=h t d [aL]
 exact⟨N,fr,w',hN,⟨rfl,by simp only[if_true];exact hm⟩,fn,v,w'.tape,w'.drawn,hf,hr,hq⟩
end Go.Proofs.YtjlgehmebfkioaaGreatDoor
namespace Go.Proofs.YtjlgehmebfkioaaGreatDoor
open Go Go.Conc
open Go.ConcN (fork_knows)
def MR(dP Fz:Nat->Prop)(Own:Nat->Nat->Prop)(g b:Nat)(x:Touch):Prop :=
 (dP b/\x.kind≠.plain/\(x.kind=.said->g=0))\/(Own g b/\x.kind=.plain)\/(Fz b/\x.write=false/\x.kind=.plain)
structure Sep(Sx dP Fz:Nat->Prop)(Own:Nat->Nat->Prop):Prop where
 own:∀ g g' b,Own g b->Own g' b->g=g'
 oF:∀ g b,Own g b->¬Fz b
 oA:∀ g b,Own g b->¬dP b
 oS:∀ g b,Own g b->¬Sx b
 fA:∀ b,Fz b->¬dP b
 fS:∀ b,Fz b->¬Sx b
 aS:∀ b,dP b->¬Sx b
def bn(m0 j g:Nat):Prop:=g=0\/(m0<=g/\g<m0+j)
structure TI(m0 j tz:Nat)(Sx dP Fz:Nat->Prop)(Own:Nat->Nat->Prop)(B:Nat)(t:Trace):Prop where
 clean:∀ said,¬Race said t
 len:tz<=t.size
 old:∀ i x,i<tz->touchAt t i=some x->x.loc.isMemory=true->(∀ g,bn m0 j g->Knows t g i)\/(dZ Sx x.loc/\x.kind=.atomic)
 new:∀ (i:Nat) op x,tz<=i->t[i]?=some op->op.act.touch?=some x->x.loc.isMemory=true->bn m0 j op.g/\∃ b,blk x.loc=some b/\MR dP Fz Own op.g b x
 over:∀ i g,i<tz->t.g? i=some g->g≠0->t.counts i->∃ k,t.g? k=some 0/\HappensBefore t i k
 seen:∀ op∈t,op.act.low B
section
variable {m0 j tz:Nat} {Sx dP Fz:Nat->Prop} {Own Own':Nat->Nat->Prop} {B B':Nat} {t u:Trace}
theorem TI.mono(h:TI m0 j tz Sx dP Fz Own B t)(hO:∀ g b,Own g b->Own' g b)(hB:B<=B'):TI m0 j tz Sx dP Fz Own' B' t :=
 ⟨h.clean,h.len,h.old,λi op x hi ho hx hm=>let ⟨h0,b,h1,h2⟩:=h.new i op x hi ho hx hm;⟨h0,b,h1,h2.imp id λy=>y.imp (λz=>⟨hO _ _ z.1,z.2⟩) id⟩,h.over,λop hop=>MemAct.low_mono hB (h.seen op hop)⟩
theorem TI.grow(h:TI m0 j tz Sx dP Fz Own B t)(hB:B<=B')(hc:∀ said,¬Race said (t++u))
 (hu:∀ op∈u,(∀ x,op.act.touch?=some x->x.loc.isMemory=true->bn m0 j op.g/\∃ b,blk x.loc=some b/\MR dP Fz Own op.g b x)/\op.act.low B'):TI m0 j tz Sx dP Fz Own B' (t++u):=by
 have hl:=h.len
 refine⟨hc,by simp;omega,λi x hi hx hm=>?_,λi op x hi ho hx hm=>?_,λi g hi hg hne hcn=>?_,λop hop=>?_⟩
 .rw[touchAt_old (by omega)] at hx
  exact(h.old i x hi hx hm).imp (λk g hg=>(k g hg).app u) id
 .rcases getElem?_append_cases ho with ⟨_,ho'⟩|⟨_,hou⟩
  .exact h.new i op x hi ho' hx hm
  .exact(hu op hou).1 x hx hm
 .have hi':i<t.size:=by omega
  obtain⟨k,hk,hb⟩:=h.over i g hi (by rw[<-g?_old hi'];exact hg) hne ((counts_old hi').1 hcn)
  have hkl:k<t.size:=by
   unfold Trace.g? at hk
   obtain⟨z,hz,_⟩:=Option.map_eq_some_iff.1 hk
   exact lt_size_of_getElem? hz
  exact⟨k,by rw[g?_old hkl];exact hk,hb_app u hb⟩
 .rcases Array.mem_append.1 hop with hop|hop
  .exact MemAct.low_mono hB (h.seen op hop)
  .exact(hu op hop).2
theorem Qf{l l':Loc}{b b':Nat}(h:blk l=some b)(h':blk l'=some b')(e:l=l'):b=b':=by rw[e,h'] at h;exact(Option.some.inj h).symm
theorem TI.app(S:Sep Sx dP Fz Own)(h:TI m0 j tz Sx dP Fz Own B t){g:Nat}(hg:bn m0 j g)(hB:B<=B')
 (hu:∀ op∈u,op.g=g/\(∀ x,op.act.touch?=some x->x.loc.isMemory=true->∃ b,blk x.loc=some b/\MR dP Fz Own g b x)/\op.act.low B'):TI m0 j tz Sx dP Fz Own B' (t++u):=by
 refine h.grow hB (λsaid=>noRace_append (h.clean said) (λop hop=>(hu op hop).1) λi a ha op hop y hy hc=>?_) λop hop=>⟨λx hx hm=>(hu op hop).1▸⟨hg,(hu op hop).2.1 x hx hm⟩,(hu op hop).2.2⟩
 obtain⟨b',hb',hN⟩:=(hu op hop).2.1 y hy (hc.1▸hc.2.1)
 by_cases hi:i<tz
 .rcases h.old i a hi ha hc.2.1 with k|⟨⟨b,hb,hS⟩,_⟩
  .exact k g hg
  .obtain rfl:=Qf hb hb' hc.1
   rcases hN with ⟨x,_⟩|⟨x,_⟩|⟨x,_⟩
   .exact(S.aS _ x hS).elim
   .exact(S.oS _ _ x hS).elim
   .exact(S.fS _ x hS).elim
 .obtain⟨op',ho',I5⟩:=touch_of ha
  obtain⟨_,b,hb,hM⟩:=h.new i op' a (by omega) ho' I5 hc.2.1
  obtain rfl:=Qf hb hb' hc.1
  have own:op'.g=g->Knows t g i:=λe=>by
   have:=knows_own ho'
   rwa [e] at this
  obtain⟨hl,hm,hw,hk⟩:=hc
  rcases hM with ⟨m1,m2,m3⟩|⟨m1,m2⟩|⟨m1,m2,m3⟩<;>rcases hN with ⟨n1,n2,n3⟩|⟨n1,n2⟩|⟨n1,n2,n3⟩
  .rcases hk with hk|hk|⟨_,k1,k2⟩
   .exact(m2 hk).elim
   .exact(n2 hk).elim
   .exact own ((m3 k1).trans (n3 k2).symm)
  .exact(S.oA _ _ n1 m1).elim
  .exact(S.fA _ n1 m1).elim
  .exact(S.oA _ _ m1 n1).elim
  .exact own (S.own _ _ _ m1 n1)
  .exact(S.oF _ _ m1 n1).elim
  .exact(S.fA _ m1 n1).elim
  .exact(S.oF _ _ n1 m1).elim
  .rcases hw with hw|hw
   .rw[m2] at hw;cases hw
   .rw[n2] at hw;cases hw
theorem TI.mute(h:TI m0 j tz Sx dP Fz Own B t){g:Nat}(hB:B<=B')(hu:∀ op∈u,op.g=g/\op.act.touch?=none/\op.act.low B'):TI m0 j tz Sx dP Fz Own B' (t++u) :=
 h.grow hB (λsaid=>noRace_append (h.clean said) (λop hop=>(hu op hop).1) λi a _ op hop y hy _=>by rw[(hu op hop).2.1] at hy;cases hy)
  λop hop=>⟨λx hx=>(by rw[(hu op hop).2.1] at hx;cases hx),(hu op hop).2.2⟩
theorem TI.fork(h:TI m0 j tz Sx dP Fz Own B t){x y:MemOp}(hx:x.g=0/\x.act=.go (m0+j))(hy:y.g=m0+j/\y.act=.start)(h0:Deaf t 0=0)(hk:Deaf t (m0+j)=0):TI m0 (j+1) tz Sx dP Fz Own B (t++#[x,y]):=by
 have e:t++#[x,y]=(t++#[x])++#[y]:=by apply Array.ext';simp
 have h1:TI m0 j tz Sx dP Fz Own B (t++#[x]):=h.mute (g:=0) (Nat.le_refl _) λop hop=>by
  have:op=x:=by simpa using hop
  subst this
  exact⟨hx.1,by rw[hx.2];rfl,by rw[hx.2];trivial⟩
 have h2:TI m0 j tz Sx dP Fz Own B (t++#[x,y]):=by
  rw[e]
  exact h1.mute (g:=m0+j) (Nat.le_refl _) λop hop=>by
   have:op=y:=by simpa using hop
   subst this
   exact⟨hy.1,by rw[hy.2];rfl,by rw[hy.2];trivial⟩
 refine⟨h2.clean,h2.len,λi a hi ha hm=>?_,λi op a hi ho ha hm=>let ⟨h0,h1⟩:=h2.new i op a hi ho ha hm;⟨h0.imp id λz=>⟨z.1,by omega⟩,h1⟩,h2.over,h2.seen⟩
 have hl:=h.len
 rw[touchAt_old (by omega)] at ha
 rcases h.old i a hi ha hm with k|k
 .refine .inl λg hg=>?_
  by_cases hgj:g=m0+j
  .subst hgj
   exact fork_knows hx hy h0 hk (k 0 (.inl rfl))
  .exact(k g (hg.imp id λz=>⟨z.1,by omega⟩)).app _
 .exact .inr k
theorem Qg{Sx:Nat->Prop}(h:Past (dZ Sx) B t):TI m0 0 t.size Sx dP Fz Own B t :=
 ⟨h.clean,Nat.le_refl _,λi x _ hx hm=>(h.known i x hx hm).imp (λk g hg=>by
  rcases hg with rfl|hg
  .exact k
  .omega) id,
  λi op x hi ho _ _=>by have:=lt_size_of_getElem? ho;omega,λi g _ hg hne hc=>h.over i g hg hne hc,h.seen⟩
end
end Go.Proofs.YtjlgehmebfkioaaGreatDoor
namespace Go.Proofs.YtjlgehmebfkioaaGreatDoor
open Go Go.Conc
def sA(Wg:Nat):Addr:=⟨Wg,0,none⟩
structure jl(Wg g r:Nat)(t:Trace):Prop where
 at_:∃ op,t[r]?=some op/\op.g=g/\op.act=.mark (.releaseMerge (sA Wg))
 heard:t.heard r
 late:∀ (i:Nat) op x,r<i->t[i]?=some op->op.g=g->op.act.touch?=some x->x.kind=.atomic/\blk x.loc=some Wg/\¬t.heard i
section
variable {m0 j tz:Nat} {Sx dP Fz:Nat->Prop} {Own Own':Nat->Nat->Prop} {B B':Nat} {t u:Trace} {Wg g r:Nat}
theorem jl.lt(h:jl Wg g r t):r<t.size:=by obtain⟨op,h1,_⟩:=h.at_;exact lt_size_of_getElem? h1
theorem jl.app(h:jl Wg g r t)(hu:∀ (i:Nat) op x,t.size<=i->(t++u)[i]?=some op->op.g=g->op.act.touch?=some x->x.kind=.atomic/\blk x.loc=some Wg/\¬(t++u).heard i):jl Wg g r (t++u):=by
 obtain⟨op,h1,h2,h3⟩:=h.at_
 refine⟨⟨op,by rw[getElem?_append_old h.lt];exact h1,h2,h3⟩,(heard_old h.lt).2 h.heard,λi op x hi ho hg hx=>?_⟩
 by_cases hlt:i<t.size
 .rw[getElem?_append_old hlt] at ho
  obtain⟨a,b,c⟩:=h.late i op x hi ho hg hx
  exact⟨a,b,λhh=>c ((heard_old hlt).1 hh)⟩
 .exact hu i op x (by omega) ho hg hx
theorem jl.other(h:jl Wg g r t)(hu:∀ op∈u,op.g≠g):jl Wg g r (t++u):=h.app λi op x hi ho hg _=>by
 rcases getElem?_append_cases ho with ⟨hlt,_⟩|⟨_,hm⟩
 .omega
 .exact(hu op hm hg).elim
theorem jl.still(h:jl Wg g r t)(hu:∀ op∈u,op.act.touch?=none):jl Wg g r (t++u):=h.app λi op x hi ho _ hx=>by
 rcases getElem?_append_cases ho with ⟨hlt,_⟩|⟨_,hm⟩
 .omega
 .rw[hu op hm] at hx;cases hx
theorem jl.deaf(h:jl Wg g r t){fn:FuncId}{pos:String}{es:Array Event}(hd:1<=Deaf t g)(he:∀ e∈es,e.sync=true/\∃ a:Addr,e.loc=.cell a/\a.block=Wg):jl Wg g r (t++MemOp.ofEvents g fn pos es):=by
 have marks:∀ e∈es,e.loc≠.mark .disable/\e.loc≠.mark .enable:=λe hx=>by
  obtain⟨_,a,h1,_⟩:=he e hx
  rw[h1];exact⟨by simp,by simp⟩
 refine h.app λi op x hi ho hg hx=>?_
 rcases getElem?_append_cases ho with ⟨hlt,_⟩|⟨_,hm⟩
 .omega
 .obtain⟨e,hes,rfl⟩:=Go.Conc.mem_ofEvents hm
  obtain⟨h1,a,h2,h3⟩:=he e hes
  obtain⟨loc,wr,sy⟩:=e
  simp only at h1 h2
  subst h1 h2
  simp only[MemAct.ofEvent,MemAct.touch?,Option.some.injEq] at hx
  subst hx
  refine⟨rfl,by simp[blk,h3],λ⟨g',hg',hdf⟩=>?_⟩
  have e1:g'=g:=by
   have:(t++MemOp.ofEvents g fn pos es).g? i=some g:=by simp only[Trace.g?,ho,Option.map_some]
   rw[this] at hg'
   exact(Option.some.inj hg').symm
  subst e1
  obtain⟨k,rfl⟩:∃ k,i=t.size+k:=⟨i-t.size,by omega⟩
  have hk:k<=es.size:=by
   have:=lt_size_of_getElem? ho
   rw[Array.size_append,ofEvents_eq,Array.size_map] at this
   omega
  rw[deaf_inside t g' fn pos es k hk] at hdf
  have:=deafBehind_still (es:=es.extract 0 k) (λe hx=>marks e (by
   obtain⟨q,hq,rfl⟩:=Array.mem_iff_getElem.1 hx
   rw[Array.getElem_extract]
   exact Array.getElem_mem _)) (Deaf t g')
  rw[this] at hdf
  omega
theorem jl.new{y:MemOp}(hg:y.g=g)(hy:y.act=.mark (.releaseMerge (sA Wg)))(hd:Deaf t g=0):jl Wg g t.size (t++#[y]):=by
 have hl:(t++#[y])[t.size]?=some y:=by rw[Array.getElem?_append_right (Nat.le_refl _)];simp
 refine⟨⟨y,hl,hg,hy⟩,⟨g,by simp only[Trace.g?,hl,Option.map_some,hg],by rw[deaf_old (Nat.le_refl _)];exact hd⟩,λi op x hi ho _ _=>?_⟩
 have:=lt_size_of_getElem? ho
 simp at this
 omega
theorem Qh{n:Nat}(h:TI m0 n tz Sx dP Fz Own B t)(hr:∀ g,m0<=g->g<m0+n->∃ r,jl Wg g r t)(hn:NoRelease (sA Wg) t)(h0:Deaf t 0=0)(hW:Wg<B){y:MemOp}(hg:y.g=0)(hy:y.act=.mark (.acquire (sA Wg))) :
 Past (dZ λb=>Sx b\/b=Wg) B (t++#[y]):=by
 have hl:(t++#[y])[t.size]?=some y:=by rw[Array.getElem?_append_right (Nat.le_refl _)];simp
 have hnone:∀ op∈#[y],op.act.touch?=none:=λop hop=>by
  have:op=y:=by simpa using hop
  subst this;rw[hy];rfl
 have h1:TI m0 n tz Sx dP Fz Own B (t++#[y]):=h.mute (g:=0) (Nat.le_refl _) λop hop=>by
  have:op=y:=by simpa using hop
  subst this
  exact⟨hg,by rw[hy];rfl,by rw[hy];exact hW⟩
 have hhy:(t++#[y]).heard t.size:=⟨0,by simp only[Trace.g?,hl,Option.map_some,hg],by rw[deaf_old (Nat.le_refl _)];exact h0⟩
 -- what a worker did ahead of its release happens before the acquire
 have edge:∀ g r i op,jl Wg g r t->t[i]?=some op->op.g=g->i<r->HappensBefore (t++#[y]) i t.size:=by
  intro g r i op hR hi hgi hlt
  obtain⟨o,o1,o2,o3⟩:=hR.at_
  have e1:HappensBefore t i r:=hb_po hlt hi o1 (by rw[hgi,o2])
  have o1':(t++#[y])[r]?=some o:=by rw[getElem?_append_old hR.lt];exact o1
  refine(hb_app _ e1).trans (.single (.inr ⟨.marked (a:=sA Wg) hR.lt (.inr (by rw[act?_of o1',o3])) (by rw[act?_of hl,hy]) (λk k1 k2 e=>?_),(heard_old hR.lt).2 hR.heard,hhy⟩))
  rw[act?_old k2] at e
  exact hn k e
 refine⟨h1.clean,λi a ha hm=>?_,λi g hgi hne hc=>?_,?_,h1.seen⟩
 .by_cases hi:i<tz
  .rcases h1.old i a hi ha hm with k|⟨⟨b,b1,b2⟩,k⟩
   .exact .inl (k 0 (.inl rfl))
   .exact .inr ⟨⟨b,b1,.inl b2⟩,k⟩
  .obtain⟨op,ho,I5⟩:=touch_of ha
   obtain⟨hcr,b,hb,hN⟩:=h1.new i op a (by omega) ho I5 hm
   have hlt:i<t.size:=by
    rcases getElem?_append_cases ho with ⟨z,_⟩|⟨_,hmem⟩
    .exact z
    .rw[hnone op hmem] at I5;cases I5
   have ho':t[i]?=some op:=by rw[<-getElem?_append_old hlt];exact ho
   rcases hcr with h00|⟨g1,g2⟩
   .have:=knows_own ho
    rw[h00] at this
    exact .inl this
   .obtain⟨r,hR⟩:=hr op.g g1 g2
    rcases Nat.lt_trichotomy i r with hir|hir|hir
    .exact .inl ⟨t.size,y,hl,hg,.inr (edge _ _ _ _ hR ho' rfl hir)⟩
    .subst hir
     obtain⟨o,o1,_,o3⟩:=hR.at_
     rw[ho'] at o1
     cases o1
     rw[o3] at I5;cases I5
    .obtain⟨k1,k2,_⟩:=hR.late i op a hir ho' rfl I5
     exact .inr ⟨⟨Wg,k2,.inr rfl⟩,k1⟩
 .by_cases hi:i<tz
  .exact h1.over i g hi hgi hne hc
  .obtain⟨x,hx,hm,hcn⟩:=hc
   obtain⟨op,ho,I5⟩:=touch_of hx
   obtain⟨hcr,_⟩:=h1.new i op x (by omega) ho I5 hm
   have hlt:i<t.size:=by
    rcases getElem?_append_cases ho with ⟨z,_⟩|⟨_,hmem⟩
    .exact z
    .rw[hnone op hmem] at I5;cases I5
   have ho':t[i]?=some op:=by rw[<-getElem?_append_old hlt];exact ho
   have eg:op.g=g:=by
    simp only[Trace.g?,ho,Option.map_some,Option.some.injEq] at hgi
    exact hgi
   rcases hcr with h00|⟨g1,g2⟩
   .exact(hne (by rw[<-eg,h00])).elim
   .obtain⟨r,hR⟩:=hr op.g g1 g2
    rcases Nat.lt_trichotomy i r with hir|hir|hir
    .exact⟨t.size,by simp only[Trace.g?,hl,Option.map_some,hg],edge _ _ _ _ hR ho' rfl hir⟩
    .subst hir
     obtain⟨o,o1,_,o3⟩:=hR.at_
     rw[ho'] at o1
     cases o1
     rw[o3] at I5;cases I5
    .obtain⟨k1,_,k3⟩:=hR.late i op x hir ho' rfl I5
     rcases hcn with hcn|hcn
     .exact(hcn k1).elim
     .exact(k3 ((heard_old hlt).1 hcn)).elim
 .rw[Deaf_push]
  simp only[deafStep,hy]
  exact h0
end
structure kN(Fz:Nat->Prop)(Ex:World->World->Prop)(O:Nat->Prop)(w w₁:World):Prop where
 mine:∀ b,O b->w₁.heap[b]?=w.heap[b]?
 fz:∀ b,Fz b->w₁.heap[b]?=w.heap[b]?
 size:w.heap.size<=w₁.heap.size
 tape:w₁.tape=w.tape
 os:w₁.os=w.os
 output:w₁.output=w.output
 ex:Ex w w₁
structure I6(O:Nat->Prop)(w w':World):Prop where
 keep:∀ b,b<w.heap.size->¬O b->w'.heap[b]?=w.heap[b]?
 size:w.heap.size<=w'.heap.size
 tape:w'.tape=w.tape
 os:w'.os=w.os
 output:w'.output=w.output
def grow(O:Nat->Prop)(w w':World)(b:Nat):Prop:=O b\/(w.heap.size<=b/\b<w'.heap.size)
def EvC(Fz O:Nat->Prop)(e:Event):Prop :=
 (∃ b,blk e.loc=some b/\e.sync=false/\(O b\/(Fz b/\e.write=false)))\/(∃ m,e.loc=.mark m/\IU m=true)
variable {P:Program} {main g_:Bool} {Fz:Nat->Prop} {Ex:World->World->Prop} {O O':Nat->Prop} {Stop:(Nat->Prop)->Goroutine->World->Prop}
def Co(P:Program)(main g_:Bool)(Fz:Nat->Prop)(Ex:World->World->Prop)(Stop:(Nat->Prop)->Goroutine->World->Prop)(O:Nat->Prop)(g:Goroutine)(w:World):Prop :=
 ∀ M:(Nat->Prop)->Goroutine->World->Prop,
   (∀ O g w,g.status=.running->(∀ w₁,kN Fz Ex O w w₁->Stop O g w₁)->M O g w) ->
   (∀ O g w,g.status=.running->(∀ w₁,kN Fz Ex O w w₁->∃ g' w' es,stepG P main g w₁=.go g' w' es/\I6 O w₁ w'/\(∀ e∈es,EvC Fz (grow O w₁ w') e)/\(g_=true->es=#[])/\M (grow O w₁ w') g' w')->M O g w)->M O g w
theorem Co.stop{g:Goroutine}{w:World}(hr:g.status=.running)(h:∀ w₁,kN Fz Ex O w w₁->Stop O g w₁):Co P main g_ Fz Ex Stop O g w:=λ_ h1 _=>h1 O g w hr h
theorem Co.step{g:Goroutine}{w:World}(hr:g.status=.running)(h:∀ w₁,kN Fz Ex O w w₁->∃ g' w' es,stepG P main g w₁=.go g' w' es/\I6 O w₁ w'/\(∀ e∈es,EvC Fz (grow O w₁ w') e)/\(g_=true->es=#[])/\Co P main g_ Fz Ex Stop (grow O w₁ w') g' w'):Co P main g_ Fz Ex Stop O g w :=
 λM h1 h2=>h2 O g w hr λw₁ r=>let ⟨g',w',es,a,b,c,s,d⟩:=h w₁ r;⟨g',w',es,a,b,c,s,d M h1 h2⟩
theorem Co.cases{g:Goroutine}{w:World}(h:Co P main g_ Fz Ex Stop O g w):g.status=.running/\((∀ w₁,kN Fz Ex O w w₁->Stop O g w₁)\/∀ w₁,kN Fz Ex O w w₁->∃ g' w' es,stepG P main g w₁=.go g' w' es/\I6 O w₁ w'/\(∀ e∈es,EvC Fz (grow O w₁ w') e)/\(g_=true->es=#[])/\Co P main g_ Fz Ex Stop (grow O w₁ w') g' w') :=
 h (λO g w=>g.status=.running/\((∀ w₁,kN Fz Ex O w w₁->Stop O g w₁)\/∀ w₁,kN Fz Ex O w w₁->∃ g' w' es,stepG P main g w₁=.go g' w' es/\I6 O w₁ w'/\(∀ e∈es,EvC Fz (grow O w₁ w') e)/\(g_=true->es=#[])/\Co P main g_ Fz Ex Stop (grow O w₁ w') g' w'))
   (λ_ _ _ hr hs=>⟨hr,.inl hs⟩)
   (λ_ _ _ hr hs=>⟨hr,.inr λw₁ r=>by
    obtain⟨g',w',es,a,b,c,s,hr',d⟩:=hs w₁ r
    refine⟨g',w',es,a,b,c,s,?_⟩
    rcases d with d|d
    .exact Co.stop hr' d
    .exact Co.step hr' d⟩)
def Cf(P:Program)(main:Bool)(Fz:Nat->Prop)(Ex:World->World->Prop)(Stop:(Nat->Prop)->Goroutine->World->Prop)(c' c:(Nat->Prop) × Goroutine × World):Prop :=
 ¬(∀ w₁,kN Fz Ex c.1 c.2.2 w₁->Stop c.1 c.2.1 w₁)/\∃ w₁ es,kN Fz Ex c.1 c.2.2 w₁/\stepG P main c.2.1 w₁=.go c'.2.1 c'.2.2 es/\c'.1=grow c.1 w₁ c'.2.2
theorem Co.acc{g:Goroutine}{w:World}(h:Co P main g_ Fz Ex Stop O g w):Acc (Cf P main Fz Ex Stop) (O,g,w) :=
 h (λO g w=>Acc (Cf P main Fz Ex Stop) (O,g,w))
   (λ_ _ _ _ hs=>Acc.intro _ λ_ hc=>(hc.1 hs).elim)
   (λO g w _ hs=>Acc.intro _ λc' hc=>by
    obtain⟨_,w₁,es,r,e,eO⟩:=hc
    obtain⟨g',w',es',a,_,_,_,d⟩:=hs w₁ r
    simp only at e
    rw[e] at a
    cases a
    obtain⟨O',g2,w2⟩:=c'
    simp only at eO d ⊢
    rw[eO];exact d)
theorem kN.trans(hE:∀ a b c,Ex a b->Ex b c->Ex a c){w w₁ w₂:World}(h:kN Fz Ex O w w₁)(k:kN Fz Ex O w₁ w₂):kN Fz Ex O w w₂ :=
 ⟨λb x=>(k.mine b x).trans (h.mine b x),λb x=>(k.fz b x).trans (h.fz b x),Nat.le_trans h.size k.size,k.tape.trans h.tape,k.os.trans h.os,k.output.trans h.output,hE _ _ _ h.ex k.ex⟩
theorem kN.refl(hE:∀ a,Ex a a)(w:World):kN Fz Ex O w w:=⟨λ_ _=>rfl,λ_ _=>rfl,Nat.le_refl _,rfl,rfl,rfl,hE w⟩
theorem Co.rely(hE:∀ a b c,Ex a b->Ex b c->Ex a c){g:Goroutine}{w w₁:World}(h:Co P main g_ Fz Ex Stop O g w)(hr:kN Fz Ex O w w₁):Co P main g_ Fz Ex Stop O g w₁:=by
 obtain⟨h0,h⟩:=h.cases
 rcases h with h|h
 .exact Co.stop h0 λw₂ h₂=>h w₂ (hr.trans hE h₂)
 .exact Co.step h0 λw₂ h₂=>h w₂ (hr.trans hE h₂)
theorem I6.refl{w:World}:I6 O w w:=⟨λ_ _ _=>rfl,Nat.le_refl _,rfl,rfl,rfl⟩
theorem l7(w:World):grow O w w=O:=by
 funext b
 refine propext ⟨λh=>h.elim id λx=>?_,.inl⟩
 omega
theorem Ub{g g':Goroutine}{w:World}(hr:g.status=.running)(hs:∀ w,stepG P main g w=.go g' w #[])(h:∀ w₁,kN Fz Ex O w w₁->Co P main g_ Fz Ex Stop O g' w₁):Co P main g_ Fz Ex Stop O g w :=
 Co.step hr λw₁ r=>⟨g',w₁,#[],hs w₁,I6.refl,λe he=>by simp at he,λ_=>rfl,by rw[l7];exact h w₁ r⟩
theorem Kr{R:World->World->Prop}{Stop':Goroutine->World->Prop}(hR:∀ w w₁,kN Fz Ex O w w₁->R w w₁)(hs:∀ g w,Stop' g w->g.status=.running/\Stop O g w)(hE:∀ a,Ex a a):∀ (n:Nat) {g:Goroutine} {w:World},Goes P main R (λw w' es=>w'=w/\es=#[]) Stop' n g w->Co P main g_ Fz Ex Stop O g w
 |0,g,w,h=>Co.stop (hs g w (h w (hR w w (kN.refl hE w)))).1 λw₁ r=>(hs g w₁ (h w₁ (hR w w₁ r))).2
 |n+1,g,w,h=>by
  rcases h with h|⟨hr,h⟩
  .exact Co.stop (hs g w (h w (hR w w (kN.refl hE w)))).1 λw₁ r=>(hs g w₁ (h w₁ (hR w w₁ r))).2
  .refine Co.step hr λw₁ r=>?_
   have h1:=h w₁ (hR w w₁ r)
   cases hst:stepG P main g w₁ with
   |go g' w' es =>
    rw[hst,goes_go] at h1
    obtain⟨⟨rfl,rfl⟩,h2⟩:=h1
    exact⟨g',_,#[],rfl,I6.refl,λe he=>(by simp at he),λ_=>rfl,by rw[l7];exact Kr hR hs hE n h2⟩
   |_=>rw[hst] at h1;exact h1.elim
end Go.Proofs.YtjlgehmebfkioaaGreatDoor
namespace Go.Proofs.YtjlgehmebfkioaaGreatDoor
open Go Go.Conc
open Go.ConcN (sumTo upd sumTo_upd upd_ne upd_same)
structure Th where
 kind:Nat
 g_:Bool
 S:(Nat->Prop)->Goroutine->World->Prop
 O:Nat->Prop
 wa:World
 q:Nat
 d:Nat
def Kt(P:Program)(Fz:Nat->Prop)(Ex:World->World->Prop)(main:Bool)(th:Th)(g:Goroutine)(w:World):Prop :=
 (th.kind=0/\Co P main th.g_ Fz Ex th.S th.O g th.wa/\kN Fz Ex th.O th.wa w) \/
 (th.kind=1/\main=false/\QuitsD P th.q th.d g) \/
 (th.kind=2/\∃ g0,g={ g0 with status:=.blocked }/\g0.offers=none/\Co P main th.g_ Fz Ex th.S th.O g0 th.wa/\kN Fz Ex th.O th.wa w)
def dQ(b:Bool)(th:Th):Th:={ th with kind:=if b=true/\th.kind=2 then 0 else th.kind }
def wk(P:Program)(g g':Goroutine):Bool:=mayWake P g&&g'.status != .blocked&&g'.status != .waiting
section
variable {P:Program} {Fz:Nat->Prop} {Ex:World->World->Prop} {main:Bool} {th:Th} {g x x':Goroutine} {w w':World}
theorem Gh(o:Goroutine):woken P x x' w o=if wk P x x' then o.again w else o:=rfl
theorem Kt.status(h:Kt P Fz Ex main th g w):g.status=.running\/g.status=.blocked\/g.status=.finished:=by
 rcases h with ⟨_,h,_⟩|⟨_,_,h⟩|⟨_,g0,rfl,_⟩
 .exact .inl h.cases.1
 .exact h.status.imp id .inr
 .exact .inr (.inl rfl)
theorem Kt.wake(h:Kt P Fz Ex main th g w):Kt P Fz Ex main (dQ (wk P x x') th) (woken P x x' w' g) w:=by
 rcases h with ⟨hk,h1,h2⟩|⟨hk,hm,h1⟩|⟨hk,g0,rfl,ho,h1,h2⟩
 .rw[woken_run h1.cases.1]
  exact .inl ⟨by simp[dQ,hk],h1,h2⟩
 .rw[woken_quitsD h1]
  exact .inr (.inl ⟨by simp[dQ,hk],hm,h1⟩)
 .rw[Gh]
  cases hb:wk P x x' with
  |true =>
   have:({ g0 with status:=.blocked }:Goroutine).again w'=g0:=by
    have hr:=h1.cases.1
    obtain⟨f,c,s,d,o⟩:=g0
    simp only at hr ho
    subst hr ho
    rfl
   simp only[if_true,this]
   exact .inl ⟨by simp[dQ,hk],h1,h2⟩
  |false =>
   simp only[Bool.false_eq_true,if_false]
   exact .inr (.inr ⟨by simp[dQ,hk],g0,rfl,ho,h1,h2⟩)
theorem Kt.rely(hE:∀ a b c,Ex a b->Ex b c->Ex a c)(h:Kt P Fz Ex main th g w)(hr:kN Fz Ex th.O w w'):Kt P Fz Ex main th g w':=by
 rcases h with ⟨hk,h1,h2⟩|h|⟨hk,g0,e,ho,h1,h2⟩
 .exact .inl ⟨hk,h1,h2.trans hE hr⟩
 .exact .inr (.inl h)
 .exact .inr (.inr ⟨hk,g0,e,ho,h1,h2.trans hE hr⟩)
end
structure GI(P:Program)(m0 tz:Nat)(Sx dP Fz Sh:Nat->Prop)(Ex:World->World->Prop)(j:Nat)(T:Nat->Th)(q:Nat->Nat)(gs:Array Goroutine)(w:World)(t:Trace):Prop where
 pos:1<=m0
 sz:gs.size=m0+j
 th:∀ i,bn m0 j i->∃ g,gs[i]?=some g/\Kt P Fz Ex (i==0) (T i) g w/\Deaf t i=(T i).d
 lv:∀ i g,0<i->i<m0->gs[i]?=some g->QuitsD P (q i) (Deaf t i) g
 above:∀ i,m0+j<=i->Deaf t i=0
 ti:TI m0 j tz Sx dP Fz (λg b=>(T g).O b) w.heap.size t
 own:∀ i i' b,(T i).O b->(T i').O b->i=i'
 pJ:∀ i b,(T i).O b->b<w.heap.size/\¬Fz b/\¬Sh b/\¬Sx b
 MS:∀ b,Fz b->b<w.heap.size/\¬Sh b/\¬Sx b
 shl:∀ b,Sh b->b<w.heap.size/\¬Sx b
 sxl:∀ b,Sx b->b<w.heap.size
 Ye:∀ b,dP b->Sh b
 out:∀ i,¬bn m0 j i->∀ b,¬(T i).O b
section
variable {P:Program} {m0 tz:Nat} {Sx dP Fz Sh:Nat->Prop} {Ex:World->World->Prop} {j:Nat} {T:Nat->Th} {q:Nat->Nat} {gs:Array Goroutine} {w:World} {t:Trace}
theorem Yf(hE:∀ (w:World) d,Ex w (w.at d))(O:Nat->Prop)(w:World)(d:Nat):kN Fz Ex O w (w.at d):=⟨λ_ _=>rfl,λ_ _=>rfl,Nat.le_refl _,rfl,rfl,rfl,hE w d⟩
theorem GI.at(h:GI P m0 tz Sx dP Fz Sh Ex j T q gs w t)(hE:∀ a b c,Ex a b->Ex b c->Ex a c)(hA:∀ (w:World) d,Ex w (w.at d))(d:Nat):GI P m0 tz Sx dP Fz Sh Ex j T q gs (w.at d) t :=
 { h with th:=λi hi=>let ⟨g,a,b,c⟩:=h.th i hi;⟨g,a,b.rely hE (Yf hA _ w d),c⟩ }
theorem WK(h:GI P m0 tz Sx dP Fz Sh Ex j T q gs w t){i:Nat}(hi:bn m0 j i):i<gs.size:=by
 rw[h.sz];have:=h.pos;rcases hi with rfl|hi<;>omega
theorem GI.go(h:GI P m0 tz Sx dP Fz Sh Ex j T q gs w t)(hE:∀ a b c,Ex a b->Ex b c->Ex a c){i:Nat}(hi:bn m0 j i){g g':Goroutine}{w':World}{es:Array Event}{dX:Th}
 (hg:gs[i]?=some g) (hst:stepG P (i==0) g w=.go g' w' es) (hI:Kt P Fz Ex (i==0) dX g' w')
 (hd:deafBehind (T i).d es=dX.d) (hO:∀ b,(T i).O b->dX.O b) (hO':∀ b,dX.O b->(T i).O b\/(w.heap.size<=b/\b<w'.heap.size))
 (hkeep:∀ b,b<w.heap.size->¬(T i).O b->¬Sh b->w'.heap[b]?=w.heap[b]?) (hsize:w.heap.size<=w'.heap.size) (htp:w'.tape=w.tape) (hos:w'.os=w.os) (hou:w'.output=w.output) (hEx:Ex w w')
 (hev:∀ e∈es,(∀ x,(MemAct.ofEvent e).touch?=some x->x.loc.isMemory=true->∃ b,blk x.loc=some b/\MR dP Fz (λg b=>(upd T i dX g).O b) i b x)/\(MemAct.ofEvent e).low w'.heap.size) (sl:Option (Nat × Nat)) :
 runT P (crowd gs w sl) i=(.next (crowd ((gs.map (woken P g g' w')).setIfInBounds i g') w' sl),MemOp.ofEvents i g.frame.fn g.frame.place es) /\
  GI P m0 tz Sx dP Fz Sh Ex j (upd (λk=>dQ (wk P g g') (T k)) i dX) q ((gs.map (woken P g g' w')).setIfInBounds i g') w' (t++MemOp.ofEvents i g.frame.fn g.frame.place es):=by
 have hlt:=WK h hi
 have hlow:∀ b,dX.O b->b<w'.heap.size/\¬Fz b/\¬Sh b/\¬Sx b:=λb x=>by
  rcases hO' b x with y|⟨y1,y2⟩
  .have:=h.pJ i b y;exact⟨by omega,this.2⟩
  .refine⟨y2,λz=>?_,λz=>?_,λz=>?_⟩
   .have:=(h.MS b z).1;omega
   .have:=(h.shl b z).1;omega
   .have:=h.sxl b z;omega
 have D9:∀ k,(upd (λk=>dQ (wk P g g') (T k)) i dX k).O=(upd T i dX k).O:=λk=>by
  by_cases hk:k=i
  .subst hk;rw[upd_same,upd_same]
  .rw[upd_ne _ _ hk,upd_ne _ _ hk];rfl
 have hup:∀ k b,(T k).O b->(upd T i dX k).O b:=λk b x=>by
  by_cases hk:k=i
  .subst hk;rw[upd_same];exact hO b x
  .rw[upd_ne _ _ hk];exact x
 have hown:∀ k k' b,(upd T i dX k).O b->(upd T i dX k').O b->k=k':=λk k' b x y=>by
  by_cases hk:k=i<;>by_cases hk':k'=i
  .rw[hk,hk']
  .subst hk
   rw[upd_same] at x
   rw[upd_ne _ _ hk'] at y
   rcases hO' b x with z|⟨z,_⟩
   .exact h.own _ _ b z y
   .have:=(h.pJ k' b y).1;omega
  .subst hk'
   rw[upd_same] at y
   rw[upd_ne _ _ hk] at x
   rcases hO' b y with z|⟨z,_⟩
   .exact h.own _ _ b x z
   .have:=(h.pJ k b x).1;omega
  .rw[upd_ne _ _ hk] at x
   rw[upd_ne _ _ hk'] at y
   exact h.own _ _ b x y
 have rel:∀ k,k≠i->kN Fz Ex (T k).O w w':=λk hk =>
  ⟨λb x=>hkeep b (h.pJ k b x).1 (λy=>hk (h.own _ _ b x y)) (h.pJ k b x).2.2.1,λb x=>hkeep b (h.MS b x).1 (λy=>(h.pJ i b y).2.1 x) (h.MS b x).2.1,hsize,htp,hos,hou,hEx⟩
 have sep':Sep Sx dP Fz (λg b=>(upd T i dX g).O b):=by
  have hl:∀ k b,(upd T i dX k).O b->¬Fz b/\¬Sh b/\¬Sx b:=λk b x=>by
   by_cases hk:k=i
   .subst hk;rw[upd_same] at x;exact(hlow b x).2
   .rw[upd_ne _ _ hk] at x;exact(h.pJ k b x).2
  exact⟨hown,λg b x=>(hl g b x).1,λg b x y=>(hl g b x).2.1 (h.Ye b y),λg b x=>(hl g b x).2.2,λb x y=>(h.MS b x).2.1 (h.Ye b y),λb x=>(h.MS b x).2.2,λb x=>(h.shl b (h.Ye b x)).2⟩
 have others:∀ k,k≠i->Deaf (t++MemOp.ofEvents i g.frame.fn g.frame.place es) k=Deaf t k:=λk hk=>Deaf_other t (λe=>hk e.symm) _ (λop hop=>by obtain⟨e,_,rfl⟩:=Go.Conc.mem_ofEvents hop;rfl)
 refine⟨runT_crowd_go (P:=P) (sl:=sl) hg hst,h.pos,by simp[h.sz],λk hk=>?_,λk x hk1 hk2 hx=>?_,λk hk=>?_,?_,?_,?_,?_,?_,?_,h.Ye,λk hk b=>?_⟩
 .by_cases hki:k=i
  .subst hki
   refine⟨g',by rw[Array.getElem?_setIfInBounds_self_of_lt (by simpa using hlt)],by rw[upd_same];exact hI,?_⟩
   obtain⟨_,_,_,hdk⟩:=h.th k hk
   rw[upd_same,Deaf_own,hdk,hd]
  .obtain⟨x,hx,hxI,WL⟩:=h.th k hk
   refine⟨woken P g g' w' x,by rw[Array.getElem?_setIfInBounds_ne (λe=>hki e.symm),Array.getElem?_map,hx];rfl,?_,?_⟩
   .rw[upd_ne _ _ hki]
    have:=(hxI.rely hE (rel k hki)).wake (x:=g) (x':=g') (w':=w') (P:=P)
    exact this
   .rw[upd_ne _ _ hki,others k hki,WL];rfl
 .have hki:k≠i:=by rcases hi with rfl|hi<;>omega
  rw[Array.getElem?_setIfInBounds_ne (λe=>hki e.symm),Array.getElem?_map] at hx
  obtain⟨y,hy,rfl⟩:=Option.map_eq_some_iff.1 hx
  have hq:=h.lv k y hk1 hk2 hy
  rw[woken_quitsD hq,others k hki]
  exact hq
 .have hki:k≠i:=by have:=h.pos;rcases hi with rfl|hi<;>omega
  rw[others k hki];exact h.above k hk
 .have e:(λg_1 b=>(upd (λk=>dQ (wk P g g') (T k)) i dX g_1).O b)=λg_1 b=>(upd T i dX g_1).O b:=by funext k;rw[D9]
  rw[e]
  refine(h.ti.mono hup (Nat.le_refl _)).app sep' hi hsize λop hop=>?_
  obtain⟨e,he,rfl⟩:=Go.Conc.mem_ofEvents hop
  exact⟨rfl,(hev e he).1,(hev e he).2⟩
 .intro k k' b x y
  rw[D9] at x y
  exact hown k k' b x y
 .intro k b x
  rw[D9] at x
  by_cases hk:k=i
  .subst hk;rw[upd_same] at x;exact hlow b x
  .rw[upd_ne _ _ hk] at x
   have:=h.pJ k b x
   exact⟨by omega,this.2⟩
 .intro b x;have:=h.MS b x;exact⟨by omega,this.2⟩
 .intro b x;have:=h.shl b x;exact⟨by omega,this.2⟩
 .intro b x;have:=h.sxl b x;omega
 .have hki:k≠i:=λe=>hk (e▸hi)
  rw[D9,upd_ne _ _ hki]
  exact h.out k hk b
end
section
variable {P:Program} {m0 tz:Nat} {Sx dP Fz Sh:Nat->Prop} {Ex:World->World->Prop} {j:Nat} {T:Nat->Th} {q:Nat->Nat} {gs:Array Goroutine} {w:World} {t:Trace}
theorem MU{O:Nat->Prop}{e:Event}(h:EvC Fz O e):e.loc≠.mark .disable/\e.loc≠.mark .enable:=by
 rcases h with ⟨b,h,_⟩|⟨m,h,hb⟩
 .exact⟨λe'=>(by rw[e'] at h;simp[blk] at h),λe'=>(by rw[e'] at h;simp[blk] at h)⟩
 .exact⟨λe'=>(by rw[h] at e';cases e';cases hb),λe'=>(by rw[h] at e';cases e';cases hb)⟩
theorem Uc{O:Nat->Prop}{Own:Nat->Nat->Prop}{g B:Nat}{e:Event}(h:EvC Fz O e)(hO:∀ b,O b->Own g b)(hB:∀ b,O b\/Fz b->b<B) :
 (∀ x,(MemAct.ofEvent e).touch?=some x->x.loc.isMemory=true->∃ b,blk x.loc=some b/\MR dP Fz Own g b x)/\(MemAct.ofEvent e).low B:=by
 obtain⟨loc,wr,sy⟩:=e
 rcases h with ⟨b,h1,h2,h3⟩|⟨m,h1,h2⟩
 .simp only at h1 h2 h3
  subst h2
  have hb:b<B:=hB b (h3.imp id (·.1))
  have acc:MemAct.ofEvent ⟨loc,wr,false⟩=.access ⟨loc,wr,false⟩:=by
   cases loc<;>first|rfl|(cases wr<;>rfl)|(simp[blk] at h1)
  rw[acc]
  refine⟨λx hx _=>?_,?_⟩
  .simp only[MemAct.touch?,Option.some.injEq] at hx
   subst hx
   refine⟨b,h1,?_⟩
   rcases h3 with h3|⟨h3,h4⟩
   .exact .inr (.inl ⟨hO b h3,rfl⟩)
   .exact .inr (.inr ⟨h3,h4,rfl⟩)
  .cases loc with
   |cell a=>simp only[blk,Option.some.injEq] at h1;subst h1;exact hb
   |obj r=>simp only[blk,Option.some.injEq] at h1;subst h1;exact hb
   |_=>simp[blk] at h1
 .simp only at h1
  subst h1
  cases m<;>first|(cases h2;done)|exact⟨λx hx=>(by simp[MemAct.ofEvent,MemAct.touch?] at hx),by simp[MemAct.ofEvent,MemAct.low]⟩
theorem GI.walk(h:GI P m0 tz Sx dP Fz Sh Ex j T q gs w t)(hE:∀ a b c,Ex a b->Ex b c->Ex a c)(hX:∀ w w':World,(∀ b,Sh b->w'.heap[b]?=w.heap[b]?)->Ex w w'){i:Nat}(hi:bn m0 j i){g:Goroutine}(hg:gs[i]?=some g)(hk:(T i).kind=0)
 (hns:¬∀ w₁,kN Fz Ex (T i).O (T i).wa w₁->(T i).S (T i).O g w₁) (sl:Option (Nat × Nat)) :
 ∃ g' w' es,runT P (crowd gs w sl) i=(.next (crowd ((gs.map (woken P g g' w')).setIfInBounds i g') w' sl),MemOp.ofEvents i g.frame.fn g.frame.place es) /\
   GI P m0 tz Sx dP Fz Sh Ex j (upd (λk=>dQ (wk P g g') (T k)) i { T i with O:=grow (T i).O w w',wa:=w' }) q ((gs.map (woken P g g' w')).setIfInBounds i g') w' (t++MemOp.ofEvents i g.frame.fn g.frame.place es) /\
   Cf P (i==0) Fz Ex (T i).S (grow (T i).O w w',g',w') ((T i).O,g,(T i).wa)/\g'.status=.running/\(∀ b,Sh b->w'.heap[b]?=w.heap[b]?)/\(∀ e∈es,EvC Fz (grow (T i).O w w') e)/\((T i).g_=true->es=#[]):=by
 obtain⟨g0,hg0,hI,hd⟩:=h.th i hi
 rw[hg] at hg0
 cases hg0
 have hco:Co P (i==0) (T i).g_ Fz Ex (T i).S (T i).O g (T i).wa/\kN Fz Ex (T i).O (T i).wa w:=by
  rcases hI with ⟨_,x⟩|⟨x,_⟩|⟨x,_⟩
  .exact x
  .rw[hk] at x;cases x
  .rw[hk] at x;cases x
 obtain⟨g',w',es,e1,e2,e3,e4,e5⟩:=(hco.1.cases.2.resolve_left hns) w hco.2
 have hsh:∀ b,Sh b->w'.heap[b]?=w.heap[b]?:=λb x=>e2.keep b (h.shl b x).1 λy=>(h.pJ i b y).2.2.1 x
 have hrl:kN Fz Ex (grow (T i).O w w') w' w':=kN.refl (λa=>hX a a λ_ _=>rfl) w'
 obtain⟨f1,f2⟩:=h.go hE hi (dX:={ T i with O:=grow (T i).O w w',wa:=w' }) hg e1 (.inl ⟨hk,e5,hrl⟩) (deafBehind_still (λe he=>MU (e3 e he)) _) (λb x=>.inl x) (λb x=>x) (λb hb hno _=>e2.keep b hb hno) e2.size e2.tape e2.os e2.output (hX w w' hsh)
  (λe he=>Uc (e3 e he) (λb x=>by rw[upd_same];exact x) λb x=>by
   rcases x with (x|x)|x
   .have:=(h.pJ i b x).1;have:=e2.size;omega
   .exact x.2
   .have:=(h.MS b x).1;have:=e2.size;omega) sl
 exact⟨g',w',es,f1,f2,⟨hns,w,es,hco.2,e1,rfl⟩,e5.cases.1,hsh,e3,e4⟩
theorem GI.quit(h:GI P m0 tz Sx dP Fz Sh Ex j T q gs w t)(hE:∀ a b c,Ex a b->Ex b c->Ex a c)(hX:∀ w w':World,(∀ b,Sh b->w'.heap[b]?=w.heap[b]?)->Ex w w'){i:Nat}(hi:bn m0 j i){g:Goroutine}(hg:gs[i]?=some g)(hr:g.status=.running)(hk:(T i).kind=1)(sl:Option (Nat × Nat)) :
 ∃ g' es k,(T i).q=k+1/\(∀ e∈es,e.mute=true)/\runT P (crowd gs w sl) i=(.next (crowd ((gs.map (woken P g g' w)).setIfInBounds i g') w sl),MemOp.ofEvents i g.frame.fn g.frame.place es) /\
   GI P m0 tz Sx dP Fz Sh Ex j (upd (λk=>dQ (wk P g g') (T k)) i { T i with q:=k,d:=deafBehind (T i).d es }) q ((gs.map (woken P g g' w)).setIfInBounds i g') w (t++MemOp.ofEvents i g.frame.fn g.frame.place es):=by
 obtain⟨g0,hg0,hI,hd⟩:=h.th i hi
 rw[hg] at hg0
 cases hg0
 have hq:(i==0)=false/\QuitsD P (T i).q (T i).d g:=by
  rcases hI with ⟨x,_⟩|⟨_,x⟩|⟨x,_⟩
  .rw[hk] at x;cases x
  .exact x
  .rw[hk] at x;cases x
 cases hqi:(T i).q with
 |zero=>rw[hqi] at hq;rw[hq.2.1] at hr;cases hr
 |succ k =>
  rw[hqi] at hq
  rcases hq.2 with ⟨hf,_⟩|⟨_,g',es,hm,hstp,hq'⟩
  .rw[hf] at hr;cases hr
  .obtain⟨f1,f2⟩:=h.go hE hi (dX:={ T i with q:=k,d:=deafBehind (T i).d es }) hg (by rw[hq.1];exact hstp w) (.inr (.inl ⟨hk,hq.1,hq'⟩)) rfl (λb x=>x) (λb x=>.inl x) (λ_ _ _ _=>rfl) (Nat.le_refl _) rfl rfl rfl (hX w w λ_ _=>rfl)
    (λe he=>⟨λx hx=>(by rw[touch_mute (hm e he)] at hx;cases hx),low_mute (hm e he) _⟩) sl
   exact⟨g',es,k,rfl,hm,f1,f2⟩
theorem GI.leave(h:GI P m0 tz Sx dP Fz Sh Ex j T q gs w t){i:Nat}(h0:0<i)(hm0:i<m0){g:Goroutine}(hg:gs[i]?=some g)(hr:g.status=.running)(sl:Option (Nat × Nat)) :
 ∃ g' es k,q i=k+1/\(∀ e∈es,e.mute=true)/\runT P (crowd gs w sl) i=(.next (crowd ((gs.map (woken P g g' w)).setIfInBounds i g') w sl),MemOp.ofEvents i g.frame.fn g.frame.place es) /\
   GI P m0 tz Sx dP Fz Sh Ex j (λk=>dQ (wk P g g') (T k)) (upd q i k) ((gs.map (woken P g g' w)).setIfInBounds i g') w (t++MemOp.ofEvents i g.frame.fn g.frame.place es):=by
 have hq:=h.lv i g h0 hm0 hg
 have hi0:(i==0)=false:=by simp;omega
 have hlt:i<gs.size:=by rw[h.sz];omega
 cases hqi:q i with
 |zero=>rw[hqi] at hq;rw[hq.1] at hr;cases hr
 |succ k =>
  rw[hqi] at hq
  rcases hq with ⟨hf,_⟩|⟨_,g',es,hm,hstp,hq'⟩
  .rw[hf] at hr;cases hr
  .have hnc:∀ x,bn m0 j x->x≠i:=λx hx e=>by subst e;rcases hx with rfl|hx<;>omega
   have others:∀ k,k≠i->Deaf (t++MemOp.ofEvents i g.frame.fn g.frame.place es) k=Deaf t k:=λk hk=>Deaf_other t (λe=>hk e.symm) _ (λop hop=>by obtain⟨e,_,rfl⟩:=Go.Conc.mem_ofEvents hop;rfl)
   refine⟨g',es,k,rfl,hm,runT_crowd_go (P:=P) (sl:=sl) hg (by rw[hi0];exact hstp w),h.pos,by simp[h.sz],λx hx=>?_,λx y hx1 hx2 hy=>?_,λx hx=>?_,?_,h.own,h.pJ,h.MS,h.shl,h.sxl,h.Ye,h.out⟩
   .obtain⟨z,hz,Ud,hdz⟩:=h.th x hx
    refine⟨woken P g g' w z,by rw[Array.getElem?_setIfInBounds_ne (λe=>hnc x hx e.symm),Array.getElem?_map,hz];rfl,Ud.wake,?_⟩
    rw[others x (hnc x hx),hdz];rfl
   .by_cases hxi:x=i
    .subst hxi
     rw[Array.getElem?_setIfInBounds_self_of_lt (by simpa using hlt)] at hy
     obtain rfl:=Option.some.inj hy
     rw[upd_same,Deaf_own]
     exact hq'
    .rw[Array.getElem?_setIfInBounds_ne (λe=>hxi e.symm),Array.getElem?_map] at hy
     obtain⟨z,hz,rfl⟩:=Option.map_eq_some_iff.1 hy
     have hqz:=h.lv x z hx1 hx2 hz
     rw[woken_quitsD hqz,upd_ne _ _ hxi,others x hxi]
     exact hqz
   .rw[others x (by omega)];exact h.above x hx
   .exact h.ti.mute (g:=i) (Nat.le_refl _) λop hop=>by
     obtain⟨e,he,rfl⟩:=Go.Conc.mem_ofEvents hop
     exact⟨rfl,touch_mute (hm e he),low_mute (hm e he) _⟩
end
theorem Bg(t:Trace)(g:Nat)(u:Trace)(hu:∀ op∈u,op.act≠.mark .disable/\op.act≠.mark .enable):Deaf (t++u) g=Deaf t g:=by
 obtain⟨l⟩:=u
 induction l generalizing t with
 |nil=>simp
 |cons y l ih =>
  have e:t++(y::l).toArray=(t++#[y])++l.toArray:=by simp
  have hy:=hu y (by simp)
  rw[e,ih (t++#[y]) (λop hop=>hu op (by simp at hop;simp[hop])),Deaf_push]
  unfold deafStep
  split
  .exact absurd ‹_› hy.1
  .exact absurd ‹_› hy.2
  .rfl
theorem vU{x y op:MemOp}(h:op∈#[x,y]):op=x\/op=y:=by simpa using h
section
variable {P:Program} {m0 tz:Nat} {Sx dP Fz Sh:Nat->Prop} {Ex:World->World->Prop} {j:Nat} {T:Nat->Th} {q:Nat->Nat} {gs:Array Goroutine} {w:World} {t:Trace}
theorem GI.spawn(h:GI P m0 tz Sx dP Fz Sh Ex j T q gs w t){g g' child:Goroutine}{dX c':Th}(hg:gs[0]?=some g)(hst:stepG P true g w=.spawn g' child w #[])
 (hI:Kt P Fz Ex true dX g' w) (hO:dX.O=(T 0).O) (h0:(T 0).d=0) (hd:dX.d=0) (hc:Kt P Fz Ex false c' child w) (hcO:∀ b,¬c'.O b) (hcd:c'.d=0) (sl:Option (Nat × Nat)) :
 ∃ gs' u,runT P (crowd gs w sl) 0=(.next (crowd gs' w sl),u)/\(∀ op∈u,op.act.touch?=none/\(op.g=0\/op.g=m0+j)/\∀ m,op.act≠.mark m) /\
   GI P m0 tz Sx dP Fz Sh Ex (j+1) (upd (upd T 0 dX) (m0+j) c') q gs' w (t++u)/\gs'[0]?=some g'/\gs'[m0+j]?=some child:=by
 have hp:=h.pos
 have hlt:0<gs.size:=by rw[h.sz];omega
 have hne:m0+j≠0:=by omega
 have D9:∀ k,(upd (upd T 0 dX) (m0+j) c' k).O=(T k).O:=λk=>by
  by_cases hk:k=m0+j
  .subst hk;rw[upd_same];funext b;exact propext ⟨λy=>(hcO b y).elim,λy=>(h.out _ (λz=>by rcases z with z|z<;>omega) b y).elim⟩
  .rw[upd_ne _ _ hk]
   by_cases hk0:k=0
   .subst hk0;rw[upd_same];exact hO
   .rw[upd_ne _ _ hk0]
 have Ue:(λg b=>(upd (upd T 0 dX) (m0+j) c' g).O b)=λg b=>(T g).O b:=by funext k;rw[D9]
 obtain⟨g0,hg0,_,hd0⟩:=h.th 0 (.inl rfl)
 rw[h0] at hd0
 have hdj:Deaf t (m0+j)=0:=h.above _ (Nat.le_refl _)
 have hrun:=runT_crowd_spawn (P:=P) (sl:=sl) (i:=0) hg hst
 rw[h.sz] at hrun
 have eu:((MemOp.ofEvents 0 g.frame.fn g.frame.place #[]).push { g:=0,fn:=g.frame.fn,pos:=g.frame.place,act:=.go (m0+j) }).push { g:=m0+j,fn:=child.frame.fn,pos:=g.frame.place,act:=.start }=#[({ g:=0,fn:=g.frame.fn,pos:=g.frame.place,act:=.go (m0+j) }:MemOp),{ g:=m0+j,fn:=child.frame.fn,pos:=g.frame.place,act:=.start }]:=by
  simp[ofEvents_eq]
 rw[eu] at hrun
 have hush:∀ k,Deaf (t++#[({ g:=0,fn:=g.frame.fn,pos:=g.frame.place,act:=.go (m0+j) }:MemOp),{ g:=m0+j,fn:=child.frame.fn,pos:=g.frame.place,act:=.start }]) k=Deaf t k:=λk=>Bg t k _ λop hop=>by
  rcases vU hop with rfl|rfl<;>exact⟨λe=>(by cases e),λe=>(by cases e)⟩
 have pW:((gs.setIfInBounds 0 g').push child)[0]?=some g':=by
  rw[Array.getElem?_push,if_neg (by simp;omega),Array.getElem?_setIfInBounds_self_of_lt hlt]
 have atj:((gs.setIfInBounds 0 g').push child)[m0+j]?=some child:=by
  rw[Array.getElem?_push,if_pos (by simp[h.sz])]
 have atk:∀ k,k≠0->k≠m0+j->((gs.setIfInBounds 0 g').push child)[k]?=gs[k]?:=λk h1 h2=>by
  rw[Array.getElem?_push,if_neg (by simp[h.sz];omega),Array.getElem?_setIfInBounds_ne (by omega)]
 refine⟨_,_,hrun,λop hop=>?_,⟨hp,by simp[h.sz];omega,λi hi=>?_,λi x h1 h2 hx=>?_,λi hi=>?_,?_,λi i' b x y=>?_,λi b x=>?_,h.MS,h.shl,h.sxl,h.Ye,λi hi b=>?_⟩,pW,atj⟩
 .rcases vU hop with rfl|rfl
  .exact⟨rfl,.inl rfl,λ_ e=>(by cases e)⟩
  .exact⟨rfl,.inr rfl,λ_ e=>(by cases e)⟩
 .by_cases hij:i=m0+j
  .subst hij
   refine⟨child,atj,?_,?_⟩
   .rw[upd_same,show (m0+j==0)=false by simp;omega];exact hc
   .rw[upd_same,hush,hdj,hcd]
  .by_cases hi0:i=0
   .subst hi0
    refine⟨g',pW,?_,?_⟩
    .rw[upd_ne _ _ hij,upd_same];exact hI
    .rw[upd_ne _ _ hij,upd_same,hush,hd0,hd]
   .obtain⟨x,hx,hxI,WL⟩:=h.th i (hi.imp id λz=>⟨z.1,by omega⟩)
    refine⟨x,by rw[atk i hi0 hij];exact hx,?_,?_⟩
    .rw[upd_ne _ _ hij,upd_ne _ _ hi0];exact hxI
    .rw[upd_ne _ _ hij,upd_ne _ _ hi0,hush,WL]
 .rw[atk i (by omega) (by omega)] at hx
  rw[hush]
  exact h.lv i x h1 h2 hx
 .rw[hush];exact h.above i (by omega)
 .rw[Ue];exact h.ti.fork ⟨rfl,rfl⟩ ⟨rfl,rfl⟩ hd0 hdj
 .rw[D9] at x y;exact h.own _ _ b x y
 .rw[D9] at x;exact h.pJ i b x
 .rw[D9]
  by_cases hij:i=m0+j
  .exact(hi (.inr ⟨by omega,by omega⟩)).elim
  .exact h.out i (λy=>hi (y.imp id λz=>⟨z.1,by omega⟩)) b
theorem GI.send(h:GI P m0 tz Sx dP Fz Sh Ex j T q gs w t)(hE:∀ a b c,Ex a b->Ex b c->Ex a c){i:Nat}(hi:bn m0 j i){g g₂:Goroutine}{dX:Th}{Ch cap s r:Nat}{buf:Array Value}{v z:Value}{tm:Bool}
 (hg:gs[i]?=some g) (hst:stepG P (i==0) g w=.comm g₂ #[scase Ch v z] true .send w #[]) (hch:w.heap[Ch]?=some (.chan cap buf false s r tm)) (hroom:buf.size<cap) (hS:Sh Ch)
 (hX:Ex w (w.setChan Ch cap (buf.push v) false (s+1) r tm))
 (hI:Kt P Fz Ex (i==0) dX (Conc.served g₂ undef) (w.setChan Ch cap (buf.push v) false (s+1) r tm)) (hO:dX.O=(T i).O) (hd:dX.d=(T i).d) (sl:Option (Nat × Nat)) :
 ∃ gs' u,runT P (crowd gs w sl) i=(.next (crowd gs' (w.setChan Ch cap (buf.push v) false (s+1) r tm) sl),u)/\(∀ op∈u,op.act.touch?=none/\op.g=i/\∀ m,op.act≠.mark m) /\
   GI P m0 tz Sx dP Fz Sh Ex j (upd T i dX) q gs' (w.setChan Ch cap (buf.push v) false (s+1) r tm) (t++u)/\gs'[i]?=some (Conc.served g₂ undef):=by
 have hlt:=WK h hi
 have hp:partners (gs.setIfInBounds i ph) Ch false=[]:=partners_nil λk x hx=>by
  rcases getElem?_stand gs i k x hx with ⟨_,rfl⟩|⟨hk,hx⟩
  .exact offersAt_ph _ _
  .have hks:k<gs.size:=(Array.getElem?_eq_some_iff.1 hx).1
   rw[h.sz] at hks
   by_cases hc:bn m0 j k
   .obtain⟨y,hy,hyI,_⟩:=h.th k hc
    rw[hx] at hy
    cases hy
    rcases hyI with ⟨_,y1,_⟩|⟨_,_,y1⟩|⟨_,g0,rfl,ho,_⟩
    .exact offersAt_of_not_blocked (by rw[y1.cases.1];intro e;cases e) _ _
    .exact offersAt_of_not_blocked (by intro e;rcases y1.status with y|y<;>rw[y] at e<;>cases e) _ _
    .simp[offersAt,ho]
   .have hkm:0<k/\k<m0:=by
     by_cases hk0:k=0
     .exact(hc (.inl hk0)).elim
     .refine⟨by omega,Nat.lt_of_not_le λhle=>hc (.inr ⟨hle,hks⟩)⟩
    have:=h.lv k x hkm.1 hkm.2 hx
    exact offersAt_of_not_blocked (by intro e;rcases this.status with y|y<;>rw[y] at e<;>cases e) _ _
 have hrun:=crowd_send_room (P:=P) (sl:=sl) hg hst hch hroom hp
 rw[finishComm_send,show MemOp.ofEvents i g.frame.fn g.frame.place #[]=#[] by simp[ofEvents_eq],Array.empty_append] at hrun
 have hCh:=h.shl Ch hS
 have hsz:(w.setChan Ch cap (buf.push v) false (s+1) r tm).heap.size=w.heap.size:=by simp[World.setChan]
 have hkeep:∀ b,b≠Ch->(w.setChan Ch cap (buf.push v) false (s+1) r tm).heap[b]?=w.heap[b]?:=λb hb=>by
  simp only[World.setChan]
  exact Array.getElem?_setIfInBounds_ne (λe=>hb e.symm)
 have hush:∀ k,Deaf (t++#[({ g:=i,fn:=g₂.frame.fn,pos:=g₂.frame.place,act:=.send Ch s }:MemOp),{ g:=i,fn:=g₂.frame.fn,pos:=g₂.frame.place,act:=.sendDone Ch s }]) k=Deaf t k:=λk=>Bg t k _ λop hop=>by
  rcases vU hop with rfl|rfl<;>exact⟨λe=>(by cases e),λe=>(by cases e)⟩
 have hops:∀ op∈#[({ g:=i,fn:=g₂.frame.fn,pos:=g₂.frame.place,act:=.send Ch s }:MemOp),{ g:=i,fn:=g₂.frame.fn,pos:=g₂.frame.place,act:=.sendDone Ch s }],op.act.touch?=none/\op.g=i/\op.act.low w.heap.size/\∀ m,op.act≠.mark m:=λop hop=>by
  rcases vU hop with rfl|rfl
  .exact⟨rfl,rfl,hCh.1,λ_ e=>(by cases e)⟩
  .exact⟨rfl,rfl,hCh.1,λ_ e=>(by cases e)⟩
 have D9:∀ k,(upd T i dX k).O=(T k).O:=λk=>by
  by_cases hk:k=i
  .subst hk;rw[upd_same];exact hO
  .rw[upd_ne _ _ hk]
 have Ue:(λg b=>(upd T i dX g).O b)=λg b=>(T g).O b:=by funext k;rw[D9]
 refine⟨_,_,hrun,λop hop=>⟨(hops op hop).1,(hops op hop).2.1,(hops op hop).2.2.2⟩,⟨h.pos,by simp[h.sz],λk hk=>?_,λk x h1 h2 hx=>?_,λk hk=>?_,?_,λk k' b x y=>?_,λk b x=>?_,λb x=>?_,λb x=>?_,λb x=>?_,h.Ye,λk hk b=>?_⟩,?_⟩
 .by_cases hki:k=i
  .subst hki
   refine⟨_,Array.getElem?_setIfInBounds_self_of_lt hlt,by rw[upd_same];exact hI,?_⟩
   obtain⟨_,_,_,hdk⟩:=h.th k hk
   rw[upd_same,hush,hdk,hd]
  .obtain⟨x,hx,hxI,WL⟩:=h.th k hk
   refine⟨x,by rw[Array.getElem?_setIfInBounds_ne (λe=>hki e.symm)];exact hx,?_,?_⟩
   .rw[upd_ne _ _ hki]
    refine hxI.rely hE ⟨λb x=>hkeep b λe=>?_,λb x=>hkeep b λe=>?_,Nat.le_of_eq hsz.symm,rfl,rfl,rfl,hX⟩
    .subst e;exact(h.pJ k b x).2.2.1 hS
    .subst e;exact(h.MS b x).2.1 hS
   .rw[upd_ne _ _ hki,hush,WL]
 .have hki:k≠i:=by rcases hi with rfl|hi<;>omega
  rw[Array.getElem?_setIfInBounds_ne (λe=>hki e.symm)] at hx
  rw[hush]
  exact h.lv k x h1 h2 hx
 .rw[hush];exact h.above k hk
 .rw[Ue,hsz]
  exact h.ti.mute (g:=i) (Nat.le_refl _) λop hop=>⟨(hops op hop).2.1,(hops op hop).1,(hops op hop).2.2.1⟩
 .rw[D9] at x y;exact h.own _ _ b x y
 .rw[D9] at x;rw[hsz];exact h.pJ k b x
 .rw[hsz];exact h.MS b x
 .rw[hsz];exact h.shl b x
 .rw[hsz];exact h.sxl b x
 .rw[D9];exact h.out k hk b
 .exact Array.getElem?_setIfInBounds_self_of_lt hlt
end
