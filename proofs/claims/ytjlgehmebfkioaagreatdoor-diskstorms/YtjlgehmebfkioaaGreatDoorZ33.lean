/- Part of the proof. -/
import Derived.Test.YtjlgehmebfkioaaGreatDoorZ32
import Derived.Conc.LeavingOf
import Derived.Test.YtjlgehmebfkioaaGreatDoorZ04
import Derived.Test.YtjlgehmebfkioaaGreatDoorZ31
open Go.Proofs.Tryz renaming prog->aa
open Go.Proofs.ah.Al (PB)
open Array renaming getElem?_eq_getElem->cR,getElem?_eq_some_iff->cj,getElem?_setIfInBounds_ne->az,getElem?_map->c_,sizeOf_getElem->cW
open Classical renaming byContradiction->cE,axiomOfChoice->lP
open Go renaming World->ae,Program->ar,FuncId->gw,Goroutine->ag,Value->ai,Frame->aw,Trace->e_,Calls->aE,Addr->cy
open Go.Addr renaming add->nm
open Go.Conc renaming mem_ofEvents->cr
open Go.Frame renaming enter->b9
open List renaming range->dg
open Nat renaming le_refl->al,le_trans->cC,lt_of_lt_of_le->cI,eq_zero_or_pos->gE
open Option renaming map_eq_some_iff->cq
open Option.some renaming inj->cd,injEq->cJ
open Relation renaming TransGen->dt
open SizeOf renaming sizeOf->eM
namespace Go.Proofs.YtjlgehmebfkioaaGreatDoor
open Go Go.Conc
open Go.ConcN (sumTo upd sumTo_upd upd_ne upd_same)
structure Stood(E:Nat->Nat->Prop)(Z:Nat->Prop)(S:Nat->Prop)(w w':ae)(E1:Nat->Nat->Prop)(S':Nat->Prop):Prop where
 keep:∀ b,b<w.heap.size->(∀ a,E a b->Z a)->¬S b->w'.heap[b]?=w.heap[b]?
 size:w.heap.size<=w'.heap.size
 fresh:∀ a b,E1 a b->E a b\/w.heap.size<=b
 news:∀ b,S' b->S b\/w.heap.size<=b
 rest:w'.tape=w.tape/\w'.os=w.os/\w'.output=w.output
theorem Stood.refl(E:Nat->Nat->Prop)(Z S:Nat->Prop)(w:ae):Stood E Z S w w E S:=⟨λ_ _ _ _=>rfl,al _,λ_ _ x=>.inl x,λ_ x=>.inl x,rfl,rfl,rfl⟩
theorem Stood.trans{E E1 E2:Nat->Nat->Prop}{Z S S1 S2:Nat->Prop}{w w1 w2:ae}(h:Stood E Z S w w1 E1 S1)(k:Stood E1 Z S1 w1 w2 E2 S2):Stood E Z S w w2 E2 S2:=by
 refine⟨λb hb hz hs=>?_,cC h.size k.size,λa b x=>?_,λb x=>?_,k.rest.1.trans h.rest.1,k.rest.2.1.trans h.rest.2.1,k.rest.2.2.trans h.rest.2.2⟩
 .have h1:=h.size
  rw[k.keep b (by omega) (λa x=>(h.fresh a b x).elim (hz a) (λy=>by omega)) (λx=>(h.news b x).elim hs (λy=>by omega)),h.keep b hb hz hs]
 .rcases k.fresh a b x with y|y
  .exact h.fresh a b y
  .exact .inr (cC h.size y)
 .rcases k.news b x with y|y
  .exact h.news b y
  .exact .inr (cC h.size y)
structure K0(v0:Nat)(o0:Option Obj)(E:Nat->Nat->Prop)(S:Nat->Prop)(w:ae):Prop where
 nE:∀ a,¬E a v0
 nS:¬S v0
 pos:v0<w.heap.size
 qb:w.heap[v0]?=o0
theorem K0.stood{v0:Nat}{o0:Option Obj}{E E1:Nat->Nat->Prop}{Z S S1:Nat->Prop}{w w1:ae}(h:K0 v0 o0 E S w)(k:Stood E Z S w w1 E1 S1):K0 v0 o0 E1 S1 w1 :=
 ⟨λa x=>(k.fresh a v0 x).elim (h.nE a) (λy=>by have:=h.pos;omega),λx=>(k.news v0 x).elim h.nS (λy=>by have:=h.pos;omega),cI h.pos k.size,(k.keep v0 h.pos (λa x=>(h.nE a x).elim) h.nS).trans h.qb⟩
def JC(P:ar)(fns:Fx)(Z:Nat->Prop)(v0:Nat)(o0:Option Obj)(f:gw):Prop :=
 ∀ (Fin:ag->ae->Prop) (E:Nat->Nat->Prop) (gh w:ae) (a a':Array ai) (c c':aw) (cs cs':List aw) (S:Nat->Prop) (gs:Array ag) (d:Nat) (sl:Option (Nat × Nat)) (t:e_) (q:Nat->Nat),
   aW fns E a a'->Ai P fns f a.size=true->(∀ g,fns.gl g=true->E g g/\fns.pt g=true)->WR P fns E Z gh w->(∃ k,cs=k++[aL])->Runs P true Fin (G (b9 P f a .normal) (c::cs)) gh ->
   Bx (fns.re P) S w.heap.size (G (b9 (fns.re P) f a' .normal) (c'::cs')) w gs t q->(∀ a b,E a b->¬S b)->(∀ b,S b->b<w.heap.size)->K0 v0 o0 E S w ->
   ∃ (v:ai) (eX:ae),dt (Bf P true) (G (c.finish v) cs,eX) (G (b9 P f a .normal) (c::cs),gh)/\Runs P true Fin (G (c.finish v) cs) eX /\
     ∃ (N:Nat) (gs':Array ag) (w':ae) (sl':Option (Nat × Nat)) (t':e_) (q':Nat->Nat) (S':Nat->Prop) (E1:Nat->Nat->Prop) (v':ai),
       runNT (fns.re P) N (crowd gs (w.at d) sl) t=(.next (crowd gs' w' sl'),t')/\Bx (fns.re P) S' w'.heap.size (G (c'.finish v') cs') w' gs' t' q' /\
       VR fns E1 v v'/\WR P fns E1 Z eX w'/\(∀ a b,E a b->E1 a b)/\(∀ a b,E1 a b->¬S' b)/\(∀ b,S' b->b<w'.heap.size)/\Stood E Z S w w' E1 S'
section
variable {P:ar} {fns:Fx} {Z:Nat->Prop} {Fin:ag->ae->Prop} {K:List aw}
theorem D8{v0:Nat}{o0:Option Obj}(hz:zeros P fns)(fQ:0<P.depth)(hp:lu P fns)(hJ:∀ f,fns.jf f=true->JC P fns Z v0 o0 f):∀ (c:ag × ae),Acc (dt (Bf P true)) c ->
 ∀ (M:Nat) (E:Nat->Nat->Prop) (S:Nat->Prop) (gs:Array ag) (a:ag) (w:ae) (sl:Option (Nat × Nat)) (t:e_) (q:Nat->Nat),sumTo gs.size q<=M ->
   Ak P fns Z true Fin [] K E c.1 c.2 a w->gs[0]?=some a->Leavers (fns.re P) t gs q->Past (eP S) w.heap.size t->(∀ a b,E a b->¬S b)->(∀ b,S b->b<w.heap.size)->K0 v0 o0 E S w ->
   ∃ (N:Nat) (gs':Array ag) (a':ag) (w':ae) (sl':Option (Nat × Nat)) (t':e_) (q':Nat->Nat) (S':Nat->Prop) (E':Nat->Nat->Prop) (g1:ag) (eX:ae),
     runNT (fns.re P) N (crowd gs w sl) t=(.next (crowd gs' w' sl'),t')/\gs'[0]?=some a'/\Ak P fns Z true Fin [] K E' g1 eX a' w'/\dJ true [aL] g1/\Fin g1 eX /\
     Leavers (fns.re P) t' gs' q'/\Past (eP S') w'.heap.size t'/\(∀ a b,E' a b->¬S' b)/\(∀ b,S' b->b<w'.heap.size)/\(∀ a b,E a b->E' a b)/\Stood E Z S w w' E' S':=by
 intro c hacc
 induction hacc with
 |intro c _ ih =>
 intro M
 induction M using Nat.strongRecOn with
 |_ M Xr =>
  intro E S gs a w sl t q hM hI h0 hL hP hS hSb Wm
  rcases hI.runs.cases with ⟨hst,hfin⟩|⟨hns,_⟩
  .exact⟨0,gs,a,w,sl,t,q,S,E,c.1,c.2,rfl,h0,hI,hst,hfin,hL,hP,hS,hSb,λ_ _ x=>x,Stood.refl _ _ _ _⟩
  have hrun:a.status=.running:=hI.gr.running
  have haw:∀ g∈gs,awake g:=by
   intro g hg
   obtain⟨i,hi,rfl⟩:=Array.mem_iff_getElem.1 hg
   rcases gE i with rfl|hpos
   .have:gs[0]=a:=by simpa [cR hi] using h0
    rw[this];exact awake_of (.inl hrun)
   .exact awake_of ((hL.old i _ hpos (cR hi)).status.elim .inl λx=>.inr (.inr x))
  obtain⟨i,g,d,sl',hi,hg,hst⟩:=crowd_pick (P:=fns.re P) (w:=w) (sl:=sl) haw ⟨0,a,h0,hrun⟩
  rcases gE i with rfl|hpos
  ·-- goroutine 0 goes as its ghost does
   obtain rfl:g=a:=by rw[h0] at hi;exact(cd hi).symm
   rcases (hI.at d).stepJ (main:=true) hz fQ hp (λ_=>rfl) with ⟨h1,h2⟩|⟨E1,g1,w1,g1',re',es',e1,e2,e3,e4,e5⟩
   .exact(hns h1).elim
   .have hrunT:=runT_crowd_go (P:=fns.re P) (sl:=sl') (i:=0) hi (show stepG (fns.re P) (0==0) g (w.at d)=_ from e1)
    have hsz:((gs.map (woken (fns.re P) g g1' re')).setIfInBounds 0 g1').size=gs.size:=by simp
    have hlt:0<gs.size:=(cj.1 h0).1
    have hS1:∀ a b,E1 a b->¬S b:=λa b x hb=>by
     rcases e4.fresh a b x with y|⟨_,y⟩
     .exact hS a b y hb
     .have:=hSb b hb
      have e:(w.at d).heap.size=w.heap.size:=rfl
      omega
    have hP1:Past (eP S) re'.heap.size (t++MemOp.ofEvents 0 g.frame.fn g.frame.place es') :=
     (hP.mono e4.rsize).own λe he=>QB (e5 e he) hS1 λa b x=>(e4.wr.lt x).2
    have aap:∀ b,S b->b<re'.heap.size:=λb hb=>cI (hSb b hb) e4.rsize
    have hL1:Leavers (fns.re P) (t++MemOp.ofEvents 0 g.frame.fn g.frame.place es') ((gs.map (woken (fns.re P) g g1' re')).setIfInBounds 0 g1') q :=
     ⟨λj x hj hx=>by
      have hne:0≠j:=by omega
      rw[az hne,c_] at hx
      obtain⟨y,hy,rfl⟩:=cq.1 hx
      have hq:=hL.old j y hj hy
      rw[woken_quitsD hq,Deaf_other t (by omega) _ (λop hop=>by obtain⟨e,_,rfl⟩:=cr hop;rfl)]
      exact hq,λj hj=>by
      rw[Deaf_other t (g':=0) (by simp at hj;omega) _ (λop hop=>by obtain⟨e,_,rfl⟩:=cr hop;rfl)]
      exact hL.above j (by simpa using hj)⟩
    have R6:Stood E Z S w re' E1 S:=⟨λb hb hz _=>e4.keep b hb hz,e4.rsize,λa b x=>(e4.fresh a b x).imp id λy=>y.2,λ_ x=>.inl x,e4.Bo,e4.os,e4.output⟩
    rcases e3 with e3|⟨e3,hw1,hr1⟩
    .obtain⟨N,gs',a',w',sl'',t',q',S',E',g2,Xt,f1,f3,f4,f5,f6,f7,f8,f9,f10,f11,f12⟩:=ih (g1,w1) (.single e2) (sumTo gs.size q) E1 S ((gs.map (woken (fns.re P) g g1' re')).setIfInBounds 0 g1') g1' re' sl' (t++MemOp.ofEvents 0 g.frame.fn g.frame.place es') q (by rw[hsz];exact al _) e3 (by simp[hlt]) hL1 hP1 hS1 aap (Wm.stood R6)
     exact⟨N+1,gs',a',w',sl'',t',q',S',E',g2,Xt,by simp only[runNT,hst,hrunT];exact f1,f3,f4,f5,f6,f7,f8,f9,f10,λa b x=>f11 a b (e4.up a b x),R6.trans f12⟩
    ·-- a function that is taken whole
     obtain⟨f,x,x',fr,fr',L,hj,_,⟨hxx,har⟩,rfl,rfl,⟨hF,ops,io,rest,k,ht⟩,hLL⟩:=e3
     have hB:Bx (fns.re P) S re'.heap.size (G (b9 (fns.re P) f x' .normal) (fr'::(L.map (·.2)++K))) re' _ _ q:=⟨by simp[hlt],hL1,hP1,λb hb=>mX hP1 hb⟩
     obtain⟨v,eX,tg,hr2,N,gs',w',sl'',t',q',S',E2,v',r1,hB',hv,hw2,dY,hS2,agn,ad6⟩:=hJ f hj Fin E1 w1 re' x x' fr fr' (L.map (·.1)++[aL]) (L.map (·.2)++K) S _ re'.drawn sl' _ q hxx har hF.gs hw1 ⟨_,rfl⟩ hr1 hB hS1 aap (Wm.stood R6)
     have hI2:Ak P fns Z true Fin [] K E2 (G (fr.finish v) (L.map (·.1)++[aL])) eX (G (fr'.finish v') (L.map (·.2)++K)) w':=⟨⟨_,_,L,rfl,rfl,(hF.up dY).finish ht hv,hLL.up dY⟩,hw2,hr2⟩
     obtain⟨N2,gs2,a2,w2,sl2,t2,q2,S2,E',g2,Xt,f1,f3,f4,f5,f6,f7,f8,f9,f10,f11,f12⟩:=ih (G (fr.finish v) (L.map (·.1)++[aL]),eX) (tg.tail e2) (sumTo gs'.size q') E2 S' gs' _ w' sl'' t' q' (al _) hI2 hB'.qb hB'.lv hB'.past hS2 agn (Wm.stood (R6.trans ad6))
     refine⟨(N+N2)+1,gs2,a2,w2,sl2,t2,q2,S2,E',g2,Xt,?_,f3,f4,f5,f6,f7,f8,f9,f10,λa b x=>f11 a b (dY a b (e4.up a b x)),(R6.trans ad6).trans f12⟩
     simp only[runNT,hst,hrunT]
     have r1':runNT (fns.re P) N (crowd ((gs.map (woken (fns.re P) g (G (b9 (fns.re P) f x' .normal) (fr'::(L.map (·.2)++K))) re')).setIfInBounds 0 (G (b9 (fns.re P) f x' .normal) (fr'::(L.map (·.2)++K)))) re' sl') (t++MemOp.ofEvents 0 g.frame.fn g.frame.place es')=(.next (crowd gs' w' sl''),t'):=r1
     rw[runNT_add N N2 _ _ r1']
     exact f1
  ·-- somebody slips
   have hq:=hL.old i g hpos hi
   have hi0:(i==0)=false:=by simp;omega
   have hlt:i<gs.size:=(cj.1 hi).1
   cases hqi:q i with
   |zero=>rw[hqi] at hq;rw[hq.1] at hg;cases hg
   |succ k =>
    rw[hqi] at hq
    rcases hq with ⟨hf,_⟩|⟨_,g',es,hm,hstp,hq'⟩
    .rw[hf] at hg;cases hg
    have hrunT:=runT_crowd_go (P:=fns.re P) (sl:=sl') (i:=i) hi (by rw[hi0];exact hstp (w.at d))
    have hsz:((gs.map (woken (fns.re P) g g' (w.at d))).setIfInBounds i g').size=gs.size:=by simp
    have hsum:sumTo gs.size (upd q i k)+(k+1)=sumTo gs.size q+k:=by
     have:=sumTo_upd q k id hlt
     simpa [hqi] using this
    obtain⟨N,gs',a',w',sl'',t',q',S',E',g2,Xt,f1,f3,f4,f5,f6,f7,f8,f9,f10,f11,f12⟩:=Xr (sumTo gs.size (upd q i k)) (by omega) E S ((gs.map (woken (fns.re P) g g' (w.at d))).setIfInBounds i g') a (w.at d) sl' (t++MemOp.ofEvents i g.frame.fn g.frame.place es) (upd q i k) (by rw[hsz];exact al _) (hI.at d)
     (by
      have hne:i≠0:=by omega
      rw[az hne,c_,h0]
      simp[woken_run hrun])
     ⟨λj x hj hx=>by
      by_cases hji:i=j
      .subst hji
       rw[Array.getElem?_setIfInBounds_self_of_lt (by simpa using hlt)] at hx
       obtain rfl:=cd hx
       rw[upd_same,Deaf_own]
       exact hq'
      .rw[az hji,c_] at hx
       obtain⟨y,hy,rfl⟩:=cq.1 hx
       have hqj:=hL.old j y hj hy
       rw[woken_quitsD hqj,upd_ne q k (Ne.symm hji),Deaf_other t hji _ (λop hop=>by obtain⟨e,_,rfl⟩:=cr hop;rfl)]
       exact hqj,λj hj=>by
      rw[Deaf_other t (g':=i) (by simp at hj;omega) _ (λop hop=>by obtain⟨e,_,rfl⟩:=cr hop;rfl)]
      exact hL.above j (by simpa using hj)⟩
     (hP.mute (by omega) hm) hS hSb ⟨Wm.nE,Wm.nS,Wm.pos,Wm.qb⟩
    exact⟨N+1,gs',a',w',sl'',t',q',S',E',g2,Xt,by simp only[runNT,hst,hrunT];exact f1,f3,f4,f5,f6,f7,f8,f9,f10,f11,⟨f12.keep,f12.size,f12.fresh,f12.news,f12.rest⟩⟩
end
end Go.Proofs.YtjlgehmebfkioaaGreatDoor
namespace Go.Proofs.YtjlgehmebfkioaaGreatDoor
open Go Go.Conc
variable {f:gw} {Q:ai->ae->Prop}
def Am(P:ar)(f:gw)(Q:ai->ae->Prop)(g:ag)(w:ae):Prop:=g.frame.fn=f/\zl P Q g w
theorem Am.on{P:ar}(g:ag)(w:ae)(t:Nat->Question->Nat)(d:Nat)(h:Am P f Q g w):Am P f Q g (eZ w t d):=⟨h.1,zl.on g w t d h.2⟩
section
variable {P:ar} {fns:Fx} {Z:Nat->Prop} {K:List aw}
theorem vJ{args:Array ai}{gh:ae}(hc:Cl P fns Z [aL] (G (b9 P f args .normal) [aL]) gh)(h:∀ t d,aE P f args (eZ gh t d) (λe w'=>∃ v,e=.returned v/\Q v w')) :
 Ends P fns Z true (Am P f Q) (G (b9 P f args .normal) [aL]) gh:=by
 refine⟨hc,λt d=>?_⟩
 obtain⟨e,w',fr,⟨v,rfl,hq⟩,⟨N,hN⟩,hfn,hm,hd,hk,fn,hf,hr⟩:=h t d [aL]
 exact⟨N,fr,w',hN,⟨rfl,by simp only[if_true];exact hm⟩,hfn,fn,v,w'.tape,w'.drawn,hf,hr,hq⟩
theorem results_tmp(P:ar){fn:Func}{r:Nat}(h:fn.results=#[.tmp r])(tmps:Array ai)(w:ae):(results fn tmps).run P w=.ok (tmps.getD r undef) w/\∀ es,(results fn tmps).events P w es=es:=by
 constructor
 .unfold results
  rw[h]
  simp
 .intro es
  unfold results
  rw[h]
  simp
def Like(P:ar)(fns:Fx)(Z:Nat->Prop)(E:Nat->Nat->Prop)(Q:ai->ae->Prop)(v':ai)(w':ae):Prop :=
 ∃ (E1:Nat->Nat->Prop) (v:ai) (gh:ae),Q v gh/\VR fns E1 v v'/\WR P fns E1 Z gh w'/\∀ a b,E a b->E1 a b
theorem Wn{fn:Func}{r:Nat}{E:Nat->Nat->Prop}{g a:ag}{gh w:ae}(hia:Du P f r=false)(hf:P.funcs[f]?=some fn)(hr:fn.results=#[.tmp r])(hi:(fns.re P).inits.idxOf? f=none)
 (h:Ak P fns Z true (Am P f Q) [] [] E g gh a w) (hs:dJ true [aL] g) (hfin:Am P f Q g gh) :
 ∃ v',(∀ w₁:ae,stepG (fns.re P) true a w₁=.ended (.done v') w₁ #[])/\Like P fns Z E Q v' w:=by
 obtain⟨fr,fr',L,rfl,rfl,hF,hL⟩:=h.gr
 have hL0:L=[]:=by
  have:=hs.1
  simp only[G] at this
  have h2:=congrArg List.length this
  simp at h2
  exact List.eq_nil_of_length_eq_zero (by simpa using h2)
 subst hL0
 have hk:Jl ([]:List (aw × aw)) []=[]:=rfl
 rw[hk] at hF
 have hm:fr.mode=.returning:=by
  have:=hs.2
  simpa [G] using this
 have hfn:fr.fn=f:=hfin.1
 obtain⟨fn2,v,t,d,aaq,hrun,hq⟩:=hfin.2
 simp only[G] at aaq hrun
 rw[hfn,hf] at aaq
 obtain rfl:=cd aaq
 rw[(results_tmp P hr _ _).1] at hrun
 have hv:fr.tmps.getD r undef=v:=by injection hrun
 have hf':(fns.re P).funcs[fr'.fn]?=some fn:=by rw[hF.fn];exact hF.same.trans (hfn▸hf)
 have hm':fr'.mode=.returning:=hF.mode.trans hm
 have hi':(fns.re P).inits.idxOf? fr'.fn=none:=by rw[hF.fn,hfn];exact hi
 refine⟨fr'.tmps.getD r undef,λw₁=>?_,E,v,eZ gh t d,hq,?_,h.wr.rQ t d,λ_ _ x=>x⟩
 .simp only[List.map_nil,List.nil_append]
  rw[l5 hm']
  unfold unwind
  simp only[hF.d',hm',hf',Sem.runT_eq,(results_tmp (fns.re P) hr fr'.tmps w₁).1,(results_tmp (fns.re P) hr fr'.tmps w₁).2,doReturn,hF.k',hi']
  rfl
 .rw[<-hv]
  exact hF.tmps.getD r (by rw[hfn];exact hia) je
theorem NP:Past (eP λ_=>False) 0 #[]:=⟨past_nil.clean,λi a h1 h2=>(past_nil.known i a h1 h2).imp id λx=>x.1.elim,past_nil.over,past_nil.hears,past_nil.seen⟩
structure Start(P:ar)(fns:Fx)(Z:Nat->Prop)(E:Nat->Nat->Prop)(args:Array ai)(w:ae):Prop where
 args:aW fns E args args
 wr:WR P fns E Z w w
 gs:∀ g,fns.gl g=true->E g g/\fns.pt g=true
 id:∀ a b,E a b->a=b
theorem LM{v0:Nat}{o0:Option Obj}{LP:Fx}{E0:Nat->Nat->Prop}(hz:zeros P fns)(hz0:zeros P LP)(fQ:0<P.depth)(hp:lu P fns)(hp0:g_ P LP)(hJ:∀ f,fns.jf f=true->JC P fns Z v0 o0 f)
 {f:gw} {fn:Func} {r:Nat} {gargs args:Array ai} {gh W:ae} {E:Nat->Nat->Prop} {Q:ai->ae->Prop}
 (hia:Du P f r=false) (hf:P.funcs[f]?=some fn) (hr:fn.results=#[.tmp r]) (hi:(fns.re P).inits.idxOf? f=none) (hfo:fns.ok f=true) (hfj:fns.jf f=false) (agp:LP.ok f=true)
 (hargs:aW fns E gargs args) (hwr:WR P fns E Z gh W) (hgs:∀ g,fns.gl g=true->E g g/\fns.pt g=true) (pI:Start P LP Z E0 gargs gh) (Wm:K0 v0 o0 E (λ_=>False) W)
 (h:∀ t d,aE P f gargs (eZ gh t d) (λe w'=>∃ v,e=.returned v/\Q v w')) :
 ∃ N last o w' t',runNT (fns.re P) (N+1) (solo (G (b9 (fns.re P) f args .normal) []) W) #[]=(.ended o w',t')/\runN (fns.re P) N (solo (G (b9 (fns.re P) f args .normal) []) W)=.next last/\step (fns.re P) last=.ended o w' /\
   Go.Conc.Good (fns.re P) (λv' w'=>Like P fns Z E Q v' w'/\W.heap.size<=w'.heap.size/\(∀ b,b<W.heap.size->(∀ a,E a b->Z a)->w'.heap[b]?=W.heap[b]?)/\w'.tape=W.tape/\w'.os=W.os/\w'.output=W.output) last o w' t':=by
 have hF0:=FR.enter hp0.1 (hp0.1.1 f agp) (hp0.2.2 f) pI.gs pI.args
 rw[hp0.2.1] at hF0
 have hcl:Cl P LP Z [aL] (G (b9 P f gargs .normal) [aL]) gh:=⟨E0,pI.id,⟨_,_,[],rfl,rfl,hF0,trivial⟩,pI.wr⟩
 have vH:=(vJ hcl h).runs hz0 fQ hp0 (λg w t d x=>Am.on g w t d x)
 have hF:=FR.enter hp (hp.1 f hfo) hfj hgs hargs
 have hI:Ak P fns Z true (Am P f Q) [] [] E (G (b9 P f gargs .normal) [aL]) gh (G (b9 (fns.re P) f args .normal) []) W:=⟨⟨_,_,[],rfl,rfl,hF,trivial⟩,hwr,vH⟩
 obtain⟨N,gs',a',w',sl',t',q',S',E',g1,eX,r1,at1,i1,st1,agq,lv1,p1,hS1,aap,dI,aar⟩:=D8 hz fQ hp hJ _ vH.acc.transGen 0 E (λ_=>False) #[G (b9 (fns.re P) f args .normal) []] _ W none #[] (λ_=>0) (by simp[Go.ConcN.sumTo]) hI rfl
  ⟨(λj x hj hx=>by
    have:(#[G (b9 (fns.re P) f args .normal) []]:Array ag)[j]?=none:=by simp;omega
    rw[this] at hx
    cases hx),λj _=>rfl⟩ (NP.mono (Nat.zero_le _)) (λ_ _ _ h=>h) (λ_ h=>h.elim) Wm
 obtain⟨v',hend,ad7⟩:=Wn hia hf hr hi i1 st1 agq
 have hrun':a'.status=.running:=i1.gr.running
 obtain⟨M,last,o,w2,t2,b1,b2,b3,b4⟩:=beside_ends (P:=fns.re P) (D:=λ_ _ _=>False) (Shun:=eP S') (B:=w'.heap.size) (Post:=λv' w'=>Like P fns Z E Q v' w'/\W.heap.size<=w'.heap.size/\(∀ b,b<W.heap.size->(∀ a,E a b->Z a)->w'.heap[b]?=W.heap[b]?)/\w'.tape=W.tape/\w'.os=W.os/\w'.output=W.output) (n:=0) (sl:=sl') (λ_ _ _ h=>h.elim) at1 lv1 p1
  (λw₁ hw=>⟨hrun',v',#[],hend w₁,(λe he=>by simp at he),by
   obtain⟨d,rfl⟩:=hw
   obtain⟨E1,v,gh,a1,a2,a3,a4⟩:=ad7
   exact⟨⟨E1,v,gh,a1,a2,⟨a3.jG,a3.jQ,a3.kN,a3.mP,a3.glob,a3.inj,a3.cells⟩,λa b x=>a4 a b (dI a b x)⟩,aar.size,λb hb hz=>aar.keep b hb hz (λh=>h),aar.rest⟩⟩)
 refine⟨N+M,last,o,w2,t2,?_,?_,b3,b4⟩
 .have e:N+M+1=N+(M+1):=by omega
  rw[e]
  have:=runNT_add N (M+1) (crowd #[G (b9 (fns.re P) f args .normal) []] W none) #[] r1
  exact this.trans b1
 .have h1:runN (fns.re P) N (solo (G (b9 (fns.re P) f args .normal) []) W)=.next (crowd gs' w' sl'):=by
   have:=runNT_fst (fns.re P) N (crowd #[G (b9 (fns.re P) f args .normal) []] W none) #[]
   rw[r1] at this
   exact this.symm
  rw[runN_add,h1]
  exact b2
end
section
variable {P:ar} {fns:Fx} {Z:Nat->Prop} {E E':Nat->Nat->Prop} {gh re jq re':ae}
theorem Out.lock(o:Out P fns E E' Z gh re jq re')(hE:∀ a b,E a b->a=b)(hh:gh.heap=re.heap)(hzl:∀ a,Z a->a<gh.heap.size):jq.heap=re'.heap/\∀ a b,E' a b->a=b:=by
 have hs0:gh.heap.size=re.heap.size:=by rw[hh]
 have hE':∀ a b,E' a b->a=b:=by
  intro a b x
  rcases o.fresh a b x with y|⟨y1,y2⟩
  .exact hE a b y
  .have hl:=o.wr.lt x
   have hn:=o.news (a-gh.heap.size) (by omega)
   have ea:gh.heap.size+(a-gh.heap.size)=a:=by omega
   have eb:re.heap.size+(a-gh.heap.size)=a:=by omega
   rw[ea,eb] at hn
   exact((o.wr.inj _ _ _ _ x hn).1 rfl).symm
 refine⟨?_,hE'⟩
 have hsz:jq.heap.size=re'.heap.size:=by have:=o.sizes;omega
 refine Gw hsz λi hi=>?_
 by_cases hx:∃ b,E' i b/\¬Z i
 .obtain⟨b,hb,hnz⟩:=hx
  obtain rfl:=hE' _ _ hb
  rcases o.wr.cells _ _ hb with ⟨c,c',el,fr,fr',k1,k2,k3,k4,_⟩|⟨x,x',l,k1,k2,k3⟩
  .rw[k1,k2,(k3.all hnz (fns.pl _ (o.wr.jQ.1 _ hnz))).eq hE',k4 hnz]
  .rw[k1,k2,k3.eq hE']
 .by_cases hlt:i<gh.heap.size
  .have hno:∀ b,E i b->Z i:=λb hb=>cE λhnz=>hx ⟨b,o.up _ _ hb,hnz⟩
   rw[o.KI i hlt hno,o.keep i (by omega) λa ha=>by obtain rfl:=hE _ _ ha;exact hno _ ha,hh]
  .have hn:=o.news (i-gh.heap.size) (by omega)
   have ea:gh.heap.size+(i-gh.heap.size)=i:=by omega
   rw[ea] at hn
   exact(hx ⟨_,hn,λhz=>hlt (hzl i hz)⟩).elim
end
section
variable {P:ar} {fns:Fx} {Z:Nat->Prop} {Fin:ag->ae->Prop}
theorem Runs.weak{Fin':ag->ae->Prop}{g:ag}{w:ae}(h:Runs P true Fin g w)(hf:∀ g w,Fin g w->Fin' g w):Runs P true Fin' g w:=λM h1 h2=>h M (λg w hs x=>h1 g w hs (hf g w x)) h2
theorem JE(hz:zeros P fns)(fQ:0<P.depth)(hp:g_ P fns){f:gw}{Q:ai->ae->Prop}{c:aw}{cs k:List aw}(hcs:cs=k++[aL]):∀ (x:ag × ae),Acc (Bf P true) x->∀ (E:Nat->Nat->Prop) (g':ag) (w:ae),
 Ak P fns Z true (Am P f Q) [] (c::cs) E x.1 x.2 g' w->(∀ a b,E a b->a=b)->x.2.heap=w.heap->Runs P true Fin g' w ->
 ∃ v eX,dt (Bf P true) (G (c.finish v) cs,eX) (g',w)/\Runs P true Fin (G (c.finish v) cs) eX/\∃ u,Q v u/\u.heap=eX.heap:=by
 intro x hacc
 induction hacc with
 |intro x _ ih =>
 intro E g' w hI hE hh hR
 have hcall:g'.callers≠[aL]:=by
  obtain⟨fr,fr',L,_,rfl,_,_⟩:=hI.gr
  intro h
  have:=congrArg List.length h
  simp[G,hcs] at this
  omega
 have hwo:eZ w w.tape w.drawn=w:=rfl
 obtain⟨g2,w2,es2,s2,r2,b2⟩:=D5 hR hcall w.tape w.drawn
 rw[hwo] at s2
 rcases hI.step (main:=true) hz fQ hp (λ_=>rfl) with ⟨hst,hfin⟩|⟨E',g1,w1,g1',re',es',e1,e2,e3,e4,_⟩
 .obtain⟨E1,v,v',eX,w1,es,hg1,hq,hv,hs,hout,_⟩:=K9 (main:=true) (Q:=Q) ⟨hI.gr,hI.wr,hI.runs.weak λ_ _ x=>x.2⟩ hst hfin.2
  rw[hp.2.1,s2] at hs
  obtain⟨rfl,rfl,_⟩:=GStep.go.inj hs
  obtain⟨l1,l2⟩:=hout.lock hE (hg1.trans hh) (by rw[hg1];exact hI.wr.jG)
  obtain rfl:=hv.eq l2
  exact⟨v',w2,.single b2,r2,eX,hq,l1⟩
 .rw[s2] at e1
  obtain⟨rfl,rfl,_⟩:=GStep.go.inj e1
  obtain⟨l1,l2⟩:=e4.lock hE hh hI.wr.jG
  obtain⟨v,eX,t1,t2,t3⟩:=ih (g1,w1) e2 E' g2 w2 e3 l2 l1 r2
  exact⟨v,eX,t1.tail b2,t2,t3⟩
theorem pq(hz:zeros P fns)(fQ:0<P.depth)(hp:g_ P fns){f:gw}{Q:ai->ae->Prop}{c:aw}{cs k:List aw}(hcs:cs=k++[aL])(hfo:fns.ok f=true){a:Array ai}{gh:ae}{E:Nat->Nat->Prop}(hst:Start P fns Z E a gh)
 (h:∀ t d,aE P f a (eZ gh t d) (λe w'=>∃ v,e=.returned v/\Q v w')) (hR:Runs P true Fin (G (b9 P f a .normal) (c::cs)) gh) :
 ∃ v eX,dt (Bf P true) (G (c.finish v) cs,eX) (G (b9 P f a .normal) (c::cs),gh)/\Runs P true Fin (G (c.finish v) cs) eX/\∃ u,Q v u/\u.heap=eX.heap:=by
 have hF:=FR.enter hp.1 (hp.1.1 f hfo) (hp.2.2 f) hst.gs hst.args
 rw[hp.2.1] at hF
 have hcl:Cl P fns Z [aL] (G (b9 P f a .normal) [aL]) gh:=⟨E,hst.id,⟨_,_,[],rfl,rfl,hF,trivial⟩,hst.wr⟩
 have vH:=(vJ hcl h).runs hz fQ hp (λg w t d x=>Am.on g w t d x)
 exact JE hz fQ hp hcs _ vH.acc E _ gh ⟨⟨_,_,[],rfl,rfl,hF,trivial⟩,hst.wr,vH⟩ hst.id rfl hR
end
end Go.Proofs.YtjlgehmebfkioaaGreatDoor
namespace Go.Proofs.YtjlgehmebfkioaaGreatDoor
open Go Go.Conc
open ah (Al.lI)
structure Wo(w:ae)(ha:Option cy)(hl hc:Nat):Prop where
 cap:hl<=hc
 most:(hl:Int)<=9223372036854775807
 byte:∀ j,j<hl->∃ bd z,ha=some bd/\w.cell? (bd.add j)=some (.int .u8 z)/\0<=z/\z<=255
def Met(w:ae)(pa:Option cy)(l:Nat):Prop:=∀ i,i<l->∃ ad ha hl hc,pa=some ad/\w.cell? (ad.add i)=some (.slice ha hl hc)/\Wo w ha hl hc
section
variable {Fin:ag->ae->Prop} {b:aw} {cs:List aw} {fns:Fx} {Z:Nat->Prop} {E:Nat->Nat->Prop} {gh re:ae}
structure Sl(a:Act)(pv nv:ai):Prop where
 size:a.tmps.size=48
 s0:a.eval (.tmp 0)=pv
 s1:a.eval (.tmp 1)=nv
theorem D9:(PB aa false).underlying 35=some (.slice 60):=by kernel_rfl
theorem D_:(PB aa false).underlying 60=some (.slice 5):=by kernel_rfl
theorem Wp(w:ae):(Go.sizeOf 60).run (PB aa false) w=.ok 1 w:=by kernel_rfl
theorem ad8(w:ae):(Go.sizeOf 5).run (PB aa false) w=.ok 1 w:=by kernel_rfl
theorem Wq(w:ae):(isAgg 60).run (PB aa false) w=.ok false w:=by kernel_rfl
theorem ad9(w:ae):(isAgg 5).run (PB aa false) w=.ok false w:=by kernel_rfl
abbrev R7:Code:=match Al.lI with
 | .seq _ (.seq _ (.seq _ (.seq _ (.seq _ (.seq (.block _ (.loop (.seq _ (.seq _ (.seq (.block _ (.seq _ (.seq _ (.seq _ (.seq _ (.block _ (.loop x))))))) _))))) _)))))=>x
 |x=>x
abbrev Lh:Code:=match Al.lI with
 | .seq _ (.seq _ (.seq _ (.seq _ (.seq _ (.seq (.block _ (.loop x)) _)))))=>x
 |x=>x
theorem R8{ha:Option cy}{ha':Option cy}{hl hc i l:Nat}{k:List Item}{pv nv:ai}(hw:WR (PB aa false) fns E Z gh re)(GN:hl=0\/OS fns E ha ha')(hn:ha=none->hl=0)(hm:(hl:Int)<=9223372036854775807):∀ (r j:Nat),j+r=hl->∀ (a:Act),Sl a pv nv->a.eval (.tmp 8)=.int .i64 (l:Int)->a.eval (.tmp 11)=.int .i64 (i:Int)->a.eval (.tmp 14)=.slice ha hl hc->a.eval (.tmp 16)=.int .i64 (hl:Int)->a.eval (.tmp 17)=.int .i64 (j:Int) ->
 RT (PB aa false) Fin b cs a (.code R7::.inLoop R7::.inBlock 2::k) gh ->
 (∀ j',j<=j'->j'<hl->∃ bd z,ha=some bd/\gh.cell? (bd.add j')=some (.int .u8 z)/\0<=z/\z<=255)/\∃ a',Sl a' pv nv/\a'.eval (.tmp 8)=.int .i64 (l:Int)/\a'.eval (.tmp 11)=.int .i64 (i:Int)/\RT (PB aa false) Fin b cs a' k gh
 |0,j,e,a,hs,h8,h11,h14,h16,h17,h=>by
  obtain rfl:j=hl:=by omega
  refine⟨λj' h1 h2=>by omega,?_⟩
  obtain⟨n,hn1,h1⟩:=h.seq.region.lss (d:=18) rfl h16
  rw[h17] at hn1
  obtain rfl:(j:Int)=n:=by injection hn1
  have hd:decide ((j:Int)<(j:Int))=false:=by simp
  rw[hd] at h1
  have sz:=hs.size
  have h2:=h1.over.seq.cond (t:=false) (aH 18 _ (by omega))
  have h3:=h2.exit (k':=k) rfl
  exact⟨_,⟨by rw[aI];exact sz,by rw[aA _ (by decide)];exact hs.s0,by rw[aA _ (by decide)];exact hs.s1⟩,by rw[aA _ (by decide)];exact h8,by rw[aA _ (by decide)];exact h11,h3⟩
 |r+1,j,e,a,hs,h8,h11,h14,h16,h17,h=>by
  have sz:=hs.size
  obtain⟨n,hn1,h1⟩:=h.seq.region.lss (d:=18) rfl h16
  rw[h17] at hn1
  obtain rfl:(j:Int)=n:=by injection hn1
  have hd:decide ((j:Int)<(hl:Int))=true:=by simp;omega
  rw[hd] at h1
  have h2:=h1.over.seq.cond (t:=true) (aH 18 _ (by omega))
  have h3:=h2.skip.seq.block.seq.region
  obtain⟨ad,rfl⟩:∃ ad,ha=some ad:=by
   cases ha with
   |none=>have:=hn rfl;omega
   |some ad=>exact⟨ad,rfl⟩
  obtain⟨zX,rfl,Ej⟩:=dV.1 (GN.resolve_left (by omega))
  have h4:=h3.idx (d:=19) (n:=j) D_ ad8 rfl (by rw[aA _ (by decide)];exact h14) (by rw[aA _ (by decide)];exact h17) (by omega)
  obtain⟨v,hv,h5⟩:=h4.load (d:=20) ad9 hw (Ej.add j) rfl (aH 19 _ (by rw[aI];omega))
  obtain⟨z,hz,h6⟩:=h5.gtr (d:=44) (ik:=.u8) (m:=255) rfl rfl
  rw[aH 20 _ (by rw[aI,aI];omega)] at hz
  subst hz
  obtain⟨z',hz,h7⟩:=h6.lss (d:=45) (ik:=.u8) (m:=0) rfl rfl
  rw[aA _ (by decide),aH 20 _ (by rw[aI,aI];omega)] at hz
  obtain rfl:z=z':=by injection hz
  have h8':=h7.over.seq
  have agr:∀ v v',((((((a.put (some 18) (.bool true)).put (some 19) v).put (some 20) (.int .u8 z)).put (some 44) (.bool (decide (z>255)))).put (some 45) v')).eval (.tmp 44)=.bool (decide (z>255)):=λv v'=>by
   rw[aA _ (by decide),aH 44 _ (by simp only[aI];omega)]
  have h9:=h8'.cond (agr _ _)
  have c1:decide (z>255)=false:=by
   by_cases hc1:z>255
   .rw[decide_eq_true hc1] at h9
    exact(h9.stuck (ik:=.u8) (n:=z) (by simp only[aA _ (show (20:Nat)≠45 by decide),aA _ (show (20:Nat)≠44 by decide)];exact aH 20 _ (by simp only[aI];omega))).elim
   .simpa using hc1
  rw[c1] at h9
  have h10:=h9.skip.cond (aH 45 _ (by simp only[aI];omega))
  have c2:decide (z<0)=false:=by
   by_cases hc2:z<0
   .rw[decide_eq_true hc2] at h10
    exact(h10.stuck (ik:=.u8) (n:=z) (by simp only[aA _ (show (20:Nat)≠45 by decide),aA _ (show (20:Nat)≠44 by decide)];exact aH 20 _ (by simp only[aI];omega))).elim
   .simpa using hc2
  rw[c2] at h10
  have hz0:0<=z/\z<=255:=by
   have a1:=of_decide_eq_false c1
   have a2:=of_decide_eq_false c2
   omega
  have aat:=h10.skip.inBlock.region
  have q17:∀ v1 v2 v3 v4 v5,((((((a.put (some 18) v1).put (some 19) v2).put (some 20) v3).put (some 44) v4).put (some 45) v5)).eval (.tmp 17)=.int .i64 (j:Int):=λv1 v2 v3 v4 v5=>by simp only[aA _ (show (17:Nat)≠45 by decide),aA _ (show (17:Nat)≠44 by decide),aA _ (show (17:Nat)≠20 by decide),aA _ (show (17:Nat)≠19 by decide),aA _ (show (17:Nat)≠18 by decide)];exact h17
  have h12:=aat.add (d:=46) (m:=1) rfl (q17 _ _ _ _ _) rfl
  have hwrap:IntKind.i64.wrap ((j:Int)+1)=((j+1:Nat):Int):=by rw[IntKind.wrap_i64];omega
  rw[hwrap] at h12
  have h13:=(h12.move (d:=17) rfl).over.inLoop
  rw[aH 46 _ (by simp only[aI];omega)] at h13
  have pass:∀ {x:Nat} {v1 v2 v3 v4 v5 v6 v7:ai},x≠17->x≠46->x≠45->x≠44->x≠20->x≠19->x≠18->((((((((a.put (some 18) v1).put (some 19) v2).put (some 20) v3).put (some 44) v4).put (some 45) v5).put (some 46) v6).put (some 17) v7)).eval (.tmp x)=a.eval (.tmp x):=λn1 n2 n3 n4 n5 n6 n7=>by
   rw[aA _ n1,aA _ n2,aA _ n3,aA _ n4,aA _ n5,aA _ n6,aA _ n7]
  obtain⟨k1,k2⟩:=R8 hw (.inr (dV.2 ⟨zX,rfl,Ej⟩)) hn hm r (j+1) (by omega) _ ⟨by simp only[aI];exact sz,(pass (by decide) (by decide) (by decide) (by decide) (by decide) (by decide) (by decide)).trans hs.s0,(pass (by decide) (by decide) (by decide) (by decide) (by decide) (by decide) (by decide)).trans hs.s1⟩
   ((pass (by decide) (by decide) (by decide) (by decide) (by decide) (by decide) (by decide)).trans h8) ((pass (by decide) (by decide) (by decide) (by decide) (by decide) (by decide) (by decide)).trans h11) ((pass (by decide) (by decide) (by decide) (by decide) (by decide) (by decide) (by decide)).trans h14) ((pass (by decide) (by decide) (by decide) (by decide) (by decide) (by decide) (by decide)).trans h16) (aH 17 _ (by simp only[aI];omega)) h13
  refine⟨λj' g1 g2=>?_,k2⟩
  by_cases hj:j'=j
  .subst hj
   exact⟨ad,z,rfl,hv,hz0⟩
  .exact k1 j' (by omega) g2
end
section
variable {Fin:ag->ae->Prop} {b:aw} {cs:List aw} {fns:Fx} {Z:Nat->Prop} {E:Nat->Nat->Prop} {gh re:ae}
theorem Li{pa pa':Option cy}{l c:Nat}{k:List Item}{nv:ai}(hw:WR (PB aa false) fns E Z gh re)(GN:l=0\/OS fns E pa pa')(hn:pa=none->l=0)(hm:l<=4096):∀ (r i:Nat),i+r=l->∀ (a:Act),Sl a (.slice pa l c) nv->a.eval (.tmp 8)=.int .i64 (l:Int)->a.eval (.tmp 11)=.int .i64 (i:Int) ->
 RT (PB aa false) Fin b cs a (.code Lh::.inLoop Lh::.inBlock 0::k) gh ->
 ∀ i',i<=i'->i'<l->∃ ad ha hl hc,pa=some ad/\gh.cell? (ad.add i')=some (.slice ha hl hc)/\Wo gh ha hl hc
 |0,i,e,a,hs,h8,h11,h=>λi' h1 h2=>by omega
 |r+1,i,e,a,hs,h8,h11,h=>by
  have sz:=hs.size
  obtain⟨n,hn1,h1⟩:=h.seq.region.lss (d:=12) rfl h8
  rw[h11] at hn1
  obtain rfl:(i:Int)=n:=by injection hn1
  have hd:decide ((i:Int)<(l:Int))=true:=by simp;omega
  rw[hd] at h1
  have h2:=h1.over.seq.cond (t:=true) (aH 12 _ (by omega))
  have h3:=h2.skip.seq.block.seq.region
  obtain⟨ad,rfl⟩:∃ ad,pa=some ad:=by
   cases pa with
   |none=>have:=hn rfl;omega
   |some ad=>exact⟨ad,rfl⟩
  obtain⟨zX,rfl,Ej⟩:=dV.1 (GN.resolve_left (by omega))
  have h4:=h3.idx (d:=13) (n:=i) D9 Wp rfl (by rw[aA _ (by decide)];exact hs.s0) (by rw[aA _ (by decide)];exact h11) (by omega)
  obtain⟨v,hv,h5⟩:=h4.load (d:=14) Wq hw (Ej.add i) rfl (aH 13 _ (by rw[aI];omega))
  obtain⟨ha,hl,hc,hve,h6⟩:=h5.len (d:=16) D_ rfl
  rw[aH 14 _ (by simp only[aI];omega)] at hve
  subst hve
  obtain⟨v',_,hvr⟩:=hw.cell (Ej.add i) hv
  obtain⟨ha',rfl,ags⟩:=aJ.1 hvr
  have h7:=h6.XB (d:=15) (pa:=ha) (l:=hl) (c:=hc) D_ rfl (by rw[aA _ (by decide)];exact aH 14 _ (by simp only[aI];omega))
  obtain⟨n1,e1,h8'⟩:=h7.gtr (d:=21) (ik:=.i64) (m:=0) rfl rfl
  rw[aA _ (by decide),aH 16 _ (by simp only[aI];omega)] at e1
  obtain rfl:(hl:Int)=n1:=by injection e1
  have h9:=h8'.cap (d:=22) (pa:=ha) (l:=hl) (c:=hc) D_ rfl (by rw[aA _ (by decide),aA _ (by decide),aA _ (by decide)];exact aH 14 _ (by simp only[aI];omega))
  obtain⟨n2,e2,h10⟩:=h9.gtr (d:=23) (ik:=.i64) (m:=(hc:Int)) rfl (aH 22 _ (by simp only[aI];omega))
  rw[aA _ (by decide),aA _ (by decide),aA _ (by decide),aH 16 _ (by simp only[aI];omega)] at e2
  obtain rfl:(hl:Int)=n2:=by injection e2
  obtain⟨n3,e3,aat⟩:=h10.gtr (d:=24) (ik:=.i64) (m:=9223372036854775807) rfl rfl
  rw[aA _ (by decide),aA _ (by decide),aA _ (by decide),aA _ (by decide),aH 16 _ (by simp only[aI];omega)] at e3
  obtain rfl:(hl:Int)=n3:=by injection e3
  have h12:=(aat.move (d:=17) rfl).over.seq
  have q16:∀ {v12 v13 v14 v15 v21 v22 v23 v24 v17:ai},(((((((((((a.put (some 12) v12).put (some 13) v13).put (some 14) v14).put (some 16) (.int .i64 (hl:Int))).put (some 15) v15).put (some 21) v21).put (some 22) v22).put (some 23) v23).put (some 24) v24).put (some 17) v17)).eval (.tmp 16)=.int .i64 (hl:Int):=λ{v12 v13 v14 v15 v21 v22 v23 v24 v17}=>by
   rw[aA _ (by decide),aA _ (by decide),aA _ (by decide),aA _ (by decide),aA _ (by decide),aA _ (by decide)]
   exact aH 16 _ (by simp only[aI];omega)
  -- nil with bytes
  obtain⟨hnil0,h15⟩:=h12.R5 (t:=ha.isNone) (s:=decide ((hl:Int)>0)) (by
   rw[aA _ (by decide),aA _ (by decide),aA _ (by decide),aA _ (by decide),aA _ (by decide)]
   exact aH 15 _ (by simp only[aI];omega)) (by
   rw[aA _ (by decide),aA _ (by decide),aA _ (by decide),aA _ (by decide)]
   exact aH 21 _ (by simp only[aI];omega)) q16
  have hnil:ha=none->hl=0:=λe=>by
   have:=of_decide_eq_false (hnil0 (by rw[e];rfl))
   omega
  obtain⟨hcap0,h16⟩:=h15.seq.D6 (t:=decide ((hl:Int)>(hc:Int))) (by
   rw[aA _ (by decide),aA _ (by decide)]
   exact aH 23 _ (by simp only[aI];omega)) q16
  have hcap:=of_decide_eq_false hcap0
  obtain⟨aau,h17⟩:=h16.seq.D6 (t:=decide ((hl:Int)>9223372036854775807)) (by
   rw[aA _ (by decide)]
   exact aH 24 _ (by simp only[aI];omega)) q16
  have ahz:=of_decide_eq_false aau
  have h18:=h17.block.loop
  have pass:∀ {x:Nat} {v12 v13 v14 v16 v15 v21 v22 v23 v24 v17:ai},x≠17->x≠24->x≠23->x≠22->x≠21->x≠15->x≠16->x≠14->x≠13->x≠12->(((((((((((a.put (some 12) v12).put (some 13) v13).put (some 14) v14).put (some 16) v16).put (some 15) v15).put (some 21) v21).put (some 22) v22).put (some 23) v23).put (some 24) v24).put (some 17) v17)).eval (.tmp x)=a.eval (.tmp x):=λn1 n2 n3 n4 n5 n6 n7 n8 n9 n10=>by
   rw[aA _ n1,aA _ n2,aA _ n3,aA _ n4,aA _ n5,aA _ n6,aA _ n7,aA _ n8,aA _ n9,aA _ n10]
  obtain⟨k1,a',hs',g8,g11,h19⟩:=R8 (l:=l) (i:=i) hw (ags.elim .inr λx=>.inl x.1) hnil (by omega) hl 0 (by omega) _ ⟨by simp only[aI];exact sz,(pass (by decide) (by decide) (by decide) (by decide) (by decide) (by decide) (by decide) (by decide) (by decide) (by decide)).trans hs.s0,(pass (by decide) (by decide) (by decide) (by decide) (by decide) (by decide) (by decide) (by decide) (by decide) (by decide)).trans hs.s1⟩
   ((pass (by decide) (by decide) (by decide) (by decide) (by decide) (by decide) (by decide) (by decide) (by decide) (by decide)).trans h8) ((pass (by decide) (by decide) (by decide) (by decide) (by decide) (by decide) (by decide) (by decide) (by decide) (by decide)).trans h11)
   (by
    rw[aA _ (show (14:Nat)≠17 by decide),aA _ (show (14:Nat)≠24 by decide),aA _ (show (14:Nat)≠23 by decide),aA _ (show (14:Nat)≠22 by decide),aA _ (show (14:Nat)≠21 by decide),aA _ (show (14:Nat)≠15 by decide),aA _ (show (14:Nat)≠16 by decide),aH 14 _ (by simp only[aI];omega)]) q16 (aH 17 _ (by simp only[aI];omega)) h18
  have h20:=h19.inBlock.region
  have h21:=h20.add (d:=47) (m:=1) rfl g11 rfl
  have hwrap:IntKind.i64.wrap ((i:Int)+1)=((i+1:Nat):Int):=by rw[IntKind.wrap_i64];omega
  rw[hwrap] at h21
  have h22:=(h21.move (d:=11) rfl).over.inLoop
  have sz':=hs'.size
  rw[aH 47 _ (by omega)] at h22
  have ih:=Li (nv:=nv) (c:=c) hw (.inr (dV.2 ⟨zX,rfl,Ej⟩)) hn hm r (i+1) (by omega) _ ⟨by simp only[aI];exact sz',by rw[aA _ (by decide),aA _ (by decide)];exact hs'.s0,by rw[aA _ (by decide),aA _ (by decide)];exact hs'.s1⟩ (by rw[aA _ (by decide),aA _ (by decide)];exact g8) (aH 11 _ (by rw[aI];omega)) h22
  intro i' g1 g2
  by_cases hi:i'=i
  .subst hi
   exact⟨ad,ha,hl,hc,rfl,hv,⟨by omega,by omega,λj hj=>k1 j (by omega) hj⟩⟩
  .exact ih i' (by omega) g2
theorem R9{pv pv' nv:ai}{a:Act}{k:List Item}(hw:WR (PB aa false) fns E Z gh re)(hv:VR fns E pv pv')(hs:Sl a pv nv)(h:RT (PB aa false) Fin b cs a (.code Al.lI::k) gh) :
 ∃ n pa l c,nv=.int .i64 n/\pv=.slice pa l c/\((n<1\/n>8)\/(¬n<1/\¬n>8/\(4096<l\/(l<=4096/\Met gh pa l)))):=by
 have sz:=hs.size
 have h1:=(h.seq.region.assign (d:=2) rfl).assign (d:=3) rfl
 obtain⟨pa,l,c,hp,h1'⟩:=h1.len (d:=8) D9 rfl
 rw[aA _ (by decide),aA _ (by decide),hs.s0] at hp
 obtain⟨n,hn,h2⟩:=h1'.over.seq.seq.region.lss (d:=4) (ik:=.i64) (m:=1) rfl rfl
 rw[aA _ (by decide),aA _ (by decide),aA _ (by decide),hs.s1] at hn
 refine⟨n,pa,l,c,hn,hp,?_⟩
 by_cases hlo:n<1
 .exact .inl (.inl hlo)
 rw[decide_eq_false hlo] at h2
 have h3:=(h2.over.cond (t:=false) (aH 4 _ (by simp only[aI];omega))).skip.seq.seq.region
 obtain⟨n',hn',h4⟩:=h3.gtr (d:=5) (ik:=.i64) (m:=8) rfl rfl
 rw[aA _ (by decide),aA _ (by decide),aA _ (by decide),aA _ (by decide),hs.s1,hn] at hn'
 obtain rfl:n=n':=by injection hn'
 by_cases hhi:n>8
 .exact .inl (.inr hhi)
 refine .inr ⟨hlo,hhi,?_⟩
 rw[decide_eq_false hhi] at h4
 have h5:=(h4.over.cond (t:=false) (aH 5 _ (by simp only[aI];omega))).skip.seq.seq.region
 obtain⟨m,hm,h7⟩:=h5.gtr (d:=9) (ik:=.i64) (m:=4096) rfl rfl
 rw[aA _ (by decide),aA _ (by decide),aH 8 _ (by simp only[aI];omega)] at hm
 obtain rfl:(l:Int)=m:=by injection hm
 by_cases hbig:(l:Int)>4096
 .exact .inl (by omega)
 rw[decide_eq_false hbig] at h7
 refine .inr ⟨by omega,?_⟩
 have h8:=(h7.over.cond (t:=false) (aH 9 _ (by simp only[aI];omega))).skip.seq.seq.region
 have h9:=h8.XB (d:=7) (pa:=pa) (l:=l) (c:=c) D9 rfl (by rw[aA _ (by decide),aA _ (by decide),aA _ (by decide),aA _ (by decide),aA _ (by decide),aA _ (by decide),hs.s0,hp])
 obtain⟨m,hm,h10⟩:=h9.gtr (d:=10) (ik:=.i64) (m:=0) rfl rfl
 rw[aA _ (by decide),aA _ (by decide),aA _ (by decide),aA _ (by decide),aH 8 _ (by simp only[aI];omega)] at hm
 obtain rfl:(l:Int)=m:=by injection hm
 have h11:=(h10.move (d:=11) rfl).over
 have q8:∀ {v2 v3 v4 v5 v9 v7 v10 v11:ai},(((((((((a.put (some 2) v2).put (some 3) v3).put (some 8) (.int .i64 (l:Int))).put (some 4) v4).put (some 5) v5).put (some 9) v9).put (some 7) v7).put (some 10) v10).put (some 11) v11).eval (.tmp 8)=.int .i64 (l:Int):=λ{v2 v3 v4 v5 v9 v7 v10 v11}=>by
  rw[aA _ (by decide),aA _ (by decide),aA _ (by decide),aA _ (by decide),aA _ (by decide),aA _ (by decide)]
  exact aH 8 _ (by simp only[aI];omega)
 obtain⟨hnil0,h13⟩:=h11.R5 (t:=pa.isNone) (s:=decide ((l:Int)>0)) (by
  rw[aA _ (by decide),aA _ (by decide)]
  exact aH 7 _ (by simp only[aI];omega)) (by
  rw[aA _ (by decide)]
  exact aH 10 _ (by simp only[aI];omega)) q8
 have hnil:pa=none->l=0:=λe=>by
  have:=of_decide_eq_false (hnil0 (by rw[e];rfl))
  omega
 have h14:=h13.seq.block.loop
 rw[hp] at hv
 obtain⟨pa',_,GN⟩:=aJ.1 hv
 have pass:∀ {x:Nat} {v2 v3 v8 v4 v5 v9 v7 v10 v11:ai},x≠11->x≠10->x≠7->x≠9->x≠5->x≠4->x≠8->x≠3->x≠2->(((((((((a.put (some 2) v2).put (some 3) v3).put (some 8) v8).put (some 4) v4).put (some 5) v5).put (some 9) v9).put (some 7) v7).put (some 10) v10).put (some 11) v11).eval (.tmp x)=a.eval (.tmp x):=λn1 n2 n3 n4 n5 n6 n7 n8 n9=>by
  rw[aA _ n1,aA _ n2,aA _ n3,aA _ n4,aA _ n5,aA _ n6,aA _ n7,aA _ n8,aA _ n9]
 have:=Li (nv:=nv) (c:=c) hw (GN.elim .inr λx=>.inl x.1) hnil (by omega) l 0 (by omega) _ ⟨by simp only[aI];exact sz,((pass (by decide) (by decide) (by decide) (by decide) (by decide) (by decide) (by decide) (by decide) (by decide)).trans hs.s0).trans hp,(pass (by decide) (by decide) (by decide) (by decide) (by decide) (by decide) (by decide) (by decide) (by decide)).trans hs.s1⟩ q8 (aH 11 _ (by simp only[aI];omega)) h14
 exact λi hi=>this i (by omega) hi
end
end Go.Proofs.YtjlgehmebfkioaaGreatDoor
namespace Go.Proofs.YtjlgehmebfkioaaGreatDoor
open Go Go.Conc au
variable {gh w:ae}
def Fx.own(fns:Fx)(P:ar):Fx:={ fns with rf:=P.funcs,jf:=λ_=>false }
section
variable {P:ar} {fns:Fx} {Z:Nat->Prop} {E:Nat->Nat->Prop}
theorem VR.agt:∀ (n:Nat) (v v':ai),eM v<n->VR fns E v v'->VR (fns.own P) E v v':=by
 intro n
 induction n with
 |zero=>intro v v' h;omega
 |succ n ih =>
  intro v v' hn hv
  have arr:∀ (x x':Array ai),(∀ i (h:i<x.size),eM x[i]<n)->(x.size=x'.size/\∀ i (h:i<x.size) (h':i<x'.size),VR fns E x[i] x'[i])->(x.size=x'.size/\∀ i (h:i<x.size) (h':i<x'.size),VR (fns.own P) E x[i] x'[i]):=λx x' hs h=>⟨h.1,λi a b=>ih _ _ (hs i a) (h.2 i a b)⟩
  cases v with
  |pointer a=>obtain⟨b,rfl,h⟩:=aM.1 hv;exact aM.2 ⟨b,rfl,by cases a<;>cases b<;>exact h⟩
  |slice a l c=>obtain⟨b,rfl,h⟩:=aJ.1 hv;exact aJ.2 ⟨b,rfl,h.imp (λh=>by cases a<;>cases b<;>exact h) id⟩
  |map r=>exact fG.2 (fG.1 hv)
  |chan r=>exact dL.2 (dL.1 hv)
  |func f x y =>
   obtain⟨x',y',rfl,h2,h3,h4⟩:=dD.1 hv
   refine dD.2 ⟨_,_,rfl,?_,arr _ _ (λi h=>by have:=cW x i h;simp at hn;omega) h3,arr _ _ (λi h=>by have:=cW y i h;simp at hn;omega) h4⟩
   cases f with
   |func f =>
    simp only[oQ,Bool.and_eq_true] at h2
    show (fns.ok f&&!false)=true
    rw[h2.1]
    rfl
   |_=>cases h2
  |iface t u=>obtain⟨u',rfl,h⟩:=bK.1 hv;exact bK.2 ⟨_,rfl,ih _ _ (by simp at hn;omega) h⟩
  |agg x=>obtain⟨x',rfl,h⟩:=bY.1 hv;exact bY.2 ⟨_,rfl,arr _ _ (λi h=>by have:=cW x i h;simp at hn;omega) h⟩
  |tuple x=>obtain⟨x',rfl,h⟩:=bL.1 hv;exact bL.2 ⟨_,rfl,arr _ _ (λi h=>by have:=cW x i h;simp at hn;omega) h⟩
  |float=>exact(cB hv).elim
  |complex=>exact(bQ hv).elim
  |_=>rw[VR] at hv ⊢;exact hv
theorem VR.own{v v':ai}(h:VR fns E v v'):VR (fns.own P) E v v':=VR.agt (eM v+1) v v' (by omega) h
theorem aW.own{x x':Array ai}(h:aW fns E x x'):aW (fns.own P) E x x':=⟨h.1,λi a b=>(h.2 i a b).own⟩
theorem WR.own{re:ae}(h:WR P fns E Z gh re):WR P (fns.own P) E Z gh re:=by
 refine⟨h.jG,h.jQ,h.kN,h.mP,h.glob,h.inj,λa b x=>?_⟩
 rcases h.cells a b x with ⟨c,c',el,fr,fr',k1,k2,k3,k4⟩|h
 .exact .inl ⟨c,c',el,fr,fr',k1,k2,⟨k3.le,k3.eq,λi g g' l=>(k3.at_ i g g' l).own⟩,k4⟩
 .exact .inr h
theorem WR.ext{re jq re':ae}(h:WR P fns E Z gh re)(h1:∀ a b,E a b->jq.heap[a]?=gh.heap[a]?)(h2:∀ a b,E a b->re'.heap[b]?=re.heap[b]?)(h3:gh.heap.size<=jq.heap.size)(h4:re.heap.size<=re'.heap.size):WR P fns E Z jq re' :=
 ⟨λa x=>cI (h.jG a x) h3,h.jQ,cI h.kN h3,cI h.mP h4,h.glob,h.inj,λa b x=>by rw[h1 a b x,h2 a b x];exact h.cells a b x⟩
theorem WR.row{re:ae}{A B:Nat}{c:Array ai}{el:TypeId}(h:WR P fns E Z gh re)(nZ:¬Z A)(hA:gh.heap[A]?=some (.cells c el (0,0)))(hB:re.heap[B]?=some (.cells c el (0,0)))(nA:∀ a b,E a b->a≠A)(nB:∀ a b,E a b->b≠B)(gA:P.globals.size<A)(gB:P.globals.size<B)(hc:c.all scalar=true):WR P fns (λa b=>E a b\/(a=A/\b=B)) Z gh re:=by
 refine⟨h.jG,h.jQ,h.kN,h.mP,λa b x=>?_,λa b a' b' x y=>?_,λa b x=>?_⟩
 .rcases x with x|⟨rfl,rfl⟩
  .exact h.glob a b x
  .intro z;omega
 .rcases x with x|⟨rfl,rfl⟩<;>rcases y with y|⟨rfl,rfl⟩
  .exact h.inj a b a' b' x y
  .exact⟨λe=>(nA a b x e).elim,λe=>(nB a b x e).elim⟩
  .exact⟨λe=>(nA a' b' y e.symm).elim,λe=>(nB a' b' y e.symm).elim⟩
  .exact⟨λ_=>rfl,λ_ _=>rfl⟩
 .rcases x with x|⟨rfl,rfl⟩
  .rcases h.cells a b x with ⟨c,c',el,fr,fr',k1,k2,k3,k4⟩|⟨x,x',l,k1,k2,k3⟩
   .exact .inl ⟨c,c',el,fr,fr',k1,k2,k3.up λ_ _ z=>.inl z,k4⟩
   .exact .inr ⟨x,x',l,k1,k2,k3.up λ_ _ z=>.inl z⟩
  .exact .inl ⟨c,c,el,(0,0),(0,0),hA,hB,CR.of (nV hc),λ_=>rfl,λz=>(nZ z).elim⟩
end
theorem cell_spot{ad:cy}{v:ai}(h:w.cell? ad=some v):ad.spot=none:=by
 unfold World.cell? at h
 split at h
 .split at h
  .cases h
  .rename_i hs
   cases hp:ad.spot with
   |none=>rfl
   |some s=>rw[hp] at hs;simp at hs
 .cases h
theorem GQ{ad:cy}(h:ad.spot=none)(n:Nat):ad.add n=⟨ad.block,ad.off+n,none⟩:=by
 unfold nm
 split
 .rename_i e;subst e;cases ad;simp only at h;subst h;rfl
 .rfl
theorem Wo.list{ha:Option cy}{hl hc:Nat}(h:Wo w ha hl hc):∃ p:List Nat,p.length=hl/\bn p/\aj.bM w ha p:=by
 have hx:∀ j:Nat,∃ z:Nat,j<hl->z<256/\∃ bd,ha=some bd/\w.cell? (bd.add j)=some (.int .u8 (z:Int)):=λj=>by
  by_cases hj:j<hl
  .obtain⟨bd,z,e,hz,h0,h1⟩:=h.byte j hj
   refine⟨z.toNat,λ_=>⟨by omega,bd,e,?_⟩⟩
   rw[hz]
   congr 2
   omega
  .exact⟨0,λx=>absurd x hj⟩
 obtain⟨f,hf⟩:=lP hx
 have hget:∀ j,j<hl->((dg hl).map f)[j]?.getD 0=f j:=λj hj=>by simp[hj]
 refine⟨(dg hl).map f,by simp,λx hx=>?_,?_⟩
 .obtain⟨j,hj,rfl⟩:=List.mem_map.1 hx
  exact(hf j (List.mem_range.1 hj)).1
 .by_cases h0:hl=0
  .exact .inl (by rw[h0];rfl)
  .obtain⟨_,bd,e,hc0⟩:=hf 0 (by omega)
   have hsp:bd.spot=none:=cell_spot (by simpa [nm] using hc0)
   refine .inr ⟨bd.block,bd.off,by rw[e];cases bd;simp only at hsp;subst hsp;rfl,λi hi=>?_⟩
   have hi':i<hl:=by simpa using hi
   obtain⟨_,bd',e',hci⟩:=hf i hi'
   rw[e] at e'
   obtain rfl:=cd e'
   rw[hget i hi',<-hci,GQ hsp]
theorem Met.list{pa:Option cy}{l:Nat}(h:Met w pa l):∃ L:List ah.Pg,L.length=l/\ah.TK w pa L:=by
 have hx:∀ i:Nat,∃ g:ah.Pg,i<l->∃ ad,pa=some ad/\w.cell? (ad.add i)=some (.slice g.a g.p.length g.c)/\ah.acp w g:=λi=>by
  by_cases hi:i<l
  .obtain⟨ad,ha,hl,hc,e,hcell,hm⟩:=h i hi
   obtain⟨p,hp,hall,hlies⟩:=hm.list
   refine⟨⟨ha,p,hc⟩,λ_=>⟨ad,e,by rw[hcell,hp],⟨hall,hlies,by show p.length<=hc;rw[hp];exact hm.cap,by have:=hm.most;show p.length<=_;omega⟩⟩⟩
  .exact⟨⟨none,[],0⟩,λx=>absurd x hi⟩
 obtain⟨f,hf⟩:=lP hx
 have hg:∀ i,i<l->ah.gP ((dg l).map f) i=f i:=λi hi=>by simp[ah.gP,hi]
 refine⟨(dg l).map f,by simp,?_⟩
 by_cases h0:l=0
 .exact .inl (by rw[h0];rfl)
 .obtain⟨ad,e,hc0,_⟩:=hf 0 (by omega)
  have hsp:ad.spot=none:=cell_spot (by simpa [nm] using hc0)
  refine .inr ⟨ad.block,ad.off,by rw[e];cases ad;simp only at hsp;subst hsp;rfl,λi hi=>?_⟩
  have hi':i<l:=by simpa using hi
  obtain⟨zX,e',hci,hat⟩:=hf i hi'
  rw[e] at e'
  obtain rfl:=cd e'
  rw[hg i hi']
  refine⟨?_,hat⟩
  rw[<-hci,GQ hsp]
variable {a:Array ai}
theorem wU:0<(PB aa false).depth:=of_decide_eq_true (by kernel_rfl)
abbrev R_:aw:={ fn:=74,tmps:=#[],todo:=[],defers:=[],mode:=.run,kind:=.normal }
theorem JF(pv nv:ai):b9 (PB aa false) 74 #[pv,nv] .normal=R_.at ⟨#[pv,nv]++Array.replicate 46 undef,[]⟩ [.code ah.Al.lI]:=by kernel_rfl
theorem sw(h:a.size=2):∃ x y,a=#[x,y]:=by
 obtain⟨l⟩:=a
 match l,h with
 | [x,y],_=>exact⟨x,y,rfl⟩
theorem GU:((PB aa false).funcs[(74:Nat)]?).map (·.params.size)=some 2:=by kernel_rfl
theorem u7{P:ar}{fns:Fx}{f:gw}{n m:Nat}(hp:(P.funcs[f]?).map (·.params.size)=some m)(hj:fns.jf f=true)(h:Ai P fns f n=true):n=m:=by
 unfold Ai at h
 cases hf:P.funcs[f]? with
 |none=>rw[hf] at hp;cases hp
 |some fn =>
  rw[hf] at hp h
  simp only[Option.map_some,cJ] at hp
  simp only[hj,Bool.not_true,Bool.false_or,beq_iff_eq] at h
  omega
theorem JG(fns:Fx){n:Nat}(hj:fns.jf 74=true)(h:Ai (PB aa false) fns 74 n=true):n=2:=u7 GU hj h
def Sb(gh:ae)(L:List ah.Pg)(v:ai)(u:ae):Prop :=
 v=.tuple #[.slice (some ⟨gh.heap.size,0,none⟩) L.length L.length,.nilIface]/\gh.heap.size<=u.heap.size/\(∀ b,b<gh.heap.size->u.heap[b]?=gh.heap[b]?) /\
  ∃ cs,u.heap[gh.heap.size]?=some (.cells cs 151 (0,0))/\cs.size=5*L.length/\∀ i,i<L.length->ah.SAt cs i (ah.gP L i).p
theorem JH{l:Nat}{cs:Array ai}{f:Nat->List Nat}(hs:cs.size=5*l)(h:∀ i,i<l->ah.SAt cs i (f i)):cs.all scalar=true:=by
 rw[Array.all_eq_true]
 intro j hj
 have hi:=h (j/5) (by omega)
 have e:j=5*(j/5)\/j=5*(j/5)+1\/j=5*(j/5)+2\/j=5*(j/5)+3\/j=5*(j/5)+4:=by omega
 have get:∀ {v:ai},cs[j]?=some v->cs[j]=v:=λh=>by rw[cR hj] at h;exact cd h
 rcases e with e|e|e|e|e
 .rw[get (by rw[e];exact hi.c0)];rfl
 .rw[get (by rw[e];exact hi.c1)];rfl
 .rw[get (by rw[e];exact hi.c2)];rfl
 .rw[get (by rw[e];exact hi.c3)];rfl
 .rw[get (by rw[e];exact hi.c4)];rfl
theorem Sc{l:Nat}{cs cells:Array ai}{f:Nat->List Nat}(hs:cs.size=5*l)(h:∀ i,i<l->ah.SAt cs i (f i))(hs2:cells.size=5*l)(h2:∀ i,i<l->ah.SAt cells i (f i)):cells=cs:=by
 refine Array.ext (by omega) λj h3 h4=>?_
 have a:=h (j/5) (by omega)
 have b:=h2 (j/5) (by omega)
 have e:j=5*(j/5)\/j=5*(j/5)+1\/j=5*(j/5)+2\/j=5*(j/5)+3\/j=5*(j/5)+4:=by omega
 have key:cells[j]?=cs[j]?:=by
  rcases e with e|e|e|e|e
  .rw[e,a.c0,b.c0]
  .rw[e,a.c1,b.c1]
  .rw[e,a.c2,b.c2]
  .rw[e,a.c3,b.c3]
  .rw[e,a.c4,b.c4]
 rw[cR h3,cR h4] at key
 exact cd key
section
variable {fns:Fx} {Z:Nat->Prop} {Fin:ag->ae->Prop} {E:Nat->Nat->Prop} {gh w:ae}
theorem ou{a':Array ai}(ha:aW fns E a a')(hgs:∀ g,fns.gl g=true->E g g/\fns.pt g=true)(hw:WR (PB aa false) fns E Z gh w):Start (PB aa false) (fns.own (PB aa false)) Z (dom E) a gh :=
 ⟨ha.dom.own,hw.dom.own,λg hg=>⟨⟨rfl,_,(hgs g hg).1⟩,(hgs g hg).2⟩,λ_ _ x=>x.1⟩
theorem JI(hz:zeros (PB aa false) (fns.own (PB aa false)))(hp:g_ (PB aa false) (fns.own (PB aa false)))(hfo:fns.ok 74=true){pa:Option cy}{pc:Nat}{n:Int}{L:List ah.Pg}{c:aw}{cs k:List aw}(hcs:cs=k++[aL])(hst:Start (PB aa false) (fns.own (PB aa false)) Z (dom E) #[.slice pa L.length pc,.int .i64 n] gh)(h0:¬n<1)(h8:¬n>8)(hl:L.length<=4096)(hL:ah.TK gh pa L)
 (hR:Runs (PB aa false) true Fin (G (b9 (PB aa false) 74 #[.slice pa L.length pc,.int .i64 n] .normal) (c::cs)) gh) :
 ∃ v eX,dt (Bf (PB aa false) true) (G (c.finish v) cs,eX) (G (b9 (PB aa false) 74 #[.slice pa L.length pc,.int .i64 n] .normal) (c::cs),gh)/\Runs (PB aa false) true Fin (G (c.finish v) cs) eX/\Sb gh L v eX:=by
 have hP:∀ t d,ah.TK (eZ gh t d) pa L:=λt d=>by
  rcases hL with e|⟨b,off,e,hat⟩
  .exact .inl e
  .exact .inr ⟨b,off,e,λi hi=>⟨(hat i hi).1,⟨(hat i hi).2.all,(hat i hi).2.lies,(hat i hi).2.cap,(hat i hi).2.most⟩⟩⟩
 obtain⟨v,eX,t1,r1,u,hu,he⟩:=pq (f:=74) (Q:=λv u=>Sb gh L v u) hz wU hp hcs hfo hst (λt d=>(ah.AQ pa pc L n (eZ gh t d) h0 h8 hl (hP t d)).mono (λe w' ⟨h1,h2⟩=>⟨_,h1,rfl,h2.cK.size,h2.cK.block,h2.row⟩)) hR
 exact⟨v,eX,t1,r1,hu.1,by rw[<-he];exact hu.2.1,by rw[<-he];exact hu.2.2.1,by rw[<-he];exact hu.2.2.2⟩
theorem BH(hz:zeros (PB aa false) (fns.own (PB aa false)))(hp:g_ (PB aa false) (fns.own (PB aa false)))(hfo:fns.ok 74=true){x:ai}{c:aw}{cs k:List aw}(hcs:cs=k++[aL])(hst:Start (PB aa false) (fns.own (PB aa false)) Z (dom E) a gh)
 (hc:∀ t d,aE (PB aa false) 74 a (eZ gh t d) λe w'=>e=.returned x/\w'=eZ gh t d)
 (hR:Runs (PB aa false) true Fin (G (b9 (PB aa false) 74 a .normal) (c::cs)) gh) :
 ∃ eX,dt (Bf (PB aa false) true) (G (c.finish x) cs,eX) (G (b9 (PB aa false) 74 a .normal) (c::cs),gh)/\Runs (PB aa false) true Fin (G (c.finish x) cs) eX/\eX.heap=gh.heap:=by
 obtain⟨v,eX,t1,r1,u,⟨rfl,hu⟩,he⟩:=pq (f:=74) (Q:=λv u=>v=x/\u.heap=gh.heap) hz wU hp hcs hfo hst (λt d=>(hc t d).mono (λe w' ⟨h1,h2⟩=>⟨_,h1,rfl,by rw[h2];rfl⟩)) hR
 exact⟨eX,t1,r1,by rw[<-he];exact hu⟩
end
