/- Part of the proof. -/
import Derived.Test.YtjlgehmebfkioaaGreatDoorZ32
import Derived.Conc.LeavingOf
import Derived.Test.YtjlgehmebfkioaaGreatDoorZ04
import Derived.Test.YtjlgehmebfkioaaGreatDoorZ31
open Go.Proofs.Tryz (prog)
open Go.Proofs.ah.Al (PB)
namespace Go.Proofs.YtjlgehmebfkioaaGreatDoor
open Go Go.Conc
open Go.ConcN (sumTo upd sumTo_upd upd_ne upd_same)
structure Stood(E:Nat->Nat->Prop)(Z:Nat->Prop)(S:Nat->Prop)(w w':World)(E1:Nat->Nat->Prop)(S':Nat->Prop):Prop where
 keep:∀ b,b<w.heap.size->(∀ a,E a b->Z a)->¬S b->w'.heap[b]?=w.heap[b]?
 size:w.heap.size<=w'.heap.size
 fresh:∀ a b,E1 a b->E a b\/w.heap.size<=b
 news:∀ b,S' b->S b\/w.heap.size<=b
 rest:w'.tape=w.tape/\w'.os=w.os/\w'.output=w.output
theorem Stood.refl(E:Nat->Nat->Prop)(Z S:Nat->Prop)(w:World):Stood E Z S w w E S:=⟨λ_ _ _ _=>rfl,Nat.le_refl _,λ_ _ x=>.inl x,λ_ x=>.inl x,rfl,rfl,rfl⟩
theorem Stood.trans{E E1 E2:Nat->Nat->Prop}{Z S S1 S2:Nat->Prop}{w w1 w2:World}(h:Stood E Z S w w1 E1 S1)(k:Stood E1 Z S1 w1 w2 E2 S2):Stood E Z S w w2 E2 S2:=by
 refine⟨λb hb hz hs=>?_,Nat.le_trans h.size k.size,λa b x=>?_,λb x=>?_,k.rest.1.trans h.rest.1,k.rest.2.1.trans h.rest.2.1,k.rest.2.2.trans h.rest.2.2⟩
 .have h1:=h.size
  rw[k.keep b (by omega) (λa x=>(h.fresh a b x).elim (hz a) (λy=>by omega)) (λx=>(h.news b x).elim hs (λy=>by omega)),h.keep b hb hz hs]
 .rcases k.fresh a b x with y|y
  .exact h.fresh a b y
  .exact .inr (Nat.le_trans h.size y)
 .rcases k.news b x with y|y
  .exact h.news b y
  .exact .inr (Nat.le_trans h.size y)
structure K0(v0:Nat)(o0:Option Obj)(E:Nat->Nat->Prop)(S:Nat->Prop)(w:World):Prop where
 nE:∀ a,¬E a v0
 nS:¬S v0
 pos:v0<w.heap.size
 pV:w.heap[v0]?=o0
theorem K0.stood{v0:Nat}{o0:Option Obj}{E E1:Nat->Nat->Prop}{Z S S1:Nat->Prop}{w w1:World}(h:K0 v0 o0 E S w)(k:Stood E Z S w w1 E1 S1):K0 v0 o0 E1 S1 w1 :=
 ⟨λa x=>(k.fresh a v0 x).elim (h.nE a) (λy=>by have:=h.pos;omega),λx=>(k.news v0 x).elim h.nS (λy=>by have:=h.pos;omega),Nat.lt_of_lt_of_le h.pos k.size,(k.keep v0 h.pos (λa x=>(h.nE a x).elim) h.nS).trans h.pV⟩
def JC(P:Program)(fns:Fx)(Z:Nat->Prop)(v0:Nat)(o0:Option Obj)(f:FuncId):Prop :=
 ∀ (Fin:Goroutine->World->Prop) (E:Nat->Nat->Prop) (gh w:World) (a a':Array Value) (c c':Frame) (cs cs':List Frame) (S:Nat->Prop) (gs:Array Goroutine) (d:Nat) (sl:Option (Nat × Nat)) (t:Trace) (q:Nat->Nat),
   aV fns E a a'->zU P fns f a.size=true->(∀ g,fns.gl g=true->E g g/\fns.pt g=true)->WR P fns E Z gh w->(∃ k,cs=k++[aL])->Runs P true Fin (G (Frame.enter P f a .normal) (c::cs)) gh ->
   Bx (fns.re P) S w.heap.size (G (Frame.enter (fns.re P) f a' .normal) (c'::cs')) w gs t q->(∀ a b,E a b->¬S b)->(∀ b,S b->b<w.heap.size)->K0 v0 o0 E S w ->
   ∃ (v:Value) (eG:World),Relation.TransGen (Bf P true) (G (c.finish v) cs,eG) (G (Frame.enter P f a .normal) (c::cs),gh)/\Runs P true Fin (G (c.finish v) cs) eG /\
     ∃ (N:Nat) (gs':Array Goroutine) (w':World) (sl':Option (Nat × Nat)) (t':Trace) (q':Nat->Nat) (S':Nat->Prop) (E1:Nat->Nat->Prop) (v':Value),
       runNT (fns.re P) N (crowd gs (w.at d) sl) t=(.next (crowd gs' w' sl'),t')/\Bx (fns.re P) S' w'.heap.size (G (c'.finish v') cs') w' gs' t' q' /\
       VR fns E1 v v'/\WR P fns E1 Z eG w'/\(∀ a b,E a b->E1 a b)/\(∀ a b,E1 a b->¬S' b)/\(∀ b,S' b->b<w'.heap.size)/\Stood E Z S w w' E1 S'
section
variable {P:Program} {fns:Fx} {Z:Nat->Prop} {Fin:Goroutine->World->Prop} {K:List Frame}
theorem Dr{v0:Nat}{o0:Option Obj}(hz:zeros P fns)(fJ:0<P.depth)(hp:kV P fns)(hJ:∀ f,fns.jf f=true->JC P fns Z v0 o0 f):∀ (c:Goroutine × World),Acc (Relation.TransGen (Bf P true)) c ->
 ∀ (M:Nat) (E:Nat->Nat->Prop) (S:Nat->Prop) (gs:Array Goroutine) (a:Goroutine) (w:World) (sl:Option (Nat × Nat)) (t:Trace) (q:Nat->Nat),sumTo gs.size q<=M ->
   zW P fns Z true Fin [] K E c.1 c.2 a w->gs[0]?=some a->Leavers (fns.re P) t gs q->Past (dY S) w.heap.size t->(∀ a b,E a b->¬S b)->(∀ b,S b->b<w.heap.size)->K0 v0 o0 E S w ->
   ∃ (N:Nat) (gs':Array Goroutine) (a':Goroutine) (w':World) (sl':Option (Nat × Nat)) (t':Trace) (q':Nat->Nat) (S':Nat->Prop) (E':Nat->Nat->Prop) (g1:Goroutine) (eG:World),
     runNT (fns.re P) N (crowd gs w sl) t=(.next (crowd gs' w' sl'),t')/\gs'[0]?=some a'/\zW P fns Z true Fin [] K E' g1 eG a' w'/\dG true [aL] g1/\Fin g1 eG /\
     Leavers (fns.re P) t' gs' q'/\Past (dY S') w'.heap.size t'/\(∀ a b,E' a b->¬S' b)/\(∀ b,S' b->b<w'.heap.size)/\(∀ a b,E a b->E' a b)/\Stood E Z S w w' E' S':=by
 intro c hacc
 induction hacc with
 |intro c _ ih =>
 intro M
 induction M using Nat.strongRecOn with
 |_ M WG =>
  intro E S gs a w sl t q hM hI h0 hL hP hS hSb Vx
  rcases hI.runs.cases with ⟨hst,hfin⟩|⟨hns,_⟩
  .exact⟨0,gs,a,w,sl,t,q,S,E,c.1,c.2,rfl,h0,hI,hst,hfin,hL,hP,hS,hSb,λ_ _ x=>x,Stood.refl _ _ _ _⟩
  have hrun:a.status=.running:=hI.gr.running
  have haw:∀ g∈gs,awake g:=by
   intro g hg
   obtain⟨i,hi,rfl⟩:=Array.mem_iff_getElem.1 hg
   rcases Nat.eq_zero_or_pos i with rfl|hpos
   .have:gs[0]=a:=by simpa [Array.getElem?_eq_getElem hi] using h0
    rw[this];exact awake_of (.inl hrun)
   .exact awake_of ((hL.old i _ hpos (Array.getElem?_eq_getElem hi)).status.elim .inl λx=>.inr (.inr x))
  obtain⟨i,g,d,sl',hi,hg,hst⟩:=crowd_pick (P:=fns.re P) (w:=w) (sl:=sl) haw ⟨0,a,h0,hrun⟩
  rcases Nat.eq_zero_or_pos i with rfl|hpos
  ·-- goroutine 0 goes as its ghost does
   obtain rfl:g=a:=by rw[h0] at hi;exact(Option.some.inj hi).symm
   rcases (hI.at d).stepJ (main:=true) hz fJ hp (λ_=>rfl) with ⟨h1,h2⟩|⟨E1,g1,w1,g1',re',es',e1,e2,e3,e4,e5⟩
   .exact(hns h1).elim
   .have hrunT:=runT_crowd_go (P:=fns.re P) (sl:=sl') (i:=0) hi (show stepG (fns.re P) (0==0) g (w.at d)=_ from e1)
    have hsz:((gs.map (woken (fns.re P) g g1' re')).setIfInBounds 0 g1').size=gs.size:=by simp
    have hlt:0<gs.size:=(Array.getElem?_eq_some_iff.1 h0).1
    have hS1:∀ a b,E1 a b->¬S b:=λa b x hb=>by
     rcases e4.fresh a b x with y|⟨_,y⟩
     .exact hS a b y hb
     .have:=hSb b hb
      have e:(w.at d).heap.size=w.heap.size:=rfl
      omega
    have hP1:Past (dY S) re'.heap.size (t++MemOp.ofEvents 0 g.frame.fn g.frame.place es') :=
     (hP.mono e4.rsize).own λe he=>PV (e5 e he) hS1 λa b x=>(e4.wr.lt x).2
    have ZI:∀ b,S b->b<re'.heap.size:=λb hb=>Nat.lt_of_lt_of_le (hSb b hb) e4.rsize
    have hL1:Leavers (fns.re P) (t++MemOp.ofEvents 0 g.frame.fn g.frame.place es') ((gs.map (woken (fns.re P) g g1' re')).setIfInBounds 0 g1') q :=
     ⟨λj x hj hx=>by
      have hne:0≠j:=by omega
      rw[Array.getElem?_setIfInBounds_ne hne,Array.getElem?_map] at hx
      obtain⟨y,hy,rfl⟩:=Option.map_eq_some_iff.1 hx
      have hq:=hL.old j y hj hy
      rw[woken_quitsD hq,Deaf_other t (by omega) _ (λop hop=>by obtain⟨e,_,rfl⟩:=Go.Conc.mem_ofEvents hop;rfl)]
      exact hq,λj hj=>by
      rw[Deaf_other t (g':=0) (by simp at hj;omega) _ (λop hop=>by obtain⟨e,_,rfl⟩:=Go.Conc.mem_ofEvents hop;rfl)]
      exact hL.above j (by simpa using hj)⟩
    have Rj:Stood E Z S w re' E1 S:=⟨λb hb hz _=>e4.keep b hb hz,e4.rsize,λa b x=>(e4.fresh a b x).imp id λy=>y.2,λ_ x=>.inl x,e4.AU,e4.os,e4.output⟩
    rcases e3 with e3|⟨e3,hw1,hr1⟩
    .obtain⟨N,gs',a',w',sl'',t',q',S',E',g2,WH,f1,f3,f4,f5,f6,f7,f8,f9,f10,f11,f12⟩:=ih (g1,w1) (.single e2) (sumTo gs.size q) E1 S ((gs.map (woken (fns.re P) g g1' re')).setIfInBounds 0 g1') g1' re' sl' (t++MemOp.ofEvents 0 g.frame.fn g.frame.place es') q (by rw[hsz];exact Nat.le_refl _) e3 (by simp[hlt]) hL1 hP1 hS1 ZI (Vx.stood Rj)
     exact⟨N+1,gs',a',w',sl'',t',q',S',E',g2,WH,by simp only[runNT,hst,hrunT];exact f1,f3,f4,f5,f6,f7,f8,f9,f10,λa b x=>f11 a b (e4.up a b x),Rj.trans f12⟩
    ·-- a function that is taken whole
     obtain⟨f,x,x',fr,fr',L,hj,_,⟨hxx,har⟩,rfl,rfl,⟨hF,ops,io,rest,k,ht⟩,hLL⟩:=e3
     have hB:Bx (fns.re P) S re'.heap.size (G (Frame.enter (fns.re P) f x' .normal) (fr'::(L.map (·.2)++K))) re' _ _ q:=⟨by simp[hlt],hL1,hP1,λb hb=>mO hP1 hb⟩
     obtain⟨v,eG,tg,hr2,N,gs',w',sl'',t',q',S',E2,v',r1,hB',hv,hw2,dV,hS2,afI,ads⟩:=hJ f hj Fin E1 w1 re' x x' fr fr' (L.map (·.1)++[aL]) (L.map (·.2)++K) S _ re'.drawn sl' _ q hxx har hF.gs hw1 ⟨_,rfl⟩ hr1 hB hS1 ZI (Vx.stood Rj)
     have hI2:zW P fns Z true Fin [] K E2 (G (fr.finish v) (L.map (·.1)++[aL])) eG (G (fr'.finish v') (L.map (·.2)++K)) w':=⟨⟨_,_,L,rfl,rfl,(hF.up dV).finish ht hv,hLL.up dV⟩,hw2,hr2⟩
     obtain⟨N2,gs2,a2,w2,sl2,t2,q2,S2,E',g2,WH,f1,f3,f4,f5,f6,f7,f8,f9,f10,f11,f12⟩:=ih (G (fr.finish v) (L.map (·.1)++[aL]),eG) (tg.tail e2) (sumTo gs'.size q') E2 S' gs' _ w' sl'' t' q' (Nat.le_refl _) hI2 hB'.pV hB'.lv hB'.past hS2 afI (Vx.stood (Rj.trans ads))
     refine⟨(N+N2)+1,gs2,a2,w2,sl2,t2,q2,S2,E',g2,WH,?_,f3,f4,f5,f6,f7,f8,f9,f10,λa b x=>f11 a b (dV a b (e4.up a b x)),(Rj.trans ads).trans f12⟩
     simp only[runNT,hst,hrunT]
     have r1':runNT (fns.re P) N (crowd ((gs.map (woken (fns.re P) g (G (Frame.enter (fns.re P) f x' .normal) (fr'::(L.map (·.2)++K))) re')).setIfInBounds 0 (G (Frame.enter (fns.re P) f x' .normal) (fr'::(L.map (·.2)++K)))) re' sl') (t++MemOp.ofEvents 0 g.frame.fn g.frame.place es')=(.next (crowd gs' w' sl''),t'):=r1
     rw[runNT_add N N2 _ _ r1']
     exact f1
  ·-- somebody slips
   have hq:=hL.old i g hpos hi
   have hi0:(i==0)=false:=by simp;omega
   have hlt:i<gs.size:=(Array.getElem?_eq_some_iff.1 hi).1
   cases hqi:q i with
   |zero=>rw[hqi] at hq;rw[hq.1] at hg;cases hg
   |succ k =>
    rw[hqi] at hq
    rcases hq with ⟨hf,_⟩|⟨_,g',es,hm,hstp,hq'⟩
    .rw[hf] at hg;cases hg
    have hrunT:=runT_crowd_go (P:=fns.re P) (sl:=sl') (i:=i) hi (by rw[hi0];exact hstp (w.at d))
    have hsz:((gs.map (woken (fns.re P) g g' (w.at d))).setIfInBounds i g').size=gs.size:=by simp
    have hsum:sumTo gs.size (upd q i k)+(k+1)=sumTo gs.size q+k:=by
     have:=sumTo_upd q k id hlt
     simpa [hqi] using this
    obtain⟨N,gs',a',w',sl'',t',q',S',E',g2,WH,f1,f3,f4,f5,f6,f7,f8,f9,f10,f11,f12⟩:=WG (sumTo gs.size (upd q i k)) (by omega) E S ((gs.map (woken (fns.re P) g g' (w.at d))).setIfInBounds i g') a (w.at d) sl' (t++MemOp.ofEvents i g.frame.fn g.frame.place es) (upd q i k) (by rw[hsz];exact Nat.le_refl _) (hI.at d)
     (by
      have hne:i≠0:=by omega
      rw[Array.getElem?_setIfInBounds_ne hne,Array.getElem?_map,h0]
      simp[woken_run hrun])
     ⟨λj x hj hx=>by
      by_cases hji:i=j
      .subst hji
       rw[Array.getElem?_setIfInBounds_self_of_lt (by simpa using hlt)] at hx
       obtain rfl:=Option.some.inj hx
       rw[upd_same,Deaf_own]
       exact hq'
      .rw[Array.getElem?_setIfInBounds_ne hji,Array.getElem?_map] at hx
       obtain⟨y,hy,rfl⟩:=Option.map_eq_some_iff.1 hx
       have hqj:=hL.old j y hj hy
       rw[woken_quitsD hqj,upd_ne q k (Ne.symm hji),Deaf_other t hji _ (λop hop=>by obtain⟨e,_,rfl⟩:=Go.Conc.mem_ofEvents hop;rfl)]
       exact hqj,λj hj=>by
      rw[Deaf_other t (g':=i) (by simp at hj;omega) _ (λop hop=>by obtain⟨e,_,rfl⟩:=Go.Conc.mem_ofEvents hop;rfl)]
      exact hL.above j (by simpa using hj)⟩
     (hP.mute (by omega) hm) hS hSb ⟨Vx.nE,Vx.nS,Vx.pos,Vx.pV⟩
    exact⟨N+1,gs',a',w',sl'',t',q',S',E',g2,WH,by simp only[runNT,hst,hrunT];exact f1,f3,f4,f5,f6,f7,f8,f9,f10,f11,⟨f12.keep,f12.size,f12.fresh,f12.news,f12.rest⟩⟩
end
end Go.Proofs.YtjlgehmebfkioaaGreatDoor
namespace Go.Proofs.YtjlgehmebfkioaaGreatDoor
open Go Go.Conc
variable {f:FuncId} {Q:Value->World->Prop}
def zX(P:Program)(f:FuncId)(Q:Value->World->Prop)(g:Goroutine)(w:World):Prop:=g.frame.fn=f/\yT P Q g w
theorem zX.on{P:Program}(g:Goroutine)(w:World)(t:Nat->Question->Nat)(d:Nat)(h:zX P f Q g w):zX P f Q g (eZ w t d):=⟨h.1,yT.on g w t d h.2⟩
section
variable {P:Program} {fns:Fx} {Z:Nat->Prop} {K:List Frame}
theorem u7{args:Array Value}{gh:World}(hc:Cl P fns Z [aL] (G (Frame.enter P f args .normal) [aL]) gh)(h:∀ t d,Calls P f args (eZ gh t d) (λe w'=>∃ v,e=.returned v/\Q v w')) :
 Ends P fns Z true (zX P f Q) (G (Frame.enter P f args .normal) [aL]) gh:=by
 refine⟨hc,λt d=>?_⟩
 obtain⟨e,w',fr,⟨v,rfl,hq⟩,⟨N,hN⟩,hfn,hm,hd,hk,fn,hf,hr⟩:=h t d [aL]
 exact⟨N,fr,w',hN,⟨rfl,by simp only[if_true];exact hm⟩,hfn,fn,v,w'.tape,w'.drawn,hf,hr,hq⟩
theorem results_tmp(P:Program){fn:Func}{r:Nat}(h:fn.results=#[.tmp r])(tmps:Array Value)(w:World):(results fn tmps).run P w=.ok (tmps.getD r undef) w/\∀ es,(results fn tmps).events P w es=es:=by
 constructor
 .unfold results
  rw[h]
  simp
 .intro es
  unfold results
  rw[h]
  simp
def Like(P:Program)(fns:Fx)(Z:Nat->Prop)(E:Nat->Nat->Prop)(Q:Value->World->Prop)(v':Value)(w':World):Prop :=
 ∃ (E1:Nat->Nat->Prop) (v:Value) (gh:World),Q v gh/\VR fns E1 v v'/\WR P fns E1 Z gh w'/\∀ a b,E a b->E1 a b
theorem Vy{fn:Func}{r:Nat}{E:Nat->Nat->Prop}{g a:Goroutine}{gh w:World}(hia:C9 P f r=false)(hf:P.funcs[f]?=some fn)(hr:fn.results=#[.tmp r])(hi:(fns.re P).inits.idxOf? f=none)
 (h:zW P fns Z true (zX P f Q) [] [] E g gh a w) (hs:dG true [aL] g) (hfin:zX P f Q g gh) :
 ∃ v',(∀ w₁:World,stepG (fns.re P) true a w₁=.ended (.done v') w₁ #[])/\Like P fns Z E Q v' w:=by
 obtain⟨fr,fr',L,rfl,rfl,hF,hL⟩:=h.gr
 have hL0:L=[]:=by
  have:=hs.1
  simp only[G] at this
  have h2:=congrArg List.length this
  simp at h2
  exact List.eq_nil_of_length_eq_zero (by simpa using h2)
 subst hL0
 have hk:IG ([]:List (Frame × Frame)) []=[]:=rfl
 rw[hk] at hF
 have hm:fr.mode=.returning:=by
  have:=hs.2
  simpa [G] using this
 have hfn:fr.fn=f:=hfin.1
 obtain⟨fn2,v,t,d,ZJ,hrun,hq⟩:=hfin.2
 simp only[G] at ZJ hrun
 rw[hfn,hf] at ZJ
 obtain rfl:=Option.some.inj ZJ
 rw[(results_tmp P hr _ _).1] at hrun
 have hv:fr.tmps.getD r undef=v:=by injection hrun
 have hf':(fns.re P).funcs[fr'.fn]?=some fn:=by rw[hF.fn];exact hF.same.trans (hfn▸hf)
 have hm':fr'.mode=.returning:=hF.mode.trans hm
 have hi':(fns.re P).inits.idxOf? fr'.fn=none:=by rw[hF.fn,hfn];exact hi
 refine⟨fr'.tmps.getD r undef,λw₁=>?_,E,v,eZ gh t d,hq,?_,h.wr.qY t d,λ_ _ x=>x⟩
 .simp only[List.map_nil,List.nil_append]
  rw[lM hm']
  unfold unwind
  simp only[hF.d',hm',hf',Sem.runT_eq,(results_tmp (fns.re P) hr fr'.tmps w₁).1,(results_tmp (fns.re P) hr fr'.tmps w₁).2,doReturn,hF.k',hi']
  rfl
 .rw[<-hv]
  exact hF.tmps.getD r (by rw[hfn];exact hia) iW
theorem Nh:Past (dY λ_=>False) 0 #[]:=⟨past_nil.clean,λi a h1 h2=>(past_nil.known i a h1 h2).imp id λx=>x.1.elim,past_nil.over,past_nil.hears,past_nil.seen⟩
structure Start(P:Program)(fns:Fx)(Z:Nat->Prop)(E:Nat->Nat->Prop)(args:Array Value)(w:World):Prop where
 args:aV fns E args args
 wr:WR P fns E Z w w
 gs:∀ g,fns.gl g=true->E g g/\fns.pt g=true
 id:∀ a b,E a b->a=b
theorem K9{v0:Nat}{o0:Option Obj}{K_:Fx}{E0:Nat->Nat->Prop}(hz:zeros P fns)(hz0:zeros P K_)(fJ:0<P.depth)(hp:kV P fns)(hp0:gW P K_)(hJ:∀ f,fns.jf f=true->JC P fns Z v0 o0 f)
 {f:FuncId} {fn:Func} {r:Nat} {gargs args:Array Value} {gh W:World} {E:Nat->Nat->Prop} {Q:Value->World->Prop}
 (hia:C9 P f r=false) (hf:P.funcs[f]?=some fn) (hr:fn.results=#[.tmp r]) (hi:(fns.re P).inits.idxOf? f=none) (hfo:fns.ok f=true) (hfj:fns.jf f=false) (afJ:K_.ok f=true)
 (hargs:aV fns E gargs args) (hwr:WR P fns E Z gh W) (hgs:∀ g,fns.gl g=true->E g g/\fns.pt g=true) (oZ:Start P K_ Z E0 gargs gh) (Vx:K0 v0 o0 E (λ_=>False) W)
 (h:∀ t d,Calls P f gargs (eZ gh t d) (λe w'=>∃ v,e=.returned v/\Q v w')) :
 ∃ N last o w' t',runNT (fns.re P) (N+1) (solo (G (Frame.enter (fns.re P) f args .normal) []) W) #[]=(.ended o w',t')/\runN (fns.re P) N (solo (G (Frame.enter (fns.re P) f args .normal) []) W)=.next last/\step (fns.re P) last=.ended o w' /\
   Go.Conc.Good (fns.re P) (λv' w'=>Like P fns Z E Q v' w'/\W.heap.size<=w'.heap.size/\(∀ b,b<W.heap.size->(∀ a,E a b->Z a)->w'.heap[b]?=W.heap[b]?)/\w'.tape=W.tape/\w'.os=W.os/\w'.output=W.output) last o w' t':=by
 have hF0:=FR.enter hp0.1 (hp0.1.1 f afJ) (hp0.2.2 f) oZ.gs oZ.args
 rw[hp0.2.1] at hF0
 have hcl:Cl P K_ Z [aL] (G (Frame.enter P f gargs .normal) [aL]) gh:=⟨E0,oZ.id,⟨_,_,[],rfl,rfl,hF0,trivial⟩,oZ.wr⟩
 have uZ:=(u7 hcl h).runs hz0 fJ hp0 (λg w t d x=>zX.on g w t d x)
 have hF:=FR.enter hp (hp.1 f hfo) hfj hgs hargs
 have hI:zW P fns Z true (zX P f Q) [] [] E (G (Frame.enter P f gargs .normal) [aL]) gh (G (Frame.enter (fns.re P) f args .normal) []) W:=⟨⟨_,_,[],rfl,rfl,hF,trivial⟩,hwr,uZ⟩
 obtain⟨N,gs',a',w',sl',t',q',S',E',g1,eG,r1,at1,i1,st1,afK,lv1,p1,hS1,ZI,dF,ZK⟩:=Dr hz fJ hp hJ _ uZ.acc.transGen 0 E (λ_=>False) #[G (Frame.enter (fns.re P) f args .normal) []] _ W none #[] (λ_=>0) (by simp[Go.ConcN.sumTo]) hI rfl
  ⟨(λj x hj hx=>by
    have:(#[G (Frame.enter (fns.re P) f args .normal) []]:Array Goroutine)[j]?=none:=by simp;omega
    rw[this] at hx
    cases hx),λj _=>rfl⟩ (Nh.mono (Nat.zero_le _)) (λ_ _ _ h=>h) (λ_ h=>h.elim) Vx
 obtain⟨v',hend,adt⟩:=Vy hia hf hr hi i1 st1 afK
 have hrun':a'.status=.running:=i1.gr.running
 obtain⟨M,last,o,w2,t2,b1,b2,b3,b4⟩:=beside_ends (P:=fns.re P) (D:=λ_ _ _=>False) (Shun:=dY S') (B:=w'.heap.size) (Post:=λv' w'=>Like P fns Z E Q v' w'/\W.heap.size<=w'.heap.size/\(∀ b,b<W.heap.size->(∀ a,E a b->Z a)->w'.heap[b]?=W.heap[b]?)/\w'.tape=W.tape/\w'.os=W.os/\w'.output=W.output) (n:=0) (sl:=sl') (λ_ _ _ h=>h.elim) at1 lv1 p1
  (λw₁ hw=>⟨hrun',v',#[],hend w₁,(λe he=>by simp at he),by
   obtain⟨d,rfl⟩:=hw
   obtain⟨E1,v,gh,a1,a2,a3,a4⟩:=adt
   exact⟨⟨E1,v,gh,a1,a2,⟨a3.jB,a3.jK,a3.j5,a3.mG,a3.glob,a3.inj,a3.cells⟩,λa b x=>a4 a b (dF a b x)⟩,ZK.size,λb hb hz=>ZK.keep b hb hz (λh=>h),ZK.rest⟩⟩)
 refine⟨N+M,last,o,w2,t2,?_,?_,b3,b4⟩
 .have e:N+M+1=N+(M+1):=by omega
  rw[e]
  have:=runNT_add N (M+1) (crowd #[G (Frame.enter (fns.re P) f args .normal) []] W none) #[] r1
  exact this.trans b1
 .have h1:runN (fns.re P) N (solo (G (Frame.enter (fns.re P) f args .normal) []) W)=.next (crowd gs' w' sl'):=by
   have:=runNT_fst (fns.re P) N (crowd #[G (Frame.enter (fns.re P) f args .normal) []] W none) #[]
   rw[r1] at this
   exact this.symm
  rw[runN_add,h1]
  exact b2
end
section
variable {P:Program} {fns:Fx} {Z:Nat->Prop} {E E':Nat->Nat->Prop} {gh re ji re':World}
theorem Out.lock(o:Out P fns E E' Z gh re ji re')(hE:∀ a b,E a b->a=b)(hh:gh.heap=re.heap)(hzl:∀ a,Z a->a<gh.heap.size):ji.heap=re'.heap/\∀ a b,E' a b->a=b:=by
 have hs0:gh.heap.size=re.heap.size:=by rw[hh]
 have hE':∀ a b,E' a b->a=b:=by
  intro a b x
  rcases o.fresh a b x with y|⟨y1,y2⟩
  .exact hE a b y
  .have hl:=o.wr.lt x
   have hn:=o.news (a-gh.heap.size) (by omega)
   have ea:gh.heap.size+(a-gh.heap.size)=a:=by omega
   have eb:re.heap.size+(a-gh.heap.size)=a:=by omega
   rw[ea,eb] at hn
   exact((o.wr.inj _ _ _ _ x hn).1 rfl).symm
 refine⟨?_,hE'⟩
 have hsz:ji.heap.size=re'.heap.size:=by have:=o.sizes;omega
 refine FX hsz λi hi=>?_
 by_cases hx:∃ b,E' i b/\¬Z i
 .obtain⟨b,hb,hnz⟩:=hx
  obtain rfl:=hE' _ _ hb
  rcases o.wr.cells _ _ hb with ⟨c,c',el,fr,fr',k1,k2,k3,k4,_⟩|⟨x,x',l,k1,k2,k3⟩
  .rw[k1,k2,(k3.all hnz (fns.pl _ (o.wr.jK.1 _ hnz))).eq hE',k4 hnz]
  .rw[k1,k2,k3.eq hE']
 .by_cases hlt:i<gh.heap.size
  .have hno:∀ b,E i b->Z i:=λb hb=>Classical.byContradiction λhnz=>hx ⟨b,o.up _ _ hb,hnz⟩
   rw[o.J2 i hlt hno,o.keep i (by omega) λa ha=>by obtain rfl:=hE _ _ ha;exact hno _ ha,hh]
  .have hn:=o.news (i-gh.heap.size) (by omega)
   have ea:gh.heap.size+(i-gh.heap.size)=i:=by omega
   rw[ea] at hn
   exact(hx ⟨_,hn,λhz=>hlt (hzl i hz)⟩).elim
end
section
variable {P:Program} {fns:Fx} {Z:Nat->Prop} {Fin:Goroutine->World->Prop}
theorem Runs.weak{Fin':Goroutine->World->Prop}{g:Goroutine}{w:World}(h:Runs P true Fin g w)(hf:∀ g w,Fin g w->Fin' g w):Runs P true Fin' g w:=λM h1 h2=>h M (λg w hs x=>h1 g w hs (hf g w x)) h2
theorem I9(hz:zeros P fns)(fJ:0<P.depth)(hp:gW P fns){f:FuncId}{Q:Value->World->Prop}{c:Frame}{cs k:List Frame}(hcs:cs=k++[aL]):∀ (x:Goroutine × World),Acc (Bf P true) x->∀ (E:Nat->Nat->Prop) (g':Goroutine) (w:World),
 zW P fns Z true (zX P f Q) [] (c::cs) E x.1 x.2 g' w->(∀ a b,E a b->a=b)->x.2.heap=w.heap->Runs P true Fin g' w ->
 ∃ v eG,Relation.TransGen (Bf P true) (G (c.finish v) cs,eG) (g',w)/\Runs P true Fin (G (c.finish v) cs) eG/\∃ u,Q v u/\u.heap=eG.heap:=by
 intro x hacc
 induction hacc with
 |intro x _ ih =>
 intro E g' w hI hE hh hR
 have hcall:g'.callers≠[aL]:=by
  obtain⟨fr,fr',L,_,rfl,_,_⟩:=hI.gr
  intro h
  have:=congrArg List.length h
  simp[G,hcs] at this
  omega
 have hwo:eZ w w.tape w.drawn=w:=rfl
 obtain⟨g2,w2,es2,s2,r2,b2⟩:=Dn hR hcall w.tape w.drawn
 rw[hwo] at s2
 rcases hI.step (main:=true) hz fJ hp (λ_=>rfl) with ⟨hst,hfin⟩|⟨E',g1,w1,g1',re',es',e1,e2,e3,e4,_⟩
 .obtain⟨E1,v,v',eG,w1,es,hg1,hq,hv,hs,hout,_⟩:=Kq (main:=true) (Q:=Q) ⟨hI.gr,hI.wr,hI.runs.weak λ_ _ x=>x.2⟩ hst hfin.2
  rw[hp.2.1,s2] at hs
  obtain⟨rfl,rfl,_⟩:=GStep.go.inj hs
  obtain⟨l1,l2⟩:=hout.lock hE (hg1.trans hh) (by rw[hg1];exact hI.wr.jB)
  obtain rfl:=hv.eq l2
  exact⟨v',w2,.single b2,r2,eG,hq,l1⟩
 .rw[s2] at e1
  obtain⟨rfl,rfl,_⟩:=GStep.go.inj e1
  obtain⟨l1,l2⟩:=e4.lock hE hh hI.wr.jB
  obtain⟨v,eG,t1,t2,t3⟩:=ih (g1,w1) e2 E' g2 w2 e3 l2 l1 r2
  exact⟨v,eG,t1.tail b2,t2,t3⟩
theorem oV(hz:zeros P fns)(fJ:0<P.depth)(hp:gW P fns){f:FuncId}{Q:Value->World->Prop}{c:Frame}{cs k:List Frame}(hcs:cs=k++[aL])(hfo:fns.ok f=true){a:Array Value}{gh:World}{E:Nat->Nat->Prop}(hst:Start P fns Z E a gh)
 (h:∀ t d,Calls P f a (eZ gh t d) (λe w'=>∃ v,e=.returned v/\Q v w')) (hR:Runs P true Fin (G (Frame.enter P f a .normal) (c::cs)) gh) :
 ∃ v eG,Relation.TransGen (Bf P true) (G (c.finish v) cs,eG) (G (Frame.enter P f a .normal) (c::cs),gh)/\Runs P true Fin (G (c.finish v) cs) eG/\∃ u,Q v u/\u.heap=eG.heap:=by
 have hF:=FR.enter hp.1 (hp.1.1 f hfo) (hp.2.2 f) hst.gs hst.args
 rw[hp.2.1] at hF
 have hcl:Cl P fns Z [aL] (G (Frame.enter P f a .normal) [aL]) gh:=⟨E,hst.id,⟨_,_,[],rfl,rfl,hF,trivial⟩,hst.wr⟩
 have uZ:=(u7 hcl h).runs hz fJ hp (λg w t d x=>zX.on g w t d x)
 exact I9 hz fJ hp hcs _ uZ.acc E _ gh ⟨⟨_,_,[],rfl,rfl,hF,trivial⟩,hst.wr,uZ⟩ hst.id rfl hR
end
end Go.Proofs.YtjlgehmebfkioaaGreatDoor
namespace Go.Proofs.YtjlgehmebfkioaaGreatDoor
open Go Go.Conc
open ah (Al.lg)
structure Vz(w:World)(ha:Option Addr)(hl hc:Nat):Prop where
 cap:hl<=hc
 most:(hl:Int)<=9223372036854775807
 byte:∀ j,j<hl->∃ bd z,ha=some bd/\w.cell? (bd.add j)=some (.int .u8 z)/\0<=z/\z<=255
def Met(w:World)(pa:Option Addr)(l:Nat):Prop:=∀ i,i<l->∃ ad ha hl hc,pa=some ad/\w.cell? (ad.add i)=some (.slice ha hl hc)/\Vz w ha hl hc
section
variable {Fin:Goroutine->World->Prop} {b:Frame} {cs:List Frame} {fns:Fx} {Z:Nat->Prop} {E:Nat->Nat->Prop} {gh re:World}
structure Sl(a:Act)(pv nv:Value):Prop where
 size:a.tmps.size=48
 s0:a.eval (.tmp 0)=pv
 s1:a.eval (.tmp 1)=nv
theorem Dt:(PB prog false).underlying 35=some (.slice 60):=by kernel_rfl
theorem Du:(PB prog false).underlying 60=some (.slice 5):=by kernel_rfl
theorem VA(w:World):(Go.sizeOf 60).run (PB prog false) w=.ok 1 w:=by kernel_rfl
theorem adu(w:World):(Go.sizeOf 5).run (PB prog false) w=.ok 1 w:=by kernel_rfl
theorem VB(w:World):(isAgg 60).run (PB prog false) w=.ok false w:=by kernel_rfl
theorem adv(w:World):(isAgg 5).run (PB prog false) w=.ok false w:=by kernel_rfl
abbrev Rk:Code:=match Al.lg with
 | .seq _ (.seq _ (.seq _ (.seq _ (.seq _ (.seq (.block _ (.loop (.seq _ (.seq _ (.seq (.block _ (.seq _ (.seq _ (.seq _ (.seq _ (.block _ (.loop x))))))) _))))) _)))))=>x
 |x=>x
abbrev KF:Code:=match Al.lg with
 | .seq _ (.seq _ (.seq _ (.seq _ (.seq _ (.seq (.block _ (.loop x)) _)))))=>x
 |x=>x
theorem Rl{ha:Option Addr}{ha':Option Addr}{hl hc i l:Nat}{k:List Item}{pv nv:Value}(hw:WR (PB prog false) fns E Z gh re)(Gc:hl=0\/OS fns E ha ha')(hn:ha=none->hl=0)(hm:(hl:Int)<=9223372036854775807):∀ (r j:Nat),j+r=hl->∀ (a:Act),Sl a pv nv->a.eval (.tmp 8)=.int .i64 (l:Int)->a.eval (.tmp 11)=.int .i64 (i:Int)->a.eval (.tmp 14)=.slice ha hl hc->a.eval (.tmp 16)=.int .i64 (hl:Int)->a.eval (.tmp 17)=.int .i64 (j:Int) ->
 RT (PB prog false) Fin b cs a (.code Rk::.inLoop Rk::.inBlock 2::k) gh ->
 (∀ j',j<=j'->j'<hl->∃ bd z,ha=some bd/\gh.cell? (bd.add j')=some (.int .u8 z)/\0<=z/\z<=255)/\∃ a',Sl a' pv nv/\a'.eval (.tmp 8)=.int .i64 (l:Int)/\a'.eval (.tmp 11)=.int .i64 (i:Int)/\RT (PB prog false) Fin b cs a' k gh
 |0,j,e,a,hs,h8,h11,h14,h16,ZL,h=>by
  obtain rfl:j=hl:=by omega
  refine⟨λj' h1 h2=>by omega,?_⟩
  obtain⟨n,hn1,h1⟩:=h.seq.region.lss (d:=18) rfl h16
  rw[ZL] at hn1
  obtain rfl:(j:Int)=n:=by injection hn1
  have hd:decide ((j:Int)<(j:Int))=false:=by simp
  rw[hd] at h1
  have sz:=hs.size
  have h2:=h1.over.seq.cond (t:=false) (aH 18 _ (by omega))
  have h3:=h2.exit (k':=k) rfl
  exact⟨_,⟨by rw[aI];exact sz,by rw[au _ (by decide)];exact hs.s0,by rw[au _ (by decide)];exact hs.s1⟩,by rw[au _ (by decide)];exact h8,by rw[au _ (by decide)];exact h11,h3⟩
 |r+1,j,e,a,hs,h8,h11,h14,h16,ZL,h=>by
  have sz:=hs.size
  obtain⟨n,hn1,h1⟩:=h.seq.region.lss (d:=18) rfl h16
  rw[ZL] at hn1
  obtain rfl:(j:Int)=n:=by injection hn1
  have hd:decide ((j:Int)<(hl:Int))=true:=by simp;omega
  rw[hd] at h1
  have h2:=h1.over.seq.cond (t:=true) (aH 18 _ (by omega))
  have h3:=h2.skip.seq.block.seq.region
  obtain⟨ad,rfl⟩:∃ ad,ha=some ad:=by
   cases ha with
   |none=>have:=hn rfl;omega
   |some ad=>exact⟨ad,rfl⟩
  obtain⟨zH,rfl,DN⟩:=dR.1 (Gc.resolve_left (by omega))
  have h4:=h3.idx (d:=19) (n:=j) Du adu rfl (by rw[au _ (by decide)];exact h14) (by rw[au _ (by decide)];exact ZL) (by omega)
  obtain⟨v,hv,h5⟩:=h4.load (d:=20) adv hw (DN.add j) rfl (aH 19 _ (by rw[aI];omega))
  obtain⟨z,hz,h6⟩:=h5.gtr (d:=44) (ik:=.u8) (m:=255) rfl rfl
  rw[aH 20 _ (by rw[aI,aI];omega)] at hz
  subst hz
  obtain⟨z',hz,h7⟩:=h6.lss (d:=45) (ik:=.u8) (m:=0) rfl rfl
  rw[au _ (by decide),aH 20 _ (by rw[aI,aI];omega)] at hz
  obtain rfl:z=z':=by injection hz
  have h8':=h7.over.seq
  have afL:∀ v v',((((((a.put (some 18) (.bool true)).put (some 19) v).put (some 20) (.int .u8 z)).put (some 44) (.bool (decide (z>255)))).put (some 45) v')).eval (.tmp 44)=.bool (decide (z>255)):=λv v'=>by
   rw[au _ (by decide),aH 44 _ (by simp only[aI];omega)]
  have h9:=h8'.cond (afL _ _)
  have c1:decide (z>255)=false:=by
   by_cases hc1:z>255
   .rw[decide_eq_true hc1] at h9
    exact(h9.stuck (ik:=.u8) (n:=z) (by simp only[au _ (show (20:Nat)≠45 by decide),au _ (show (20:Nat)≠44 by decide)];exact aH 20 _ (by simp only[aI];omega))).elim
   .simpa using hc1
  rw[c1] at h9
  have h10:=h9.skip.cond (aH 45 _ (by simp only[aI];omega))
  have c2:decide (z<0)=false:=by
   by_cases hc2:z<0
   .rw[decide_eq_true hc2] at h10
    exact(h10.stuck (ik:=.u8) (n:=z) (by simp only[au _ (show (20:Nat)≠45 by decide),au _ (show (20:Nat)≠44 by decide)];exact aH 20 _ (by simp only[aI];omega))).elim
   .simpa using hc2
  rw[c2] at h10
  have hz0:0<=z/\z<=255:=by
   have a1:=of_decide_eq_false c1
   have a2:=of_decide_eq_false c2
   omega
  have ZM:=h10.skip.inBlock.region
  have q17:∀ v1 v2 v3 v4 v5,((((((a.put (some 18) v1).put (some 19) v2).put (some 20) v3).put (some 44) v4).put (some 45) v5)).eval (.tmp 17)=.int .i64 (j:Int):=λv1 v2 v3 v4 v5=>by simp only[au _ (show (17:Nat)≠45 by decide),au _ (show (17:Nat)≠44 by decide),au _ (show (17:Nat)≠20 by decide),au _ (show (17:Nat)≠19 by decide),au _ (show (17:Nat)≠18 by decide)];exact ZL
  have h12:=ZM.add (d:=46) (m:=1) rfl (q17 _ _ _ _ _) rfl
  have hwrap:IntKind.i64.wrap ((j:Int)+1)=((j+1:Nat):Int):=by rw[IntKind.wrap_i64];omega
  rw[hwrap] at h12
  have h13:=(h12.move (d:=17) rfl).over.inLoop
  rw[aH 46 _ (by simp only[aI];omega)] at h13
  have pass:∀ {x:Nat} {v1 v2 v3 v4 v5 v6 v7:Value},x≠17->x≠46->x≠45->x≠44->x≠20->x≠19->x≠18->((((((((a.put (some 18) v1).put (some 19) v2).put (some 20) v3).put (some 44) v4).put (some 45) v5).put (some 46) v6).put (some 17) v7)).eval (.tmp x)=a.eval (.tmp x):=λn1 n2 n3 n4 n5 n6 n7=>by
   rw[au _ n1,au _ n2,au _ n3,au _ n4,au _ n5,au _ n6,au _ n7]
  obtain⟨k1,k2⟩:=Rl hw (.inr (dR.2 ⟨zH,rfl,DN⟩)) hn hm r (j+1) (by omega) _ ⟨by simp only[aI];exact sz,(pass (by decide) (by decide) (by decide) (by decide) (by decide) (by decide) (by decide)).trans hs.s0,(pass (by decide) (by decide) (by decide) (by decide) (by decide) (by decide) (by decide)).trans hs.s1⟩
   ((pass (by decide) (by decide) (by decide) (by decide) (by decide) (by decide) (by decide)).trans h8) ((pass (by decide) (by decide) (by decide) (by decide) (by decide) (by decide) (by decide)).trans h11) ((pass (by decide) (by decide) (by decide) (by decide) (by decide) (by decide) (by decide)).trans h14) ((pass (by decide) (by decide) (by decide) (by decide) (by decide) (by decide) (by decide)).trans h16) (aH 17 _ (by simp only[aI];omega)) h13
  refine⟨λj' g1 g2=>?_,k2⟩
  by_cases hj:j'=j
  .subst hj
   exact⟨ad,z,rfl,hv,hz0⟩
  .exact k1 j' (by omega) g2
end
section
variable {Fin:Goroutine->World->Prop} {b:Frame} {cs:List Frame} {fns:Fx} {Z:Nat->Prop} {E:Nat->Nat->Prop} {gh re:World}
theorem KG{pa pa':Option Addr}{l c:Nat}{k:List Item}{nv:Value}(hw:WR (PB prog false) fns E Z gh re)(Gc:l=0\/OS fns E pa pa')(hn:pa=none->l=0)(hm:l<=4096):∀ (r i:Nat),i+r=l->∀ (a:Act),Sl a (.slice pa l c) nv->a.eval (.tmp 8)=.int .i64 (l:Int)->a.eval (.tmp 11)=.int .i64 (i:Int) ->
 RT (PB prog false) Fin b cs a (.code KF::.inLoop KF::.inBlock 0::k) gh ->
 ∀ i',i<=i'->i'<l->∃ ad ha hl hc,pa=some ad/\gh.cell? (ad.add i')=some (.slice ha hl hc)/\Vz gh ha hl hc
 |0,i,e,a,hs,h8,h11,h=>λi' h1 h2=>by omega
 |r+1,i,e,a,hs,h8,h11,h=>by
  have sz:=hs.size
  obtain⟨n,hn1,h1⟩:=h.seq.region.lss (d:=12) rfl h8
  rw[h11] at hn1
  obtain rfl:(i:Int)=n:=by injection hn1
  have hd:decide ((i:Int)<(l:Int))=true:=by simp;omega
  rw[hd] at h1
  have h2:=h1.over.seq.cond (t:=true) (aH 12 _ (by omega))
  have h3:=h2.skip.seq.block.seq.region
  obtain⟨ad,rfl⟩:∃ ad,pa=some ad:=by
   cases pa with
   |none=>have:=hn rfl;omega
   |some ad=>exact⟨ad,rfl⟩
  obtain⟨zH,rfl,DN⟩:=dR.1 (Gc.resolve_left (by omega))
  have h4:=h3.idx (d:=13) (n:=i) Dt VA rfl (by rw[au _ (by decide)];exact hs.s0) (by rw[au _ (by decide)];exact h11) (by omega)
  obtain⟨v,hv,h5⟩:=h4.load (d:=14) VB hw (DN.add i) rfl (aH 13 _ (by rw[aI];omega))
  obtain⟨ha,hl,hc,hve,h6⟩:=h5.len (d:=16) Du rfl
  rw[aH 14 _ (by simp only[aI];omega)] at hve
  subst hve
  obtain⟨v',_,hvr⟩:=hw.cell (DN.add i) hv
  obtain⟨ha',rfl,afM⟩:=aJ.1 hvr
  have h7:=h6.WV (d:=15) (pa:=ha) (l:=hl) (c:=hc) Du rfl (by rw[au _ (by decide)];exact aH 14 _ (by simp only[aI];omega))
  obtain⟨n1,e1,h8'⟩:=h7.gtr (d:=21) (ik:=.i64) (m:=0) rfl rfl
  rw[au _ (by decide),aH 16 _ (by simp only[aI];omega)] at e1
  obtain rfl:(hl:Int)=n1:=by injection e1
  have h9:=h8'.cap (d:=22) (pa:=ha) (l:=hl) (c:=hc) Du rfl (by rw[au _ (by decide),au _ (by decide),au _ (by decide)];exact aH 14 _ (by simp only[aI];omega))
  obtain⟨n2,e2,h10⟩:=h9.gtr (d:=23) (ik:=.i64) (m:=(hc:Int)) rfl (aH 22 _ (by simp only[aI];omega))
  rw[au _ (by decide),au _ (by decide),au _ (by decide),aH 16 _ (by simp only[aI];omega)] at e2
  obtain rfl:(hl:Int)=n2:=by injection e2
  obtain⟨n3,e3,ZM⟩:=h10.gtr (d:=24) (ik:=.i64) (m:=9223372036854775807) rfl rfl
  rw[au _ (by decide),au _ (by decide),au _ (by decide),au _ (by decide),aH 16 _ (by simp only[aI];omega)] at e3
  obtain rfl:(hl:Int)=n3:=by injection e3
  have h12:=(ZM.move (d:=17) rfl).over.seq
  have q16:∀ {v12 v13 v14 v15 v21 v22 v23 v24 v17:Value},(((((((((((a.put (some 12) v12).put (some 13) v13).put (some 14) v14).put (some 16) (.int .i64 (hl:Int))).put (some 15) v15).put (some 21) v21).put (some 22) v22).put (some 23) v23).put (some 24) v24).put (some 17) v17)).eval (.tmp 16)=.int .i64 (hl:Int):=λ{v12 v13 v14 v15 v21 v22 v23 v24 v17}=>by
   rw[au _ (by decide),au _ (by decide),au _ (by decide),au _ (by decide),au _ (by decide),au _ (by decide)]
   exact aH 16 _ (by simp only[aI];omega)
  -- nil with bytes
  obtain⟨hnil0,h15⟩:=h12.Ri (t:=ha.isNone) (s:=decide ((hl:Int)>0)) (by
   rw[au _ (by decide),au _ (by decide),au _ (by decide),au _ (by decide),au _ (by decide)]
   exact aH 15 _ (by simp only[aI];omega)) (by
   rw[au _ (by decide),au _ (by decide),au _ (by decide),au _ (by decide)]
   exact aH 21 _ (by simp only[aI];omega)) q16
  have hnil:ha=none->hl=0:=λe=>by
   have:=of_decide_eq_false (hnil0 (by rw[e];rfl))
   omega
  obtain⟨hcap0,h16⟩:=h15.seq.Dp (t:=decide ((hl:Int)>(hc:Int))) (by
   rw[au _ (by decide),au _ (by decide)]
   exact aH 23 _ (by simp only[aI];omega)) q16
  have hcap:=of_decide_eq_false hcap0
  obtain⟨ZN,ZL⟩:=h16.seq.Dp (t:=decide ((hl:Int)>9223372036854775807)) (by
   rw[au _ (by decide)]
   exact aH 24 _ (by simp only[aI];omega)) q16
  have agU:=of_decide_eq_false ZN
  have h18:=ZL.block.loop
  have pass:∀ {x:Nat} {v12 v13 v14 v16 v15 v21 v22 v23 v24 v17:Value},x≠17->x≠24->x≠23->x≠22->x≠21->x≠15->x≠16->x≠14->x≠13->x≠12->(((((((((((a.put (some 12) v12).put (some 13) v13).put (some 14) v14).put (some 16) v16).put (some 15) v15).put (some 21) v21).put (some 22) v22).put (some 23) v23).put (some 24) v24).put (some 17) v17)).eval (.tmp x)=a.eval (.tmp x):=λn1 n2 n3 n4 n5 n6 n7 n8 n9 n10=>by
   rw[au _ n1,au _ n2,au _ n3,au _ n4,au _ n5,au _ n6,au _ n7,au _ n8,au _ n9,au _ n10]
  obtain⟨k1,a',hs',g8,g11,h19⟩:=Rl (l:=l) (i:=i) hw (afM.elim .inr λx=>.inl x.1) hnil (by omega) hl 0 (by omega) _ ⟨by simp only[aI];exact sz,(pass (by decide) (by decide) (by decide) (by decide) (by decide) (by decide) (by decide) (by decide) (by decide) (by decide)).trans hs.s0,(pass (by decide) (by decide) (by decide) (by decide) (by decide) (by decide) (by decide) (by decide) (by decide) (by decide)).trans hs.s1⟩
   ((pass (by decide) (by decide) (by decide) (by decide) (by decide) (by decide) (by decide) (by decide) (by decide) (by decide)).trans h8) ((pass (by decide) (by decide) (by decide) (by decide) (by decide) (by decide) (by decide) (by decide) (by decide) (by decide)).trans h11)
   (by
    rw[au _ (show (14:Nat)≠17 by decide),au _ (show (14:Nat)≠24 by decide),au _ (show (14:Nat)≠23 by decide),au _ (show (14:Nat)≠22 by decide),au _ (show (14:Nat)≠21 by decide),au _ (show (14:Nat)≠15 by decide),au _ (show (14:Nat)≠16 by decide),aH 14 _ (by simp only[aI];omega)]) q16 (aH 17 _ (by simp only[aI];omega)) h18
  have h20:=h19.inBlock.region
  have h21:=h20.add (d:=47) (m:=1) rfl g11 rfl
  have hwrap:IntKind.i64.wrap ((i:Int)+1)=((i+1:Nat):Int):=by rw[IntKind.wrap_i64];omega
  rw[hwrap] at h21
  have h22:=(h21.move (d:=11) rfl).over.inLoop
  have sz':=hs'.size
  rw[aH 47 _ (by omega)] at h22
  have ih:=KG (nv:=nv) (c:=c) hw (.inr (dR.2 ⟨zH,rfl,DN⟩)) hn hm r (i+1) (by omega) _ ⟨by simp only[aI];exact sz',by rw[au _ (by decide),au _ (by decide)];exact hs'.s0,by rw[au _ (by decide),au _ (by decide)];exact hs'.s1⟩ (by rw[au _ (by decide),au _ (by decide)];exact g8) (aH 11 _ (by rw[aI];omega)) h22
  intro i' g1 g2
  by_cases hi:i'=i
  .subst hi
   exact⟨ad,ha,hl,hc,rfl,hv,⟨by omega,by omega,λj hj=>k1 j (by omega) hj⟩⟩
  .exact ih i' (by omega) g2
theorem Rm{pv pv' nv:Value}{a:Act}{k:List Item}(hw:WR (PB prog false) fns E Z gh re)(hv:VR fns E pv pv')(hs:Sl a pv nv)(h:RT (PB prog false) Fin b cs a (.code Al.lg::k) gh) :
 ∃ n pa l c,nv=.int .i64 n/\pv=.slice pa l c/\((n<1\/n>8)\/(¬n<1/\¬n>8/\(4096<l\/(l<=4096/\Met gh pa l)))):=by
 have sz:=hs.size
 have h1:=(h.seq.region.assign (d:=2) rfl).assign (d:=3) rfl
 obtain⟨pa,l,c,hp,h1'⟩:=h1.len (d:=8) Dt rfl
 rw[au _ (by decide),au _ (by decide),hs.s0] at hp
 obtain⟨n,hn,h2⟩:=h1'.over.seq.seq.region.lss (d:=4) (ik:=.i64) (m:=1) rfl rfl
 rw[au _ (by decide),au _ (by decide),au _ (by decide),hs.s1] at hn
 refine⟨n,pa,l,c,hn,hp,?_⟩
 by_cases hlo:n<1
 .exact .inl (.inl hlo)
 rw[decide_eq_false hlo] at h2
 have h3:=(h2.over.cond (t:=false) (aH 4 _ (by simp only[aI];omega))).skip.seq.seq.region
 obtain⟨n',hn',h4⟩:=h3.gtr (d:=5) (ik:=.i64) (m:=8) rfl rfl
 rw[au _ (by decide),au _ (by decide),au _ (by decide),au _ (by decide),hs.s1,hn] at hn'
 obtain rfl:n=n':=by injection hn'
 by_cases hhi:n>8
 .exact .inl (.inr hhi)
 refine .inr ⟨hlo,hhi,?_⟩
 rw[decide_eq_false hhi] at h4
 have h5:=(h4.over.cond (t:=false) (aH 5 _ (by simp only[aI];omega))).skip.seq.seq.region
 obtain⟨m,hm,h7⟩:=h5.gtr (d:=9) (ik:=.i64) (m:=4096) rfl rfl
 rw[au _ (by decide),au _ (by decide),aH 8 _ (by simp only[aI];omega)] at hm
 obtain rfl:(l:Int)=m:=by injection hm
 by_cases hbig:(l:Int)>4096
 .exact .inl (by omega)
 rw[decide_eq_false hbig] at h7
 refine .inr ⟨by omega,?_⟩
 have h8:=(h7.over.cond (t:=false) (aH 9 _ (by simp only[aI];omega))).skip.seq.seq.region
 have h9:=h8.WV (d:=7) (pa:=pa) (l:=l) (c:=c) Dt rfl (by rw[au _ (by decide),au _ (by decide),au _ (by decide),au _ (by decide),au _ (by decide),au _ (by decide),hs.s0,hp])
 obtain⟨m,hm,h10⟩:=h9.gtr (d:=10) (ik:=.i64) (m:=0) rfl rfl
 rw[au _ (by decide),au _ (by decide),au _ (by decide),au _ (by decide),aH 8 _ (by simp only[aI];omega)] at hm
 obtain rfl:(l:Int)=m:=by injection hm
 have h11:=(h10.move (d:=11) rfl).over
 have q8:∀ {v2 v3 v4 v5 v9 v7 v10 v11:Value},(((((((((a.put (some 2) v2).put (some 3) v3).put (some 8) (.int .i64 (l:Int))).put (some 4) v4).put (some 5) v5).put (some 9) v9).put (some 7) v7).put (some 10) v10).put (some 11) v11).eval (.tmp 8)=.int .i64 (l:Int):=λ{v2 v3 v4 v5 v9 v7 v10 v11}=>by
  rw[au _ (by decide),au _ (by decide),au _ (by decide),au _ (by decide),au _ (by decide),au _ (by decide)]
  exact aH 8 _ (by simp only[aI];omega)
 obtain⟨hnil0,h13⟩:=h11.Ri (t:=pa.isNone) (s:=decide ((l:Int)>0)) (by
  rw[au _ (by decide),au _ (by decide)]
  exact aH 7 _ (by simp only[aI];omega)) (by
  rw[au _ (by decide)]
  exact aH 10 _ (by simp only[aI];omega)) q8
 have hnil:pa=none->l=0:=λe=>by
  have:=of_decide_eq_false (hnil0 (by rw[e];rfl))
  omega
 have h14:=h13.seq.block.loop
 rw[hp] at hv
 obtain⟨pa',_,Gc⟩:=aJ.1 hv
 have pass:∀ {x:Nat} {v2 v3 v8 v4 v5 v9 v7 v10 v11:Value},x≠11->x≠10->x≠7->x≠9->x≠5->x≠4->x≠8->x≠3->x≠2->(((((((((a.put (some 2) v2).put (some 3) v3).put (some 8) v8).put (some 4) v4).put (some 5) v5).put (some 9) v9).put (some 7) v7).put (some 10) v10).put (some 11) v11).eval (.tmp x)=a.eval (.tmp x):=λn1 n2 n3 n4 n5 n6 n7 n8 n9=>by
  rw[au _ n1,au _ n2,au _ n3,au _ n4,au _ n5,au _ n6,au _ n7,au _ n8,au _ n9]
 have:=KG (nv:=nv) (c:=c) hw (Gc.elim .inr λx=>.inl x.1) hnil (by omega) l 0 (by omega) _ ⟨by simp only[aI];exact sz,((pass (by decide) (by decide) (by decide) (by decide) (by decide) (by decide) (by decide) (by decide) (by decide)).trans hs.s0).trans hp,(pass (by decide) (by decide) (by decide) (by decide) (by decide) (by decide) (by decide) (by decide) (by decide)).trans hs.s1⟩ q8 (aH 11 _ (by simp only[aI];omega)) h14
 exact λi hi=>this i (by omega) hi
end
end Go.Proofs.YtjlgehmebfkioaaGreatDoor
namespace Go.Proofs.YtjlgehmebfkioaaGreatDoor
open Go Go.Conc ay
variable {gh w:World}
def Fx.own(fns:Fx)(P:Program):Fx:={ fns with rf:=P.funcs,jf:=λ_=>false }
section
variable {P:Program} {fns:Fx} {Z:Nat->Prop} {E:Nat->Nat->Prop}
theorem VR.afN:∀ (n:Nat) (v v':Value),SizeOf.sizeOf v<n->VR fns E v v'->VR (fns.own P) E v v':=by
 intro n
 induction n with
 |zero=>intro v v' h;omega
 |succ n ih =>
  intro v v' hn hv
  have arr:∀ (x x':Array Value),(∀ i (h:i<x.size),SizeOf.sizeOf x[i]<n)->(x.size=x'.size/\∀ i (h:i<x.size) (h':i<x'.size),VR fns E x[i] x'[i])->(x.size=x'.size/\∀ i (h:i<x.size) (h':i<x'.size),VR (fns.own P) E x[i] x'[i]):=λx x' hs h=>⟨h.1,λi a b=>ih _ _ (hs i a) (h.2 i a b)⟩
  cases v with
  |pointer a=>obtain⟨b,rfl,h⟩:=aM.1 hv;exact aM.2 ⟨b,rfl,by cases a<;>cases b<;>exact h⟩
  |slice a l c=>obtain⟨b,rfl,h⟩:=aJ.1 hv;exact aJ.2 ⟨b,rfl,h.imp (λh=>by cases a<;>cases b<;>exact h) id⟩
  |map r=>exact fE.2 (fE.1 hv)
  |chan r=>exact dI.2 (dI.1 hv)
  |func f x y =>
   obtain⟨x',y',rfl,h2,h3,h4⟩:=dz.1 hv
   refine dz.2 ⟨_,_,rfl,?_,arr _ _ (λi h=>by have:=Array.sizeOf_getElem x i h;simp at hn;omega) h3,arr _ _ (λi h=>by have:=Array.sizeOf_getElem y i h;simp at hn;omega) h4⟩
   cases f with
   |func f =>
    simp only[oH,Bool.and_eq_true] at h2
    show (fns.ok f&&!false)=true
    rw[h2.1]
    rfl
   |_=>cases h2
  |iface t u=>obtain⟨u',rfl,h⟩:=bE.1 hv;exact bE.2 ⟨_,rfl,ih _ _ (by simp at hn;omega) h⟩
  |agg x=>obtain⟨x',rfl,h⟩:=bW.1 hv;exact bW.2 ⟨_,rfl,arr _ _ (λi h=>by have:=Array.sizeOf_getElem x i h;simp at hn;omega) h⟩
  |tuple x=>obtain⟨x',rfl,h⟩:=bK.1 hv;exact bK.2 ⟨_,rfl,arr _ _ (λi h=>by have:=Array.sizeOf_getElem x i h;simp at hn;omega) h⟩
  |float=>exact(b_ hv).elim
  |complex=>exact(bO hv).elim
  |_=>rw[VR] at hv ⊢;exact hv
theorem VR.own{v v':Value}(h:VR fns E v v'):VR (fns.own P) E v v':=VR.afN (SizeOf.sizeOf v+1) v v' (by omega) h
theorem aV.own{x x':Array Value}(h:aV fns E x x'):aV (fns.own P) E x x':=⟨h.1,λi a b=>(h.2 i a b).own⟩
theorem WR.own{re:World}(h:WR P fns E Z gh re):WR P (fns.own P) E Z gh re:=by
 refine⟨h.jB,h.jK,h.j5,h.mG,h.glob,h.inj,λa b x=>?_⟩
 rcases h.cells a b x with ⟨c,c',el,fr,fr',k1,k2,k3,k4⟩|h
 .exact .inl ⟨c,c',el,fr,fr',k1,k2,⟨k3.le,k3.eq,λi g g' l=>(k3.at_ i g g' l).own⟩,k4⟩
 .exact .inr h
theorem WR.ext{re ji re':World}(h:WR P fns E Z gh re)(h1:∀ a b,E a b->ji.heap[a]?=gh.heap[a]?)(h2:∀ a b,E a b->re'.heap[b]?=re.heap[b]?)(h3:gh.heap.size<=ji.heap.size)(h4:re.heap.size<=re'.heap.size):WR P fns E Z ji re' :=
 ⟨λa x=>Nat.lt_of_lt_of_le (h.jB a x) h3,h.jK,Nat.lt_of_lt_of_le h.j5 h3,Nat.lt_of_lt_of_le h.mG h4,h.glob,h.inj,λa b x=>by rw[h1 a b x,h2 a b x];exact h.cells a b x⟩
theorem WR.row{re:World}{A B:Nat}{c:Array Value}{el:TypeId}(h:WR P fns E Z gh re)(nZ:¬Z A)(hA:gh.heap[A]?=some (.cells c el (0,0)))(hB:re.heap[B]?=some (.cells c el (0,0)))(nA:∀ a b,E a b->a≠A)(nB:∀ a b,E a b->b≠B)(gA:P.globals.size<A)(gB:P.globals.size<B)(hc:c.all scalar=true):WR P fns (λa b=>E a b\/(a=A/\b=B)) Z gh re:=by
 refine⟨h.jB,h.jK,h.j5,h.mG,λa b x=>?_,λa b a' b' x y=>?_,λa b x=>?_⟩
 .rcases x with x|⟨rfl,rfl⟩
  .exact h.glob a b x
  .intro z;omega
 .rcases x with x|⟨rfl,rfl⟩<;>rcases y with y|⟨rfl,rfl⟩
  .exact h.inj a b a' b' x y
  .exact⟨λe=>(nA a b x e).elim,λe=>(nB a b x e).elim⟩
  .exact⟨λe=>(nA a' b' y e.symm).elim,λe=>(nB a' b' y e.symm).elim⟩
  .exact⟨λ_=>rfl,λ_ _=>rfl⟩
 .rcases x with x|⟨rfl,rfl⟩
  .rcases h.cells a b x with ⟨c,c',el,fr,fr',k1,k2,k3,k4⟩|⟨x,x',l,k1,k2,k3⟩
   .exact .inl ⟨c,c',el,fr,fr',k1,k2,k3.up λ_ _ z=>.inl z,k4⟩
   .exact .inr ⟨x,x',l,k1,k2,k3.up λ_ _ z=>.inl z⟩
  .exact .inl ⟨c,c,el,(0,0),(0,0),hA,hB,CR.of (nN hc),λ_=>rfl,λz=>(nZ z).elim⟩
end
theorem cell_spot{ad:Addr}{v:Value}(h:w.cell? ad=some v):ad.spot=none:=by
 unfold World.cell? at h
 split at h
 .split at h
  .cases h
  .rename_i hs
   cases hp:ad.spot with
   |none=>rfl
   |some s=>rw[hp] at hs;simp at hs
 .cases h
theorem Gd{ad:Addr}(h:ad.spot=none)(n:Nat):ad.add n=⟨ad.block,ad.off+n,none⟩:=by
 unfold Addr.add
 split
 .rename_i e;subst e;cases ad;simp only at h;subst h;rfl
 .rfl
theorem Vz.list{ha:Option Addr}{hl hc:Nat}(h:Vz w ha hl hc):∃ p:List Nat,p.length=hl/\aW p/\aj.bN w ha p:=by
 have hx:∀ j:Nat,∃ z:Nat,j<hl->z<256/\∃ bd,ha=some bd/\w.cell? (bd.add j)=some (.int .u8 (z:Int)):=λj=>by
  by_cases hj:j<hl
  .obtain⟨bd,z,e,hz,h0,h1⟩:=h.byte j hj
   refine⟨z.toNat,λ_=>⟨by omega,bd,e,?_⟩⟩
   rw[hz]
   congr 2
   omega
  .exact⟨0,λx=>absurd x hj⟩
 obtain⟨f,hf⟩:=Classical.axiomOfChoice hx
 have hget:∀ j,j<hl->((List.range hl).map f)[j]?.getD 0=f j:=λj hj=>by simp[hj]
 refine⟨(List.range hl).map f,by simp,λx hx=>?_,?_⟩
 .obtain⟨j,hj,rfl⟩:=List.mem_map.1 hx
  exact(hf j (List.mem_range.1 hj)).1
 .by_cases h0:hl=0
  .exact .inl (by rw[h0];rfl)
  .obtain⟨_,bd,e,hc0⟩:=hf 0 (by omega)
   have hsp:bd.spot=none:=cell_spot (by simpa [Addr.add] using hc0)
   refine .inr ⟨bd.block,bd.off,by rw[e];cases bd;simp only at hsp;subst hsp;rfl,λi hi=>?_⟩
   have hi':i<hl:=by simpa using hi
   obtain⟨_,bd',e',hci⟩:=hf i hi'
   rw[e] at e'
   obtain rfl:=Option.some.inj e'
   rw[hget i hi',<-hci,Gd hsp]
theorem Met.list{pa:Option Addr}{l:Nat}(h:Met w pa l):∃ L:List ah.Pg,L.length=l/\ah.SI w pa L:=by
 have hx:∀ i:Nat,∃ g:ah.Pg,i<l->∃ ad,pa=some ad/\w.cell? (ad.add i)=some (.slice g.a g.p.length g.c)/\ah.abG w g:=λi=>by
  by_cases hi:i<l
  .obtain⟨ad,ha,hl,hc,e,hcell,hm⟩:=h i hi
   obtain⟨p,hp,hall,hlies⟩:=hm.list
   refine⟨⟨ha,p,hc⟩,λ_=>⟨ad,e,by rw[hcell,hp],⟨hall,hlies,by show p.length<=hc;rw[hp];exact hm.cap,by have:=hm.most;show p.length<=_;omega⟩⟩⟩
  .exact⟨⟨none,[],0⟩,λx=>absurd x hi⟩
 obtain⟨f,hf⟩:=Classical.axiomOfChoice hx
 have hg:∀ i,i<l->ah.gP ((List.range l).map f) i=f i:=λi hi=>by simp[ah.gP,hi]
 refine⟨(List.range l).map f,by simp,?_⟩
 by_cases h0:l=0
 .exact .inl (by rw[h0];rfl)
 .obtain⟨ad,e,hc0,_⟩:=hf 0 (by omega)
  have hsp:ad.spot=none:=cell_spot (by simpa [Addr.add] using hc0)
  refine .inr ⟨ad.block,ad.off,by rw[e];cases ad;simp only at hsp;subst hsp;rfl,λi hi=>?_⟩
  have hi':i<l:=by simpa using hi
  obtain⟨zH,e',hci,hat⟩:=hf i hi'
  rw[e] at e'
  obtain rfl:=Option.some.inj e'
  rw[hg i hi']
  refine⟨?_,hat⟩
  rw[<-hci,Gd hsp]
variable {a:Array Value}
theorem vX:0<(PB prog false).depth:=of_decide_eq_true (by kernel_rfl)
abbrev Rn:Frame:={ fn:=74,tmps:=#[],todo:=[],defers:=[],mode:=.run,kind:=.normal }
theorem I_(pv nv:Value):Frame.enter (PB prog false) 74 #[pv,nv] .normal=Rn.at ⟨#[pv,nv]++Array.replicate 46 undef,[]⟩ [.code ah.Al.lg]:=by kernel_rfl
theorem rV(h:a.size=2):∃ x y,a=#[x,y]:=by
 obtain⟨l⟩:=a
 match l,h with
 | [x,y],_=>exact⟨x,y,rfl⟩
theorem Gf:((PB prog false).funcs[(74:Nat)]?).map (·.params.size)=some 2:=by kernel_rfl
theorem uP{P:Program}{fns:Fx}{f:FuncId}{n m:Nat}(hp:(P.funcs[f]?).map (·.params.size)=some m)(hj:fns.jf f=true)(h:zU P fns f n=true):n=m:=by
 unfold zU at h
 cases hf:P.funcs[f]? with
 |none=>rw[hf] at hp;cases hp
 |some fn =>
  rw[hf] at hp h
  simp only[Option.map_some,Option.some.injEq] at hp
  simp only[hj,Bool.not_true,Bool.false_or,beq_iff_eq] at h
  omega
theorem Ja(fns:Fx){n:Nat}(hj:fns.jf 74=true)(h:zU (PB prog false) fns 74 n=true):n=2:=uP Gf hj h
def Ro(gh:World)(L:List ah.Pg)(v:Value)(u:World):Prop :=
 v=.tuple #[.slice (some ⟨gh.heap.size,0,none⟩) L.length L.length,.nilIface]/\gh.heap.size<=u.heap.size/\(∀ b,b<gh.heap.size->u.heap[b]?=gh.heap[b]?) /\
  ∃ cs,u.heap[gh.heap.size]?=some (.cells cs 151 (0,0))/\cs.size=5*L.length/\∀ i,i<L.length->ah.SAt cs i (ah.gP L i).p
theorem Jb{l:Nat}{cs:Array Value}{f:Nat->List Nat}(hs:cs.size=5*l)(h:∀ i,i<l->ah.SAt cs i (f i)):cs.all scalar=true:=by
 rw[Array.all_eq_true]
 intro j hj
 have hi:=h (j/5) (by omega)
 have e:j=5*(j/5)\/j=5*(j/5)+1\/j=5*(j/5)+2\/j=5*(j/5)+3\/j=5*(j/5)+4:=by omega
 have get:∀ {v:Value},cs[j]?=some v->cs[j]=v:=λh=>by rw[Array.getElem?_eq_getElem hj] at h;exact Option.some.inj h
 rcases e with e|e|e|e|e
 .rw[get (by rw[e];exact hi.c0)];rfl
 .rw[get (by rw[e];exact hi.c1)];rfl
 .rw[get (by rw[e];exact hi.c2)];rfl
 .rw[get (by rw[e];exact hi.c3)];rfl
 .rw[get (by rw[e];exact hi.c4)];rfl
theorem Rp{l:Nat}{cs cells:Array Value}{f:Nat->List Nat}(hs:cs.size=5*l)(h:∀ i,i<l->ah.SAt cs i (f i))(hs2:cells.size=5*l)(h2:∀ i,i<l->ah.SAt cells i (f i)):cells=cs:=by
 refine Array.ext (by omega) λj h3 h4=>?_
 have a:=h (j/5) (by omega)
 have b:=h2 (j/5) (by omega)
 have e:j=5*(j/5)\/j=5*(j/5)+1\/j=5*(j/5)+2\/j=5*(j/5)+3\/j=5*(j/5)+4:=by omega
 have key:cells[j]?=cs[j]?:=by
  rcases e with e|e|e|e|e
  .rw[e,a.c0,b.c0]
  .rw[e,a.c1,b.c1]
  .rw[e,a.c2,b.c2]
  .rw[e,a.c3,b.c3]
  .rw[e,a.c4,b.c4]
 rw[Array.getElem?_eq_getElem h3,Array.getElem?_eq_getElem h4] at key
 exact Option.some.inj key
section
variable {fns:Fx} {Z:Nat->Prop} {Fin:Goroutine->World->Prop} {E:Nat->Nat->Prop} {gh w:World}
theorem nX{a':Array Value}(ha:aV fns E a a')(hgs:∀ g,fns.gl g=true->E g g/\fns.pt g=true)(hw:WR (PB prog false) fns E Z gh w):Start (PB prog false) (fns.own (PB prog false)) Z (dom E) a gh :=
 ⟨ha.dom.own,hw.dom.own,λg hg=>⟨⟨rfl,_,(hgs g hg).1⟩,(hgs g hg).2⟩,λ_ _ x=>x.1⟩
theorem Jc(hz:zeros (PB prog false) (fns.own (PB prog false)))(hp:gW (PB prog false) (fns.own (PB prog false)))(hfo:fns.ok 74=true){pa:Option Addr}{pc:Nat}{n:Int}{L:List ah.Pg}{c:Frame}{cs k:List Frame}(hcs:cs=k++[aL])(hst:Start (PB prog false) (fns.own (PB prog false)) Z (dom E) #[.slice pa L.length pc,.int .i64 n] gh)(h0:¬n<1)(h8:¬n>8)(hl:L.length<=4096)(hL:ah.SI gh pa L)
 (hR:Runs (PB prog false) true Fin (G (Frame.enter (PB prog false) 74 #[.slice pa L.length pc,.int .i64 n] .normal) (c::cs)) gh) :
 ∃ v eG,Relation.TransGen (Bf (PB prog false) true) (G (c.finish v) cs,eG) (G (Frame.enter (PB prog false) 74 #[.slice pa L.length pc,.int .i64 n] .normal) (c::cs),gh)/\Runs (PB prog false) true Fin (G (c.finish v) cs) eG/\Ro gh L v eG:=by
 have hP:∀ t d,ah.SI (eZ gh t d) pa L:=λt d=>by
  rcases hL with e|⟨b,off,e,hat⟩
  .exact .inl e
  .exact .inr ⟨b,off,e,λi hi=>⟨(hat i hi).1,⟨(hat i hi).2.all,(hat i hi).2.lies,(hat i hi).2.cap,(hat i hi).2.most⟩⟩⟩
 obtain⟨v,eG,t1,r1,u,hu,he⟩:=oV (f:=74) (Q:=λv u=>Ro gh L v u) hz vX hp hcs hfo hst (λt d=>(ah.Aq pa pc L n (eZ gh t d) h0 h8 hl (hP t d)).mono (λe w' ⟨h1,h2⟩=>⟨_,h1,rfl,h2.cO.size,h2.cO.block,h2.row⟩)) hR
 exact⟨v,eG,t1,r1,hu.1,by rw[<-he];exact hu.2.1,by rw[<-he];exact hu.2.2.1,by rw[<-he];exact hu.2.2.2⟩
theorem Bg(hz:zeros (PB prog false) (fns.own (PB prog false)))(hp:gW (PB prog false) (fns.own (PB prog false)))(hfo:fns.ok 74=true){x:Value}{c:Frame}{cs k:List Frame}(hcs:cs=k++[aL])(hst:Start (PB prog false) (fns.own (PB prog false)) Z (dom E) a gh)
 (hc:∀ t d,Calls (PB prog false) 74 a (eZ gh t d) λe w'=>e=.returned x/\w'=eZ gh t d)
 (hR:Runs (PB prog false) true Fin (G (Frame.enter (PB prog false) 74 a .normal) (c::cs)) gh) :
 ∃ eG,Relation.TransGen (Bf (PB prog false) true) (G (c.finish x) cs,eG) (G (Frame.enter (PB prog false) 74 a .normal) (c::cs),gh)/\Runs (PB prog false) true Fin (G (c.finish x) cs) eG/\eG.heap=gh.heap:=by
 obtain⟨v,eG,t1,r1,u,⟨rfl,hu⟩,he⟩:=oV (f:=74) (Q:=λv u=>v=x/\u.heap=gh.heap) hz vX hp hcs hfo hst (λt d=>(hc t d).mono (λe w' ⟨h1,h2⟩=>⟨_,h1,rfl,by rw[h2];rfl⟩)) hR
 exact⟨eG,t1,r1,by rw[<-he];exact hu⟩
end
