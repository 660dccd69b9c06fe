/- Part of the proof. -/
import Derived.Test.YthbndfpeffcigaaGreatDoorZ33
import Derived.Test.YthbndfpeffcigaaGreatDoorZ37
import Derived.Conc.LeavingOf
import Derived.Test.YthbndfpeffcigaaGreatDoorZ11
open Go.Proofs.Tryz (prog)
open Go.Proofs.ah.Al (PB)
namespace Go.Proofs.YthbndfpeffcigaaGreatDoor
open Go Go.Conc
open Go.ConcN (sumTo upd sumTo_upd upd_ne upd_same)
structure Stood(E:Nat->Nat->Prop)(Z:Nat->Prop)(S:Nat->Prop)(w w':World)(E1:Nat->Nat->Prop)(S':Nat->Prop):Prop where
 keep:∀ b,b<w.heap.size->(∀ a,E a b->Z a)->¬S b->w'.heap[b]?=w.heap[b]?
 size:w.heap.size<=w'.heap.size
 fresh:∀ a b,E1 a b->E a b\/w.heap.size<=b
 news:∀ b,S' b->S b\/w.heap.size<=b
 rest:w'.tape=w.tape/\w'.os=w.os/\w'.output=w.output
theorem Stood.refl(E:Nat->Nat->Prop)(Z S:Nat->Prop)(w:World):Stood E Z S w w E S:=⟨λ_ _ _ _=>rfl,Nat.le_refl _,λ_ _ x=>.inl x,λ_ x=>.inl x,rfl,rfl,rfl⟩
theorem Stood.trans{E E1 E2:Nat->Nat->Prop}{Z S S1 S2:Nat->Prop}{w w1 w2:World}(h:Stood E Z S w w1 E1 S1)(k:Stood E1 Z S1 w1 w2 E2 S2):Stood E Z S w w2 E2 S2:=by
 refine⟨λb hb hz hs=>?_,Nat.le_trans h.size k.size,λa b x=>?_,λb x=>?_,k.rest.1.trans h.rest.1,k.rest.2.1.trans h.rest.2.1,k.rest.2.2.trans h.rest.2.2⟩
 .have h1:=h.size
  rw[k.keep b (by omega) (λa x=>(h.fresh a b x).elim (hz a) (λy=>by omega)) (λx=>(h.news b x).elim hs (λy=>by omega)),h.keep b hb hz hs]
 .rcases k.fresh a b x with y|y
  .exact h.fresh a b y
  .exact .inr (Nat.le_trans h.size y)
 .rcases k.news b x with y|y
  .exact h.news b y
  .exact .inr (Nat.le_trans h.size y)
structure K0(v0:Nat)(o0:Option Obj)(E:Nat->Nat->Prop)(S:Nat->Prop)(w:World):Prop where
 nE:∀ a,¬E a v0
 nS:¬S v0
 pos:v0<w.heap.size
 pq:w.heap[v0]?=o0
theorem K0.stood{v0:Nat}{o0:Option Obj}{E E1:Nat->Nat->Prop}{Z S S1:Nat->Prop}{w w1:World}(h:K0 v0 o0 E S w)(k:Stood E Z S w w1 E1 S1):K0 v0 o0 E1 S1 w1 :=
 ⟨λa x=>(k.fresh a v0 x).elim (h.nE a) (λy=>by have:=h.pos;omega),λx=>(k.news v0 x).elim h.nS (λy=>by have:=h.pos;omega),Nat.lt_of_lt_of_le h.pos k.size,(k.keep v0 h.pos (λa x=>(h.nE a x).elim) h.nS).trans h.pq⟩
def JC(P:Program)(fns:Fx)(Z:Nat->Prop)(v0:Nat)(o0:Option Obj)(f:FuncId):Prop :=
 ∀ (Fin:Goroutine->World->Prop) (E:Nat->Nat->Prop) (gh w:World) (a a':Array Value) (c c':Frame) (cs cs':List Frame) (S:Nat->Prop) (gs:Array Goroutine) (d:Nat) (sl:Option (Nat × Nat)) (t:Trace) (q:Nat->Nat),
   aV fns E a a'->wP P fns f a.size=true->(∀ g,fns.gl g=true->E g g/\fns.pt g=true)->WR P fns E Z gh w->(∃ k,cs=k++[aQ])->Runs P Fin (G (Frame.enter P f a .normal) (c::cs)) gh ->
   Bx (fns.re P) S w.heap.size (G (Frame.enter (fns.re P) f a' .normal) (c'::cs')) w gs t q->(∀ a b,E a b->¬S b)->(∀ b,S b->b<w.heap.size)->K0 v0 o0 E S w ->
   ∃ (v:Value) (dW:World),Relation.TransGen (Bf P) (G (c.finish v) cs,dW) (G (Frame.enter P f a .normal) (c::cs),gh)/\Runs P Fin (G (c.finish v) cs) dW /\
     ∃ (N:Nat) (gs':Array Goroutine) (w':World) (sl':Option (Nat × Nat)) (t':Trace) (q':Nat->Nat) (S':Nat->Prop) (E1:Nat->Nat->Prop) (v':Value),
       runNT (fns.re P) N (crowd gs (w.at d) sl) t=(.next (crowd gs' w' sl'),t')/\Bx (fns.re P) S' w'.heap.size (G (c'.finish v') cs') w' gs' t' q' /\
       VR fns E1 v v'/\WR P fns E1 Z dW w'/\(∀ a b,E a b->E1 a b)/\(∀ a b,E1 a b->¬S' b)/\(∀ b,S' b->b<w'.heap.size)/\Stood E Z S w w' E1 S'
section
variable {P:Program} {fns:Fx} {Z:Nat->Prop} {Fin:Goroutine->World->Prop} {K:List Frame}
theorem Cq{v0:Nat}{o0:Option Obj}(hz:zeros P fns)(fu:0<P.depth)(hp:kU P fns)(hJ:∀ f,fns.jf f=true->JC P fns Z v0 o0 f):∀ (c:Goroutine × World),Acc (Relation.TransGen (Bf P)) c ->
 ∀ (M:Nat) (E:Nat->Nat->Prop) (S:Nat->Prop) (gs:Array Goroutine) (a:Goroutine) (w:World) (sl:Option (Nat × Nat)) (t:Trace) (q:Nat->Nat),sumTo gs.size q<=M ->
   ze P fns Z Fin K E c.1 c.2 a w->gs[0]?=some a->Leavers (fns.re P) t gs q->Past (dX S) w.heap.size t->(∀ a b,E a b->¬S b)->(∀ b,S b->b<w.heap.size)->K0 v0 o0 E S w ->
   ∃ (N:Nat) (gs':Array Goroutine) (a':Goroutine) (w':World) (sl':Option (Nat × Nat)) (t':Trace) (q':Nat->Nat) (S':Nat->Prop) (E':Nat->Nat->Prop) (g1:Goroutine) (dW:World),
     runNT (fns.re P) N (crowd gs w sl) t=(.next (crowd gs' w' sl'),t')/\gs'[0]?=some a'/\ze P fns Z Fin K E' g1 dW a' w'/\dP [aQ] g1/\Fin g1 dW /\
     Leavers (fns.re P) t' gs' q'/\Past (dX S') w'.heap.size t'/\(∀ a b,E' a b->¬S' b)/\(∀ b,S' b->b<w'.heap.size)/\(∀ a b,E a b->E' a b)/\Stood E Z S w w' E' S':=by
 intro c hacc
 induction hacc with
 |intro c _ ih =>
 intro M
 induction M using Nat.strongRecOn with
 |_ M WA =>
  intro E S gs a w sl t q hM hI h0 hL hP hS hSb Vw
  rcases hI.runs.cases with ⟨hst,hfin⟩|⟨hns,_⟩
  .exact⟨0,gs,a,w,sl,t,q,S,E,c.1,c.2,rfl,h0,hI,hst,hfin,hL,hP,hS,hSb,λ_ _ x=>x,Stood.refl _ _ _ _⟩
  have hrun:a.status=.running:=hI.gr.running
  have haw:∀ g∈gs,awake g:=by
   intro g hg
   obtain⟨i,hi,rfl⟩:=Array.mem_iff_getElem.1 hg
   rcases Nat.eq_zero_or_pos i with rfl|hpos
   .have:gs[0]=a:=by simpa [Array.getElem?_eq_getElem hi] using h0
    rw[this];exact awake_of (.inl hrun)
   .exact awake_of ((hL.old i _ hpos (Array.getElem?_eq_getElem hi)).status.elim .inl λx=>.inr (.inr x))
  obtain⟨i,g,d,sl',hi,hg,hst⟩:=crowd_pick (P:=fns.re P) (w:=w) (sl:=sl) haw ⟨0,a,h0,hrun⟩
  rcases Nat.eq_zero_or_pos i with rfl|hpos
  ·-- goroutine 0 goes as its ghost does
   obtain rfl:g=a:=by rw[h0] at hi;exact(Option.some.inj hi).symm
   rcases (hI.at d).stepJ (main:=true) hz fu hp with ⟨h1,h2⟩|⟨E1,g1,w1,g1',re',es',e1,e2,e3,e4,e5⟩
   .exact(hns h1).elim
   .have hrunT:=runT_crowd_go (P:=fns.re P) (sl:=sl') (i:=0) hi (show stepG (fns.re P) (0==0) g (w.at d)=_ from e1)
    have hsz:((gs.map (woken (fns.re P) g g1' re')).setIfInBounds 0 g1').size=gs.size:=by simp
    have hlt:0<gs.size:=(Array.getElem?_eq_some_iff.1 h0).1
    have hS1:∀ a b,E1 a b->¬S b:=λa b x hb=>by
     rcases e4.fresh a b x with y|⟨_,y⟩
     .exact hS a b y hb
     .have:=hSb b hb
      have e:(w.at d).heap.size=w.heap.size:=rfl
      omega
    have hP1:Past (dX S) re'.heap.size (t++MemOp.ofEvents 0 g.frame.fn g.frame.place es') :=
     (hP.mono e4.rsize).own λe he=>Py (e5 e he) hS1 λa b x=>(e4.wr.lt x).2
    have ZL:∀ b,S b->b<re'.heap.size:=λb hb=>Nat.lt_of_lt_of_le (hSb b hb) e4.rsize
    have hL1:Leavers (fns.re P) (t++MemOp.ofEvents 0 g.frame.fn g.frame.place es') ((gs.map (woken (fns.re P) g g1' re')).setIfInBounds 0 g1') q :=
     ⟨λj x hj hx=>by
      have hne:0≠j:=by omega
      rw[Array.getElem?_setIfInBounds_ne hne,Array.getElem?_map] at hx
      obtain⟨y,hy,rfl⟩:=Option.map_eq_some_iff.1 hx
      have hq:=hL.old j y hj hy
      rw[woken_quitsD hq,Deaf_other t (by omega) _ (λop hop=>by obtain⟨e,_,rfl⟩:=Go.Conc.mem_ofEvents hop;rfl)]
      exact hq,λj hj=>by
      rw[Deaf_other t (g':=0) (by simp at hj;omega) _ (λop hop=>by obtain⟨e,_,rfl⟩:=Go.Conc.mem_ofEvents hop;rfl)]
      exact hL.above j (by simpa using hj)⟩
    have Q_:Stood E Z S w re' E1 S:=⟨λb hb hz _=>e4.keep b hb hz,e4.rsize,λa b x=>(e4.fresh a b x).imp id λy=>y.2,λ_ x=>.inl x,e4.wR,e4.os,e4.output⟩
    rcases e3 with e3|⟨e3,hw1,hr1⟩
    .obtain⟨N,gs',a',w',sl'',t',q',S',E',g2,WB,f1,f3,f4,f5,f6,f7,f8,f9,f10,f11,f12⟩:=ih (g1,w1) (.single e2) (sumTo gs.size q) E1 S ((gs.map (woken (fns.re P) g g1' re')).setIfInBounds 0 g1') g1' re' sl' (t++MemOp.ofEvents 0 g.frame.fn g.frame.place es') q (by rw[hsz];exact Nat.le_refl _) e3 (by simp[hlt]) hL1 hP1 hS1 ZL (Vw.stood Q_)
     exact⟨N+1,gs',a',w',sl'',t',q',S',E',g2,WB,by simp only[runNT,hst,hrunT];exact f1,f3,f4,f5,f6,f7,f8,f9,f10,λa b x=>f11 a b (e4.up a b x),Q_.trans f12⟩
    ·-- a function that is taken whole
     obtain⟨f,x,x',fr,fr',L,hj,_,⟨hxx,har⟩,rfl,rfl,⟨hF,ht⟩,hLL⟩:=e3
     have hB:Bx (fns.re P) S re'.heap.size (G (Frame.enter (fns.re P) f x' .normal) (fr'::(L.map (·.2)++K))) re' _ _ q:=⟨by simp[hlt],hL1,hP1,λb hb=>mO hP1 hb⟩
     obtain⟨v,dW,tg,hr2,N,gs',w',sl'',t',q',S',E2,v',r1,hB',hv,hw2,dH,hS2,afQ,Ny⟩:=hJ f hj Fin E1 w1 re' x x' fr fr' (L.map (·.1)++[aQ]) (L.map (·.2)++K) S _ re'.drawn sl' _ q hxx har hF.gs hw1 ⟨_,rfl⟩ hr1 hB hS1 ZL (Vw.stood Q_)
     have hI2:ze P fns Z Fin K E2 (G (fr.finish v) (L.map (·.1)++[aQ])) dW (G (fr'.finish v') (L.map (·.2)++K)) w':=⟨⟨_,_,L,rfl,rfl,(hF.up dH).finish ht hv,hLL.up dH⟩,hw2,hr2⟩
     obtain⟨N2,gs2,a2,w2,sl2,t2,q2,S2,E',g2,WB,f1,f3,f4,f5,f6,f7,f8,f9,f10,f11,f12⟩:=ih (G (fr.finish v) (L.map (·.1)++[aQ]),dW) (tg.tail e2) (sumTo gs'.size q') E2 S' gs' _ w' sl'' t' q' (Nat.le_refl _) hI2 hB'.pq hB'.lv hB'.past hS2 afQ (Vw.stood (Q_.trans Ny))
     refine⟨(N+N2)+1,gs2,a2,w2,sl2,t2,q2,S2,E',g2,WB,?_,f3,f4,f5,f6,f7,f8,f9,f10,λa b x=>f11 a b (dH a b (e4.up a b x)),(Q_.trans Ny).trans f12⟩
     simp only[runNT,hst,hrunT]
     have r1':runNT (fns.re P) N (crowd ((gs.map (woken (fns.re P) g (G (Frame.enter (fns.re P) f x' .normal) (fr'::(L.map (·.2)++K))) re')).setIfInBounds 0 (G (Frame.enter (fns.re P) f x' .normal) (fr'::(L.map (·.2)++K)))) re' sl') (t++MemOp.ofEvents 0 g.frame.fn g.frame.place es')=(.next (crowd gs' w' sl''),t'):=r1
     rw[runNT_add N N2 _ _ r1']
     exact f1
  ·-- somebody slips
   have hq:=hL.old i g hpos hi
   have hi0:(i==0)=false:=by simp;omega
   have hlt:i<gs.size:=(Array.getElem?_eq_some_iff.1 hi).1
   cases hqi:q i with
   |zero=>rw[hqi] at hq;rw[hq.1] at hg;cases hg
   |succ k =>
    rw[hqi] at hq
    rcases hq with ⟨hf,_⟩|⟨_,g',es,hm,hstp,hq'⟩
    .rw[hf] at hg;cases hg
    have hrunT:=runT_crowd_go (P:=fns.re P) (sl:=sl') (i:=i) hi (by rw[hi0];exact hstp (w.at d))
    have hsz:((gs.map (woken (fns.re P) g g' (w.at d))).setIfInBounds i g').size=gs.size:=by simp
    have hsum:sumTo gs.size (upd q i k)+(k+1)=sumTo gs.size q+k:=by
     have:=sumTo_upd q k id hlt
     simpa [hqi] using this
    obtain⟨N,gs',a',w',sl'',t',q',S',E',g2,WB,f1,f3,f4,f5,f6,f7,f8,f9,f10,f11,f12⟩:=WA (sumTo gs.size (upd q i k)) (by omega) E S ((gs.map (woken (fns.re P) g g' (w.at d))).setIfInBounds i g') a (w.at d) sl' (t++MemOp.ofEvents i g.frame.fn g.frame.place es) (upd q i k) (by rw[hsz];exact Nat.le_refl _) (hI.at d)
     (by
      have hne:i≠0:=by omega
      rw[Array.getElem?_setIfInBounds_ne hne,Array.getElem?_map,h0]
      simp[woken_run hrun])
     ⟨λj x hj hx=>by
      by_cases hji:i=j
      .subst hji
       rw[Array.getElem?_setIfInBounds_self_of_lt (by simpa using hlt)] at hx
       obtain rfl:=Option.some.inj hx
       rw[upd_same,Deaf_own]
       exact hq'
      .rw[Array.getElem?_setIfInBounds_ne hji,Array.getElem?_map] at hx
       obtain⟨y,hy,rfl⟩:=Option.map_eq_some_iff.1 hx
       have hqj:=hL.old j y hj hy
       rw[woken_quitsD hqj,upd_ne q k (Ne.symm hji),Deaf_other t hji _ (λop hop=>by obtain⟨e,_,rfl⟩:=Go.Conc.mem_ofEvents hop;rfl)]
       exact hqj,λj hj=>by
      rw[Deaf_other t (g':=i) (by simp at hj;omega) _ (λop hop=>by obtain⟨e,_,rfl⟩:=Go.Conc.mem_ofEvents hop;rfl)]
      exact hL.above j (by simpa using hj)⟩
     (hP.mute (by omega) hm) hS hSb ⟨Vw.nE,Vw.nS,Vw.pos,Vw.pq⟩
    exact⟨N+1,gs',a',w',sl'',t',q',S',E',g2,WB,by simp only[runNT,hst,hrunT];exact f1,f3,f4,f5,f6,f7,f8,f9,f10,f11,⟨f12.keep,f12.size,f12.fresh,f12.news,f12.rest⟩⟩
end
end Go.Proofs.YthbndfpeffcigaaGreatDoor
namespace Go.Proofs.YthbndfpeffcigaaGreatDoor
open Go Go.Conc
variable {f:FuncId} {Q:Value->World->Prop}
def zf(P:Program)(f:FuncId)(Q:Value->World->Prop)(g:Goroutine)(w:World):Prop:=g.frame.fn=f/\xg P Q g w
theorem zf.on{P:Program}(g:Goroutine)(w:World)(t:Nat->Question->Nat)(d:Nat)(h:zf P f Q g w):zf P f Q g (eP w t d):=⟨h.1,xg.on g w t d h.2⟩
section
variable {P:Program} {fns:Fx} {Z:Nat->Prop} {K:List Frame}
theorem uF{args:Array Value}{gh:World}(hc:Cl P fns Z [aQ] (G (Frame.enter P f args .normal) [aQ]) gh)(h:∀ t d,Calls P f args (eP gh t d) (λe w'=>∃ v,e=.returned v/\Q v w')) :
 Ends P fns Z (zf P f Q) (G (Frame.enter P f args .normal) [aQ]) gh:=by
 refine⟨hc,λt d=>?_⟩
 obtain⟨e,w',fr,⟨v,rfl,hq⟩,⟨N,hN⟩,hfn,hm,hd,hk,fn,hf,hr⟩:=h t d [aQ]
 exact⟨N,fr,w',hN,⟨rfl,hm,hd⟩,hfn,fn,v,w'.tape,w'.drawn,hf,hr,hq⟩
theorem results_tmp(P:Program){fn:Func}{r:Nat}(h:fn.results=#[.tmp r])(tmps:Array Value)(w:World):(results fn tmps).run P w=.ok (tmps.getD r undef) w/\∀ es,(results fn tmps).events P w es=es:=by
 constructor
 .unfold results
  rw[h]
  simp
 .intro es
  unfold results
  rw[h]
  simp
def Like(P:Program)(fns:Fx)(Z:Nat->Prop)(E:Nat->Nat->Prop)(Q:Value->World->Prop)(v':Value)(w':World):Prop :=
 ∃ (E1:Nat->Nat->Prop) (v:Value) (gh:World),Q v gh/\VR fns E1 v v'/\WR P fns E1 Z gh w'/\∀ a b,E a b->E1 a b
theorem Vx{fn:Func}{r:Nat}{E:Nat->Nat->Prop}{g a:Goroutine}{gh w:World}(hia:o7 P f r=false)(hf:P.funcs[f]?=some fn)(hr:fn.results=#[.tmp r])(hi:(fns.re P).inits.idxOf? f=none)
 (h:ze P fns Z (zf P f Q) [] E g gh a w) (hs:dP [aQ] g) (hfin:zf P f Q g gh) :
 ∃ v',(∀ w₁:World,stepG (fns.re P) true a w₁=.ended (.done v') w₁ #[])/\Like P fns Z E Q v' w:=by
 obtain⟨fr,fr',L,rfl,rfl,hF,hL⟩:=h.gr
 have hL0:L=[]:=by
  have:=hs.1
  simp only[G] at this
  have h2:=congrArg List.length this
  simp at h2
  exact List.eq_nil_of_length_eq_zero (by simpa using h2)
 subst hL0
 have hm:fr.mode=.returning:=hs.2.1
 have hd:fr.defers=[]:=hs.2.2
 have hd':fr'.defers=[]:=by have:=hF.d;rw[hd] at this;exact this
 have hfn:fr.fn=f:=hfin.1
 obtain⟨fn2,v,t,d,ZM,hrun,hq⟩:=hfin.2
 simp only[G] at ZM hrun
 rw[hfn,hf] at ZM
 obtain rfl:=Option.some.inj ZM
 rw[(results_tmp P hr _ _).1] at hrun
 have hv:fr.tmps.getD r undef=v:=by injection hrun
 have hf':(fns.re P).funcs[fr'.fn]?=some fn:=by rw[hF.fn];exact hF.same.trans (hfn▸hf)
 have hm':fr'.mode=.returning:=hF.mode.trans hm
 have hi':(fns.re P).inits.idxOf? fr'.fn=none:=by rw[hF.fn,hfn];exact hi
 refine⟨fr'.tmps.getD r undef,λw₁=>?_,E,v,eP gh t d,hq,?_,h.wr.o9 t d,λ_ _ x=>x⟩
 .simp only[List.map_nil,List.nil_append]
  rw[lQ hm']
  unfold unwind
  simp only[hd',hm',hf',Sem.runT_eq,(results_tmp (fns.re P) hr fr'.tmps w₁).1,(results_tmp (fns.re P) hr fr'.tmps w₁).2,doReturn,hF.k',hi']
  rfl
 .rw[<-hv]
  exact hF.tmps.getD r (by rw[hfn];exact hia) iN
theorem Mi:Past (dX λ_=>False) 0 #[]:=⟨past_nil.clean,λi a h1 h2=>(past_nil.known i a h1 h2).imp id λx=>x.1.elim,past_nil.over,past_nil.hears,past_nil.seen⟩
structure Start(P:Program)(fns:Fx)(Z:Nat->Prop)(E:Nat->Nat->Prop)(args:Array Value)(w:World):Prop where
 args:aV fns E args args
 wr:WR P fns E Z w w
 gs:∀ g,fns.gl g=true->E g g/\fns.pt g=true
 id:∀ a b,E a b->a=b
theorem Km{v0:Nat}{o0:Option Obj}{Ko:Fx}{E0:Nat->Nat->Prop}(hz:zeros P fns)(hz0:zeros P Ko)(fu:0<P.depth)(hp:kU P fns)(hp0:fU P Ko)(hJ:∀ f,fns.jf f=true->JC P fns Z v0 o0 f)
 {f:FuncId} {fn:Func} {r:Nat} {gargs args:Array Value} {gh W:World} {E:Nat->Nat->Prop} {Q:Value->World->Prop}
 (hia:o7 P f r=false) (hf:P.funcs[f]?=some fn) (hr:fn.results=#[.tmp r]) (hi:(fns.re P).inits.idxOf? f=none) (hfo:fns.ok f=true) (hfj:fns.jf f=false) (afR:Ko.ok f=true)
 (hargs:aV fns E gargs args) (hwr:WR P fns E Z gh W) (hgs:∀ g,fns.gl g=true->E g g/\fns.pt g=true) (oL:Start P Ko Z E0 gargs gh) (Vw:K0 v0 o0 E (λ_=>False) W)
 (h:∀ t d,Calls P f gargs (eP gh t d) (λe w'=>∃ v,e=.returned v/\Q v w')) :
 ∃ N last o w' t',runNT (fns.re P) (N+1) (solo (G (Frame.enter (fns.re P) f args .normal) []) W) #[]=(.ended o w',t')/\runN (fns.re P) N (solo (G (Frame.enter (fns.re P) f args .normal) []) W)=.next last/\step (fns.re P) last=.ended o w' /\
   Go.Conc.Good (fns.re P) (λv' w'=>Like P fns Z E Q v' w'/\W.heap.size<=w'.heap.size/\(∀ b,b<W.heap.size->(∀ a,E a b->Z a)->w'.heap[b]?=W.heap[b]?)/\w'.tape=W.tape/\w'.os=W.os/\w'.output=W.output) last o w' t':=by
 have hF0:=FR.enter hp0.1 (hp0.1.1 f afR) (hp0.2.2 f) oL.gs oL.args
 rw[hp0.2.1] at hF0
 have hcl:Cl P Ko Z [aQ] (G (Frame.enter P f gargs .normal) [aQ]) gh:=⟨E0,oL.id,⟨_,_,[],rfl,rfl,hF0,trivial⟩,oL.wr⟩
 have uz:=(uF hcl h).runs hz0 fu hp0 (λg w t d x=>zf.on g w t d x)
 have hF:=FR.enter hp (hp.1 f hfo) hfj hgs hargs
 have hI:ze P fns Z (zf P f Q) [] E (G (Frame.enter P f gargs .normal) [aQ]) gh (G (Frame.enter (fns.re P) f args .normal) []) W:=⟨⟨_,_,[],rfl,rfl,hF,trivial⟩,hwr,uz⟩
 obtain⟨N,gs',a',w',sl',t',q',S',E',g1,dW,r1,at1,i1,st1,afS,lv1,p1,hS1,ZL,dh,ZN⟩:=Cq hz fu hp hJ _ uz.acc.transGen 0 E (λ_=>False) #[G (Frame.enter (fns.re P) f args .normal) []] _ W none #[] (λ_=>0) (by simp[Go.ConcN.sumTo]) hI rfl
  ⟨(λj x hj hx=>by
    have:(#[G (Frame.enter (fns.re P) f args .normal) []]:Array Goroutine)[j]?=none:=by simp;omega
    rw[this] at hx
    cases hx),λj _=>rfl⟩ (Mi.mono (Nat.zero_le _)) (λ_ _ _ h=>h) (λ_ h=>h.elim) Vw
 obtain⟨v',hend,adB⟩:=Vx hia hf hr hi i1 st1 afS
 have hrun':a'.status=.running:=i1.gr.running
 obtain⟨M,last,o,w2,t2,b1,b2,b3,b4⟩:=beside_ends (P:=fns.re P) (D:=λ_ _ _=>False) (Shun:=dX S') (B:=w'.heap.size) (Post:=λv' w'=>Like P fns Z E Q v' w'/\W.heap.size<=w'.heap.size/\(∀ b,b<W.heap.size->(∀ a,E a b->Z a)->w'.heap[b]?=W.heap[b]?)/\w'.tape=W.tape/\w'.os=W.os/\w'.output=W.output) (n:=0) (sl:=sl') (λ_ _ _ h=>h.elim) at1 lv1 p1
  (λw₁ hw=>⟨hrun',v',#[],hend w₁,(λe he=>by simp at he),by
   obtain⟨d,rfl⟩:=hw
   obtain⟨E1,v,gh,a1,a2,a3,a4⟩:=adB
   exact⟨⟨E1,v,gh,a1,a2,⟨a3.iO,a3.iY,a3.jG,a3.lK,a3.glob,a3.inj,a3.cells⟩,λa b x=>a4 a b (dh a b x)⟩,ZN.size,λb hb hz=>ZN.keep b hb hz (λh=>h),ZN.rest⟩⟩)
 refine⟨N+M,last,o,w2,t2,?_,?_,b3,b4⟩
 .have e:N+M+1=N+(M+1):=by omega
  rw[e]
  have:=runNT_add N (M+1) (crowd #[G (Frame.enter (fns.re P) f args .normal) []] W none) #[] r1
  exact this.trans b1
 .have h1:runN (fns.re P) N (solo (G (Frame.enter (fns.re P) f args .normal) []) W)=.next (crowd gs' w' sl'):=by
   have:=runNT_fst (fns.re P) N (crowd #[G (Frame.enter (fns.re P) f args .normal) []] W none) #[]
   rw[r1] at this
   exact this.symm
  rw[runN_add,h1]
  exact b2
end
section
variable {P:Program} {fns:Fx} {Z:Nat->Prop} {E E':Nat->Nat->Prop} {gh re f_ re':World}
theorem Out.lock(o:Out P fns E E' Z gh re f_ re')(hE:∀ a b,E a b->a=b)(hh:gh.heap=re.heap)(hzl:∀ a,Z a->a<gh.heap.size):f_.heap=re'.heap/\∀ a b,E' a b->a=b:=by
 have hs0:gh.heap.size=re.heap.size:=by rw[hh]
 have hE':∀ a b,E' a b->a=b:=by
  intro a b x
  rcases o.fresh a b x with y|⟨y1,y2⟩
  .exact hE a b y
  .have hl:=o.wr.lt x
   have hn:=o.news (a-gh.heap.size) (by omega)
   have ea:gh.heap.size+(a-gh.heap.size)=a:=by omega
   have eb:re.heap.size+(a-gh.heap.size)=a:=by omega
   rw[ea,eb] at hn
   exact((o.wr.inj _ _ _ _ x hn).1 rfl).symm
 refine⟨?_,hE'⟩
 have hsz:f_.heap.size=re'.heap.size:=by have:=o.sizes;omega
 refine EC hsz λi hi=>?_
 by_cases hx:∃ b,E' i b/\¬Z i
 .obtain⟨b,hb,hnz⟩:=hx
  obtain rfl:=hE' _ _ hb
  rcases o.wr.cells _ _ hb with ⟨c,c',el,fr,fr',k1,k2,k3,k4,_⟩|⟨x,x',l,k1,k2,k3⟩|⟨_,x,x',k1,k2,k3⟩
  .rw[k1,k2,(k3.all hnz (fns.pl _ (o.wr.iY.1 _ hnz))).eq hE',k4 hnz]
  .rw[k1,k2,k3.eq hE']
  .rw[k1,k2,k3.eq hE']
 .by_cases hlt:i<gh.heap.size
  .have hno:∀ b,E i b->Z i:=λb hb=>Classical.byContradiction λhnz=>hx ⟨b,o.up _ _ hb,hnz⟩
   rw[o.Ev i hlt hno,o.keep i (by omega) λa ha=>by obtain rfl:=hE _ _ ha;exact hno _ ha,hh]
  .have hn:=o.news (i-gh.heap.size) (by omega)
   have ea:gh.heap.size+(i-gh.heap.size)=i:=by omega
   rw[ea] at hn
   exact(hx ⟨_,hn,λhz=>hlt (hzl i hz)⟩).elim
end
section
variable {P:Program} {fns:Fx} {Z:Nat->Prop} {Fin:Goroutine->World->Prop}
theorem Runs.weak{Fin':Goroutine->World->Prop}{g:Goroutine}{w:World}(h:Runs P Fin g w)(hf:∀ g w,Fin g w->Fin' g w):Runs P Fin' g w:=λM h1 h2=>h M (λg w hs x=>h1 g w hs (hf g w x)) h2
theorem Ib(hz:zeros P fns)(fu:0<P.depth)(hp:fU P fns){f:FuncId}{Q:Value->World->Prop}{c:Frame}{cs k:List Frame}(hcs:cs=k++[aQ]):∀ (x:Goroutine × World),Acc (Bf P) x->∀ (E:Nat->Nat->Prop) (g':Goroutine) (w:World),
 ze P fns Z (zf P f Q) (c::cs) E x.1 x.2 g' w->(∀ a b,E a b->a=b)->x.2.heap=w.heap->Runs P Fin g' w ->
 ∃ v dW,Relation.TransGen (Bf P) (G (c.finish v) cs,dW) (g',w)/\Runs P Fin (G (c.finish v) cs) dW/\∃ u,Q v u/\u.heap=dW.heap:=by
 intro x hacc
 induction hacc with
 |intro x _ ih =>
 intro E g' w hI hE hh hR
 have hcall:g'.callers≠[aQ]:=by
  obtain⟨fr,fr',L,_,rfl,_,_⟩:=hI.gr
  intro h
  have:=congrArg List.length h
  simp[G,hcs] at this
  omega
 have hwo:eP w w.tape w.drawn=w:=rfl
 obtain⟨g2,w2,es2,s2,r2,b2⟩:=Ck hR hcall w.tape w.drawn
 rw[hwo] at s2
 rcases hI.step (main:=true) hz fu hp with ⟨hst,hfin⟩|⟨E',g1,w1,g1',re',es',e1,e2,e3,e4,_⟩
 .obtain⟨E1,v,v',dW,w1,es,hg1,hq,hv,hs,hout,_⟩:=JU (main:=true) (Q:=Q) ⟨hI.gr,hI.wr,hI.runs.weak λ_ _ x=>x.2⟩ hst hfin.2
  rw[hp.2.1,s2] at hs
  obtain⟨rfl,rfl,_⟩:=GStep.go.inj hs
  obtain⟨l1,l2⟩:=hout.lock hE (hg1.trans hh) (by rw[hg1];exact hI.wr.iO)
  obtain rfl:=hv.eq l2
  exact⟨v',w2,.single b2,r2,dW,hq,l1⟩
 .rw[s2] at e1
  obtain⟨rfl,rfl,_⟩:=GStep.go.inj e1
  obtain⟨l1,l2⟩:=e4.lock hE hh hI.wr.iO
  obtain⟨v,dW,t1,t2,t3⟩:=ih (g1,w1) e2 E' g2 w2 e3 l2 l1 r2
  exact⟨v,dW,t1.tail b2,t2,t3⟩
theorem oJ(hz:zeros P fns)(fu:0<P.depth)(hp:fU P fns){f:FuncId}{Q:Value->World->Prop}{c:Frame}{cs k:List Frame}(hcs:cs=k++[aQ])(hfo:fns.ok f=true){a:Array Value}{gh:World}{E:Nat->Nat->Prop}(hst:Start P fns Z E a gh)
 (h:∀ t d,Calls P f a (eP gh t d) (λe w'=>∃ v,e=.returned v/\Q v w')) (hR:Runs P Fin (G (Frame.enter P f a .normal) (c::cs)) gh) :
 ∃ v dW,Relation.TransGen (Bf P) (G (c.finish v) cs,dW) (G (Frame.enter P f a .normal) (c::cs),gh)/\Runs P Fin (G (c.finish v) cs) dW/\∃ u,Q v u/\u.heap=dW.heap:=by
 have hF:=FR.enter hp.1 (hp.1.1 f hfo) (hp.2.2 f) hst.gs hst.args
 rw[hp.2.1] at hF
 have hcl:Cl P fns Z [aQ] (G (Frame.enter P f a .normal) [aQ]) gh:=⟨E,hst.id,⟨_,_,[],rfl,rfl,hF,trivial⟩,hst.wr⟩
 have uz:=(uF hcl h).runs hz fu hp (λg w t d x=>zf.on g w t d x)
 exact Ib hz fu hp hcs _ uz.acc E _ gh ⟨⟨_,_,[],rfl,rfl,hF,trivial⟩,hst.wr,uz⟩ hst.id rfl hR
end
end Go.Proofs.YthbndfpeffcigaaGreatDoor
namespace Go.Proofs.YthbndfpeffcigaaGreatDoor
open Go Go.Conc
open ah (Al.lg)
structure Vy(w:World)(ha:Option Addr)(hl hc:Nat):Prop where
 cap:hl<=hc
 most:(hl:Int)<=9223372036854775807
 byte:∀ j,j<hl->∃ bd z,ha=some bd/\w.cell? (bd.add j)=some (.int .u8 z)/\0<=z/\z<=255
def Met(w:World)(pa:Option Addr)(l:Nat):Prop:=∀ i,i<l->∃ ad ha hl hc,pa=some ad/\w.cell? (ad.add i)=some (.slice ha hl hc)/\Vy w ha hl hc
section
variable {Fin:Goroutine->World->Prop} {b:Frame} {cs:List Frame} {fns:Fx} {Z:Nat->Prop} {E:Nat->Nat->Prop} {gh re:World}
structure Sl(a:Act)(pv nv:Value):Prop where
 size:a.tmps.size=48
 s0:a.eval (.tmp 0)=pv
 s1:a.eval (.tmp 1)=nv
theorem Cu:(PB prog false).underlying 181=some (.slice 32):=by kernel_rfl
theorem Cv:(PB prog false).underlying 32=some (.slice 5):=by kernel_rfl
theorem Vz(w:World):(Go.sizeOf 32).run (PB prog false) w=.ok 1 w:=by kernel_rfl
theorem adC(w:World):(Go.sizeOf 5).run (PB prog false) w=.ok 1 w:=by kernel_rfl
theorem VA(w:World):(isAgg 32).run (PB prog false) w=.ok false w:=by kernel_rfl
theorem adD(w:World):(isAgg 5).run (PB prog false) w=.ok false w:=by kernel_rfl
abbrev Ra:Code:=match Al.lg with
 | .seq _ (.seq _ (.seq _ (.seq _ (.seq _ (.seq (.block _ (.loop (.seq _ (.seq _ (.seq (.block _ (.seq _ (.seq _ (.seq _ (.seq _ (.block _ (.loop x))))))) _))))) _)))))=>x
 |x=>x
abbrev J5:Code:=match Al.lg with
 | .seq _ (.seq _ (.seq _ (.seq _ (.seq _ (.seq (.block _ (.loop x)) _)))))=>x
 |x=>x
theorem Rb{ha:Option Addr}{ha':Option Addr}{hl hc i l:Nat}{k:List Item}{pv nv:Value}(hw:WR (PB prog false) fns E Z gh re)(EM:hl=0\/OS fns E ha ha')(hn:ha=none->hl=0)(hm:(hl:Int)<=9223372036854775807):∀ (r j:Nat),j+r=hl->∀ (a:Act),Sl a pv nv->a.eval (.tmp 8)=.int .i64 (l:Int)->a.eval (.tmp 11)=.int .i64 (i:Int)->a.eval (.tmp 14)=.slice ha hl hc->a.eval (.tmp 16)=.int .i64 (hl:Int)->a.eval (.tmp 17)=.int .i64 (j:Int) ->
 RT (PB prog false) Fin b cs a (.code Ra::.inLoop Ra::.inBlock 2::k) gh ->
 (∀ j',j<=j'->j'<hl->∃ bd z,ha=some bd/\gh.cell? (bd.add j')=some (.int .u8 z)/\0<=z/\z<=255)/\∃ a',Sl a' pv nv/\a'.eval (.tmp 8)=.int .i64 (l:Int)/\a'.eval (.tmp 11)=.int .i64 (i:Int)/\RT (PB prog false) Fin b cs a' k gh
 |0,j,e,a,hs,h8,h11,h14,h16,ZO,h=>by
  obtain rfl:j=hl:=by omega
  refine⟨λj' h1 h2=>by omega,?_⟩
  obtain⟨n,hn1,h1⟩:=h.seq.region.lss (d:=18) rfl h16
  rw[ZO] at hn1
  obtain rfl:(j:Int)=n:=by injection hn1
  have hd:decide ((j:Int)<(j:Int))=false:=by simp
  rw[hd] at h1
  have sz:=hs.size
  have h2:=h1.over.seq.cond (t:=false) (aI 18 _ (by omega))
  have h3:=h2.exit (k':=k) rfl
  exact⟨_,⟨by rw[aM];exact sz,by rw[aA _ (by decide)];exact hs.s0,by rw[aA _ (by decide)];exact hs.s1⟩,by rw[aA _ (by decide)];exact h8,by rw[aA _ (by decide)];exact h11,h3⟩
 |r+1,j,e,a,hs,h8,h11,h14,h16,ZO,h=>by
  have sz:=hs.size
  obtain⟨n,hn1,h1⟩:=h.seq.region.lss (d:=18) rfl h16
  rw[ZO] at hn1
  obtain rfl:(j:Int)=n:=by injection hn1
  have hd:decide ((j:Int)<(hl:Int))=true:=by simp;omega
  rw[hd] at h1
  have h2:=h1.over.seq.cond (t:=true) (aI 18 _ (by omega))
  have h3:=h2.skip.seq.block.seq.region
  obtain⟨ad,rfl⟩:∃ ad,ha=some ad:=by
   cases ha with
   |none=>have:=hn rfl;omega
   |some ad=>exact⟨ad,rfl⟩
  obtain⟨yQ,rfl,CJ⟩:=dO.1 (EM.resolve_left (by omega))
  have h4:=h3.idx (d:=19) (n:=j) Cv adC rfl (by rw[aA _ (by decide)];exact h14) (by rw[aA _ (by decide)];exact ZO) (by omega)
  obtain⟨v,hv,h5⟩:=h4.load (d:=20) adD hw (CJ.add j) rfl (aI 19 _ (by rw[aM];omega))
  obtain⟨z,hz,h6⟩:=h5.gtr (d:=44) (ik:=.u8) (m:=255) rfl rfl
  rw[aI 20 _ (by rw[aM,aM];omega)] at hz
  subst hz
  obtain⟨z',hz,h7⟩:=h6.lss (d:=45) (ik:=.u8) (m:=0) rfl rfl
  rw[aA _ (by decide),aI 20 _ (by rw[aM,aM];omega)] at hz
  obtain rfl:z=z':=by injection hz
  have h8':=h7.over.seq
  have afT:∀ v v',((((((a.put (some 18) (.bool true)).put (some 19) v).put (some 20) (.int .u8 z)).put (some 44) (.bool (decide (z>255)))).put (some 45) v')).eval (.tmp 44)=.bool (decide (z>255)):=λv v'=>by
   rw[aA _ (by decide),aI 44 _ (by simp only[aM];omega)]
  have h9:=h8'.cond (afT _ _)
  have c1:decide (z>255)=false:=by
   by_cases hc1:z>255
   .rw[decide_eq_true hc1] at h9
    exact(h9.stuck (ik:=.u8) (n:=z) (by simp only[aA _ (show (20:Nat)≠45 by decide),aA _ (show (20:Nat)≠44 by decide)];exact aI 20 _ (by simp only[aM];omega))).elim
   .simpa using hc1
  rw[c1] at h9
  have h10:=h9.skip.cond (aI 45 _ (by simp only[aM];omega))
  have c2:decide (z<0)=false:=by
   by_cases hc2:z<0
   .rw[decide_eq_true hc2] at h10
    exact(h10.stuck (ik:=.u8) (n:=z) (by simp only[aA _ (show (20:Nat)≠45 by decide),aA _ (show (20:Nat)≠44 by decide)];exact aI 20 _ (by simp only[aM];omega))).elim
   .simpa using hc2
  rw[c2] at h10
  have hz0:0<=z/\z<=255:=by
   have a1:=of_decide_eq_false c1
   have a2:=of_decide_eq_false c2
   omega
  have ZP:=h10.skip.inBlock.region
  have q17:∀ v1 v2 v3 v4 v5,((((((a.put (some 18) v1).put (some 19) v2).put (some 20) v3).put (some 44) v4).put (some 45) v5)).eval (.tmp 17)=.int .i64 (j:Int):=λv1 v2 v3 v4 v5=>by simp only[aA _ (show (17:Nat)≠45 by decide),aA _ (show (17:Nat)≠44 by decide),aA _ (show (17:Nat)≠20 by decide),aA _ (show (17:Nat)≠19 by decide),aA _ (show (17:Nat)≠18 by decide)];exact ZO
  have h12:=ZP.add (d:=46) (m:=1) rfl (q17 _ _ _ _ _) rfl
  have hwrap:IntKind.i64.wrap ((j:Int)+1)=((j+1:Nat):Int):=by rw[IntKind.wrap_i64];omega
  rw[hwrap] at h12
  have h13:=(h12.move (d:=17) rfl).over.inLoop
  rw[aI 46 _ (by simp only[aM];omega)] at h13
  have pass:∀ {x:Nat} {v1 v2 v3 v4 v5 v6 v7:Value},x≠17->x≠46->x≠45->x≠44->x≠20->x≠19->x≠18->((((((((a.put (some 18) v1).put (some 19) v2).put (some 20) v3).put (some 44) v4).put (some 45) v5).put (some 46) v6).put (some 17) v7)).eval (.tmp x)=a.eval (.tmp x):=λn1 n2 n3 n4 n5 n6 n7=>by
   rw[aA _ n1,aA _ n2,aA _ n3,aA _ n4,aA _ n5,aA _ n6,aA _ n7]
  obtain⟨k1,k2⟩:=Rb hw (.inr (dO.2 ⟨yQ,rfl,CJ⟩)) hn hm r (j+1) (by omega) _ ⟨by simp only[aM];exact sz,(pass (by decide) (by decide) (by decide) (by decide) (by decide) (by decide) (by decide)).trans hs.s0,(pass (by decide) (by decide) (by decide) (by decide) (by decide) (by decide) (by decide)).trans hs.s1⟩
   ((pass (by decide) (by decide) (by decide) (by decide) (by decide) (by decide) (by decide)).trans h8) ((pass (by decide) (by decide) (by decide) (by decide) (by decide) (by decide) (by decide)).trans h11) ((pass (by decide) (by decide) (by decide) (by decide) (by decide) (by decide) (by decide)).trans h14) ((pass (by decide) (by decide) (by decide) (by decide) (by decide) (by decide) (by decide)).trans h16) (aI 17 _ (by simp only[aM];omega)) h13
  refine⟨λj' g1 g2=>?_,k2⟩
  by_cases hj:j'=j
  .subst hj
   exact⟨ad,z,rfl,hv,hz0⟩
  .exact k1 j' (by omega) g2
end
section
variable {Fin:Goroutine->World->Prop} {b:Frame} {cs:List Frame} {fns:Fx} {Z:Nat->Prop} {E:Nat->Nat->Prop} {gh re:World}
theorem J6{pa pa':Option Addr}{l c:Nat}{k:List Item}{nv:Value}(hw:WR (PB prog false) fns E Z gh re)(EM:l=0\/OS fns E pa pa')(hn:pa=none->l=0)(hm:l<=4096):∀ (r i:Nat),i+r=l->∀ (a:Act),Sl a (.slice pa l c) nv->a.eval (.tmp 8)=.int .i64 (l:Int)->a.eval (.tmp 11)=.int .i64 (i:Int) ->
 RT (PB prog false) Fin b cs a (.code J5::.inLoop J5::.inBlock 0::k) gh ->
 ∀ i',i<=i'->i'<l->∃ ad ha hl hc,pa=some ad/\gh.cell? (ad.add i')=some (.slice ha hl hc)/\Vy gh ha hl hc
 |0,i,e,a,hs,h8,h11,h=>λi' h1 h2=>by omega
 |r+1,i,e,a,hs,h8,h11,h=>by
  have sz:=hs.size
  obtain⟨n,hn1,h1⟩:=h.seq.region.lss (d:=12) rfl h8
  rw[h11] at hn1
  obtain rfl:(i:Int)=n:=by injection hn1
  have hd:decide ((i:Int)<(l:Int))=true:=by simp;omega
  rw[hd] at h1
  have h2:=h1.over.seq.cond (t:=true) (aI 12 _ (by omega))
  have h3:=h2.skip.seq.block.seq.region
  obtain⟨ad,rfl⟩:∃ ad,pa=some ad:=by
   cases pa with
   |none=>have:=hn rfl;omega
   |some ad=>exact⟨ad,rfl⟩
  obtain⟨yQ,rfl,CJ⟩:=dO.1 (EM.resolve_left (by omega))
  have h4:=h3.idx (d:=13) (n:=i) Cu Vz rfl (by rw[aA _ (by decide)];exact hs.s0) (by rw[aA _ (by decide)];exact h11) (by omega)
  obtain⟨v,hv,h5⟩:=h4.load (d:=14) VA hw (CJ.add i) rfl (aI 13 _ (by rw[aM];omega))
  obtain⟨ha,hl,hc,hve,h6⟩:=h5.len (d:=16) Cv rfl
  rw[aI 14 _ (by simp only[aM];omega)] at hve
  subst hve
  obtain⟨v',_,hvr⟩:=hw.cell (CJ.add i) hv
  obtain⟨ha',rfl,afU⟩:=aO.1 hvr
  have h7:=h6.WL (d:=15) (pa:=ha) (l:=hl) (c:=hc) Cv rfl (by rw[aA _ (by decide)];exact aI 14 _ (by simp only[aM];omega))
  obtain⟨n1,e1,h8'⟩:=h7.gtr (d:=21) (ik:=.i64) (m:=0) rfl rfl
  rw[aA _ (by decide),aI 16 _ (by simp only[aM];omega)] at e1
  obtain rfl:(hl:Int)=n1:=by injection e1
  have h9:=h8'.cap (d:=22) (pa:=ha) (l:=hl) (c:=hc) Cv rfl (by rw[aA _ (by decide),aA _ (by decide),aA _ (by decide)];exact aI 14 _ (by simp only[aM];omega))
  obtain⟨n2,e2,h10⟩:=h9.gtr (d:=23) (ik:=.i64) (m:=(hc:Int)) rfl (aI 22 _ (by simp only[aM];omega))
  rw[aA _ (by decide),aA _ (by decide),aA _ (by decide),aI 16 _ (by simp only[aM];omega)] at e2
  obtain rfl:(hl:Int)=n2:=by injection e2
  obtain⟨n3,e3,ZP⟩:=h10.gtr (d:=24) (ik:=.i64) (m:=9223372036854775807) rfl rfl
  rw[aA _ (by decide),aA _ (by decide),aA _ (by decide),aA _ (by decide),aI 16 _ (by simp only[aM];omega)] at e3
  obtain rfl:(hl:Int)=n3:=by injection e3
  have h12:=(ZP.move (d:=17) rfl).over.seq
  have q16:∀ {v12 v13 v14 v15 v21 v22 v23 v24 v17:Value},(((((((((((a.put (some 12) v12).put (some 13) v13).put (some 14) v14).put (some 16) (.int .i64 (hl:Int))).put (some 15) v15).put (some 21) v21).put (some 22) v22).put (some 23) v23).put (some 24) v24).put (some 17) v17)).eval (.tmp 16)=.int .i64 (hl:Int):=λ{v12 v13 v14 v15 v21 v22 v23 v24 v17}=>by
   rw[aA _ (by decide),aA _ (by decide),aA _ (by decide),aA _ (by decide),aA _ (by decide),aA _ (by decide)]
   exact aI 16 _ (by simp only[aM];omega)
  -- nil with bytes
  obtain⟨hnil0,h15⟩:=h12.Q9 (t:=ha.isNone) (s:=decide ((hl:Int)>0)) (by
   rw[aA _ (by decide),aA _ (by decide),aA _ (by decide),aA _ (by decide),aA _ (by decide)]
   exact aI 15 _ (by simp only[aM];omega)) (by
   rw[aA _ (by decide),aA _ (by decide),aA _ (by decide),aA _ (by decide)]
   exact aI 21 _ (by simp only[aM];omega)) q16
  have hnil:ha=none->hl=0:=λe=>by
   have:=of_decide_eq_false (hnil0 (by rw[e];rfl))
   omega
  obtain⟨hcap0,h16⟩:=h15.seq.Cm (t:=decide ((hl:Int)>(hc:Int))) (by
   rw[aA _ (by decide),aA _ (by decide)]
   exact aI 23 _ (by simp only[aM];omega)) q16
  have hcap:=of_decide_eq_false hcap0
  obtain⟨ZQ,ZO⟩:=h16.seq.Cm (t:=decide ((hl:Int)>9223372036854775807)) (by
   rw[aA _ (by decide)]
   exact aI 24 _ (by simp only[aM];omega)) q16
  have ag6:=of_decide_eq_false ZQ
  have h18:=ZO.block.loop
  have pass:∀ {x:Nat} {v12 v13 v14 v16 v15 v21 v22 v23 v24 v17:Value},x≠17->x≠24->x≠23->x≠22->x≠21->x≠15->x≠16->x≠14->x≠13->x≠12->(((((((((((a.put (some 12) v12).put (some 13) v13).put (some 14) v14).put (some 16) v16).put (some 15) v15).put (some 21) v21).put (some 22) v22).put (some 23) v23).put (some 24) v24).put (some 17) v17)).eval (.tmp x)=a.eval (.tmp x):=λn1 n2 n3 n4 n5 n6 n7 n8 n9 n10=>by
   rw[aA _ n1,aA _ n2,aA _ n3,aA _ n4,aA _ n5,aA _ n6,aA _ n7,aA _ n8,aA _ n9,aA _ n10]
  obtain⟨k1,a',hs',g8,g11,h19⟩:=Rb (l:=l) (i:=i) hw (afU.elim .inr λx=>.inl x.1) hnil (by omega) hl 0 (by omega) _ ⟨by simp only[aM];exact sz,(pass (by decide) (by decide) (by decide) (by decide) (by decide) (by decide) (by decide) (by decide) (by decide) (by decide)).trans hs.s0,(pass (by decide) (by decide) (by decide) (by decide) (by decide) (by decide) (by decide) (by decide) (by decide) (by decide)).trans hs.s1⟩
   ((pass (by decide) (by decide) (by decide) (by decide) (by decide) (by decide) (by decide) (by decide) (by decide) (by decide)).trans h8) ((pass (by decide) (by decide) (by decide) (by decide) (by decide) (by decide) (by decide) (by decide) (by decide) (by decide)).trans h11)
   (by
    rw[aA _ (show (14:Nat)≠17 by decide),aA _ (show (14:Nat)≠24 by decide),aA _ (show (14:Nat)≠23 by decide),aA _ (show (14:Nat)≠22 by decide),aA _ (show (14:Nat)≠21 by decide),aA _ (show (14:Nat)≠15 by decide),aA _ (show (14:Nat)≠16 by decide),aI 14 _ (by simp only[aM];omega)]) q16 (aI 17 _ (by simp only[aM];omega)) h18
  have h20:=h19.inBlock.region
  have h21:=h20.add (d:=47) (m:=1) rfl g11 rfl
  have hwrap:IntKind.i64.wrap ((i:Int)+1)=((i+1:Nat):Int):=by rw[IntKind.wrap_i64];omega
  rw[hwrap] at h21
  have h22:=(h21.move (d:=11) rfl).over.inLoop
  have sz':=hs'.size
  rw[aI 47 _ (by omega)] at h22
  have ih:=J6 (nv:=nv) (c:=c) hw (.inr (dO.2 ⟨yQ,rfl,CJ⟩)) hn hm r (i+1) (by omega) _ ⟨by simp only[aM];exact sz',by rw[aA _ (by decide),aA _ (by decide)];exact hs'.s0,by rw[aA _ (by decide),aA _ (by decide)];exact hs'.s1⟩ (by rw[aA _ (by decide),aA _ (by decide)];exact g8) (aI 11 _ (by rw[aM];omega)) h22
  intro i' g1 g2
  by_cases hi:i'=i
  .subst hi
   exact⟨ad,ha,hl,hc,rfl,hv,⟨by omega,by omega,λj hj=>k1 j (by omega) hj⟩⟩
  .exact ih i' (by omega) g2
theorem Rf{pv pv' nv:Value}{a:Act}{k:List Item}(hw:WR (PB prog false) fns E Z gh re)(hv:VR fns E pv pv')(hs:Sl a pv nv)(h:RT (PB prog false) Fin b cs a (.code Al.lg::k) gh) :
 ∃ n pa l c,nv=.int .i64 n/\pv=.slice pa l c/\((n<1\/n>8)\/(¬n<1/\¬n>8/\(4096<l\/(l<=4096/\Met gh pa l)))):=by
 have sz:=hs.size
 have h1:=(h.seq.region.assign (d:=2) rfl).assign (d:=3) rfl
 obtain⟨pa,l,c,hp,h1'⟩:=h1.len (d:=8) Cu rfl
 rw[aA _ (by decide),aA _ (by decide),hs.s0] at hp
 obtain⟨n,hn,h2⟩:=h1'.over.seq.seq.region.lss (d:=4) (ik:=.i64) (m:=1) rfl rfl
 rw[aA _ (by decide),aA _ (by decide),aA _ (by decide),hs.s1] at hn
 refine⟨n,pa,l,c,hn,hp,?_⟩
 by_cases hlo:n<1
 .exact .inl (.inl hlo)
 rw[decide_eq_false hlo] at h2
 have h3:=(h2.over.cond (t:=false) (aI 4 _ (by simp only[aM];omega))).skip.seq.seq.region
 obtain⟨n',hn',h4⟩:=h3.gtr (d:=5) (ik:=.i64) (m:=8) rfl rfl
 rw[aA _ (by decide),aA _ (by decide),aA _ (by decide),aA _ (by decide),hs.s1,hn] at hn'
 obtain rfl:n=n':=by injection hn'
 by_cases hhi:n>8
 .exact .inl (.inr hhi)
 refine .inr ⟨hlo,hhi,?_⟩
 rw[decide_eq_false hhi] at h4
 have h5:=(h4.over.cond (t:=false) (aI 5 _ (by simp only[aM];omega))).skip.seq.seq.region
 obtain⟨m,hm,h7⟩:=h5.gtr (d:=9) (ik:=.i64) (m:=4096) rfl rfl
 rw[aA _ (by decide),aA _ (by decide),aI 8 _ (by simp only[aM];omega)] at hm
 obtain rfl:(l:Int)=m:=by injection hm
 by_cases hbig:(l:Int)>4096
 .exact .inl (by omega)
 rw[decide_eq_false hbig] at h7
 refine .inr ⟨by omega,?_⟩
 have h8:=(h7.over.cond (t:=false) (aI 9 _ (by simp only[aM];omega))).skip.seq.seq.region
 have h9:=h8.WL (d:=7) (pa:=pa) (l:=l) (c:=c) Cu rfl (by rw[aA _ (by decide),aA _ (by decide),aA _ (by decide),aA _ (by decide),aA _ (by decide),aA _ (by decide),hs.s0,hp])
 obtain⟨m,hm,h10⟩:=h9.gtr (d:=10) (ik:=.i64) (m:=0) rfl rfl
 rw[aA _ (by decide),aA _ (by decide),aA _ (by decide),aA _ (by decide),aI 8 _ (by simp only[aM];omega)] at hm
 obtain rfl:(l:Int)=m:=by injection hm
 have h11:=(h10.move (d:=11) rfl).over
 have q8:∀ {v2 v3 v4 v5 v9 v7 v10 v11:Value},(((((((((a.put (some 2) v2).put (some 3) v3).put (some 8) (.int .i64 (l:Int))).put (some 4) v4).put (some 5) v5).put (some 9) v9).put (some 7) v7).put (some 10) v10).put (some 11) v11).eval (.tmp 8)=.int .i64 (l:Int):=λ{v2 v3 v4 v5 v9 v7 v10 v11}=>by
  rw[aA _ (by decide),aA _ (by decide),aA _ (by decide),aA _ (by decide),aA _ (by decide),aA _ (by decide)]
  exact aI 8 _ (by simp only[aM];omega)
 obtain⟨hnil0,h13⟩:=h11.Q9 (t:=pa.isNone) (s:=decide ((l:Int)>0)) (by
  rw[aA _ (by decide),aA _ (by decide)]
  exact aI 7 _ (by simp only[aM];omega)) (by
  rw[aA _ (by decide)]
  exact aI 10 _ (by simp only[aM];omega)) q8
 have hnil:pa=none->l=0:=λe=>by
  have:=of_decide_eq_false (hnil0 (by rw[e];rfl))
  omega
 have h14:=h13.seq.block.loop
 rw[hp] at hv
 obtain⟨pa',_,EM⟩:=aO.1 hv
 have pass:∀ {x:Nat} {v2 v3 v8 v4 v5 v9 v7 v10 v11:Value},x≠11->x≠10->x≠7->x≠9->x≠5->x≠4->x≠8->x≠3->x≠2->(((((((((a.put (some 2) v2).put (some 3) v3).put (some 8) v8).put (some 4) v4).put (some 5) v5).put (some 9) v9).put (some 7) v7).put (some 10) v10).put (some 11) v11).eval (.tmp x)=a.eval (.tmp x):=λn1 n2 n3 n4 n5 n6 n7 n8 n9=>by
  rw[aA _ n1,aA _ n2,aA _ n3,aA _ n4,aA _ n5,aA _ n6,aA _ n7,aA _ n8,aA _ n9]
 have:=J6 (nv:=nv) (c:=c) hw (EM.elim .inr λx=>.inl x.1) hnil (by omega) l 0 (by omega) _ ⟨by simp only[aM];exact sz,((pass (by decide) (by decide) (by decide) (by decide) (by decide) (by decide) (by decide) (by decide) (by decide)).trans hs.s0).trans hp,(pass (by decide) (by decide) (by decide) (by decide) (by decide) (by decide) (by decide) (by decide) (by decide)).trans hs.s1⟩ q8 (aI 11 _ (by simp only[aM];omega)) h14
 exact λi hi=>this i (by omega) hi
end
end Go.Proofs.YthbndfpeffcigaaGreatDoor
namespace Go.Proofs.YthbndfpeffcigaaGreatDoor
open Go Go.Conc ak
variable {ia:Nat->Bool} {gh w:World}
def Fx.own(fns:Fx)(P:Program):Fx:={ fns with rf:=P.funcs,jf:=λ_=>false }
section
variable {P:Program} {fns:Fx} {Z:Nat->Prop} {E:Nat->Nat->Prop}
theorem Ah{f:Fn}(h:mq fns f=true):mq (fns.own P) f=true:=by
 cases f with
 |func f =>
  simp only[mq,Bool.and_eq_true] at h
  show (fns.ok f&&!false)=true
  rw[h.1]
  rfl
 |method m=>exact h
 |_=>cases h
theorem VR.y7:∀ (n:Nat) (v v':Value),SizeOf.sizeOf v<n->VR fns E v v'->VR (fns.own P) E v v':=by
 intro n
 induction n with
 |zero=>intro v v' h;omega
 |succ n ih =>
  intro v v' hn hv
  have arr:∀ (x x':Array Value),(∀ i (h:i<x.size),SizeOf.sizeOf x[i]<n)->(x.size=x'.size/\∀ i (h:i<x.size) (h':i<x'.size),VR fns E x[i] x'[i])->(x.size=x'.size/\∀ i (h:i<x.size) (h':i<x'.size),VR (fns.own P) E x[i] x'[i]):=λx x' hs h=>⟨h.1,λi a b=>ih _ _ (hs i a) (h.2 i a b)⟩
  cases v with
  |pointer a=>obtain⟨b,rfl,h⟩:=aN.1 hv;exact aN.2 ⟨b,rfl,by cases a<;>cases b<;>exact h⟩
  |slice a l c=>obtain⟨b,rfl,h⟩:=aO.1 hv;exact aO.2 ⟨b,rfl,h.imp (λh=>by cases a<;>cases b<;>exact h) id⟩
  |map r=>exact dZ.2 (dZ.1 hv)
  |chan r=>exact cZ.2 (cZ.1 hv)
  |func f x y =>
   obtain⟨f',x',y',rfl,h2,h3,h4⟩:=cu.1 hv
   refine cu.2 ⟨_,_,_,rfl,h2.imp (λh=>⟨h.1,Ah h.2⟩) id,arr _ _ (λi h=>by have:=Array.sizeOf_getElem x i h;simp at hn;omega) h3,arr _ _ (λi h=>by have:=Array.sizeOf_getElem y i h;simp at hn;omega) h4⟩
  |iface t u=>obtain⟨u',rfl,h⟩:=bf.1 hv;exact bf.2 ⟨_,rfl,ih _ _ (by simp at hn;omega) h.1,h.2⟩
  |agg x=>obtain⟨x',rfl,h⟩:=bQ.1 hv;exact bQ.2 ⟨_,rfl,arr _ _ (λi h=>by have:=Array.sizeOf_getElem x i h;simp at hn;omega) h⟩
  |tuple x=>obtain⟨x',rfl,h⟩:=bq.1 hv;exact bq.2 ⟨_,rfl,arr _ _ (λi h=>by have:=Array.sizeOf_getElem x i h;simp at hn;omega) h⟩
  |float=>exact(bV hv).elim
  |complex=>exact(bL hv).elim
  |_=>rw[VR] at hv ⊢;exact hv
theorem VR.own{v v':Value}(h:VR fns E v v'):VR (fns.own P) E v v':=VR.y7 (SizeOf.sizeOf v+1) v v' (by omega) h
theorem aV.own{x x':Array Value}(h:aV fns E x x'):aV (fns.own P) E x x':=⟨h.1,λi a b=>(h.2 i a b).own⟩
theorem bK{x:Operand}(h:bP fns ia x=true):bP (fns.own P) ia x=true:=by
 cases x with
 |func f =>
  simp only[bP,Bool.and_eq_true] at h
  show (fns.ok f&&!false)=true
  rw[h.1]
  rfl
 |_=>exact h
theorem yg{x:Array Operand}(h:x.all (bP fns ia)=true):x.all (bP (fns.own P) ia)=true:=by
 rw[Array.all_eq_true] at h ⊢
 exact λi hi=>bK (h i hi)
theorem yh{x:Option Operand}(h:x.all (bP fns ia)=true):x.all (bP (fns.own P) ia)=true:=by
 cases x with
 |none=>rfl
 |some x=>exact bK h
theorem Ai{x:Array (Nat × Operand)}(h:(x.all λp=>bP fns ia p.2)=true):(x.all λp=>bP (fns.own P) ia p.2)=true:=by
 rw[Array.all_eq_true] at h ⊢
 exact λi hi=>bK (h i hi)
theorem Ic{x:Operand}(h:Er fns ia x=true):Er (fns.own P) ia x=true:=by
 cases x with
 |tmp t=>rfl
 |const v=>exact bK (ia:=ia) (x:=.const v) h
 |func f=>exact bK (ia:=ia) (x:=.func f) h
 |global g=>exact bK (ia:=ia) (x:=.global g) h
theorem ZR{f:FuncId}(h:lJ P fns f=true):lJ P (fns.own P) f=true:=by
 unfold lJ X5 at h ⊢
 show (fns.ok f&&(match P.funcs[f]? with|some fn=>fn.name != "runtime.NumGoroutine"&&fn.body.isSome|none=>false)&&_)=true
 cases hf:P.funcs[f]? with
 |none=>rw[hf] at h;simp at h
 |some fn =>
  rw[hf] at h
  simp only[Bool.and_eq_true] at h ⊢
  exact⟨⟨h.1.1,h.2.1⟩,h.2⟩
theorem Rh{t:TypeId}(h:mE P fns t=true):mE P (fns.own P) t=true:=by
 unfold mE at h ⊢
 split at h
 .simp only[Bool.and_eq_true] at h ⊢
  exact⟨⟨⟨⟨h.1.1.1.1,h.1.1.1.2⟩,h.1.1.1.2⟩,h.1.2⟩,h.1.2⟩
 .cases h
theorem ZT{t:TypeId}{y:Operand}(h:BH P fns t y=true):BH P (fns.own P) t y=true:=by
 simp only[BH,Bool.or_eq_true] at h ⊢
 rcases h with (h|h)|h
 .exact .inl (.inl h)
 .exact .inl (.inr (Rh h))
 .exact .inr h
theorem Ri{c:Call}(h:wQ P fns ia c=true):wQ P (fns.own P) ia c=true:=by
 obtain⟨ce,xs,ts⟩:=c
 simp only[wQ,Bool.and_eq_true] at h ⊢
 refine⟨yg h.1,?_⟩
 have h:=h.2
 cases ce with
 |value x =>
  cases x with
  |func f=>simp only[Bool.and_eq_true] at h ⊢;exact⟨ZR h.1,rfl⟩
  |_=>exact h
 |invoke r m=>simp only[Bool.and_eq_true] at h ⊢;exact⟨bK h.1,h.2⟩
 |builtin b=>cases b<;>first|exact h|cases h
theorem ZU{o:Op}(h:gY P fns ia o=true):gY P (fns.own P) ia o=true:=by
 cases o with
 |pick c a b=>simp only[gY,Bool.and_eq_true] at h ⊢;exact⟨⟨bK h.1.1,bK h.1.2⟩,bK h.2⟩
 |alloc t=>exact h
 |build t ps=>simp only[gY,Bool.and_eq_true] at h ⊢;exact⟨h.1,Ai h.2⟩
 |buildSlice t n ps=>simp only[gY,Bool.and_eq_true] at h ⊢;exact⟨h.1,Ai h.2⟩
 |load t x=>exact Ic h
 |store t a v=>simp only[gY,Bool.and_eq_true] at h ⊢;exact⟨Ic h.1,bK h.2⟩
 |makeSlice t a v=>simp only[gY,Bool.and_eq_true] at h ⊢;exact⟨⟨h.1.1,bK h.1.2⟩,bK h.2⟩
 |binOp op t x y ty=>simp only[gY,Bool.and_eq_true] at h ⊢;exact⟨⟨bK h.1.1,bK h.1.2⟩,ZT h.2⟩
 |convert s d x=>simp only[gY,Bool.and_eq_true] at h ⊢;exact⟨bK h.1,h.2⟩
 |slice t x lo hi mx=>simp only[gY,Bool.and_eq_true] at h ⊢;exact⟨⟨⟨bK h.1.1.1,yh h.1.1.2⟩,yh h.1.2⟩,yh h.2⟩
 |call c=>exact Ri h
 |index t x i=>simp only[gY,Bool.and_eq_true] at h ⊢;exact⟨bK h.1,bK h.2⟩
 |makeFunc fn a b=>simp only[gY,Bool.and_eq_true] at h ⊢;exact⟨⟨Ah h.1.1,yg h.1.2⟩,yg h.2⟩
 |typeAssert x xt t c=>simp only[gY,Bool.and_eq_true] at h ⊢;exact⟨⟨bK h.1.1,h.1.2⟩,h.2⟩
 |move x=>exact bK h
 |assign x=>exact bK h
 |box t x=>exact bK h
 |unOp o t x=>exact bK h
 |extract x i=>exact bK h
 |makeInterface t x=>simp only[gY,Bool.and_eq_true] at h ⊢;exact⟨bK h.1,h.2⟩
 |nilCheck x=>exact bK h
 |panic x=>exact bK h
 |field t x i=>exact bK h
 |_=>cases h
theorem Rj{o:Oper}(h:mF P fns ia o=true):mF P (fns.own P) ia o=true:=by
 unfold mF at h ⊢
 split at h
 .simp only[Bool.and_eq_true] at h ⊢;exact⟨⟨bK h.1.1,bK h.1.2⟩,h.2⟩
 .simp only[Bool.or_eq_true,Bool.and_eq_true] at h ⊢;exact h.imp bK λh=>⟨Ic h.1,h.2⟩
 .exact ZU h
theorem EN{c:Code}(h:bT P fns ia c=true):bT P (fns.own P) ia c=true:=by
 induction c with
 |region id ops d =>
  simp only[bT,Array.all_eq_true] at h ⊢
  exact λi hi=>Rj (h i hi)
 |seq a b iha ihb=>simp only[bT,Bool.and_eq_true] at h ⊢;exact⟨iha h.1,ihb h.2⟩
 |cond c a b iha ihb=>simp only[bT,Bool.and_eq_true] at h ⊢;exact⟨⟨bK h.1.1,iha h.1.2⟩,ihb h.2⟩
 |block i b ih=>exact ih h
 |loop b ih=>exact ih h
 |scope b ih=>exact ih h
 |rangeFunc f ps a b iha ihb=>simp only[bT,Bool.and_eq_true] at h ⊢;exact⟨⟨⟨h.1.1.1,bK h.1.1.2⟩,iha h.1.2⟩,ihb h.2⟩
 |_=>first|rfl|cases h
theorem BJ.own{o o':Obj}(h:BJ P fns E o o'):BJ P (fns.own P) E o o':=by
 rcases h with ⟨r,x,d,h1,h2,h3,h4⟩|h
 .exact .inl ⟨r,x,d,h1,h2,h3,h4.1,λu=>let ⟨a,b,c,e,f⟩:=h4.2 u;⟨a.own,b,⟨c.1,rfl⟩,EN e,EN f⟩⟩
 .exact .inr h
theorem WR.own{re:World}(h:WR P fns E Z gh re):WR P (fns.own P) E Z gh re:=by
 refine⟨h.iO,h.iY,h.jG,h.lK,h.glob,h.inj,λa b x=>?_⟩
 rcases h.cells a b x with ⟨c,c',el,fr,fr',k1,k2,k3,k4⟩|h|⟨hz,o,o',k1,k2,k3⟩
 .exact .inl ⟨c,c',el,fr,fr',k1,k2,⟨k3.le,k3.eq,λi g g' l=>(k3.at_ i g g' l).own⟩,k4⟩
 .exact .inr (.inl h)
 .exact .inr (.inr ⟨hz,o,o',k1,k2,k3.own⟩)
theorem WR.ext{re f_ re':World}(h:WR P fns E Z gh re)(h1:∀ a b,E a b->f_.heap[a]?=gh.heap[a]?)(h2:∀ a b,E a b->re'.heap[b]?=re.heap[b]?)(h3:gh.heap.size<=f_.heap.size)(h4:re.heap.size<=re'.heap.size):WR P fns E Z f_ re' :=
 ⟨λa x=>Nat.lt_of_lt_of_le (h.iO a x) h3,h.iY,Nat.lt_of_lt_of_le h.jG h3,Nat.lt_of_lt_of_le h.lK h4,h.glob,h.inj,λa b x=>by rw[h1 a b x,h2 a b x];exact h.cells a b x⟩
theorem WR.row{re:World}{A B:Nat}{c:Array Value}{el:TypeId}(h:WR P fns E Z gh re)(nZ:¬Z A)(hA:gh.heap[A]?=some (.cells c el (0,0)))(hB:re.heap[B]?=some (.cells c el (0,0)))(nA:∀ a b,E a b->a≠A)(nB:∀ a b,E a b->b≠B)(gA:P.globals.size<A)(gB:P.globals.size<B)(hc:c.all scalar=true):WR P fns (λa b=>E a b\/(a=A/\b=B)) Z gh re:=by
 refine⟨h.iO,h.iY,h.jG,h.lK,λa b x=>?_,λa b a' b' x y=>?_,λa b x=>?_⟩
 .rcases x with x|⟨rfl,rfl⟩
  .exact h.glob a b x
  .intro z;omega
 .rcases x with x|⟨rfl,rfl⟩<;>rcases y with y|⟨rfl,rfl⟩
  .exact h.inj a b a' b' x y
  .exact⟨λe=>(nA a b x e).elim,λe=>(nB a b x e).elim⟩
  .exact⟨λe=>(nA a' b' y e.symm).elim,λe=>(nB a' b' y e.symm).elim⟩
  .exact⟨λ_=>rfl,λ_ _=>rfl⟩
 .rcases x with x|⟨rfl,rfl⟩
  .rcases h.cells a b x with ⟨c,c',el,fr,fr',k1,k2,k3,k4⟩|⟨x,x',l,k1,k2,k3⟩|⟨hz,o,o',k1,k2,k3⟩
   .exact .inl ⟨c,c',el,fr,fr',k1,k2,k3.up λ_ _ z=>.inl z,k4⟩
   .exact .inr (.inl ⟨x,x',l,k1,k2,k3.up λ_ _ z=>.inl z⟩)
   .exact .inr (.inr ⟨hz,o,o',k1,k2,k3.up λ_ _ z=>.inl z⟩)
  .exact .inl ⟨c,c,el,(0,0),(0,0),hA,hB,CR.of (ny hc),λ_=>rfl,λz=>(nZ z).elim⟩
end
theorem cell_spot{ad:Addr}{v:Value}(h:w.cell? ad=some v):ad.spot=none:=by
 unfold World.cell? at h
 split at h
 .split at h
  .cases h
  .rename_i hs
   cases hp:ad.spot with
   |none=>rfl
   |some s=>rw[hp] at hs;simp at hs
 .cases h
theorem EO{ad:Addr}(h:ad.spot=none)(n:Nat):ad.add n=⟨ad.block,ad.off+n,none⟩:=by
 unfold Addr.add
 split
 .rename_i e;subst e;cases ad;simp only at h;subst h;rfl
 .rfl
theorem Vy.list{ha:Option Addr}{hl hc:Nat}(h:Vy w ha hl hc):∃ p:List Nat,p.length=hl/\bn p/\aj.dz w ha p:=by
 have hx:∀ j:Nat,∃ z:Nat,j<hl->z<256/\∃ bd,ha=some bd/\w.cell? (bd.add j)=some (.int .u8 (z:Int)):=λj=>by
  by_cases hj:j<hl
  .obtain⟨bd,z,e,hz,h0,h1⟩:=h.byte j hj
   refine⟨z.toNat,λ_=>⟨by omega,bd,e,?_⟩⟩
   rw[hz]
   congr 2
   omega
  .exact⟨0,λx=>absurd x hj⟩
 obtain⟨f,hf⟩:=Classical.axiomOfChoice hx
 have hget:∀ j,j<hl->((List.range hl).map f)[j]?.getD 0=f j:=λj hj=>by simp[hj]
 refine⟨(List.range hl).map f,by simp,λx hx=>?_,?_⟩
 .obtain⟨j,hj,rfl⟩:=List.mem_map.1 hx
  exact(hf j (List.mem_range.1 hj)).1
 .by_cases h0:hl=0
  .exact .inl (by rw[h0];rfl)
  .obtain⟨_,bd,e,hc0⟩:=hf 0 (by omega)
   have hsp:bd.spot=none:=cell_spot (by simpa [Addr.add] using hc0)
   refine .inr ⟨bd.block,bd.off,by rw[e];cases bd;simp only at hsp;subst hsp;rfl,λi hi=>?_⟩
   have hi':i<hl:=by simpa using hi
   obtain⟨_,bd',e',hci⟩:=hf i hi'
   rw[e] at e'
   obtain rfl:=Option.some.inj e'
   rw[hget i hi',<-hci,EO hsp]
theorem Met.list{pa:Option Addr}{l:Nat}(h:Met w pa l):∃ L:List ah.Pg,L.length=l/\ah.SL w pa L:=by
 have hx:∀ i:Nat,∃ g:ah.Pg,i<l->∃ ad,pa=some ad/\w.cell? (ad.add i)=some (.slice g.a g.p.length g.c)/\ah.abY w g:=λi=>by
  by_cases hi:i<l
  .obtain⟨ad,ha,hl,hc,e,hcell,hm⟩:=h i hi
   obtain⟨p,hp,hall,hlies⟩:=hm.list
   refine⟨⟨ha,p,hc⟩,λ_=>⟨ad,e,by rw[hcell,hp],⟨hall,hlies,by show p.length<=hc;rw[hp];exact hm.cap,by have:=hm.most;show p.length<=_;omega⟩⟩⟩
  .exact⟨⟨none,[],0⟩,λx=>absurd x hi⟩
 obtain⟨f,hf⟩:=Classical.axiomOfChoice hx
 have hg:∀ i,i<l->ah.gP ((List.range l).map f) i=f i:=λi hi=>by simp[ah.gP,hi]
 refine⟨(List.range l).map f,by simp,?_⟩
 by_cases h0:l=0
 .exact .inl (by rw[h0];rfl)
 .obtain⟨ad,e,hc0,_⟩:=hf 0 (by omega)
  have hsp:ad.spot=none:=cell_spot (by simpa [Addr.add] using hc0)
  refine .inr ⟨ad.block,ad.off,by rw[e];cases ad;simp only at hsp;subst hsp;rfl,λi hi=>?_⟩
  have hi':i<l:=by simpa using hi
  obtain⟨yQ,e',hci,hat⟩:=hf i hi'
  rw[e] at e'
  obtain rfl:=Option.some.inj e'
  rw[hg i hi']
  refine⟨?_,hat⟩
  rw[<-hci,EO hsp]
