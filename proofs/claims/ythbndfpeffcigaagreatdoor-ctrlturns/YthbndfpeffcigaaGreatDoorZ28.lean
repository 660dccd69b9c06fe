/- Part of the proof. -/
import Derived.Test.YthbndfpeffcigaaGreatDoorZ27
import Derived.KernelRfl
open Go.Proofs.Tryz (prog)
namespace Go.Proofs.YthbndfpeffcigaaGreatDoor
open Go Go.Conc
variable {g g':Goroutine}
def nx(P:Program)(main:Bool)(g:Goroutine):Goroutine:=match stepG P main g default with | .go g' _ _=>g'|_=>g
def dI(P:Program)(main:Bool):Nat->Goroutine->Goroutine
 |0,g=>g
 |n+1,g=>dI P main n (nx P main g)
def aT(P:Program)(main:Bool):Nat->Goroutine->Prop
 |0,_=>True
 |n+1,g=>(g.status=.running/\∀ w,stepG P main g w=.go (nx P main g) w #[])/\aT P main n (nx P main g)
theorem aT.step{P:Program}{main:Bool}{n:Nat}(hr:g.status=.running)(h:∀ w,stepG P main g w=.go (nx P main g) w #[])(k:aT P main n (nx P main g)):aT P main (n+1) g:=⟨⟨hr,h⟩,k⟩
theorem aT.nil{P:Program}{main:Bool}:aT P main 0 g:=trivial
variable {P:Program} {main gq:Bool} {Fz:Nat->Prop} {Ex:World->World->Prop} {O:Nat->Prop} {Stop:(Nat->Prop)->Goroutine->World->Prop} {K:World->Prop}
def CK(P:Program)(main gq:Bool)(Fz:Nat->Prop)(Ex:World->World->Prop)(Stop:(Nat->Prop)->Goroutine->World->Prop)(K:World->Prop)(O:Nat->Prop)(g:Goroutine):Prop:=∀ w,K w->Co P main gq Fz Ex Stop O g w
def LY(Fz:Nat->Prop)(Ex:World->World->Prop)(K:World->Prop)(O:Nat->Prop):Prop:=∀ w w₁,jX Fz Ex O w w₁->K w->K w₁
theorem bM(hK:LY Fz Ex K O):∀ (n:Nat) {g:Goroutine},aT P main n g->CK P main gq Fz Ex Stop K O (dI P main n g)->CK P main gq Fz Ex Stop K O g
 |0,_,_,h=>h
 |n+1,_,hp,h=>λw hw=>TT hp.1.1 hp.1.2 λw₁ r=>bM hK n hp.2 h w₁ (hK w w₁ r hw)
theorem dx(hK:LY Fz Ex K O)(hr:g.status=.running)(h:∀ w,K w->Stop O g w):CK P main gq Fz Ex Stop K O g:=λw hw=>Co.stop hr λw₁ r=>h w₁ (hK w w₁ r hw)
theorem vo(hK:LY Fz Ex K O)(hr:g.status=.running)(h:∀ w,K w->∃ g' w' es,stepG P main g w=.go g' w' es/\He O w w'/\(∀ e∈es,EvC Fz (grow O w w') e)/\(gq=true->es=#[])/\Co P main gq Fz Ex Stop (grow O w w') g' w'):CK P main gq Fz Ex Stop K O g :=
 λw hw=>Co.step hr λw₁ r=>h w₁ (hK w w₁ r hw)
theorem Ht(hK:LY Fz Ex K O)(hr:g.status=.running)(hs:∀ w,K w->stepG P main g w=.go g' w #[])(h:CK P main gq Fz Ex Stop K O g'):CK P main gq Fz Ex Stop K O g :=
 vo hK hr λw hw=>⟨g',w,#[],hs w hw,He.refl,λe he=>by simp at he,λ_=>rfl,by rw[lU];exact h w hw⟩
theorem Ud(hK:LY Fz Ex K O){es:Array Event}(hr:g.status=.running)(hs:∀ w,K w->stepG P main g w=.go g' w es)(he:∀ e∈es,EvC Fz O e)(h:CK P main false Fz Ex Stop K O g'):CK P main false Fz Ex Stop K O g :=
 vo hK hr λw hw=>⟨g',w,es,hs w hw,He.refl,λe hm=>by rw[lU];exact he e hm,λx=>(by cases x),by rw[lU];exact h w hw⟩
theorem Ue{K':World->Prop}(h:CK P main gq Fz Ex Stop K' O g)(hk:∀ w,K w->K' w):CK P main gq Fz Ex Stop K O g:=λw hw=>h w (hk w hw)
structure An where
 v:Value:=.nilFunc
 sh:Option (TypeId × Nat):=none
 b:Bool:=false
 n:Nat:=0
structure Qa where
 k:Nat
 ad:Addr:=default
 v:Value:=.nilFunc
 sy:Bool:=false
 sh:Option (TypeId × Nat):=none
 b:Bool:=false
 o:Obj:=default
 m:Mark:=default
def cellV:Value->Bool
 | .agg _ | .tuple _=>false
 |_=>true
def jl(P:Program){α:Type}:Sem α->List An->Option (α × List Qa)
 | .pure a,l=>if l.isEmpty then some (a,[]) else none
 | .load m a k,l=>(jl P (k (l.headD {}).v) l.tail).map λr=>(r.1,{ k:=0,ad:=a,v:=(l.headD {}).v,sy:=m==.atomic }::r.2)
 | .store m a v k,l=>if cellV v then(jl P k l).map λr=>(r.1,{ k:=1,ad:=a,v:=v,sy:=m==.atomic }::r.2) else none
 | .new o k,l=>(jl P (k (l.headD {}).n) l.tail).map λr=>(r.1,{ k:=4,ad:=⟨(l.headD {}).n,0,none⟩,o:=o }::r.2)
 | .shape b k,l=>(jl P (k (l.headD {}).sh) l.tail).map λr=>(r.1,{ k:=2,ad:=⟨b,0,none⟩,sh:=(l.headD {}).sh }::r.2)
 | .frozen a k,l=>(jl P (k (l.headD {}).b) l.tail).map λr=>(r.1,{ k:=3,ad:=a,b:=(l.headD {}).b }::r.2)
 | .program k,l=>jl P (k P) l
 | .mark m k,l=>(jl P k l).map λr=>(r.1,{ k:=5,m:=m }::r.2)
 | .choose q k,l=>if q.forced then jl P (k 0) l else none
 | .freeze _ _ _,_=>none
 | .getObj _ _,_=>none
 | .setObj _ _ _,_=>none
 | .sys _ _,_=>none
 | .halt _,_=>none
def eG:List Qa->World->World->Prop
 | [],w,w'=>w'=w
 |q::l,w,w' =>
  if q.k=0 then w.cell? q.ad=some q.v/\eG l w w'
  else if q.k=1 then(w.cell? q.ad).isSome=true/\w.frozen? q.ad=false/\eG l (w.setCell q.ad q.v) w'
  else if q.k=2 then w.shape? q.ad.block=q.sh/\eG l w w'
  else if q.k=3 then w.frozen? q.ad=q.b/\eG l w w'
  else if q.k=4 then w.heap.size=q.ad.block/\eG l { w with heap:=w.heap.push q.o } w'
  else eG l w w'
def Uf(q:Qa):Option Event:=if q.k=0 then some ⟨.cell q.ad,false,q.sy⟩ else if q.k=1 then some ⟨.cell q.ad,true,q.sy⟩ else if q.k=5 then some ⟨.mark q.m,false,true⟩ else none
theorem P5{α:Type}:∀ (s:Sem α) (l:List An) (x:α) (qs:List Qa) (w w':World) (es:Array Event),jl P s l=some (x,qs)->eG qs w w'->s.runT P w es=(.ok x w',es++(qs.filterMap Uf).toArray):=by
 intro s
 induction s with
 |pure a =>
  intro l x qs w w' es h hq
  simp only[jl] at h
  split at h
  .cases h
   simp only[eG] at hq
   subst hq
   simp[Sem.runT]
  .cases h
 |load m a k ih =>
  intro l x qs w w' es h hq
  simp only[jl,Option.map_eq_some_iff] at h
  obtain⟨⟨x1,q1⟩,h1,h2⟩:=h
  cases h2
  simp only[eG,if_true] at hq
  simp only[Sem.runT,hq.1]
  rw[ih _ _ _ _ _ _ _ h1 hq.2]
  simp[Uf]
 |store m a v k ih =>
  intro l x qs w w' es h hq
  simp only[jl] at h
  split at h
  .rename_i hv
   simp only[Option.map_eq_some_iff] at h
   obtain⟨⟨x1,q1⟩,h1,h2⟩:=h
   cases h2
   simp only[eG,Nat.one_ne_zero,if_false,if_true] at hq
   obtain⟨hc,hf,hq⟩:=hq
   obtain⟨u,hu⟩:=Option.isSome_iff_exists.1 hc
   have e:(Sem.store m a v k).runT P w es=k.runT P (w.setCell a v) (es.push ⟨.cell a,true,m==.atomic⟩):=by
    cases v<;>first|(cases hv;done)|(simp only[Sem.runT,hu,hf];rfl)
   rw[e,ih _ _ _ _ _ _ h1 hq]
   simp[Uf]
  .cases h
 |new o k ih =>
  intro l x qs w w' es h hq
  simp only[jl,Option.map_eq_some_iff] at h
  obtain⟨⟨x1,q1⟩,h1,h2⟩:=h
  cases h2
  simp only[eG,show ¬(4:Nat)=0 by decide,show ¬(4:Nat)=1 by decide,show ¬(4:Nat)=2 by decide,show ¬(4:Nat)=3 by decide,if_false,if_true] at hq
  simp only[Sem.runT,hq.1]
  rw[ih _ _ _ _ _ _ _ h1 hq.2]
  simp[Uf]
 |shape b k ih =>
  intro l x qs w w' es h hq
  simp only[jl,Option.map_eq_some_iff] at h
  obtain⟨⟨x1,q1⟩,h1,h2⟩:=h
  cases h2
  simp only[eG,show ¬(2:Nat)=0 by decide,show ¬(2:Nat)=1 by decide,if_false,if_true] at hq
  simp only[Sem.runT,hq.1]
  rw[ih _ _ _ _ _ _ _ h1 hq.2]
  simp[Uf]
 |frozen a k ih =>
  intro l x qs w w' es h hq
  simp only[jl,Option.map_eq_some_iff] at h
  obtain⟨⟨x1,q1⟩,h1,h2⟩:=h
  cases h2
  simp only[eG,show ¬(3:Nat)=0 by decide,show ¬(3:Nat)=1 by decide,show ¬(3:Nat)=2 by decide,if_false,if_true] at hq
  simp only[Sem.runT,hq.1]
  rw[ih _ _ _ _ _ _ _ h1 hq.2]
  simp[Uf]
 |program k ih =>
  intro l x qs w w' es h hq
  simp only[jl] at h
  simp only[Sem.runT]
  exact ih _ _ _ _ _ _ _ h hq
 |mark m k ih =>
  intro l x qs w w' es h hq
  simp only[jl,Option.map_eq_some_iff] at h
  obtain⟨⟨x1,q1⟩,h1,h2⟩:=h
  cases h2
  simp only[eG,show ¬(5:Nat)=0 by decide,show ¬(5:Nat)=1 by decide,show ¬(5:Nat)=2 by decide,show ¬(5:Nat)=3 by decide,show ¬(5:Nat)=4 by decide,if_false] at hq
  simp only[Sem.runT]
  rw[ih _ _ _ _ _ _ h1 hq]
  simp[Uf]
 |choose q k ih =>
  intro l x qs w w' es h hq
  simp only[jl] at h
  split at h
  .rename_i hf
   simp only[Sem.runT,hf,if_true]
   exact ih _ _ _ _ _ _ _ h hq
  .cases h
 |freeze=>intro l x qs w w' es h;simp[jl] at h
 |getObj=>intro l x qs w w' es h;simp[jl] at h
 |setObj=>intro l x qs w w' es h;simp[jl] at h
 |sys=>intro l x qs w w' es h;simp[jl] at h
 |halt=>intro l x qs w w' es h;simp[jl] at h
def pO(g:Goroutine):Sem Next:=match g.frame.oper? with
 |some o=>execOp g.frame.eval o
 |none=>Go.stuck ""
def P6(P:Program)(main:Bool)(g:Goroutine):Prop:=(g.frame.kind==.early)=false/\∀ w,stepG P main g w=stepG.apply P true g.frame g.callers none (pO g) w
def upon(P:Program)(g:Goroutine):Next->Option Goroutine
 | .value v=>some (G (g.frame.finish v) g.callers)
 | .skip=>some (G (g.frame.finish undef) g.callers)
 | .enter f a=>some (G (Frame.enter P f a .normal) (g.frame::g.callers))
 |_=>none
def Cc(g:Goroutine):Bool:=match g.frame.todo with
 | .call _ _ _ _::_=>false
 |_=>true
theorem Ac(h:Cc g=true)(d:Deferred)(a:Bool)(b:String)(c:Array Value)(k:List Item):g.frame.todo≠.call d a b c::k:=by
 intro e
 unfold Cc at h
 rw[e] at h
 cases h
theorem P7{w w':World}{l:List An}{x:Next}{qs:List Qa}(ha:P6 P main g)(hn:∀ d a b c k,g.frame.todo≠.call d a b c::k)(h:jl P (pO g) l=some (x,qs))(hu:upon P g x=some g')(hq:eG qs w w') :
 stepG P main g w=.go g' w' (seen P g.frame.fn (qs.filterMap Uf).toArray):=by
 rw[ha.2 w]
 unfold stepG.apply
 simp only[if_true,P5 _ _ _ _ _ _ #[] h hq,Array.empty_append,ha.1,Bool.false_eq_true,if_false]
 cases x with
 |value v =>
  simp only[upon,Option.some.injEq] at hu
  subst hu
  simp[GStep.after,G]
 |skip =>
  simp only[upon,Option.some.injEq] at hu
  subst hu
  simp[GStep.after,G]
 |enter f a =>
  simp only[upon,Option.some.injEq] at hu
  subst hu
  simp only[GStep.after,Array.append_empty,G]
  congr 2
  split
  .rename_i he
   exact absurd he (hn _ _ _ _ _)
  .rfl
 |_=>cases hu
end Go.Proofs.YthbndfpeffcigaaGreatDoor
namespace Go.Proofs.YthbndfpeffcigaaGreatDoor
open Go Go.Conc
open Go.ConcN (sumTo upd sumTo_upd upd_ne upd_same)
variable {es:Array Event}
structure Bx(P:Program)(S:Nat->Prop)(B0:Nat)(g:Goroutine)(w:World)(gs:Array Goroutine)(t:Trace)(q:Nat->Nat):Prop where
 pq:gs[0]?=some g
 lv:Leavers P t gs q
 past:Past (dX S) w.heap.size t
 nor:∀ b,B0<=b->NoRelease (sA b) t
def Bs(P:Program)(S:Nat->Prop)(B0:Nat)(g:Goroutine)(w:World)(g':Goroutine)(w':World):Prop :=
 ∀ (gs:Array Goroutine) (d:Nat) (sl:Option (Nat × Nat)) (t:Trace) (q:Nat->Nat),Bx P S B0 g w gs t q ->
   ∃ (N:Nat) (gs':Array Goroutine) (d':Nat) (sl':Option (Nat × Nat)) (t':Trace) (q':Nat->Nat),
     runNT P N (crowd gs (w.at d) sl) t=(.next (crowd gs' (w'.at d') sl'),t')/\gs'.size=gs.size/\Bx P S B0 g' w' gs' t' q'
section
variable {P:Program} {S:Nat->Prop} {B0:Nat} {g g' g'':Goroutine} {w w' w'':World}
theorem runNT_add:∀ (N M:Nat) (m:Machine) (t:Trace) {m':Machine} {t':Trace},runNT P N m t=(.next m',t')->runNT P (N+M) m t=runNT P M m' t'
 |0,M,m,t,m',t',h=>by
  simp only[runNT] at h
  cases h
  rw[Nat.zero_add]
 |N+1,M,m,t,m',t',h=>by
  rw[show N+1+M=(N+M)+1 by omega]
  simp only[runNT] at h ⊢
  split at h
  .exact runNT_add N M _ _ h
  .rename_i hx _
   cases h
   exact absurd rfl (hx _)
theorem Bs.refl:Bs P S B0 g w g w:=λgs d sl t q h=>⟨0,gs,d,sl,t,q,rfl,rfl,h⟩
theorem Bs.trans(h:Bs P S B0 g w g' w')(k:Bs P S B0 g' w' g'' w''):Bs P S B0 g w g'' w'':=λgs d sl t q hx=>by
 obtain⟨N,gs1,d1,sl1,t1,q1,a1,a2,a3⟩:=h gs d sl t q hx
 obtain⟨M,gs2,d2,sl2,t2,q2,b1,b2,b3⟩:=k gs1 d1 sl1 t1 q1 a3
 exact⟨N+M,gs2,d2,sl2,t2,q2,by rw[runNT_add N M _ _ a1];exact b1,b2.trans a2,b3⟩
theorem Ce(hrun:g.status=.running)
 (H:∀ (gs:Array Goroutine) (d:Nat) (sl:Option (Nat × Nat)) (t:Trace) (q:Nat->Nat),Bx P S B0 g w gs t q->∃ gs' d' u q',runT P (crowd gs (w.at d) sl) 0=(.next (crowd gs' (w'.at d') sl),u)/\gs'.size=gs.size/\Bx P S B0 g' w' gs' (t++u) q') :
 Bs P S B0 g w g' w':=by
 have main:∀ (M:Nat) (gs:Array Goroutine) (d:Nat) (sl:Option (Nat × Nat)) (t:Trace) (q:Nat->Nat),sumTo gs.size q<=M->Bx P S B0 g w gs t q ->
  ∃ (N:Nat) (gs':Array Goroutine) (d':Nat) (sl':Option (Nat × Nat)) (t':Trace) (q':Nat->Nat),runNT P N (crowd gs (w.at d) sl) t=(.next (crowd gs' (w'.at d') sl'),t')/\gs'.size=gs.size/\Bx P S B0 g' w' gs' t' q':=by
  intro M
  induction M using Nat.strongRecOn with
  |_ M WA =>
   intro gs d0 sl t q hM hB
   have haw:∀ x∈gs,awake x:=by
    intro x hx
    obtain⟨i,hi,rfl⟩:=Array.mem_iff_getElem.1 hx
    rcases Nat.eq_zero_or_pos i with rfl|hpos
    .have:gs[0]=g:=by simpa [Array.getElem?_eq_getElem hi] using hB.pq
     rw[this];exact awake_of (.inl hrun)
    .exact awake_of ((hB.lv.old i _ hpos (Array.getElem?_eq_getElem hi)).status.elim .inl λx=>.inr (.inr x))
   obtain⟨i,x,d,sl',hi,hg,hst⟩:=crowd_pick (P:=P) (w:=w.at d0) (sl:=sl) haw ⟨0,g,hB.pq,hrun⟩
   have hat:(w.at d0).at d=w.at d:=rfl
   rw[hat] at hst
   rcases Nat.eq_zero_or_pos i with rfl|hpos
   .obtain⟨gs',d',u,q',h1,h2,h3⟩:=H gs d sl' t q hB
    exact⟨1,gs',d',sl',t++u,q',by simp only[runNT,hst,h1],h2,h3⟩
   .have hq:=hB.lv.old i x hpos hi
    have hi0:(i==0)=false:=by simp;omega
    have hlt:i<gs.size:=(Array.getElem?_eq_some_iff.1 hi).1
    cases hqi:q i with
    |zero=>rw[hqi] at hq;rw[hq.1] at hg;cases hg
    |succ k =>
     rw[hqi] at hq
     rcases hq with ⟨hf,_⟩|⟨_,x',es,hm,hstp,hq'⟩
     .rw[hf] at hg;cases hg
     have hrunT:=runT_crowd_go (P:=P) (sl:=sl') (i:=i) hi (by rw[hi0];exact hstp (w.at d))
     have hsz:((gs.map (woken P x x' (w.at d))).setIfInBounds i x').size=gs.size:=by simp
     have hsum:sumTo gs.size (upd q i k)+(k+1)=sumTo gs.size q+k:=by
      have:=sumTo_upd q k id hlt
      simpa [hqi] using this
     obtain⟨N,gs',d',sl'',t',q',f1,f2,f3⟩:=WA (sumTo gs.size (upd q i k)) (by omega) ((gs.map (woken P x x' (w.at d))).setIfInBounds i x') d sl' (t++MemOp.ofEvents i x.frame.fn x.frame.place es) (upd q i k) (by rw[hsz];exact Nat.le_refl _)
      ⟨by
       have hne:i≠0:=by omega
       rw[Array.getElem?_setIfInBounds_ne hne,Array.getElem?_map,hB.pq]
       simp[woken_run hrun],⟨λj y hj hy=>by
       by_cases hji:i=j
       .subst hji
        rw[Array.getElem?_setIfInBounds_self_of_lt (by simpa using hlt)] at hy
        obtain rfl:=Option.some.inj hy
        rw[upd_same,Deaf_own]
        exact hq'
       .rw[Array.getElem?_setIfInBounds_ne hji,Array.getElem?_map] at hy
        obtain⟨z,hz,rfl⟩:=Option.map_eq_some_iff.1 hy
        have hqj:=hB.lv.old j z hj hz
        rw[woken_quitsD hqj,upd_ne q k (Ne.symm hji),Deaf_other t hji _ (λop hop=>by obtain⟨e,_,rfl⟩:=Go.Conc.mem_ofEvents hop;rfl)]
        exact hqj,λj hj=>by
       rw[Deaf_other t (g':=i) (by simp at hj;omega) _ (λop hop=>by obtain⟨e,_,rfl⟩:=Go.Conc.mem_ofEvents hop;rfl)]
       exact hB.lv.above j (by simpa using hj)⟩,hB.past.mute (by omega) hm,λb hb=>(hB.nor b hb).app λop hop=>by obtain⟨e,he,rfl⟩:=Go.Conc.mem_ofEvents hop;exact xk (hm e he) _⟩
     exact⟨N+1,gs',d',sl'',t',q',by simp only[runNT,hst,hrunT];exact f1,f2.trans hsz,f3⟩
 intro gs d sl t q hB
 exact main _ gs d sl t q (Nat.le_refl _) hB
theorem qR(hr:g.status=.running)(hs:∀ d,∃ d',stepG P true g (w.at d)=.go g' (w'.at d') es)(he:∀ e∈es,EvL (dX S) w'.heap.size e/\∀ a,MemAct.ofEvent e≠.mark (.release a))(hsz:w.heap.size<=w'.heap.size):Bs P S B0 g w g' w':=by
 refine Ce hr λgs d sl t q hB=>?_
 obtain⟨d',hst⟩:=hs d
 have hlt:0<gs.size:=(Array.getElem?_eq_some_iff.1 hB.pq).1
 have hrunT:=runT_crowd_go (P:=P) (sl:=sl) (i:=0) hB.pq (show stepG P (0==0) g (w.at d)=_ from hst)
 refine⟨_,d',_,q,hrunT,by simp,⟨by simp[hlt],⟨λj x hj hx=>?_,λj hj=>?_⟩,(hB.past.mono hsz).own λe h=>(he e h).1,λb hb=>(hB.nor b hb).app λop hop=>by obtain⟨e,h,rfl⟩:=Go.Conc.mem_ofEvents hop;exact(he e h).2 _⟩⟩
 .have hne:0≠j:=by omega
  rw[Array.getElem?_setIfInBounds_ne hne,Array.getElem?_map] at hx
  obtain⟨y,hy,rfl⟩:=Option.map_eq_some_iff.1 hx
  have hq:=hB.lv.old j y hj hy
  rw[woken_quitsD hq,Deaf_other t (by omega) _ (λop hop=>by obtain⟨e,_,rfl⟩:=Go.Conc.mem_ofEvents hop;rfl)]
  exact hq
 .rw[Deaf_other t (g':=0) (by simp at hj;omega) _ (λop hop=>by obtain⟨e,_,rfl⟩:=Go.Conc.mem_ofEvents hop;rfl)]
  exact hB.lv.above j (by simpa using hj)
theorem aZ:∀ (n:Nat) {g:Goroutine},aT P true n g->Bs P S B0 g w (dI P true n g) w
 |0,_,_=>Bs.refl
 |n+1,_,h=>(qR (es:=#[]) h.1.1 (λd=>⟨d,h.1.2 _⟩) (λe he=>by simp at he) (Nat.le_refl _)).trans (aZ n h.2)
theorem p8:∀ (qs:List Qa) {w w':World} (d:Nat),eG qs w w'->eG qs (w.at d) (w'.at d)
 | [],_,_,d,h=>by simp only[eG] at h ⊢;rw[h]
 |q::l,w,w',d,h=>by
  simp only[eG] at h ⊢
  split at h
  .rename_i e;rw[if_pos e];exact⟨h.1,p8 l d h.2⟩
  .rename_i e0;rw[if_neg e0]
   split at h
   .rename_i e;rw[if_pos e];exact⟨h.1,h.2.1,p8 l d h.2.2⟩
   .rename_i e1;rw[if_neg e1]
    split at h
    .rename_i e;rw[if_pos e];exact⟨h.1,p8 l d h.2⟩
    .rename_i e2;rw[if_neg e2]
     split at h
     .rename_i e;rw[if_pos e];exact⟨h.1,p8 l d h.2⟩
     .rename_i e3;rw[if_neg e3]
      split at h
      .rename_i e;rw[if_pos e];exact⟨h.1,p8 l d h.2⟩
      .rename_i e;rw[if_neg e];exact p8 l d h
end
def go1(P:Program)(g:Goroutine)(x:Next):Goroutine:=(upon P g x).getD g
def okN:Next->Bool
 | .value _ | .skip | .enter _ _=>true
 |_=>false
theorem EH(P:Program)(g:Goroutine){x:Next}(h:okN x=true):upon P g x=some (go1 P g x):=by
 unfold go1
 cases x<;>first|(cases h;done)|rfl
structure bW(P:Program)(main:Bool)(g:Goroutine)(l:List An)(x:Next)(qs:List Qa)(es:Array Event):Prop where
 run:g.status=.running
 kind:(g.frame.kind==.early)=false
 at_:∀ w,stepG P main g w=stepG.apply P true g.frame g.callers none (pO g) w
 Hu:Cc g=true
 asks:jl P (pO g) l=some (x,qs)
 ok:okN x=true
 ev:seen P g.frame.fn (qs.filterMap Uf).toArray=es
theorem bW.step{P:Program}{main:Bool}{g:Goroutine}{l:List An}{x:Next}{qs:List Qa}(h:bW P main g l x qs es){w w':World}(hq:eG qs w w'):stepG P main g w=.go (go1 P g x) w' es:=by
 rw[P7 ⟨h.kind,h.at_⟩ (Ac h.Hu) h.asks (EH P g h.ok) hq,h.ev]
theorem bO{P:Program}{S:Nat->Prop}{B0:Nat}{g:Goroutine}{l:List An}{x:Next}{qs:List Qa}(h:bW P true g l x qs es){w w':World}(hq:eG qs w w')(he:∀ e∈es,EvL (dX S) w'.heap.size e/\∀ a,MemAct.ofEvent e≠.mark (.release a))(hsz:w.heap.size<=w'.heap.size):Bs P S B0 g w (go1 P g x) w' :=
 qR h.run (λd=>⟨d,h.step (p8 qs d hq)⟩) he hsz
end Go.Proofs.YthbndfpeffcigaaGreatDoor
namespace Go.Proofs.YthbndfpeffcigaaGreatDoor
open Go Go.Conc
variable {P:Program} {Z:Nat->Prop} {fns:Fx} {main gq:Bool} {E:Nat->Nat->Prop} {Fz:Nat->Prop} {Ex:World->World->Prop} {O:Nat->Prop} {Stop:(Nat->Prop)->Goroutine->World->Prop}
theorem JU{Q:Value->World->Prop}{c:Frame}{cs:List Frame}{g g':Goroutine}{gh w:World}(h:ze P fns Z (xg P Q) (c::cs) E g gh g' w)(hs:dP [aQ] g)(hf:xg P Q g gh) :
 ∃ E1 v v' dW w1 es,dW.heap=gh.heap/\Q v dW/\VR fns E1 v v'/\stepG (fns.re P) main g' w=.go (G (c.finish v') cs) w1 es/\Out P fns E E1 Z dW w dW w1/\∀ e∈es,qK E1 Z e:=by
 obtain⟨fr,fr',L,rfl,rfl,hF,hL⟩:=h.gr
 have hL0:L=[]:=by
  have:=hs.1
  simp only[G] at this
  have h2:=congrArg List.length this
  simp at h2
  exact List.eq_nil_of_length_eq_zero (by simpa using h2)
 subst hL0
 have hm:fr.mode=.returning:=hs.2.1
 have hd:fr.defers=[]:=hs.2.2
 have hd':fr'.defers=[]:=by have:=hF.d;rw[hd] at this;exact this
 obtain⟨fn,v,t,d,hfn,hr,hq⟩:=hf
 simp only[G] at hfn hr
 have hres:fn.results.all (wM (o7 P fr.fn))=true:=by
  obtain⟨fn2,h2,h3⟩:=hF.func
  rw[hfn] at h2
  cases h2
  exact h3
 have hf':(fns.re P).funcs[fr'.fn]?=some fn:=by rw[hF.fn];exact hF.same.trans hfn
 have hm':fr'.mode=.returning:=hF.mode.trans hm
 have acR:=au.results (P:=P) (Z:=Z) fn hres hF.tmps (eP gh t d) w (h.wr.o9 t d)
 rw[hr] at acR
 obtain⟨E1,v',w1,e1,e2,e3,e4⟩:=acR (λj hj=>absurd hj (by omega))
 refine⟨E1,v,v',eP gh t d,w1,seen (fns.re P) fr'.fn (Sem.events (fns.re P) (results fn fr'.tmps) w #[])++#[],rfl,hq,e3,?_,e2,?_⟩
 .simp only[List.map_nil,List.nil_append]
  rw[lQ hm']
  unfold unwind
  simp only[hd',hm',hf',Sem.runT_eq,e1,doReturn,hF.k']
  rfl
 .intro e he
  exact(e4 #[] e (mem_seen (by simpa [GStep.after] using he))).resolve_left (by simp)
theorem P8(hz:zeros P fns)(fu:0<P.depth)(hp:fU P fns){Q:Value->World->Prop}{c:Frame}{cs:List Frame}{Oi:Nat->Prop}{K:World->Prop}{Hold:Nat->Prop}{B0:Nat}{E0:Nat->Nat->Prop}
 (hKr:∀ O w w₁,jX Fz Ex O w w₁->K w->K w₁) (hKg:∀ w w',K w->(∀ b,Hold b->w'.heap[b]?=w.heap[b]?)->w.heap.size<=w'.heap.size->K w')
 (next:∀ E1 v v' dW w1,Q v dW->VR fns E1 v v'->WR P fns E1 Z dW w1->K w1->(∀ a b,E1 a b->E0 a b\/B0<=b)->Co P main false Fz Ex Stop (λb=>Oi b\/(¬Fz b/\∃ a,E1 a b)) (G (c.finish v') cs) w1) :
 ∀ (x:Goroutine × World),Acc (Bf P) x->∀ (E:Nat->Nat->Prop) (g':Goroutine) (w:World),ze P fns Z (xg P Q) (c::cs) E x.1 x.2 g' w->(∀ a b,E a b->Z a->Fz b)->(∀ a b,E a b->¬Z a->¬Fz b)->(∀ b,Fz b->b<w.heap.size) ->
   K w->(∀ b,Hold b->b<w.heap.size/\(Fz b\/∀ a,¬E a b))->(∀ a b,E a b->E0 a b\/B0<=b)->B0<=w.heap.size ->
   Co P main false Fz Ex Stop (λb=>Oi b\/(¬Fz b/\∃ a,E a b)) g' w:=by
 intro x hacc
 induction hacc with
 |intro x _ ih =>
 intro E g' w hI hZ hnZ hFl hK hH hE0 hB0
 refine Co.step hI.gr.running λw₁ r=>?_
 have hI1:ze P fns Z (xg P Q) (c::cs) E x.1 x.2 g' w₁:=hI.rely (λa b y=>by
  by_cases hf:Fz b
  .exact r.fz b hf
  .exact r.mine b (.inr ⟨hf,a,y⟩)) r.size
 have hK1:K w₁:=hKr _ w w₁ r hK
 -- what every step of its own keeps
 have common:∀ {E1:Nat->Nat->Prop} {dW WB w2:World} {es:Array Event},dW.heap.size=x.2.heap.size->Out P fns E E1 Z dW w₁ WB w2->(∀ e∈es,qK E1 Z e) ->
  He (λb=>Oi b\/(¬Fz b/\∃ a,E a b)) w₁ w2/\(∀ a b,E1 a b->Z a->Fz b)/\(∀ a b,E1 a b->¬Z a->¬Fz b)/\grow (λb=>Oi b\/(¬Fz b/\∃ a,E a b)) w₁ w2=(λb=>Oi b\/(¬Fz b/\∃ a,E1 a b)) /\
  (∀ e∈es,EvC Fz (λb=>Oi b\/(¬Fz b/\∃ a,E1 a b)) e)/\K w2/\(∀ b,Hold b->b<w2.heap.size/\(Fz b\/∀ a,¬E1 a b))/\(∀ a b,E1 a b->E0 a b\/B0<=b):=by
  intro E1 dW WB w2 es hgs e4 e5
  have hfresh:∀ a b,E1 a b->E a b\/(w₁.heap.size<=b/\¬Z a):=λa b y=>(e4.fresh a b y).imp id λy=>⟨y.2,λhz=>by have:=hI1.wr.iO a hz;omega⟩
  have hZ1:∀ a b,E1 a b->Z a->Fz b:=λa b y hz=>(hfresh a b y).elim (λy=>hZ a b y hz) λy=>(y.2 hz).elim
  have acS:∀ a b,E1 a b->¬Z a->¬Fz b:=λa b y hz=>(hfresh a b y).elim (λy=>hnZ a b y hz) λy hf=>by
   have:=hFl b hf;have:=r.size;omega
  refine⟨⟨λb hb hno=>?_,e4.rsize,e4.wR,e4.os,e4.output⟩,hZ1,acS,?_,λe he=>?_,?_,λb hb=>?_,λa b y=>?_⟩
  .exact e4.keep b hb λa y=>Classical.byContradiction λhnz=>hno (.inr ⟨hnZ a b y hnz,a,y⟩)
  .funext b
   refine propext ⟨λy=>?_,λy=>?_⟩
   .rcases y with (y|⟨hf,a,y⟩)|⟨y,z⟩
    .exact .inl y
    .exact .inr ⟨hf,a,e4.up a b y⟩
    .have hn:=e4.news (b-w₁.heap.size) (by have:=e4.sizes;omega)
     have eb:w₁.heap.size+(b-w₁.heap.size)=b:=by omega
     rw[eb] at hn
     exact .inr ⟨λhf=>by have:=hFl b hf;have:=r.size;omega,_,hn⟩
   .rcases y with y|⟨hf,a,y⟩
    .exact .inl (.inl y)
    .rcases hfresh a b y with z|z
     .exact .inl (.inr ⟨hf,a,z⟩)
     .exact .inr ⟨z.1,(e4.wr.lt y).2⟩
  .rcases e5 e he with ⟨b,h1,h2,a,h3,h4⟩|h
   .refine .inl ⟨b,h1,h2,?_⟩
    by_cases hf:Fz b
    .refine .inr ⟨hf,?_⟩
     cases hw:e.write with
     |false=>rfl
     |true=>exact(acS a b h3 (h4 hw) hf).elim
    .exact .inl (.inr ⟨hf,a,h3⟩)
   .exact .inr h
  .refine hKg w₁ w2 hK1 (λb hb=>e4.keep b (by have:=(hH b hb).1;have:=r.size;omega) λa y=>?_) e4.rsize
   rcases (hH b hb).2 with hf|hf
   .exact Classical.byContradiction λhnz=>hnZ a b y hnz hf
   .exact(hf a y).elim
  .refine⟨by have:=(hH b hb).1;have:=r.size;have:=e4.rsize;omega,(hH b hb).2.imp id λhf a y=>?_⟩
   rcases hfresh a b y with z|z
   .exact hf a z
   .have:=(hH b hb).1;have:=r.size;omega
  .rcases hfresh a b y with z|z
   .exact hE0 a b z
   .exact .inr (by have:=r.size;omega)
 rcases hI1.step (main:=main) hz fu hp with ⟨h1,h2⟩|⟨E1,g1,wg1,g1',re',es',e1,e2,e3,e4,e5⟩
 .obtain⟨E1,v,v',dW,w1,es,hg1,hq,hv,hst,hout,hev⟩:=JU (main:=main) hI1 h1 h2
  rw[hp.2.1] at hst
  obtain⟨a1,a2,a3,a4,a5,a6,a7,a8⟩:=common (by rw[hg1]) hout hev
  refine⟨_,w1,es,hst,a1,by rw[a4];exact a5,λy=>(by cases y),?_⟩
  rw[a4]
  exact next E1 v v' dW w1 hq hv hout.wr a6 a8
 .obtain⟨a1,a2,a3,a4,a5,a6,a7,a8⟩:=common (dW:=eP x.2 w₁.tape w₁.drawn) rfl e4 e5
  refine⟨g1',re',es',e1,a1,by rw[a4];exact a5,λy=>(by cases y),?_⟩
  rw[a4]
  exact ih (g1,wg1) e2 E1 g1' re' e3 a2 a3 (λb hf=>by have:=hFl b hf;have:=r.size;have:=e4.rsize;omega) a6 a7 a8 (by have:=r.size;have:=e4.rsize;omega)
end Go.Proofs.YthbndfpeffcigaaGreatDoor
namespace Go.Proofs.YthbndfpeffcigaaGreatDoor
open Go Go.Conc
open Go.ConcN (WgLive)
open Go.ConcR (DC0)
variable {es:Array Event} {g:Goroutine} {qs:List Qa}
def tlN:Nat->Code->Code
 |0,c=>c
 |n+1,.seq _ b=>tlN n b
 |_+1,c=>c
def Hw(P:Program)(f:FuncId):Code:=((P.funcs[f]?).bind (·.body)).getD .skip
def JV(P:Program)(f:FuncId)(k:Nat)(T:Array Value)(cs:List Frame):Goroutine:=G { fn:=f,tmps:=T,todo:=[.code (tlN k (Hw P f))],defers:=[],mode:=.run,kind:=.normal } cs
variable {P:Program} {main gq:Bool} {Fz:Nat->Prop} {Ex:World->World->Prop} {O:Nat->Prop} {Stop:(Nat->Prop)->Goroutine->World->Prop} {K:World->Prop}
theorem sW{R:World->World->Prop}{D:World->World->Array Event->Prop}{S:Goroutine->World->Prop}(hR:∀ w,R w w)(hS:∀ g w,S g w->∃ g' es,stepG P main g w=.go g' w es/\es≠#[]) :
 ∀ (n:Nat) {m:Nat} {g:Goroutine} {w:World},aT P main n g->Goes P main R D S m g w->∃ m',Goes P main R D S m' (dI P main n g) w
 |0,m,_,_,_,h=>⟨m,h⟩
 |n+1,m,g,w,hp,h=>by
  have hno:∀ w,¬S g w:=λw hs=>by
   obtain⟨g',es,e1,e2⟩:=hS g w hs
   rw[hp.1.2 w] at e1
   cases e1
   exact e2 rfl
  cases m with
  |zero=>exact absurd (h w (hR w)) (hno w)
  |succ m =>
   rcases h with h|⟨_,h⟩
   .exact absurd (h w (hR w)) (hno w)
   .have:=h w (hR w)
    rw[hp.1.2 w,goes_go] at this
    exact sW hR hS n hp.2 this.2
theorem Ae:∀ (n:Nat) {g:Goroutine},aT P false n g->(dI P false n g).status=.finished->QuitsD P n 0 g
 |0,_,_,h=>⟨h,rfl⟩
 |n+1,g,hp,h=>.inr ⟨hp.1.1,nx P false g,#[],λe he=>by simp at he,hp.1.2,by
  have:deafBehind 0 #[]=0:=rfl
  rw[this]
  exact Ae n hp.2 h⟩
theorem sZ(hK:LY Fz Ex K O){l:List An}{x:Next}(h:bW P main g l x qs es)(hq:∀ w,K w->eG qs w w)(he:∀ e∈es,EvC Fz O e)(hn:CK P main false Fz Ex Stop K O (go1 P g x)):CK P main false Fz Ex Stop K O g :=
 Ud hK h.run (λw hw=>h.step (hq w hw)) he hn
theorem xU(hK:LY Fz Ex K O){x:Next}(h:bW P main g [] x [] #[])(hn:CK P main gq Fz Ex Stop K O (go1 P g x)):CK P main gq Fz Ex Stop K O g :=
 Ht hK h.run (λw _=>h.step (show eG [] w w from rfl)) hn
theorem Yp(hK:LY Fz Ex K O){ob:Obj}(h:∀ n,bW P main g [{ n:=n }] (.value (.pointer (some ⟨n,0,none⟩))) [{ k:=4,ad:=⟨n,0,none⟩,o:=ob }] #[])
 (hn:∀ w,K w->CK P main gq Fz Ex Stop (λw'=>He O w w'/\w'.heap.size=w'.heap.size/\(∀ b,b<w.heap.size->w'.heap[b]?=w.heap[b]?)/\w.heap.size<w'.heap.size/\w'.heap[w.heap.size]?=some ob) (λb=>O b\/b=w.heap.size) (go1 P g (.value (.pointer (some ⟨w.heap.size,0,none⟩))))):CK P main gq Fz Ex Stop K O g :=
 vo hK (h 0).run λw hw=>by
  have hg:grow O w { w with heap:=w.heap.push ob }=λb=>O b\/b=w.heap.size:=by
   funext b
   refine propext ⟨λy=>y.imp id λz=>?_,λy=>y.imp id λz=>?_⟩
   .have:=z.2;simp only[Array.size_push] at this;omega
   .subst z;simp
  have hk:∀ b,b<w.heap.size->({ w with heap:=w.heap.push ob }:World).heap[b]?=w.heap[b]?:=λb hb=>by
   simp only[Array.getElem?_push];rw[if_neg (by omega)]
  have hG:He O w { w with heap:=w.heap.push ob }:=⟨λb hb _=>hk b hb,by simp,rfl,rfl,rfl⟩
  refine⟨_,{ w with heap:=w.heap.push ob },#[],(h w.heap.size).step (show eG _ _ _ from⟨rfl,rfl⟩),hG,λe he=>by simp at he,λ_=>rfl,?_⟩
  rw[hg]
  exact hn w hw _ ⟨hG,rfl,hk,by simp,by simp⟩
theorem P9(hK:LY Fz Ex K O){l:List An}{x:Next}{K':World->Prop}(h:bW P main g l x qs es)
 (hq:∀ w,K w->∃ w',eG qs w w'/\He O w w'/\w'.heap.size=w.heap.size/\K' w') (he:∀ e∈es,EvC Fz O e) (hn:CK P main false Fz Ex Stop K' O (go1 P g x)):CK P main false Fz Ex Stop K O g :=
 vo hK h.run λw hw=>by
  obtain⟨w',h1,h2,h3,h4⟩:=hq w hw
  have hg:grow O w w'=O:=by
   funext b
   refine propext ⟨λy=>y.elim id λz=>?_,.inl⟩
   omega
  exact⟨_,w',es,h.step h1,h2,λe hm=>by rw[hg];exact he e hm,λy=>(by cases y),by rw[hg];exact hn w' h4⟩
def xV(P:Program){α:Type}:Sem α->List An->Option (List Qa)
 | .load m a k,l=>(xV P (k (l.headD {}).v) l.tail).map λr=>{ k:=0,ad:=a,v:=(l.headD {}).v,sy:=m==.atomic }::r
 | .program k,l=>xV P (k P) l
 | .mark m k,l=>(xV P k l).map λr=>{ k:=5,m:=m }::r
 | .halt .blocked,_=>some []
 |_,_=>none
theorem P_{α:Type}:∀ (s:Sem α) (l:List An) (qs:List Qa) (w:World) (es:Array Event),xV P s l=some qs->eG qs w w->∃ es',s.runT P w es=(.halt .blocked w,es'):=by
 intro s
 induction s with
 |load m a k ih =>
  intro l qs w es h hq
  simp only[xV,Option.map_eq_some_iff] at h
  obtain⟨q1,h1,rfl⟩:=h
  simp only[eG,if_true] at hq
  simp only[Sem.runT,hq.1]
  exact ih _ _ _ _ _ h1 hq.2
 |program k ih =>
  intro l qs w es h hq
  simp only[xV] at h
  simp only[Sem.runT]
  exact ih _ _ _ _ _ h hq
 |mark m k ih =>
  intro l qs w es h hq
  simp only[xV,Option.map_eq_some_iff] at h
  obtain⟨q1,h1,rfl⟩:=h
  simp only[eG,show ¬(5:Nat)=0 by decide,show ¬(5:Nat)=1 by decide,show ¬(5:Nat)=2 by decide,show ¬(5:Nat)=3 by decide,show ¬(5:Nat)=4 by decide,if_false] at hq
  simp only[Sem.runT]
  exact ih _ _ _ _ h1 hq
 |halt h =>
  intro l qs w es h1 hq
  cases h<;>first|(simp[xV] at h1;done)|exact⟨es,rfl⟩
 |_=>intro l qs w es h1;simp[xV] at h1
theorem step_block{w:World}{l:List An}(ha:P6 P main g)(hr:g.status=.running)(hd:g.dying=none)(ho:g.offers=none)(h:xV P (pO g) l=some qs)(hq:eG qs w w):stepG P main g w=.go { g with status:=.blocked } w #[]:=by
 obtain⟨es',he⟩:=P_ (pO g) l qs w #[] h hq
 rw[ha.2 w]
 unfold stepG.apply
 simp only[if_true,he]
 obtain⟨f,c,s,d,o⟩:=g
 simp only at hr hd ho
 subst hr hd ho
 split<;>simp[GStep.after,seen]
theorem qU{l:List An}{x x':Next}(h:bW P main g l x qs es)(e:x=x'):bW P main g l x' qs es:=e▸h
end Go.Proofs.YthbndfpeffcigaaGreatDoor
namespace Go.Proofs.YthbndfpeffcigaaGreatDoor
open Go Go.Conc
open Go.ConcN (WgLive Has AtR0 RW)
open Go.ConcR (KK wgBlock WgAt stA smA rd wr Payload DC0)
structure Lk where
 b2:Nat
 b6:Nat
 b7:Nat
 bc:Nat
 b8:Nat
 pa:Option Addr
 len:Nat
 pc:Nat
 n:Nat
 m0:Nat
 w0:World
 Fz:Nat->Prop
 st:Nat->Nat
 kd:Nat->Nat
 lb:Nat->Nat
 sq:Nat->Nat
 cs:List Frame
 ha:Nat->Option Addr
 hl:Nat->Nat
 hc:Nat->Nat
def Lk.pages(y:Lk):Value:=.slice y.pa y.len y.pc
def Lk.sight(y:Lk)(i:Nat):Value:=.agg #[.int .i64 (y.st i:Nat),.int .i64 (y.lb i:Nat),.int .i64 (i:Nat),.int .i64 (y.sq i:Nat),.int .i64 (y.kd i:Nat)]
def ptr(b:Nat):Value:=.pointer (some ⟨b,0,none⟩)
def kid(P:Program)(y:Lk):Goroutine:={ frame:={ (default:Frame) with fn:=P.funcs.size,defers:=[{ target:=.fn (.func 130) #[ptr y.b7,ptr y.b2,ptr y.b6,ptr y.b8],args:=#[] }],mode:=.panicking [goexitEntry] },callers:=[],status:=.running,dying:=none }
def Yq(P:Program)(y:Lk):Goroutine:=go1 P (dI P false 6 (kid P y)) (.value y.pages)
def Qb(P:Program)(y:Lk):Goroutine:=go1 P (Yq P y) (.value (.chan (some y.bc)))
def below(P:Program)(y:Lk):List Frame:=(Qb P y).frame::(Qb P y).callers
def T35(v0 v1 v2:Value)(t:Nat->Value):Array Value:=#[v0,v1,v2,t 3,t 4,t 5,t 6,t 7,t 8,t 9,t 10,t 11,t 12,t 13,t 14,t 15,t 16,t 17,t 18,t 19,t 20,t 21,t 22,t 23,t 24,t 25,t 26,t 27,t 28,t 29,t 30,t 31,t 32,t 33,t 34]
theorem acU(T:Array Value)(h:T.size=35):∃ v0 v1 v2 t,T=T35 v0 v1 v2 t:=by
 obtain⟨l⟩:=T
 rcases l with _|⟨a0,l⟩
 .simp at h
 rcases l with _|⟨a1,l⟩
 .simp at h
 rcases l with _|⟨a2,l⟩
 .simp at h
 rcases l with _|⟨a3,l⟩
 .simp at h
 rcases l with _|⟨a4,l⟩
 .simp at h
 rcases l with _|⟨a5,l⟩
 .simp at h
 rcases l with _|⟨a6,l⟩
 .simp at h
 rcases l with _|⟨a7,l⟩
 .simp at h
 rcases l with _|⟨a8,l⟩
 .simp at h
 rcases l with _|⟨a9,l⟩
 .simp at h
 rcases l with _|⟨a10,l⟩
 .simp at h
 rcases l with _|⟨a11,l⟩
 .simp at h
 rcases l with _|⟨a12,l⟩
 .simp at h
 rcases l with _|⟨a13,l⟩
 .simp at h
 rcases l with _|⟨a14,l⟩
 .simp at h
 rcases l with _|⟨a15,l⟩
 .simp at h
 rcases l with _|⟨a16,l⟩
 .simp at h
 rcases l with _|⟨a17,l⟩
 .simp at h
 rcases l with _|⟨a18,l⟩
 .simp at h
 rcases l with _|⟨a19,l⟩
 .simp at h
 rcases l with _|⟨a20,l⟩
 .simp at h
 rcases l with _|⟨a21,l⟩
 .simp at h
 rcases l with _|⟨a22,l⟩
 .simp at h
 rcases l with _|⟨a23,l⟩
 .simp at h
 rcases l with _|⟨a24,l⟩
 .simp at h
 rcases l with _|⟨a25,l⟩
 .simp at h
 rcases l with _|⟨a26,l⟩
 .simp at h
 rcases l with _|⟨a27,l⟩
 .simp at h
 rcases l with _|⟨a28,l⟩
 .simp at h
 rcases l with _|⟨a29,l⟩
 .simp at h
 rcases l with _|⟨a30,l⟩
 .simp at h
 rcases l with _|⟨a31,l⟩
 .simp at h
 rcases l with _|⟨a32,l⟩
 .simp at h
 rcases l with _|⟨a33,l⟩
 .simp at h
 rcases l with _|⟨a34,l⟩
 .simp at h
 rcases l with _|⟨_,l⟩
 .exact⟨a0,a1,a2,λi=>(#[a0,a1,a2,a3,a4,a5,a6,a7,a8,a9,a10,a11,a12,a13,a14,a15,a16,a17,a18,a19,a20,a21,a22,a23,a24,a25,a26,a27,a28,a29,a30,a31,a32,a33,a34]:Array Value).getD i undef,rfl⟩
 .simp at h
def qV(P:Program)(y:Lk)(T:Array Value):Goroutine:=dI P false 2 (JV P 132 0 T (below P y))
def wT(y:Lk)(t:Nat->Value):Array Value:=T35 y.pages (ptr y.b6) (.chan (some y.bc)) t
theorem Ug(y:Lk):aT prog false 6 (kid prog y):=by
 iterate 6 (refine aT.step (by kernel_rfl) (λw=>by kernel_rfl) ?_)
 exact aT.nil
theorem Qc(y:Lk):bW prog false (dI prog false 6 (kid prog y)) [{ v:=y.pages }] (.value y.pages) [{ k:=0,ad:=⟨y.b2,0,none⟩,v:=y.pages }] #[⟨.cell ⟨y.b2,0,none⟩,false,false⟩]:=⟨by kernel_rfl,by kernel_rfl,λw=>by kernel_rfl,by kernel_rfl,by kernel_rfl,by kernel_rfl,by kernel_rfl⟩
theorem Qd(y:Lk):bW prog false (Yq prog y) [{ v:=.chan (some y.bc) }] (.value (.chan (some y.bc))) [{ k:=0,ad:=⟨y.b8,0,none⟩,v:=.chan (some y.bc) }] #[⟨.cell ⟨y.b8,0,none⟩,false,false⟩]:=⟨by kernel_rfl,by kernel_rfl,λw=>by kernel_rfl,by kernel_rfl,by kernel_rfl,by kernel_rfl,by kernel_rfl⟩
theorem Qe(y:Lk):aT prog false 3 (Qb prog y):=by
 iterate 3 (refine aT.step (by kernel_rfl) (λw=>by kernel_rfl) ?_)
 exact aT.nil
theorem LZ(y:Lk):dI prog false 3 (Qb prog y)=qV prog y (wT y λ_=>undef):=by kernel_rfl
theorem Qf(y:Lk)(t:Nat->Value):aT prog false 15 (qV prog y (wT y t)):=by
 iterate 15 (refine aT.step (by kernel_rfl) (λw=>by kernel_rfl) ?_)
 exact aT.nil
def g1(P:Program)(y:Lk)(t:Nat->Value)(c:Nat):Goroutine:=go1 P (dI P false 15 (qV P y (wT y t))) (.value (.int .i64 ((c+1:Nat):Int)))
def g2(P:Program)(y:Lk)(t:Nat->Value)(c:Nat):Goroutine:=go1 P (dI P false 4 (g1 P y t c)) (.value (.int .i64 (c:Nat)))
def g3(P:Program)(y:Lk)(t:Nat->Value)(c:Nat)(b:Bool):Goroutine:=go1 P (dI P false 8 (g2 P y t c)) (.value (.bool b))
theorem Qg(y:Lk)(t:Nat->Value)(c:Nat):bW prog false (dI prog false 15 (qV prog y (wT y t))) [{ v:=.int .i64 (c:Nat) }] (.value (.int .i64 (IntKind.i64.wrap ((c:Int)+1))))
 [{ k:=5,m:=.extern 183 },{ k:=0,ad:=⟨y.b6,0,none⟩,v:=.int .i64 (c:Nat),sy:=true },{ k:=1,ad:=⟨y.b6,0,none⟩,v:=.int .i64 (IntKind.i64.wrap ((c:Int)+1)),sy:=true }]
 #[rd ⟨y.b6,0,none⟩,wr ⟨y.b6,0,none⟩]:=⟨by kernel_rfl,by kernel_rfl,λw=>by kernel_rfl,by kernel_rfl,by kernel_rfl,by kernel_rfl,by kernel_rfl⟩
theorem Qh(y:Lk)(t:Nat->Value)(c:Nat):aT prog false 4 (g1 prog y t c):=by
 iterate 4 (refine aT.step (by kernel_rfl) (λw=>by kernel_rfl) ?_)
 exact aT.nil
theorem Uh(y:Lk)(t:Nat->Value)(c:Nat):bW prog false (dI prog false 4 (g1 prog y t c)) [] (.value (.int .i64 (IntKind.i64.wrap (((c+1:Nat):Int)-1)))) [] #[]:=⟨by kernel_rfl,by kernel_rfl,λw=>by kernel_rfl,by kernel_rfl,by kernel_rfl,by kernel_rfl,by kernel_rfl⟩
theorem Qi(y:Lk)(t:Nat->Value)(c:Nat):aT prog false 8 (g2 prog y t c):=by
 iterate 8 (refine aT.step (by kernel_rfl) (λw=>by kernel_rfl) ?_)
 exact aT.nil
theorem Ui(y:Lk)(t:Nat->Value)(c:Nat):bW prog false (dI prog false 8 (g2 prog y t c)) [] (.value (.bool (decide ((y.len:Int)<=(c:Int))))) [] #[]:=⟨by kernel_rfl,by kernel_rfl,λw=>by kernel_rfl,by kernel_rfl,by kernel_rfl,by kernel_rfl,by kernel_rfl⟩
def gD(P:Program)(y:Lk)(t:Nat->Value)(c:Nat):Goroutine:=dI P false 7 (g3 P y t c true)
def gC(P:Program)(y:Lk)(t:Nat->Value)(c:Nat):Goroutine:=dI P false 14 (gD P y t c)
def gM(P:Program)(y:Lk)(t:Nat->Value)(c:Nat):Goroutine:=go1 P (gC P y t c) (.value (ptr y.b7))
def gK(P:Program)(y:Lk)(t:Nat->Value)(c:Nat):Goroutine:=dI P false 3 (nx P false (gM P y t c))
def fD(P:Program)(y:Lk)(t:Nat->Value)(c:Nat):Frame:=(gD P y t c).callers.headD default
def fDs(P:Program)(y:Lk)(t:Nat->Value)(c:Nat):List Frame:=(gD P y t c).callers.tail
theorem Uj(y:Lk)(t:Nat->Value)(c:Nat):aT prog false 7 (g3 prog y t c true):=by
 iterate 7 (refine aT.step (by kernel_rfl) (λw=>by kernel_rfl) ?_)
 exact aT.nil
theorem ac2(y:Lk)(t:Nat->Value)(c:Nat):gD prog y t c=G ((baseD Tryz.link.done).at ⟨#[.pointer (some ⟨y.b7,0,none⟩),undef,undef,undef],[]⟩ [.code (Go.ConcR.Gen.body_done Tryz.link)]) (fD prog y t c::fDs prog y t c):=by kernel_rfl
theorem Uk(y:Lk)(t:Nat->Value)(c:Nat):(fD prog y t c).mode=.returning:=by kernel_rfl
theorem Yr(y:Lk)(t:Nat->Value)(c:Nat):aT prog false 2 (G (fD prog y t c) (fDs prog y t c)):=by
 iterate 2 (refine aT.step (by kernel_rfl) (λw=>by kernel_rfl) ?_)
 exact aT.nil
theorem Yt(y:Lk)(t:Nat->Value)(c:Nat):(dI prog false 2 (G (fD prog y t c) (fDs prog y t c))).status=.finished:=by kernel_rfl
theorem Qj(y:Lk)(t:Nat->Value)(c:Nat):aT prog false 14 (gD prog y t c):=by
 iterate 14 (refine aT.step (by kernel_rfl) (λw=>by kernel_rfl) ?_)
 exact aT.nil
theorem Hy(y:Lk)(t:Nat->Value)(c:Nat):bW prog false (gC prog y t c) [{ sh:=some (266,2) },{ sh:=some (266,2) }] (.value (ptr y.b7)) [{ k:=2,ad:=⟨y.b7,0,none⟩,sh:=some (266,2) },{ k:=2,ad:=⟨y.b7,0,none⟩,sh:=some (266,2) }] #[]:=⟨by kernel_rfl,by kernel_rfl,λw=>by kernel_rfl,by kernel_rfl,by kernel_rfl,by kernel_rfl,by kernel_rfl⟩
theorem Ul(y:Lk)(t:Nat->Value)(c:Nat)(w:World):stepG prog false (gM prog y t c) w=.go (nx prog false (gM prog y t c)) w #[ConcR.mk (.releaseMerge (stA y.b7))]:=by kernel_rfl
theorem Yu(y:Lk)(t:Nat->Value)(c:Nat):aT prog false 3 (nx prog false (gM prog y t c)):=by
 iterate 3 (refine aT.step (by kernel_rfl) (λw=>by kernel_rfl) ?_)
 exact aT.nil
theorem JW(y:Lk)(t:Nat->Value)(c:Nat)(w:World):stepG prog false (gK prog y t c) w=.go (nx prog false (gK prog y t c)) w #[ConcR.mk .disable]:=by kernel_rfl
theorem Yv(y:Lk)(t:Nat->Value)(c:Nat):(gM prog y t c).status=.running:=by kernel_rfl
def gI(P:Program)(y:Lk)(t:Nat->Value)(c:Nat):Goroutine:=dI P false 7 (g3 P y t c false)
def g4(P:Program)(y:Lk)(t:Nat->Value)(c pb po:Nat):Goroutine:=go1 P (gI P y t c) (.value (.pointer (some ⟨pb,po+c,none⟩)))
def g5(P:Program)(y:Lk)(t:Nat->Value)(c pb po:Nat)(v:Value):Goroutine:=go1 P (g4 P y t c pb po) (.value v)
def g6(P:Program)(y:Lk)(t:Nat->Value)(c pb po:Nat)(v u:Value):Goroutine:=go1 P (g5 P y t c pb po v) (.value u)
def fv(k l s:Nat)(a:Option Addr)(d e:Nat)(st:Nat):Value:=.tuple #[.agg #[.int .i64 (k:Nat),.int .i64 (l:Nat),.int .i64 (s:Nat),.slice a d e],.int .i64 (st:Nat)]
def g7(P:Program)(y:Lk)(t:Nat->Value)(c pb po:Nat)(v:Value)(k l s:Nat)(a:Option Addr)(d e st bx:Nat):Goroutine:=go1 P (dI P false 3 (g6 P y t c pb po v (fv k l s a d e st))) (.value (ptr bx))
def g8(P:Program)(y:Lk)(t:Nat->Value)(c pb po:Nat)(v:Value)(k l s:Nat)(a:Option Addr)(d e st bx:Nat):Goroutine:=dI P false 6 (go1 P (g7 P y t c pb po v k l s a d e st bx) .skip)
def g9(P:Program)(y:Lk)(t:Nat->Value)(c pb po:Nat)(v:Value)(k l s:Nat)(a:Option Addr)(d e st bx:Nat):Goroutine:=dI P false 2 (go1 P (g8 P y t c pb po v k l s a d e st bx) (.value (.int .i64 (l:Nat))))
def g10(P:Program)(y:Lk)(t:Nat->Value)(c pb po:Nat)(v:Value)(k l s:Nat)(a:Option Addr)(d e st bx:Nat):Goroutine:=dI P false 1 (go1 P (g9 P y t c pb po v k l s a d e st bx) (.value (.int .i64 (s:Nat))))
def g11(P:Program)(y:Lk)(t:Nat->Value)(c pb po:Nat)(v:Value)(k l s:Nat)(a:Option Addr)(d e st bx:Nat):Goroutine:=dI P false 2 (go1 P (g10 P y t c pb po v k l s a d e st bx) (.value (.int .i64 (k:Nat))))
theorem Yw(y:Lk)(t:Nat->Value)(c:Nat):aT prog false 7 (g3 prog y t c false):=by
 iterate 7 (refine aT.step (by kernel_rfl) (λw=>by kernel_rfl) ?_)
 exact aT.nil
theorem Yx(y:Lk)(t:Nat->Value)(c:Nat):pO (gI prog y t c)=(do pure (Next.value (<-Instr.indexAt 181 y.pages (.int .i64 (c:Nat))))):=by kernel_rfl
theorem Yy(y:Lk)(t:Nat->Value)(c pb po:Nat)(hp:y.pa=some ⟨pb,po,none⟩)(hc:c<y.len):bW prog false (gI prog y t c) [] (.value (.pointer (some ⟨pb,po+c,none⟩))) [] #[]:=by
 refine⟨by kernel_rfl,by kernel_rfl,λw=>by kernel_rfl,by kernel_rfl,?_,rfl,by kernel_rfl⟩
 rw[Yx]
 have e1:((c:Int)<(y.len:Int)):=by omega
 have e2:(0:Int)<=(c:Int):=by omega
 have hs:prog.underlying 181=some (.slice 32):=Tryz.underlying181
 simp only[Lk.pages,hp,Instr.indexAt,asIntOf,Go.underlying,Go.program,bind,Sem.bind,pure,jl,hs,e1,e2,and_self,if_true]
 have e3:∀ q:Addr,jl prog (((Go.sizeOf 32).bind λz=>Sem.pure (Value.pointer (some (q.add (((c:Nat):Int).toNat*z))))).bind λv=>Sem.pure (Next.value v)) []=some (Next.value (.pointer (some (q.add (c*1)))),[]):=λq=>by kernel_rfl
 rw[e3,Nat.mul_one,show (⟨pb,po,none⟩:Addr).add c=⟨pb,po+c,none⟩ by unfold Addr.add;split<;>simp_all]
theorem Yz(y:Lk)(t:Nat->Value)(c pb po:Nat)(a:Option Addr)(d e:Nat):bW prog false (g4 prog y t c pb po) [{ v:=.slice a d e }] (.value (.slice a d e)) [{ k:=0,ad:=⟨pb,po+c,none⟩,v:=.slice a d e }] #[⟨.cell ⟨pb,po+c,none⟩,false,false⟩]:=⟨by kernel_rfl,by kernel_rfl,λw=>by kernel_rfl,by kernel_rfl,by kernel_rfl,by kernel_rfl,by kernel_rfl⟩
theorem YA(y:Lk)(t:Nat->Value)(c pb po:Nat)(v:Value):aT prog false 1 (g5 prog y t c pb po v):=by
 iterate 1 (refine aT.step (by kernel_rfl) (λw=>by kernel_rfl) ?_)
 exact aT.nil
theorem Um(y:Lk)(t:Nat->Value)(c pb po:Nat)(v:Value):dI prog false 1 (g5 prog y t c pb po v)=G (Frame.enter prog 158 #[v] .normal) ((g5 prog y t c pb po v).frame::(g5 prog y t c pb po v).callers):=by kernel_rfl
theorem YB(y:Lk)(t:Nat->Value)(c pb po:Nat)(v:Value)(k l s:Nat)(a:Option Addr)(d e st:Nat):aT prog false 3 (g6 prog y t c pb po v (fv k l s a d e st)):=by
 iterate 3 (refine aT.step (by kernel_rfl) (λw=>by kernel_rfl) ?_)
 exact aT.nil
def Cg:Obj:=.cells #[.int .i64 0,.int .i64 0,.int .i64 0,.slice none 0 0] 293
theorem YC(y:Lk)(t:Nat->Value)(c pb po:Nat)(v:Value)(k l s:Nat)(a:Option Addr)(d e st:Nat)(n:Nat):bW prog false (dI prog false 3 (g6 prog y t c pb po v (fv k l s a d e st))) [{ n:=n }] (.value (.pointer (some ⟨n,0,none⟩))) [{ k:=4,ad:=⟨n,0,none⟩,o:=Cg }] #[]:=⟨by kernel_rfl,by kernel_rfl,λw=>by kernel_rfl,by kernel_rfl,by kernel_rfl,by kernel_rfl,by kernel_rfl⟩
theorem YD(y:Lk)(t:Nat->Value)(c pb po:Nat)(v:Value)(k l s:Nat)(a:Option Addr)(d e st bx:Nat):bW prog false (g7 prog y t c pb po v k l s a d e st bx) [] .skip
 [{ k:=1,ad:=⟨bx,0,none⟩,v:=.int .i64 (k:Nat) },{ k:=1,ad:=⟨bx,1,none⟩,v:=.int .i64 (l:Nat) },{ k:=1,ad:=⟨bx,2,none⟩,v:=.int .i64 (s:Nat) },{ k:=1,ad:=⟨bx,3,none⟩,v:=.slice a d e }]
 #[⟨.cell ⟨bx,0,none⟩,true,false⟩,⟨.cell ⟨bx,1,none⟩,true,false⟩,⟨.cell ⟨bx,2,none⟩,true,false⟩,⟨.cell ⟨bx,3,none⟩,true,false⟩]:=⟨by kernel_rfl,by kernel_rfl,λw=>by kernel_rfl,by kernel_rfl,by kernel_rfl,by kernel_rfl,by kernel_rfl⟩
theorem YE(y:Lk)(t:Nat->Value)(c pb po:Nat)(v:Value)(k l s:Nat)(a:Option Addr)(d e st bx:Nat):aT prog false 6 (go1 prog (g7 prog y t c pb po v k l s a d e st bx) .skip):=by
 iterate 6 (refine aT.step (by kernel_rfl) (λw=>by kernel_rfl) ?_)
 exact aT.nil
theorem YF(y:Lk)(t:Nat->Value)(c pb po:Nat)(v:Value)(k l s:Nat)(a:Option Addr)(d e st bx:Nat):bW prog false (g8 prog y t c pb po v k l s a d e st bx) [{ v:=.int .i64 (l:Nat) }] (.value (.int .i64 (l:Nat))) [{ k:=0,ad:=⟨bx,1,none⟩,v:=.int .i64 (l:Nat) }] #[⟨.cell ⟨bx,1,none⟩,false,false⟩]:=⟨by kernel_rfl,by kernel_rfl,λw=>by kernel_rfl,by kernel_rfl,by kernel_rfl,by kernel_rfl,by kernel_rfl⟩
theorem YG(y:Lk)(t:Nat->Value)(c pb po:Nat)(v:Value)(k l s:Nat)(a:Option Addr)(d e st bx:Nat):aT prog false 2 (go1 prog (g8 prog y t c pb po v k l s a d e st bx) (.value (.int .i64 (l:Nat)))):=by
 iterate 2 (refine aT.step (by kernel_rfl) (λw=>by kernel_rfl) ?_)
 exact aT.nil
theorem YH(y:Lk)(t:Nat->Value)(c pb po:Nat)(v:Value)(k l s:Nat)(a:Option Addr)(d e st bx:Nat):bW prog false (g9 prog y t c pb po v k l s a d e st bx) [{ v:=.int .i64 (s:Nat) }] (.value (.int .i64 (s:Nat))) [{ k:=0,ad:=⟨bx,2,none⟩,v:=.int .i64 (s:Nat) }] #[⟨.cell ⟨bx,2,none⟩,false,false⟩]:=⟨by kernel_rfl,by kernel_rfl,λw=>by kernel_rfl,by kernel_rfl,by kernel_rfl,by kernel_rfl,by kernel_rfl⟩
theorem YI(y:Lk)(t:Nat->Value)(c pb po:Nat)(v:Value)(k l s:Nat)(a:Option Addr)(d e st bx:Nat):aT prog false 1 (go1 prog (g9 prog y t c pb po v k l s a d e st bx) (.value (.int .i64 (s:Nat)))):=by
 iterate 1 (refine aT.step (by kernel_rfl) (λw=>by kernel_rfl) ?_)
 exact aT.nil
theorem Un(y:Lk)(t:Nat->Value)(c pb po:Nat)(v:Value)(k l s:Nat)(a:Option Addr)(d e st bx:Nat):bW prog false (g10 prog y t c pb po v k l s a d e st bx) [{ v:=.int .i64 (k:Nat) }] (.value (.int .i64 (k:Nat))) [{ k:=0,ad:=⟨bx,0,none⟩,v:=.int .i64 (k:Nat) }] #[⟨.cell ⟨bx,0,none⟩,false,false⟩]:=⟨by kernel_rfl,by kernel_rfl,λw=>by kernel_rfl,by kernel_rfl,by kernel_rfl,by kernel_rfl,by kernel_rfl⟩
theorem Uo(y:Lk)(t:Nat->Value)(c pb po:Nat)(v:Value)(k l s:Nat)(a:Option Addr)(d e st bx:Nat):aT prog false 2 (go1 prog (g10 prog y t c pb po v k l s a d e st bx) (.value (.int .i64 (k:Nat)))):=by
 iterate 2 (refine aT.step (by kernel_rfl) (λw=>by kernel_rfl) ?_)
 exact aT.nil
def YJ(c k l s st:Nat):Value:=.agg #[.int .i64 (st:Nat),.int .i64 (l:Nat),.int .i64 (c:Nat),.int .i64 (s:Nat),.int .i64 (k:Nat)]
theorem Qk(y:Lk)(t:Nat->Value)(c pb po:Nat)(v:Value)(k l s:Nat)(a:Option Addr)(d e st bx:Nat)(w:World) :
 stepG prog false (g11 prog y t c pb po v k l s a d e st bx) w=.comm (g11 prog y t c pb po v k l s a d e st bx) #[scase y.bc (YJ c k l s st) (.tuple #[])] true .send w #[]:=by kernel_rfl
theorem Uq(y:Lk)(t:Nat->Value)(c pb po:Nat)(v:Value)(k l s:Nat)(a:Option Addr)(d e st bx:Nat):aT prog false 3 (Conc.served (g11 prog y t c pb po v k l s a d e st bx) undef):=by
 iterate 3 (refine aT.step (by kernel_rfl) (λw=>by kernel_rfl) ?_)
 exact aT.nil
def g12(P:Program)(y:Lk)(t:Nat->Value)(c pb po:Nat)(v:Value)(k l s:Nat)(a:Option Addr)(d e st bx:Nat):Goroutine:=Conc.served (g11 P y t c pb po v k l s a d e st bx) undef
theorem Ql(y:Lk)(t:Nat->Value)(c pb po:Nat)(v:Value)(k l s:Nat)(a:Option Addr)(d e st bx:Nat):dI prog false 3 (g12 prog y t c pb po v k l s a d e st bx)=qV prog y (g12 prog y t c pb po v k l s a d e st bx).frame.tmps:=by kernel_rfl
theorem Qm(y:Lk)(t:Nat->Value)(c pb po:Nat)(v:Value)(k l s:Nat)(a:Option Addr)(d e st bx:Nat):(g12 prog y t c pb po v k l s a d e st bx).frame.tmps.size=35:=by kernel_rfl
theorem ac3(y:Lk)(t:Nat->Value)(c pb po:Nat)(v:Value)(k l s:Nat)(a:Option Addr)(d e st bx:Nat):(g12 prog y t c pb po v k l s a d e st bx).frame.tmps[0]?=some y.pages:=by kernel_rfl
theorem ac4(y:Lk)(t:Nat->Value)(c pb po:Nat)(v:Value)(k l s:Nat)(a:Option Addr)(d e st bx:Nat):(g12 prog y t c pb po v k l s a d e st bx).frame.tmps[1]?=some (ptr y.b6):=by kernel_rfl
theorem ac5(y:Lk)(t:Nat->Value)(c pb po:Nat)(v:Value)(k l s:Nat)(a:Option Addr)(d e st bx:Nat):(g12 prog y t c pb po v k l s a d e st bx).frame.tmps[2]?=some (.chan (some y.bc)):=by kernel_rfl
theorem Ur(y:Lk)(t:Nat->Value)(c pb po:Nat)(v:Value)(k l s:Nat)(a:Option Addr)(d e st bx:Nat):(g11 prog y t c pb po v k l s a d e st bx).status=.running:=by kernel_rfl
theorem Qn(y:Lk)(T:Array Value):(qV prog y T).status=.running:=by kernel_rfl
theorem Qo(y:Lk)(t:Nat->Value):(dI prog false 15 (qV prog y (wT y t))).status=.running:=by kernel_rfl
end Go.Proofs.YthbndfpeffcigaaGreatDoor
namespace Go.Proofs.YthbndfpeffcigaaGreatDoor
open Go Go.Conc
def WC(P:Program)(l:List TypeId):Bool:=l.all λt=>match P.info? t with
 |some i=>(i.zero.map mD).getD true
 |none=>true
theorem xW{P:Program}{fns:Fx}{l:List TypeId}(hl:∀ t,fns.tys t=true->t∈l)(h:WC P l=true):zeros P fns:=by
 intro t i v ht hi hv
 unfold WC at h
 rw[List.all_eq_true] at h
 have:=h t (hl t ht)
 rw[hi] at this
 simp only[hv] at this
 exact this
def Qp(P:Program)(fns:Fx)(l:List FuncId):Bool:=l.all λf=>lJ P fns f&&match P.funcs[f]? with
 |some fn=>match fn.body with
  |some c=>bT P fns (o7 P f) c
  |none=>true
 |none=>true
theorem tq{P:Program}{fns:Fx}{l:List FuncId}(hl:∀ f,fns.ok f=true->f∈l)(h:Qp P fns l=true)(hj:∀ f,fns.ok f=true->fns.jf f=false->fns.rf[f]?=P.funcs[f]?)(hme:BS P fns):kU P fns:=by
 unfold Qp at h
 rw[List.all_eq_true] at h
 refine⟨λf hf=>?_,λf fn c hf h1 h2=>?_,hj,hme⟩
 .have:=h f (hl f hf)
  rw[Bool.and_eq_true] at this
  exact this.1
 .have:=h f (hl f hf)
  rw[Bool.and_eq_true,h1] at this
  simp only[h2] at this
  exact this.2
abbrev WE:List FuncId:=[158,187,186,185,184,197,198,196,194,56,195,200]
abbrev WG:List TypeId:=[293,5]
def g_(P:Program)(lo:Nat->Nat):Fx:=⟨λf=>WE.contains f,lo,λt=>WG.contains t,P.funcs,λ_=>false,false,λ_=>false,λa=>lo a==0,λa h=>by simpa using h,λ_=>false,λ_=>true⟩
theorem xX(lo:Nat->Nat):zeros prog (g_ prog lo):=xW (l:=WG) (λt ht=>by simpa [g_] using ht) (by kernel_rfl)
theorem xY:0<prog.depth:=of_decide_eq_true (by kernel_rfl)
theorem oI(lo:Nat->Nat):fU prog (g_ prog lo):=⟨tq (l:=WE) (λf hf=>by simpa [g_] using hf) (by kernel_rfl) (λ_ _ _=>rfl) (λ_ h=>by cases h),rfl,λ_=>rfl⟩
end Go.Proofs.YthbndfpeffcigaaGreatDoor
namespace Go.Proofs.YthbndfpeffcigaaGreatDoor
open Go Go.Conc
open Go.ConcN (WgLive Has AtR0 RW DWs)
open Go.ConcR (KK wgBlock WgAt stA smA rd wr Payload DC0)
variable {w:World}
structure Kw(y:Lk)(w:World):Prop where
 fz:∀ b,y.Fz b->w.heap[b]?=y.w0.heap[b]?
 size:y.w0.heap.size<=w.heap.size
 live:WgLive 266 y.b7 w
def Own(y:Lk)(O:Nat->Prop):Prop:=∀ b,O b->y.w0.heap.size<=b
def Qq(P:Program)(y:Lk)(O:Nat->Prop)(g:Goroutine)(w:World):Prop :=
 (∃ T:Array Value,g=qV P y T/\T.size=35/\T[0]?=some y.pages/\T[1]?=some (ptr y.b6)/\T[2]?=some (.chan (some y.bc)))/\Kw y w/\Own y O
def Lk.cx(P:Program)(y:Lk)(AW Nx:(Nat->Prop)->Goroutine->World->Prop):Cx :=
 { P:=P,ty:=266,tN:=260,Wg:=y.b7,Nx:=y.b6,Ch:=y.bc,C:=y.b2,nC:=1,val:=y.pages,len:=y.len,n:=y.n,m0:=y.m0,sight:=y.sight,Fz:=y.Fz,JK:=Qq P y,AnchW:=AW,Next:=Nx }
structure YK(P:Program)(y:Lk)(i:Nat):Prop where
 gh:∃ (lo:Nat->Nat) (E:Nat->Nat->Prop) (gh:World) (av:Value),(∀ a b,E a b->y.Fz b)/\WR P (g_ P lo) E (λa=>∃ b,E a b) gh y.w0/\VR (g_ P lo) E av (.slice (y.ha i) (y.hl i) (y.hc i)) /\
  ∀ w:World,w.heap=gh.heap->Calls P 158 #[av] w (λe _=>∃ a d c,e=.returned (fv (y.kd i) (y.lb i) (y.sq i) a d c (y.st i)))
structure Lk.Ok(P:Program)(y:Lk):Prop where
 b2:y.w0.heap[y.b2]?=some (.cells #[y.pages] 181)
 b8:y.w0.heap[y.b8]?=some (.cells #[.chan (some y.bc)] 267)
 f2:y.Fz y.b2
 f8:y.Fz y.b8
 fl:∀ b,y.Fz b->b<y.w0.heap.size/\b≠y.b6/\b≠y.b7/\b≠y.bc
 low:y.b6<y.w0.heap.size/\y.b7<y.w0.heap.size/\y.bc<y.w0.heap.size
 glob:P.globals.size<y.w0.heap.size
 page:∀ i,i<y.len->∃ pb po,y.pa=some ⟨pb,po,none⟩/\y.Fz pb/\y.w0.cell? ⟨pb,po+i,none⟩=some (.slice (y.ha i) (y.hl i) (y.hc i))
 pg:∀ i,i<y.len->YK P y i
 most:y.len<=4096
theorem Ci{P:Program}{main:Bool}{R:World->World->Prop}{D:World->World->Array Event->Prop}{S:Goroutine->World->Prop}(hR:∀ w,R w w){m:Nat}{g g':Goroutine}{es:Array Event}(hs:stepG P main g w=.go g' w es)(hno:¬S g w)(h:Goes P main R D S m g w):D w w es/\∃ m',Goes P main R D S m' g' w:=by
 cases m with
 |zero=>exact absurd (h w (hR w)) hno
 |succ m =>
  rcases h with h|⟨_,h⟩
  .exact absurd (h w (hR w)) hno
  .have:=h w (hR w)
   rw[hs,goes_go] at this
   exact⟨this.1,m,this.2⟩
section
variable {y:Lk} {AW Nx:(Nat->Prop)->Goroutine->World->Prop} {O:Nat->Prop}
theorem mM(P:Program)(O:Nat->Prop):LY y.Fz (y.cx P AW Nx).Ex (Kw y) O:=λ_ _ r h=>⟨λb hb=>(r.fz b hb).trans (h.fz b hb),Nat.le_trans h.size r.size,r.ex h.live⟩
theorem Kw.cell(h:Kw y w){a:Addr}(hb:y.Fz a.block):w.cell? a=y.w0.cell? a:=by unfold World.cell?;rw[h.fz _ hb]
theorem Kw.keep{P:Program}(ok:y.Ok P){w':World}(h:Kw y w)(hk:∀ b,b<y.w0.heap.size->w'.heap[b]?=w.heap[b]?)(hs:w.heap.size<=w'.heap.size):Kw y w':=by
 refine⟨λb hb=>(hk b (ok.fl b hb).1).trans (h.fz b hb),Nat.le_trans h.size hs,?_⟩
 obtain⟨st,sm,hw⟩:=h.live
 exact⟨st,sm,(hk _ ok.low.2.1).trans hw⟩
theorem wrap_small{z:Int}(h0:0<=z)(h1:z<9223372036854775808):IntKind.i64.wrap z=z:=by rw[IntKind.wrap_i64];omega
theorem YL[Payload](ok:y.Ok prog)(t:Nat->Value)(c:Nat)(w:World)(hw:Kw y w):AtR0 prog 266 y.b7 y.b2 1 0 1 y.pages (gM prog y t c) w:=by
 have hhas:Has y.b2 (1-1) y.pages w:=by
  show w.cell? ⟨y.b2,0,none⟩=some y.pages
  rw[hw.cell ok.f2]
  simp[World.cell?,ok.b2]
 have hshape:w.shape? y.b7=some (266,2):=by
  obtain⟨st,sm,h⟩:=hw.live
  have h':w.heap[y.b7]?=some (wgBlock 266 st sm):=h
  simp[World.shape?,h',wgBlock]
 have hd:=Go.ConcN.Gen.doneN (L:=Tryz.link) Tryz.acu (Own:=λ_ _=>False) (Rd:=λ_ _=>False) (Wg:=y.b7) (C:=y.b2) (n:=1) (Low:=0) (k:=1) (val:=y.pages) (Uk y t c) (Ae 2 (Yr y t c) (Yt y t c)) w ⟨hw.live,hhas⟩
 rw[<-ac2] at hd
 have hR:∀ w,RW Tryz.link.tWg y.b7 y.b2 1 0 (1-1) w w:=λw=>⟨λ_ _ _ _=>rfl,λh=>h,λh=>h,rfl⟩
 have hS:∀ g w,AtR0 prog Tryz.link.tWg y.b7 y.b2 1 0 1 y.pages g w->∃ g' es,stepG prog false g w=.go g' w es/\es≠#[]:=λg w h=>by
  obtain⟨_,_,g',h1,_⟩:=h
  exact⟨g',_,h1,by simp⟩
 obtain⟨m1,h1⟩:=sW hR hS 14 (Qj y t c) hd
 -- the conversion
 have hst:stepG prog false (gC prog y t c) w=.go (gM prog y t c) w #[]:=(Hy y t c).step (show eG _ _ _ from⟨hshape,hshape,rfl⟩)
 have afE:¬AtR0 prog Tryz.link.tWg y.b7 y.b2 1 0 1 y.pages (gC prog y t c) w:=λh=>by
  obtain⟨g2,es,e1,e2⟩:=hS _ w h
  exact e2 (GStep.go.inj (hst.symm.trans e1)).2.2.symm
 obtain⟨_,m2,h2⟩:=Ci hR hst afE h1
 -- where it says 'release' it has stopped: behind it would come 'disable'
 apply Classical.byContradiction
 intro hno
 obtain⟨_,m3,h3⟩:=Ci hR (Ul y t c w) hno h2
 obtain⟨m4,h4⟩:=sW hR hS 3 (Yu y t c) h3
 have afF:¬AtR0 prog Tryz.link.tWg y.b7 y.b2 1 0 1 y.pages (gK prog y t c) w:=λh=>by
  obtain⟨_,_,g',h1,_⟩:=h
  have h6:=(JW y t c w).symm.trans h1
  simp[ConcR.mk] at h6
 obtain⟨hd,_⟩:=Ci hR (JW y t c w) afF h4
 exact(hd.2 (ConcR.mk .disable) (by simp)).2.1 rfl
end
