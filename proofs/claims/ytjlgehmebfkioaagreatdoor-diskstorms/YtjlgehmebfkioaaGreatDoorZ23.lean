/- Part of the proof. -/
import Derived.Test.YtjlgehmebfkioaaGreatDoorZ22
import Derived.KernelRfl
open Go.Proofs.Tryz renaming prog->aa
open Array renaming getElem?_eq_getElem->cR,getElem?_eq_some_iff->cj,getElem?_setIfInBounds_ne->az,getElem?_map->c_
open Bool renaming and_eq_true->bz
open Classical renaming byContradiction->cE
open Go renaming Goroutine->ag,Program->ar,World->ae,Event->gj,Value->ai,TypeId->cw,Addr->cy,Trace->e_,Frame->aw,FuncId->gw
open Go.Conc renaming mem_ofEvents->cr
open Go.Frame renaming enter->b9
open Go.Instr renaming indexAt->jz
open Go.Sem renaming runT->d_
open Go.World renaming cell?->ck
open List renaming all_eq_true->kn
open Nat renaming eq_zero_or_pos->gE,le_refl->al,le_trans->cC
open Option renaming map_eq_some_iff->cq
open Option.some renaming injEq->cJ,inj->cd
namespace Go.Proofs.YtjlgehmebfkioaaGreatDoor
open Go Go.Conc
variable {g g':ag}
def nx(P:ar)(main:Bool)(g:ag):ag:=match stepG P main g default with | .go g' _ _=>g'|_=>g
def dN(P:ar)(main:Bool):Nat->ag->ag
 |0,g=>g
 |n+1,g=>dN P main n (nx P main g)
def aO(P:ar)(main:Bool):Nat->ag->Prop
 |0,_=>True
 |n+1,g=>(g.status=.running/\∀ w,stepG P main g w=.go (nx P main g) w #[])/\aO P main n (nx P main g)
theorem aO.step{P:ar}{main:Bool}{n:Nat}(hr:g.status=.running)(h:∀ w,stepG P main g w=.go (nx P main g) w #[])(k:aO P main n (nx P main g)):aO P main (n+1) g:=⟨⟨hr,h⟩,k⟩
theorem aO.nil{P:ar}{main:Bool}:aO P main 0 g:=trivial
variable {P:ar} {main ig:Bool} {Fz:Nat->Prop} {Ex:ae->ae->Prop} {O:Nat->Prop} {Stop:(Nat->Prop)->ag->ae->Prop} {K:ae->Prop}
def CK(P:ar)(main ig:Bool)(Fz:Nat->Prop)(Ex:ae->ae->Prop)(Stop:(Nat->Prop)->ag->ae->Prop)(K:ae->Prop)(O:Nat->Prop)(g:ag):Prop:=∀ w,K w->Co P main ig Fz Ex Stop O g w
def Nw(Fz:Nat->Prop)(Ex:ae->ae->Prop)(K:ae->Prop)(O:Nat->Prop):Prop:=∀ w w₁,kQ Fz Ex O w w₁->K w->K w₁
theorem bN(hK:Nw Fz Ex K O):∀ (n:Nat) {g:ag},aO P main n g->CK P main ig Fz Ex Stop K O (dN P main n g)->CK P main ig Fz Ex Stop K O g
 |0,_,_,h=>h
 |n+1,_,hp,h=>λw hw=>UD hp.1.1 hp.1.2 λw₁ r=>bN hK n hp.2 h w₁ (hK w w₁ r hw)
theorem dG(hK:Nw Fz Ex K O)(hr:g.status=.running)(h:∀ w,K w->Stop O g w):CK P main ig Fz Ex Stop K O g:=λw hw=>Co.stop hr λw₁ r=>h w₁ (hK w w₁ r hw)
theorem wP(hK:Nw Fz Ex K O)(hr:g.status=.running)(h:∀ w,K w->∃ g' w' es,stepG P main g w=.go g' w' es/\Jo O w w'/\(∀ e∈es,EvC Fz (grow O w w') e)/\(ig=true->es=#[])/\Co P main ig Fz Ex Stop (grow O w w') g' w'):CK P main ig Fz Ex Stop K O g :=
 λw hw=>Co.step hr λw₁ r=>h w₁ (hK w w₁ r hw)
theorem Ju(hK:Nw Fz Ex K O)(hr:g.status=.running)(hs:∀ w,K w->stepG P main g w=.go g' w #[])(h:CK P main ig Fz Ex Stop K O g'):CK P main ig Fz Ex Stop K O g :=
 wP hK hr λw hw=>⟨g',w,#[],hs w hw,Jo.refl,λe he=>by simp at he,λ_=>rfl,by rw[mg];exact h w hw⟩
theorem UO(hK:Nw Fz Ex K O){es:Array gj}(hr:g.status=.running)(hs:∀ w,K w->stepG P main g w=.go g' w es)(he:∀ e∈es,EvC Fz O e)(h:CK P main false Fz Ex Stop K O g'):CK P main false Fz Ex Stop K O g :=
 wP hK hr λw hw=>⟨g',w,es,hs w hw,Jo.refl,λe hm=>by rw[mg];exact he e hm,λx=>(by cases x),by rw[mg];exact h w hw⟩
theorem UQ{K':ae->Prop}(h:CK P main ig Fz Ex Stop K' O g)(hk:∀ w,K w->K' w):CK P main ig Fz Ex Stop K O g:=λw hw=>h w (hk w hw)
structure An where
 v:ai:=.nilFunc
 sh:Option (cw × Nat):=none
 b:Bool:=false
 n:Nat:=0
structure Qa where
 k:Nat
 ad:cy:=default
 v:ai:=.nilFunc
 sy:Bool:=false
 sh:Option (cw × Nat):=none
 b:Bool:=false
 o:Obj:=default
 m:Mark:=default
def cellV:ai->Bool
 | .agg _ | .tuple _=>false
 |_=>true
def jH(P:ar){α:Type}:Sem α->List An->Option (α × List Qa)
 | .pure a,l=>if l.isEmpty then some (a,[]) else none
 | .load m a k,l=>(jH P (k (l.headD {}).v) l.tail).map λr=>(r.1,{ k:=0,ad:=a,v:=(l.headD {}).v,sy:=m==.atomic }::r.2)
 | .store m a v k,l=>if cellV v then(jH P k l).map λr=>(r.1,{ k:=1,ad:=a,v:=v,sy:=m==.atomic }::r.2) else none
 | .new o k,l=>(jH P (k (l.headD {}).n) l.tail).map λr=>(r.1,{ k:=4,ad:=⟨(l.headD {}).n,0,none⟩,o:=o }::r.2)
 | .shape b k,l=>(jH P (k (l.headD {}).sh) l.tail).map λr=>(r.1,{ k:=2,ad:=⟨b,0,none⟩,sh:=(l.headD {}).sh }::r.2)
 | .frozen a k,l=>(jH P (k (l.headD {}).b) l.tail).map λr=>(r.1,{ k:=3,ad:=a,b:=(l.headD {}).b }::r.2)
 | .program k,l=>jH P (k P) l
 | .mark m k,l=>(jH P k l).map λr=>(r.1,{ k:=5,m:=m }::r.2)
 | .choose q k,l=>if q.forced then jH P (k 0) l else none
 | .freeze _ _ _,_=>none
 | .getObj _ _,_=>none
 | .setObj _ _ _,_=>none
 | .sys _ _,_=>none
 | .halt _,_=>none
def fq:List Qa->ae->ae->Prop
 | [],w,w'=>w'=w
 |q::l,w,w' =>
  if q.k=0 then w.cell? q.ad=some q.v/\fq l w w'
  else if q.k=1 then(w.cell? q.ad).isSome=true/\w.frozen? q.ad=false/\fq l (w.setCell q.ad q.v) w'
  else if q.k=2 then w.shape? q.ad.block=q.sh/\fq l w w'
  else if q.k=3 then w.frozen? q.ad=q.b/\fq l w w'
  else if q.k=4 then w.heap.size=q.ad.block/\fq l { w with heap:=w.heap.push q.o } w'
  else fq l w w'
def UR(q:Qa):Option gj:=if q.k=0 then some ⟨.cell q.ad,false,q.sy⟩ else if q.k=1 then some ⟨.cell q.ad,true,q.sy⟩ else if q.k=5 then some ⟨.mark q.m,false,true⟩ else none
theorem QM{α:Type}:∀ (s:Sem α) (l:List An) (x:α) (qs:List Qa) (w w':ae) (es:Array gj),jH P s l=some (x,qs)->fq qs w w'->s.runT P w es=(.ok x w',es++(qs.filterMap UR).toArray):=by
 intro s
 induction s with
 |pure a =>
  intro l x qs w w' es h hq
  simp only[jH] at h
  split at h
  .cases h
   simp only[fq] at hq
   subst hq
   simp[d_]
  .cases h
 |load m a k ih =>
  intro l x qs w w' es h hq
  simp only[jH,cq] at h
  obtain⟨⟨x1,q1⟩,h1,h2⟩:=h
  cases h2
  simp only[fq,if_true] at hq
  simp only[d_,hq.1]
  rw[ih _ _ _ _ _ _ _ h1 hq.2]
  simp[UR]
 |store m a v k ih =>
  intro l x qs w w' es h hq
  simp only[jH] at h
  split at h
  .rename_i hv
   simp only[cq] at h
   obtain⟨⟨x1,q1⟩,h1,h2⟩:=h
   cases h2
   simp only[fq,Nat.one_ne_zero,if_false,if_true] at hq
   obtain⟨hc,hf,hq⟩:=hq
   obtain⟨u,hu⟩:=Option.isSome_iff_exists.1 hc
   have e:(Sem.store m a v k).runT P w es=k.runT P (w.setCell a v) (es.push ⟨.cell a,true,m==.atomic⟩):=by
    cases v<;>first|(cases hv;done)|(simp only[d_,hu,hf];rfl)
   rw[e,ih _ _ _ _ _ _ h1 hq]
   simp[UR]
  .cases h
 |new o k ih =>
  intro l x qs w w' es h hq
  simp only[jH,cq] at h
  obtain⟨⟨x1,q1⟩,h1,h2⟩:=h
  cases h2
  simp only[fq,show ¬(4:Nat)=0 by decide,show ¬(4:Nat)=1 by decide,show ¬(4:Nat)=2 by decide,show ¬(4:Nat)=3 by decide,if_false,if_true] at hq
  simp only[d_,hq.1]
  rw[ih _ _ _ _ _ _ _ h1 hq.2]
  simp[UR]
 |shape b k ih =>
  intro l x qs w w' es h hq
  simp only[jH,cq] at h
  obtain⟨⟨x1,q1⟩,h1,h2⟩:=h
  cases h2
  simp only[fq,show ¬(2:Nat)=0 by decide,show ¬(2:Nat)=1 by decide,if_false,if_true] at hq
  simp only[d_,hq.1]
  rw[ih _ _ _ _ _ _ _ h1 hq.2]
  simp[UR]
 |frozen a k ih =>
  intro l x qs w w' es h hq
  simp only[jH,cq] at h
  obtain⟨⟨x1,q1⟩,h1,h2⟩:=h
  cases h2
  simp only[fq,show ¬(3:Nat)=0 by decide,show ¬(3:Nat)=1 by decide,show ¬(3:Nat)=2 by decide,if_false,if_true] at hq
  simp only[d_,hq.1]
  rw[ih _ _ _ _ _ _ _ h1 hq.2]
  simp[UR]
 |program k ih =>
  intro l x qs w w' es h hq
  simp only[jH] at h
  simp only[d_]
  exact ih _ _ _ _ _ _ _ h hq
 |mark m k ih =>
  intro l x qs w w' es h hq
  simp only[jH,cq] at h
  obtain⟨⟨x1,q1⟩,h1,h2⟩:=h
  cases h2
  simp only[fq,show ¬(5:Nat)=0 by decide,show ¬(5:Nat)=1 by decide,show ¬(5:Nat)=2 by decide,show ¬(5:Nat)=3 by decide,show ¬(5:Nat)=4 by decide,if_false] at hq
  simp only[d_]
  rw[ih _ _ _ _ _ _ h1 hq]
  simp[UR]
 |choose q k ih =>
  intro l x qs w w' es h hq
  simp only[jH] at h
  split at h
  .rename_i hf
   simp only[d_,hf,if_true]
   exact ih _ _ _ _ _ _ _ h hq
  .cases h
 |freeze=>intro l x qs w w' es h;simp[jH] at h
 |getObj=>intro l x qs w w' es h;simp[jH] at h
 |setObj=>intro l x qs w w' es h;simp[jH] at h
 |sys=>intro l x qs w w' es h;simp[jH] at h
 |halt=>intro l x qs w w' es h;simp[jH] at h
def qg(g:ag):Sem Next:=match g.frame.oper? with
 |some o=>execOp g.frame.eval o
 |none=>Go.stuck ""
def QN(P:ar)(main:Bool)(g:ag):Prop:=(g.frame.kind==.early)=false/\∀ w,stepG P main g w=stepG.apply P true g.frame g.callers none (qg g) w
def upon(P:ar)(g:ag):Next->Option ag
 | .value v=>some (G (g.frame.finish v) g.callers)
 | .skip=>some (G (g.frame.finish undef) g.callers)
 | .enter f a=>some (G (b9 P f a .normal) (g.frame::g.callers))
 |_=>none
def DN(g:ag):Bool:=match g.frame.todo with
 | .call _ _ _ _::_=>false
 |_=>true
theorem Bw(h:DN g=true)(d:Deferred)(a:Bool)(b:String)(c:Array ai)(k:List Item):g.frame.todo≠.call d a b c::k:=by
 intro e
 unfold DN at h
 rw[e] at h
 cases h
theorem QO{w w':ae}{l:List An}{x:Next}{qs:List Qa}(ha:QN P main g)(hn:∀ d a b c k,g.frame.todo≠.call d a b c::k)(h:jH P (qg g) l=some (x,qs))(hu:upon P g x=some g')(hq:fq qs w w') :
 stepG P main g w=.go g' w' (seen P g.frame.fn (qs.filterMap UR).toArray):=by
 rw[ha.2 w]
 unfold stepG.apply
 simp only[if_true,QM _ _ _ _ _ _ #[] h hq,Array.empty_append,ha.1,Bool.false_eq_true,if_false]
 cases x with
 |value v =>
  simp only[upon,cJ] at hu
  subst hu
  simp[GStep.after,G]
 |skip =>
  simp only[upon,cJ] at hu
  subst hu
  simp[GStep.after,G]
 |enter f a =>
  simp only[upon,cJ] at hu
  subst hu
  simp only[GStep.after,Array.append_empty,G]
  congr 2
  split
  .rename_i he
   exact absurd he (hn _ _ _ _ _)
  .rfl
 |_=>cases hu
end Go.Proofs.YtjlgehmebfkioaaGreatDoor
namespace Go.Proofs.YtjlgehmebfkioaaGreatDoor
open Go Go.Conc
open Go.ConcN (sumTo upd sumTo_upd upd_ne upd_same)
variable {es:Array gj}
structure Bx(P:ar)(S:Nat->Prop)(B0:Nat)(g:ag)(w:ae)(gs:Array ag)(t:e_)(q:Nat->Nat):Prop where
 qb:gs[0]?=some g
 lv:Leavers P t gs q
 past:Past (eP S) w.heap.size t
 nor:∀ b,B0<=b->NoRelease (sA b) t
def Bs(P:ar)(S:Nat->Prop)(B0:Nat)(g:ag)(w:ae)(g':ag)(w':ae):Prop :=
 ∀ (gs:Array ag) (d:Nat) (sl:Option (Nat × Nat)) (t:e_) (q:Nat->Nat),Bx P S B0 g w gs t q ->
   ∃ (N:Nat) (gs':Array ag) (d':Nat) (sl':Option (Nat × Nat)) (t':e_) (q':Nat->Nat),
     runNT P N (crowd gs (w.at d) sl) t=(.next (crowd gs' (w'.at d') sl'),t')/\gs'.size=gs.size/\Bx P S B0 g' w' gs' t' q'
section
variable {P:ar} {S:Nat->Prop} {B0:Nat} {g g' g'':ag} {w w' w'':ae}
theorem runNT_add:∀ (N M:Nat) (m:Machine) (t:e_) {m':Machine} {t':e_},runNT P N m t=(.next m',t')->runNT P (N+M) m t=runNT P M m' t'
 |0,M,m,t,m',t',h=>by
  simp only[runNT] at h
  cases h
  rw[Nat.zero_add]
 |N+1,M,m,t,m',t',h=>by
  rw[show N+1+M=(N+M)+1 by omega]
  simp only[runNT] at h ⊢
  split at h
  .exact runNT_add N M _ _ h
  .rename_i hx _
   cases h
   exact absurd rfl (hx _)
theorem Bs.refl:Bs P S B0 g w g w:=λgs d sl t q h=>⟨0,gs,d,sl,t,q,rfl,rfl,h⟩
theorem Bs.trans(h:Bs P S B0 g w g' w')(k:Bs P S B0 g' w' g'' w''):Bs P S B0 g w g'' w'':=λgs d sl t q hx=>by
 obtain⟨N,gs1,d1,sl1,t1,q1,a1,a2,a3⟩:=h gs d sl t q hx
 obtain⟨M,gs2,d2,sl2,t2,q2,b1,b2,b3⟩:=k gs1 d1 sl1 t1 q1 a3
 exact⟨N+M,gs2,d2,sl2,t2,q2,by rw[runNT_add N M _ _ a1];exact b1,b2.trans a2,b3⟩
theorem DR(hrun:g.status=.running)
 (H:∀ (gs:Array ag) (d:Nat) (sl:Option (Nat × Nat)) (t:e_) (q:Nat->Nat),Bx P S B0 g w gs t q->∃ gs' d' u q',runT P (crowd gs (w.at d) sl) 0=(.next (crowd gs' (w'.at d') sl),u)/\gs'.size=gs.size/\Bx P S B0 g' w' gs' (t++u) q') :
 Bs P S B0 g w g' w':=by
 have main:∀ (M:Nat) (gs:Array ag) (d:Nat) (sl:Option (Nat × Nat)) (t:e_) (q:Nat->Nat),sumTo gs.size q<=M->Bx P S B0 g w gs t q ->
  ∃ (N:Nat) (gs':Array ag) (d':Nat) (sl':Option (Nat × Nat)) (t':e_) (q':Nat->Nat),runNT P N (crowd gs (w.at d) sl) t=(.next (crowd gs' (w'.at d') sl'),t')/\gs'.size=gs.size/\Bx P S B0 g' w' gs' t' q':=by
  intro M
  induction M using Nat.strongRecOn with
  |_ M Xr =>
   intro gs d0 sl t q hM hB
   have haw:∀ x∈gs,awake x:=by
    intro x hx
    obtain⟨i,hi,rfl⟩:=Array.mem_iff_getElem.1 hx
    rcases gE i with rfl|hpos
    .have:gs[0]=g:=by simpa [cR hi] using hB.qb
     rw[this];exact awake_of (.inl hrun)
    .exact awake_of ((hB.lv.old i _ hpos (cR hi)).status.elim .inl λx=>.inr (.inr x))
   obtain⟨i,x,d,sl',hi,hg,hst⟩:=crowd_pick (P:=P) (w:=w.at d0) (sl:=sl) haw ⟨0,g,hB.qb,hrun⟩
   have hat:(w.at d0).at d=w.at d:=rfl
   rw[hat] at hst
   rcases gE i with rfl|hpos
   .obtain⟨gs',d',u,q',h1,h2,h3⟩:=H gs d sl' t q hB
    exact⟨1,gs',d',sl',t++u,q',by simp only[runNT,hst,h1],h2,h3⟩
   .have hq:=hB.lv.old i x hpos hi
    have hi0:(i==0)=false:=by simp;omega
    have hlt:i<gs.size:=(cj.1 hi).1
    cases hqi:q i with
    |zero=>rw[hqi] at hq;rw[hq.1] at hg;cases hg
    |succ k =>
     rw[hqi] at hq
     rcases hq with ⟨hf,_⟩|⟨_,x',es,hm,hstp,hq'⟩
     .rw[hf] at hg;cases hg
     have hrunT:=runT_crowd_go (P:=P) (sl:=sl') (i:=i) hi (by rw[hi0];exact hstp (w.at d))
     have hsz:((gs.map (woken P x x' (w.at d))).setIfInBounds i x').size=gs.size:=by simp
     have hsum:sumTo gs.size (upd q i k)+(k+1)=sumTo gs.size q+k:=by
      have:=sumTo_upd q k id hlt
      simpa [hqi] using this
     obtain⟨N,gs',d',sl'',t',q',f1,f2,f3⟩:=Xr (sumTo gs.size (upd q i k)) (by omega) ((gs.map (woken P x x' (w.at d))).setIfInBounds i x') d sl' (t++MemOp.ofEvents i x.frame.fn x.frame.place es) (upd q i k) (by rw[hsz];exact al _)
      ⟨by
       have hne:i≠0:=by omega
       rw[az hne,c_,hB.qb]
       simp[woken_run hrun],⟨λj y hj hy=>by
       by_cases hji:i=j
       .subst hji
        rw[Array.getElem?_setIfInBounds_self_of_lt (by simpa using hlt)] at hy
        obtain rfl:=cd hy
        rw[upd_same,Deaf_own]
        exact hq'
       .rw[az hji,c_] at hy
        obtain⟨z,hz,rfl⟩:=cq.1 hy
        have hqj:=hB.lv.old j z hj hz
        rw[woken_quitsD hqj,upd_ne q k (Ne.symm hji),Deaf_other t hji _ (λop hop=>by obtain⟨e,_,rfl⟩:=cr hop;rfl)]
        exact hqj,λj hj=>by
       rw[Deaf_other t (g':=i) (by simp at hj;omega) _ (λop hop=>by obtain⟨e,_,rfl⟩:=cr hop;rfl)]
       exact hB.lv.above j (by simpa using hj)⟩,hB.past.mute (by omega) hm,λb hb=>(hB.nor b hb).app λop hop=>by obtain⟨e,he,rfl⟩:=cr hop;exact zm (hm e he) _⟩
     exact⟨N+1,gs',d',sl'',t',q',by simp only[runNT,hst,hrunT];exact f1,f2.trans hsz,f3⟩
 intro gs d sl t q hB
 exact main _ gs d sl t q (al _) hB
theorem r9(hr:g.status=.running)(hs:∀ d,∃ d',stepG P true g (w.at d)=.go g' (w'.at d') es)(he:∀ e∈es,EvL (eP S) w'.heap.size e/\∀ a,MemAct.ofEvent e≠.mark (.release a))(hsz:w.heap.size<=w'.heap.size):Bs P S B0 g w g' w':=by
 refine DR hr λgs d sl t q hB=>?_
 obtain⟨d',hst⟩:=hs d
 have hlt:0<gs.size:=(cj.1 hB.qb).1
 have hrunT:=runT_crowd_go (P:=P) (sl:=sl) (i:=0) hB.qb (show stepG P (0==0) g (w.at d)=_ from hst)
 refine⟨_,d',_,q,hrunT,by simp,⟨by simp[hlt],⟨λj x hj hx=>?_,λj hj=>?_⟩,(hB.past.mono hsz).own λe h=>(he e h).1,λb hb=>(hB.nor b hb).app λop hop=>by obtain⟨e,h,rfl⟩:=cr hop;exact(he e h).2 _⟩⟩
 .have hne:0≠j:=by omega
  rw[az hne,c_] at hx
  obtain⟨y,hy,rfl⟩:=cq.1 hx
  have hq:=hB.lv.old j y hj hy
  rw[woken_quitsD hq,Deaf_other t (by omega) _ (λop hop=>by obtain⟨e,_,rfl⟩:=cr hop;rfl)]
  exact hq
 .rw[Deaf_other t (g':=0) (by simp at hj;omega) _ (λop hop=>by obtain⟨e,_,rfl⟩:=cr hop;rfl)]
  exact hB.lv.above j (by simpa using hj)
theorem bE:∀ (n:Nat) {g:ag},aO P true n g->Bs P S B0 g w (dN P true n g) w
 |0,_,_=>Bs.refl
 |n+1,_,h=>(r9 (es:=#[]) h.1.1 (λd=>⟨d,h.1.2 _⟩) (λe he=>by simp at he) (al _)).trans (bE n h.2)
theorem qI:∀ (qs:List Qa) {w w':ae} (d:Nat),fq qs w w'->fq qs (w.at d) (w'.at d)
 | [],_,_,d,h=>by simp only[fq] at h ⊢;rw[h]
 |q::l,w,w',d,h=>by
  simp only[fq] at h ⊢
  split at h
  .rename_i e;rw[if_pos e];exact⟨h.1,qI l d h.2⟩
  .rename_i e0;rw[if_neg e0]
   split at h
   .rename_i e;rw[if_pos e];exact⟨h.1,h.2.1,qI l d h.2.2⟩
   .rename_i e1;rw[if_neg e1]
    split at h
    .rename_i e;rw[if_pos e];exact⟨h.1,qI l d h.2⟩
    .rename_i e2;rw[if_neg e2]
     split at h
     .rename_i e;rw[if_pos e];exact⟨h.1,qI l d h.2⟩
     .rename_i e3;rw[if_neg e3]
      split at h
      .rename_i e;rw[if_pos e];exact⟨h.1,qI l d h.2⟩
      .rename_i e;rw[if_neg e];exact qI l d h
end
def go1(P:ar)(g:ag)(x:Next):ag:=(upon P g x).getD g
def okN:Next->Bool
 | .value _ | .skip | .enter _ _=>true
 |_=>false
theorem GD(P:ar)(g:ag){x:Next}(h:okN x=true):upon P g x=some (go1 P g x):=by
 unfold go1
 cases x<;>first|(cases h;done)|rfl
structure bZ(P:ar)(main:Bool)(g:ag)(l:List An)(x:Next)(qs:List Qa)(es:Array gj):Prop where
 run:g.status=.running
 kind:(g.frame.kind==.early)=false
 at_:∀ w,stepG P main g w=stepG.apply P true g.frame g.callers none (qg g) w
 Jv:DN g=true
 asks:jH P (qg g) l=some (x,qs)
 ok:okN x=true
 ev:seen P g.frame.fn (qs.filterMap UR).toArray=es
theorem bZ.step{P:ar}{main:Bool}{g:ag}{l:List An}{x:Next}{qs:List Qa}(h:bZ P main g l x qs es){w w':ae}(hq:fq qs w w'):stepG P main g w=.go (go1 P g x) w' es:=by
 rw[QO ⟨h.kind,h.at_⟩ (Bw h.Jv) h.asks (GD P g h.ok) hq,h.ev]
theorem bR{P:ar}{S:Nat->Prop}{B0:Nat}{g:ag}{l:List An}{x:Next}{qs:List Qa}(h:bZ P true g l x qs es){w w':ae}(hq:fq qs w w')(he:∀ e∈es,EvL (eP S) w'.heap.size e/\∀ a,MemAct.ofEvent e≠.mark (.release a))(hsz:w.heap.size<=w'.heap.size):Bs P S B0 g w (go1 P g x) w' :=
 r9 h.run (λd=>⟨d,h.step (qI qs d hq)⟩) he hsz
end Go.Proofs.YtjlgehmebfkioaaGreatDoor
namespace Go.Proofs.YtjlgehmebfkioaaGreatDoor
open Go Go.Conc
variable {P:ar} {Z:Nat->Prop} {fns:Fx} {main ig:Bool} {E:Nat->Nat->Prop} {Fz:Nat->Prop} {Ex:ae->ae->Prop} {O:Nat->Prop} {Stop:(Nat->Prop)->ag->ae->Prop}
theorem K9{Q:ai->ae->Prop}{c:aw}{cs:List aw}{g g':ag}{gh w:ae}(h:Ak P fns Z true (zl P Q) [] (c::cs) E g gh g' w)(hs:dJ true [aL] g)(hf:zl P Q g gh) :
 ∃ E1 v v' eX w1 es,eX.heap=gh.heap/\Q v eX/\VR fns E1 v v'/\stepG (fns.re P) main g' w=.go (G (c.finish v') cs) w1 es/\Out P fns E E1 Z eX w eX w1/\∀ e∈es,Ag E1 Z e:=by
 obtain⟨fr,fr',L,rfl,rfl,hF,hL⟩:=h.gr
 have hL0:L=[]:=by
  have:=hs.1
  simp only[G] at this
  have h2:=congrArg List.length this
  simp at h2
  exact List.eq_nil_of_length_eq_zero (by simpa using h2)
 subst hL0
 have hk:Jl ([]:List (aw × aw)) []=[]:=rfl
 rw[hk] at hF
 have hm:fr.mode=.returning:=by
  have:=hs.2
  simpa [G] using this
 obtain⟨fn,v,t,d,hfn,hr,hq⟩:=hf
 simp only[G] at hfn hr
 have hres:fn.results.all (Bp (Du P fr.fn))=true:=by
  obtain⟨fn2,h2,h3⟩:=hF.func
  rw[hfn] at h2
  cases h2
  exact h3
 have hf':(fns.re P).funcs[fr'.fn]?=some fn:=by rw[hF.fn];exact hF.same.trans hfn
 have hm':fr'.mode=.returning:=hF.mode.trans hm
 have adn:=ak.results (P:=P) (Z:=Z) fn hres hF.tmps (eZ gh t d) w (h.wr.rQ t d)
 rw[hr] at adn
 obtain⟨E1,v',w1,e1,e2,e3,e4⟩:=adn (λj hj=>absurd hj (by omega))
 refine⟨E1,v,v',eZ gh t d,w1,seen (fns.re P) fr'.fn (Sem.events (fns.re P) (results fn fr'.tmps) w #[])++#[],rfl,hq,e3,?_,e2,?_⟩
 .simp only[List.map_nil,List.nil_append]
  rw[l5 hm']
  unfold unwind
  simp only[hF.d',hm',hf',Sem.runT_eq,e1,doReturn,hF.k']
  rfl
 .intro e he
  exact(e4 #[] e (mem_seen (by simpa [GStep.after] using he))).resolve_left (by simp)
theorem QS(hz:zeros P fns)(fQ:0<P.depth)(hp:g_ P fns){Q:ai->ae->Prop}{c:aw}{cs:List aw}{Oi:Nat->Prop}{K:ae->Prop}{Hold:Nat->Prop}{B0:Nat}{E0:Nat->Nat->Prop}
 (hKr:∀ O w w₁,kQ Fz Ex O w w₁->K w->K w₁) (hKg:∀ w w',K w->(∀ b,Hold b->w'.heap[b]?=w.heap[b]?)->w.heap.size<=w'.heap.size->K w')
 (next:∀ E1 v v' eX w1,Q v eX->VR fns E1 v v'->WR P fns E1 Z eX w1->K w1->(∀ a b,E1 a b->E0 a b\/B0<=b)->Co P main false Fz Ex Stop (λb=>Oi b\/(¬Fz b/\∃ a,E1 a b)) (G (c.finish v') cs) w1) :
 ∀ (x:ag × ae),Acc (Bf P true) x->∀ (E:Nat->Nat->Prop) (g':ag) (w:ae),Ak P fns Z true (zl P Q) [] (c::cs) E x.1 x.2 g' w->(∀ a b,E a b->Z a->Fz b)->(∀ a b,E a b->¬Z a->¬Fz b)->(∀ b,Fz b->b<w.heap.size) ->
   K w->(∀ b,Hold b->b<w.heap.size/\(Fz b\/∀ a,¬E a b))->(∀ a b,E a b->E0 a b\/B0<=b)->B0<=w.heap.size ->
   Co P main false Fz Ex Stop (λb=>Oi b\/(¬Fz b/\∃ a,E a b)) g' w:=by
 intro x hacc
 induction hacc with
 |intro x _ ih =>
 intro E g' w hI hZ hnZ hFl hK hH hE0 hB0
 refine Co.step hI.gr.running λw₁ r=>?_
 have hI1:Ak P fns Z true (zl P Q) [] (c::cs) E x.1 x.2 g' w₁:=hI.rely (λa b y=>by
  by_cases hf:Fz b
  .exact r.fz b hf
  .exact r.mine b (.inr ⟨hf,a,y⟩)) r.size
 have hK1:K w₁:=hKr _ w w₁ r hK
 -- what every step of its own keeps
 have common:∀ {E1:Nat->Nat->Prop} {eX Xt w2:ae} {es:Array gj},eX.heap.size=x.2.heap.size->Out P fns E E1 Z eX w₁ Xt w2->(∀ e∈es,Ag E1 Z e) ->
  Jo (λb=>Oi b\/(¬Fz b/\∃ a,E a b)) w₁ w2/\(∀ a b,E1 a b->Z a->Fz b)/\(∀ a b,E1 a b->¬Z a->¬Fz b)/\grow (λb=>Oi b\/(¬Fz b/\∃ a,E a b)) w₁ w2=(λb=>Oi b\/(¬Fz b/\∃ a,E1 a b)) /\
  (∀ e∈es,EvC Fz (λb=>Oi b\/(¬Fz b/\∃ a,E1 a b)) e)/\K w2/\(∀ b,Hold b->b<w2.heap.size/\(Fz b\/∀ a,¬E1 a b))/\(∀ a b,E1 a b->E0 a b\/B0<=b):=by
  intro E1 eX Xt w2 es hgs e4 e5
  have hfresh:∀ a b,E1 a b->E a b\/(w₁.heap.size<=b/\¬Z a):=λa b y=>(e4.fresh a b y).imp id λy=>⟨y.2,λhz=>by have:=hI1.wr.jG a hz;omega⟩
  have hZ1:∀ a b,E1 a b->Z a->Fz b:=λa b y hz=>(hfresh a b y).elim (λy=>hZ a b y hz) λy=>(y.2 hz).elim
  have ado:∀ a b,E1 a b->¬Z a->¬Fz b:=λa b y hz=>(hfresh a b y).elim (λy=>hnZ a b y hz) λy hf=>by
   have:=hFl b hf;have:=r.size;omega
  refine⟨⟨λb hb hno=>?_,e4.rsize,e4.Bo,e4.os,e4.output⟩,hZ1,ado,?_,λe he=>?_,?_,λb hb=>?_,λa b y=>?_⟩
  .exact e4.keep b hb λa y=>cE λhnz=>hno (.inr ⟨hnZ a b y hnz,a,y⟩)
  .funext b
   refine propext ⟨λy=>?_,λy=>?_⟩
   .rcases y with (y|⟨hf,a,y⟩)|⟨y,z⟩
    .exact .inl y
    .exact .inr ⟨hf,a,e4.up a b y⟩
    .have hn:=e4.news (b-w₁.heap.size) (by have:=e4.sizes;omega)
     have eb:w₁.heap.size+(b-w₁.heap.size)=b:=by omega
     rw[eb] at hn
     exact .inr ⟨λhf=>by have:=hFl b hf;have:=r.size;omega,_,hn⟩
   .rcases y with y|⟨hf,a,y⟩
    .exact .inl (.inl y)
    .rcases hfresh a b y with z|z
     .exact .inl (.inr ⟨hf,a,z⟩)
     .exact .inr ⟨z.1,(e4.wr.lt y).2⟩
  .rcases e5 e he with ⟨b,h1,h2,a,h3,h4⟩|h
   .refine .inl ⟨b,h1,h2,?_⟩
    by_cases hf:Fz b
    .refine .inr ⟨hf,?_⟩
     cases hw:e.write with
     |false=>rfl
     |true=>exact(ado a b h3 (h4 hw) hf).elim
    .exact .inl (.inr ⟨hf,a,h3⟩)
   .exact .inr h
  .refine hKg w₁ w2 hK1 (λb hb=>e4.keep b (by have:=(hH b hb).1;have:=r.size;omega) λa y=>?_) e4.rsize
   rcases (hH b hb).2 with hf|hf
   .exact cE λhnz=>hnZ a b y hnz hf
   .exact(hf a y).elim
  .refine⟨by have:=(hH b hb).1;have:=r.size;have:=e4.rsize;omega,(hH b hb).2.imp id λhf a y=>?_⟩
   rcases hfresh a b y with z|z
   .exact hf a z
   .have:=(hH b hb).1;have:=r.size;omega
  .rcases hfresh a b y with z|z
   .exact hE0 a b z
   .exact .inr (by have:=r.size;omega)
 rcases hI1.step (main:=main) hz fQ hp (λ_=>rfl) with ⟨h1,h2⟩|⟨E1,g1,wg1,g1',re',es',e1,e2,e3,e4,e5⟩
 .obtain⟨E1,v,v',eX,w1,es,hg1,hq,hv,hst,hout,hev⟩:=K9 (main:=main) hI1 h1 h2
  rw[hp.2.1] at hst
  obtain⟨a1,a2,a3,a4,a5,a6,a7,a8⟩:=common (by rw[hg1]) hout hev
  refine⟨_,w1,es,hst,a1,by rw[a4];exact a5,λy=>(by cases y),?_⟩
  rw[a4]
  exact next E1 v v' eX w1 hq hv hout.wr a6 a8
 .obtain⟨a1,a2,a3,a4,a5,a6,a7,a8⟩:=common (eX:=eZ x.2 w₁.tape w₁.drawn) rfl e4 e5
  refine⟨g1',re',es',e1,a1,by rw[a4];exact a5,λy=>(by cases y),?_⟩
  rw[a4]
  exact ih (g1,wg1) e2 E1 g1' re' e3 a2 a3 (λb hf=>by have:=hFl b hf;have:=r.size;have:=e4.rsize;omega) a6 a7 a8 (by have:=r.size;have:=e4.rsize;omega)
end Go.Proofs.YtjlgehmebfkioaaGreatDoor
namespace Go.Proofs.YtjlgehmebfkioaaGreatDoor
open Go Go.Conc
open Go.ConcN (WgLive)
open Go.ConcR (DC0)
variable {es:Array gj} {g:ag} {qs:List Qa}
def tlN:Nat->Code->Code
 |0,c=>c
 |n+1,.seq _ b=>tlN n b
 |_+1,c=>c
def Jw(P:ar)(f:gw):Code:=((P.funcs[f]?).bind (·.body)).getD .skip
def K_(P:ar)(f:gw)(k:Nat)(T:Array ai)(cs:List aw):ag:=G { fn:=f,tmps:=T,todo:=[.code (tlN k (Jw P f))],defers:=[],mode:=.run,kind:=.normal } cs
variable {P:ar} {main ig:Bool} {Fz:Nat->Prop} {Ex:ae->ae->Prop} {O:Nat->Prop} {Stop:(Nat->Prop)->ag->ae->Prop} {K:ae->Prop}
theorem uW{R:ae->ae->Prop}{D:ae->ae->Array gj->Prop}{S:ag->ae->Prop}(hR:∀ w,R w w)(hS:∀ g w,S g w->∃ g' es,stepG P main g w=.go g' w es/\es≠#[]) :
 ∀ (n:Nat) {m:Nat} {g:ag} {w:ae},aO P main n g->Goes P main R D S m g w->∃ m',Goes P main R D S m' (dN P main n g) w
 |0,m,_,_,_,h=>⟨m,h⟩
 |n+1,m,g,w,hp,h=>by
  have hno:∀ w,¬S g w:=λw hs=>by
   obtain⟨g',es,e1,e2⟩:=hS g w hs
   rw[hp.1.2 w] at e1
   cases e1
   exact e2 rfl
  cases m with
  |zero=>exact absurd (h w (hR w)) (hno w)
  |succ m =>
   rcases h with h|⟨_,h⟩
   .exact absurd (h w (hR w)) (hno w)
   .have:=h w (hR w)
    rw[hp.1.2 w,goes_go] at this
    exact uW hR hS n hp.2 this.2
theorem Bz:∀ (n:Nat) {g:ag},aO P false n g->(dN P false n g).status=.finished->QuitsD P n 0 g
 |0,_,_,h=>⟨h,rfl⟩
 |n+1,g,hp,h=>.inr ⟨hp.1.1,nx P false g,#[],λe he=>by simp at he,hp.1.2,by
  have:deafBehind 0 #[]=0:=rfl
  rw[this]
  exact Bz n hp.2 h⟩
theorem uX(hK:Nw Fz Ex K O){l:List An}{x:Next}(h:bZ P main g l x qs es)(hq:∀ w,K w->fq qs w w)(he:∀ e∈es,EvC Fz O e)(hn:CK P main false Fz Ex Stop K O (go1 P g x)):CK P main false Fz Ex Stop K O g :=
 UO hK h.run (λw hw=>h.step (hq w hw)) he hn
theorem zG(hK:Nw Fz Ex K O){x:Next}(h:bZ P main g [] x [] #[])(hn:CK P main ig Fz Ex Stop K O (go1 P g x)):CK P main ig Fz Ex Stop K O g :=
 Ju hK h.run (λw _=>h.step (show fq [] w w from rfl)) hn
theorem Y0(hK:Nw Fz Ex K O){ob:Obj}(h:∀ n,bZ P main g [{ n:=n }] (.value (.pointer (some ⟨n,0,none⟩))) [{ k:=4,ad:=⟨n,0,none⟩,o:=ob }] #[])
 (hn:∀ w,K w->CK P main ig Fz Ex Stop (λw'=>Jo O w w'/\w'.heap.size=w'.heap.size/\(∀ b,b<w.heap.size->w'.heap[b]?=w.heap[b]?)/\w.heap.size<w'.heap.size/\w'.heap[w.heap.size]?=some ob) (λb=>O b\/b=w.heap.size) (go1 P g (.value (.pointer (some ⟨w.heap.size,0,none⟩))))):CK P main ig Fz Ex Stop K O g :=
 wP hK (h 0).run λw hw=>by
  have hg:grow O w { w with heap:=w.heap.push ob }=λb=>O b\/b=w.heap.size:=by
   funext b
   refine propext ⟨λy=>y.imp id λz=>?_,λy=>y.imp id λz=>?_⟩
   .have:=z.2;simp only[Array.size_push] at this;omega
   .subst z;simp
  have hk:∀ b,b<w.heap.size->({ w with heap:=w.heap.push ob }:ae).heap[b]?=w.heap[b]?:=λb hb=>by
   simp only[Array.getElem?_push];rw[if_neg (by omega)]
  have hG:Jo O w { w with heap:=w.heap.push ob }:=⟨λb hb _=>hk b hb,by simp,rfl,rfl,rfl⟩
  refine⟨_,{ w with heap:=w.heap.push ob },#[],(h w.heap.size).step (show fq _ _ _ from⟨rfl,rfl⟩),hG,λe he=>by simp at he,λ_=>rfl,?_⟩
  rw[hg]
  exact hn w hw _ ⟨hG,rfl,hk,by simp,by simp⟩
theorem QT(hK:Nw Fz Ex K O){l:List An}{x:Next}{K':ae->Prop}(h:bZ P main g l x qs es)
 (hq:∀ w,K w->∃ w',fq qs w w'/\Jo O w w'/\w'.heap.size=w.heap.size/\K' w') (he:∀ e∈es,EvC Fz O e) (hn:CK P main false Fz Ex Stop K' O (go1 P g x)):CK P main false Fz Ex Stop K O g :=
 wP hK h.run λw hw=>by
  obtain⟨w',h1,h2,h3,h4⟩:=hq w hw
  have hg:grow O w w'=O:=by
   funext b
   refine propext ⟨λy=>y.elim id λz=>?_,.inl⟩
   omega
  exact⟨_,w',es,h.step h1,h2,λe hm=>by rw[hg];exact he e hm,λy=>(by cases y),by rw[hg];exact hn w' h4⟩
def zH(P:ar){α:Type}:Sem α->List An->Option (List Qa)
 | .load m a k,l=>(zH P (k (l.headD {}).v) l.tail).map λr=>{ k:=0,ad:=a,v:=(l.headD {}).v,sy:=m==.atomic }::r
 | .program k,l=>zH P (k P) l
 | .mark m k,l=>(zH P k l).map λr=>{ k:=5,m:=m }::r
 | .halt .blocked,_=>some []
 |_,_=>none
theorem QU{α:Type}:∀ (s:Sem α) (l:List An) (qs:List Qa) (w:ae) (es:Array gj),zH P s l=some qs->fq qs w w->∃ es',s.runT P w es=(.halt .blocked w,es'):=by
 intro s
 induction s with
 |load m a k ih =>
  intro l qs w es h hq
  simp only[zH,cq] at h
  obtain⟨q1,h1,rfl⟩:=h
  simp only[fq,if_true] at hq
  simp only[d_,hq.1]
  exact ih _ _ _ _ _ h1 hq.2
 |program k ih =>
  intro l qs w es h hq
  simp only[zH] at h
  simp only[d_]
  exact ih _ _ _ _ _ h hq
 |mark m k ih =>
  intro l qs w es h hq
  simp only[zH,cq] at h
  obtain⟨q1,h1,rfl⟩:=h
  simp only[fq,show ¬(5:Nat)=0 by decide,show ¬(5:Nat)=1 by decide,show ¬(5:Nat)=2 by decide,show ¬(5:Nat)=3 by decide,show ¬(5:Nat)=4 by decide,if_false] at hq
  simp only[d_]
  exact ih _ _ _ _ h1 hq
 |halt h =>
  intro l qs w es h1 hq
  cases h<;>first|(simp[zH] at h1;done)|exact⟨es,rfl⟩
 |_=>intro l qs w es h1;simp[zH] at h1
theorem step_block{w:ae}{l:List An}(ha:QN P main g)(hr:g.status=.running)(hd:g.dying=none)(ho:g.offers=none)(h:zH P (qg g) l=some qs)(hq:fq qs w w):stepG P main g w=.go { g with status:=.blocked } w #[]:=by
 obtain⟨es',he⟩:=QU (qg g) l qs w #[] h hq
 rw[ha.2 w]
 unfold stepG.apply
 simp only[if_true,he]
 obtain⟨f,c,s,d,o⟩:=g
 simp only at hr hd ho
 subst hr hd ho
 split<;>simp[GStep.after,seen]
theorem r_{l:List An}{x x':Next}(h:bZ P main g l x qs es)(e:x=x'):bZ P main g l x' qs es:=e▸h
end Go.Proofs.YtjlgehmebfkioaaGreatDoor
namespace Go.Proofs.YtjlgehmebfkioaaGreatDoor
open Go Go.Conc
open Go.ConcN (WgLive Has AtR0 RW)
open Go.ConcR (KK wgBlock WgAt stA smA rd wr Payload DC0)
structure Lk where
 b2:Nat
 b6:Nat
 b7:Nat
 bc:Nat
 b8:Nat
 pa:Option cy
 len:Nat
 pc:Nat
 n:Nat
 m0:Nat
 w0:ae
 Fz:Nat->Prop
 st:Nat->Nat
 kd:Nat->Nat
 lb:Nat->Nat
 sq:Nat->Nat
 cs:List aw
 ha:Nat->Option cy
 hl:Nat->Nat
 hc:Nat->Nat
def Lk.pages(y:Lk):ai:=.slice y.pa y.len y.pc
def Lk.sight(y:Lk)(i:Nat):ai:=.agg #[.int .i64 (y.st i:Nat),.int .i64 (y.lb i:Nat),.int .i64 (i:Nat),.int .i64 (y.sq i:Nat),.int .i64 (y.kd i:Nat)]
def ptr(b:Nat):ai:=.pointer (some ⟨b,0,none⟩)
def kid(P:ar)(y:Lk):ag:={ frame:={ (default:aw) with fn:=P.funcs.size,defers:=[{ target:=.fn (.func 107) #[ptr y.b7,ptr y.b2,ptr y.b6,ptr y.b8],args:=#[] }],mode:=.panicking [goexitEntry] },callers:=[],status:=.running,dying:=none }
def Y1(P:ar)(y:Lk):ag:=go1 P (dN P false 6 (kid P y)) (.value y.pages)
def QV(P:ar)(y:Lk):ag:=go1 P (Y1 P y) (.value (.chan (some y.bc)))
def below(P:ar)(y:Lk):List aw:=(QV P y).frame::(QV P y).callers
def T35(v0 v1 v2:ai)(t:Nat->ai):Array ai:=#[v0,v1,v2,t 3,t 4,t 5,t 6,t 7,t 8,t 9,t 10,t 11,t 12,t 13,t 14,t 15,t 16,t 17,t 18,t 19,t 20,t 21,t 22,t 23,t 24,t 25,t 26,t 27,t 28,t 29,t 30,t 31,t 32,t 33,t 34]
theorem adq(T:Array ai)(h:T.size=35):∃ v0 v1 v2 t,T=T35 v0 v1 v2 t:=by
 obtain⟨l⟩:=T
 rcases l with _|⟨a0,l⟩
 .simp at h
 rcases l with _|⟨a1,l⟩
 .simp at h
 rcases l with _|⟨a2,l⟩
 .simp at h
 rcases l with _|⟨a3,l⟩
 .simp at h
 rcases l with _|⟨a4,l⟩
 .simp at h
 rcases l with _|⟨a5,l⟩
 .simp at h
 rcases l with _|⟨a6,l⟩
 .simp at h
 rcases l with _|⟨a7,l⟩
 .simp at h
 rcases l with _|⟨a8,l⟩
 .simp at h
 rcases l with _|⟨a9,l⟩
 .simp at h
 rcases l with _|⟨Xk,l⟩
 .simp at h
 rcases l with _|⟨a11,l⟩
 .simp at h
 rcases l with _|⟨a12,l⟩
 .simp at h
 rcases l with _|⟨a13,l⟩
 .simp at h
 rcases l with _|⟨a14,l⟩
 .simp at h
 rcases l with _|⟨a15,l⟩
 .simp at h
 rcases l with _|⟨a16,l⟩
 .simp at h
 rcases l with _|⟨a17,l⟩
 .simp at h
 rcases l with _|⟨a18,l⟩
 .simp at h
 rcases l with _|⟨a19,l⟩
 .simp at h
 rcases l with _|⟨a20,l⟩
 .simp at h
 rcases l with _|⟨a21,l⟩
 .simp at h
 rcases l with _|⟨a22,l⟩
 .simp at h
 rcases l with _|⟨a23,l⟩
 .simp at h
 rcases l with _|⟨a24,l⟩
 .simp at h
 rcases l with _|⟨a25,l⟩
 .simp at h
 rcases l with _|⟨a26,l⟩
 .simp at h
 rcases l with _|⟨a27,l⟩
 .simp at h
 rcases l with _|⟨a28,l⟩
 .simp at h
 rcases l with _|⟨a29,l⟩
 .simp at h
 rcases l with _|⟨a30,l⟩
 .simp at h
 rcases l with _|⟨a31,l⟩
 .simp at h
 rcases l with _|⟨a32,l⟩
 .simp at h
 rcases l with _|⟨a33,l⟩
 .simp at h
 rcases l with _|⟨a34,l⟩
 .simp at h
 rcases l with _|⟨_,l⟩
 .exact⟨a0,a1,a2,λi=>(#[a0,a1,a2,a3,a4,a5,a6,a7,a8,a9,Xk,a11,a12,a13,a14,a15,a16,a17,a18,a19,a20,a21,a22,a23,a24,a25,a26,a27,a28,a29,a30,a31,a32,a33,a34]:Array ai).getD i undef,rfl⟩
 .simp at h
def sj(P:ar)(y:Lk)(T:Array ai):ag:=dN P false 2 (K_ P 109 0 T (below P y))
def wT(y:Lk)(t:Nat->ai):Array ai:=T35 y.pages (ptr y.b6) (.chan (some y.bc)) t
theorem UU(y:Lk):aO aa false 6 (kid aa y):=by
 iterate 6 (refine aO.step (by kernel_rfl) (λw=>by kernel_rfl) ?_)
 exact aO.nil
theorem QW(y:Lk):bZ aa false (dN aa false 6 (kid aa y)) [{ v:=y.pages }] (.value y.pages) [{ k:=0,ad:=⟨y.b2,0,none⟩,v:=y.pages }] #[⟨.cell ⟨y.b2,0,none⟩,false,false⟩]:=⟨by kernel_rfl,by kernel_rfl,λw=>by kernel_rfl,by kernel_rfl,by kernel_rfl,by kernel_rfl,by kernel_rfl⟩
theorem QX(y:Lk):bZ aa false (Y1 aa y) [{ v:=.chan (some y.bc) }] (.value (.chan (some y.bc))) [{ k:=0,ad:=⟨y.b8,0,none⟩,v:=.chan (some y.bc) }] #[⟨.cell ⟨y.b8,0,none⟩,false,false⟩]:=⟨by kernel_rfl,by kernel_rfl,λw=>by kernel_rfl,by kernel_rfl,by kernel_rfl,by kernel_rfl,by kernel_rfl⟩
theorem QY(y:Lk):aO aa false 3 (QV aa y):=by
 iterate 3 (refine aO.step (by kernel_rfl) (λw=>by kernel_rfl) ?_)
 exact aO.nil
theorem Ny(y:Lk):dN aa false 3 (QV aa y)=sj aa y (wT y λ_=>undef):=by kernel_rfl
theorem QZ(y:Lk)(t:Nat->ai):aO aa false 15 (sj aa y (wT y t)):=by
 iterate 15 (refine aO.step (by kernel_rfl) (λw=>by kernel_rfl) ?_)
 exact aO.nil
def g1(P:ar)(y:Lk)(t:Nat->ai)(c:Nat):ag:=go1 P (dN P false 15 (sj P y (wT y t))) (.value (.int .i64 ((c+1:Nat):Int)))
def g2(P:ar)(y:Lk)(t:Nat->ai)(c:Nat):ag:=go1 P (dN P false 4 (g1 P y t c)) (.value (.int .i64 (c:Nat)))
def g3(P:ar)(y:Lk)(t:Nat->ai)(c:Nat)(b:Bool):ag:=go1 P (dN P false 8 (g2 P y t c)) (.value (.bool b))
theorem Q0(y:Lk)(t:Nat->ai)(c:Nat):bZ aa false (dN aa false 15 (sj aa y (wT y t))) [{ v:=.int .i64 (c:Nat) }] (.value (.int .i64 (IntKind.i64.wrap ((c:Int)+1))))
 [{ k:=5,m:=.extern 168 },{ k:=0,ad:=⟨y.b6,0,none⟩,v:=.int .i64 (c:Nat),sy:=true },{ k:=1,ad:=⟨y.b6,0,none⟩,v:=.int .i64 (IntKind.i64.wrap ((c:Int)+1)),sy:=true }]
 #[rd ⟨y.b6,0,none⟩,wr ⟨y.b6,0,none⟩]:=⟨by kernel_rfl,by kernel_rfl,λw=>by kernel_rfl,by kernel_rfl,by kernel_rfl,by kernel_rfl,by kernel_rfl⟩
theorem Q5(y:Lk)(t:Nat->ai)(c:Nat):aO aa false 4 (g1 aa y t c):=by
 iterate 4 (refine aO.step (by kernel_rfl) (λw=>by kernel_rfl) ?_)
 exact aO.nil
theorem UW(y:Lk)(t:Nat->ai)(c:Nat):bZ aa false (dN aa false 4 (g1 aa y t c)) [] (.value (.int .i64 (IntKind.i64.wrap (((c+1:Nat):Int)-1)))) [] #[]:=⟨by kernel_rfl,by kernel_rfl,λw=>by kernel_rfl,by kernel_rfl,by kernel_rfl,by kernel_rfl,by kernel_rfl⟩
theorem Q6(y:Lk)(t:Nat->ai)(c:Nat):aO aa false 8 (g2 aa y t c):=by
 iterate 8 (refine aO.step (by kernel_rfl) (λw=>by kernel_rfl) ?_)
 exact aO.nil
theorem UY(y:Lk)(t:Nat->ai)(c:Nat):bZ aa false (dN aa false 8 (g2 aa y t c)) [] (.value (.bool (decide ((y.len:Int)<=(c:Int))))) [] #[]:=⟨by kernel_rfl,by kernel_rfl,λw=>by kernel_rfl,by kernel_rfl,by kernel_rfl,by kernel_rfl,by kernel_rfl⟩
def gD(P:ar)(y:Lk)(t:Nat->ai)(c:Nat):ag:=dN P false 7 (g3 P y t c true)
def gC(P:ar)(y:Lk)(t:Nat->ai)(c:Nat):ag:=dN P false 14 (gD P y t c)
def gM(P:ar)(y:Lk)(t:Nat->ai)(c:Nat):ag:=go1 P (gC P y t c) (.value (ptr y.b7))
def gK(P:ar)(y:Lk)(t:Nat->ai)(c:Nat):ag:=dN P false 3 (nx P false (gM P y t c))
def fD(P:ar)(y:Lk)(t:Nat->ai)(c:Nat):aw:=(gD P y t c).callers.headD default
def fDs(P:ar)(y:Lk)(t:Nat->ai)(c:Nat):List aw:=(gD P y t c).callers.tail
theorem UZ(y:Lk)(t:Nat->ai)(c:Nat):aO aa false 7 (g3 aa y t c true):=by
 iterate 7 (refine aO.step (by kernel_rfl) (λw=>by kernel_rfl) ?_)
 exact aO.nil
theorem adx(y:Lk)(t:Nat->ai)(c:Nat):gD aa y t c=G ((baseD Tryz.link.done).at ⟨#[.pointer (some ⟨y.b7,0,none⟩),undef,undef,undef],[]⟩ [.code (Go.ConcR.Gen.body_done Tryz.link)]) (fD aa y t c::fDs aa y t c):=by kernel_rfl
theorem U0(y:Lk)(t:Nat->ai)(c:Nat):(fD aa y t c).mode=.returning:=by kernel_rfl
theorem Y2(y:Lk)(t:Nat->ai)(c:Nat):aO aa false 2 (G (fD aa y t c) (fDs aa y t c)):=by
 iterate 2 (refine aO.step (by kernel_rfl) (λw=>by kernel_rfl) ?_)
 exact aO.nil
theorem Y3(y:Lk)(t:Nat->ai)(c:Nat):(dN aa false 2 (G (fD aa y t c) (fDs aa y t c))).status=.finished:=by kernel_rfl
theorem Q7(y:Lk)(t:Nat->ai)(c:Nat):aO aa false 14 (gD aa y t c):=by
 iterate 14 (refine aO.step (by kernel_rfl) (λw=>by kernel_rfl) ?_)
 exact aO.nil
theorem Jy(y:Lk)(t:Nat->ai)(c:Nat):bZ aa false (gC aa y t c) [{ sh:=some (203,2) },{ sh:=some (203,2) }] (.value (ptr y.b7)) [{ k:=2,ad:=⟨y.b7,0,none⟩,sh:=some (203,2) },{ k:=2,ad:=⟨y.b7,0,none⟩,sh:=some (203,2) }] #[]:=⟨by kernel_rfl,by kernel_rfl,λw=>by kernel_rfl,by kernel_rfl,by kernel_rfl,by kernel_rfl,by kernel_rfl⟩
theorem U1(y:Lk)(t:Nat->ai)(c:Nat)(w:ae):stepG aa false (gM aa y t c) w=.go (nx aa false (gM aa y t c)) w #[ConcR.mk (.releaseMerge (stA y.b7))]:=by kernel_rfl
theorem Y4(y:Lk)(t:Nat->ai)(c:Nat):aO aa false 3 (nx aa false (gM aa y t c)):=by
 iterate 3 (refine aO.step (by kernel_rfl) (λw=>by kernel_rfl) ?_)
 exact aO.nil
theorem La(y:Lk)(t:Nat->ai)(c:Nat)(w:ae):stepG aa false (gK aa y t c) w=.go (nx aa false (gK aa y t c)) w #[ConcR.mk .disable]:=by kernel_rfl
theorem Y5(y:Lk)(t:Nat->ai)(c:Nat):(gM aa y t c).status=.running:=by kernel_rfl
def gI(P:ar)(y:Lk)(t:Nat->ai)(c:Nat):ag:=dN P false 7 (g3 P y t c false)
def g4(P:ar)(y:Lk)(t:Nat->ai)(c pb po:Nat):ag:=go1 P (gI P y t c) (.value (.pointer (some ⟨pb,po+c,none⟩)))
def g5(P:ar)(y:Lk)(t:Nat->ai)(c pb po:Nat)(v:ai):ag:=go1 P (g4 P y t c pb po) (.value v)
def g6(P:ar)(y:Lk)(t:Nat->ai)(c pb po:Nat)(v u:ai):ag:=go1 P (g5 P y t c pb po v) (.value u)
def fv(k l s:Nat)(a:Option cy)(d e:Nat)(st:Nat):ai:=.tuple #[.agg #[.int .i64 (k:Nat),.int .i64 (l:Nat),.int .i64 (s:Nat),.slice a d e],.int .i64 (st:Nat)]
def g7(P:ar)(y:Lk)(t:Nat->ai)(c pb po:Nat)(v:ai)(k l s:Nat)(a:Option cy)(d e st bx:Nat):ag:=go1 P (dN P false 3 (g6 P y t c pb po v (fv k l s a d e st))) (.value (ptr bx))
def g8(P:ar)(y:Lk)(t:Nat->ai)(c pb po:Nat)(v:ai)(k l s:Nat)(a:Option cy)(d e st bx:Nat):ag:=dN P false 6 (go1 P (g7 P y t c pb po v k l s a d e st bx) .skip)
def g9(P:ar)(y:Lk)(t:Nat->ai)(c pb po:Nat)(v:ai)(k l s:Nat)(a:Option cy)(d e st bx:Nat):ag:=dN P false 2 (go1 P (g8 P y t c pb po v k l s a d e st bx) (.value (.int .i64 (l:Nat))))
def g10(P:ar)(y:Lk)(t:Nat->ai)(c pb po:Nat)(v:ai)(k l s:Nat)(a:Option cy)(d e st bx:Nat):ag:=dN P false 1 (go1 P (g9 P y t c pb po v k l s a d e st bx) (.value (.int .i64 (s:Nat))))
def g11(P:ar)(y:Lk)(t:Nat->ai)(c pb po:Nat)(v:ai)(k l s:Nat)(a:Option cy)(d e st bx:Nat):ag:=dN P false 2 (go1 P (g10 P y t c pb po v k l s a d e st bx) (.value (.int .i64 (k:Nat))))
theorem Y6(y:Lk)(t:Nat->ai)(c:Nat):aO aa false 7 (g3 aa y t c false):=by
 iterate 7 (refine aO.step (by kernel_rfl) (λw=>by kernel_rfl) ?_)
 exact aO.nil
theorem Y7(y:Lk)(t:Nat->ai)(c:Nat):qg (gI aa y t c)=(do pure (Next.value (<-jz 35 y.pages (.int .i64 (c:Nat))))):=by kernel_rfl
theorem Y8(y:Lk)(t:Nat->ai)(c pb po:Nat)(hp:y.pa=some ⟨pb,po,none⟩)(hc:c<y.len):bZ aa false (gI aa y t c) [] (.value (.pointer (some ⟨pb,po+c,none⟩))) [] #[]:=by
 refine⟨by kernel_rfl,by kernel_rfl,λw=>by kernel_rfl,by kernel_rfl,?_,rfl,by kernel_rfl⟩
 rw[Y7]
 have e1:((c:Int)<(y.len:Int)):=by omega
 have e2:(0:Int)<=(c:Int):=by omega
 have hs:aa.underlying 35=some (.slice 60):=Tryz.underlying35
 simp only[Lk.pages,hp,jz,asIntOf,Go.underlying,Go.program,bind,Sem.bind,pure,jH,hs,e1,e2,and_self,if_true]
 have e3:∀ q:cy,jH aa (((Go.sizeOf 60).bind λz=>Sem.pure (Value.pointer (some (q.add (((c:Nat):Int).toNat*z))))).bind λv=>Sem.pure (Next.value v)) []=some (Next.value (.pointer (some (q.add (c*1)))),[]):=λq=>by kernel_rfl
 rw[e3,Nat.mul_one,show (⟨pb,po,none⟩:cy).add c=⟨pb,po+c,none⟩ by unfold Addr.add;split<;>simp_all]
theorem Y9(y:Lk)(t:Nat->ai)(c pb po:Nat)(a:Option cy)(d e:Nat):bZ aa false (g4 aa y t c pb po) [{ v:=.slice a d e }] (.value (.slice a d e)) [{ k:=0,ad:=⟨pb,po+c,none⟩,v:=.slice a d e }] #[⟨.cell ⟨pb,po+c,none⟩,false,false⟩]:=⟨by kernel_rfl,by kernel_rfl,λw=>by kernel_rfl,by kernel_rfl,by kernel_rfl,by kernel_rfl,by kernel_rfl⟩
theorem Y_(y:Lk)(t:Nat->ai)(c pb po:Nat)(v:ai):aO aa false 1 (g5 aa y t c pb po v):=by
 iterate 1 (refine aO.step (by kernel_rfl) (λw=>by kernel_rfl) ?_)
 exact aO.nil
theorem U2(y:Lk)(t:Nat->ai)(c pb po:Nat)(v:ai):dN aa false 1 (g5 aa y t c pb po v)=G (b9 aa 59 #[v] .normal) ((g5 aa y t c pb po v).frame::(g5 aa y t c pb po v).callers):=by kernel_rfl
theorem Za(y:Lk)(t:Nat->ai)(c pb po:Nat)(v:ai)(k l s:Nat)(a:Option cy)(d e st:Nat):aO aa false 3 (g6 aa y t c pb po v (fv k l s a d e st)):=by
 iterate 3 (refine aO.step (by kernel_rfl) (λw=>by kernel_rfl) ?_)
 exact aO.nil
def DX:Obj:=.cells #[.int .i64 0,.int .i64 0,.int .i64 0,.slice none 0 0] 88
theorem Zb(y:Lk)(t:Nat->ai)(c pb po:Nat)(v:ai)(k l s:Nat)(a:Option cy)(d e st:Nat)(n:Nat):bZ aa false (dN aa false 3 (g6 aa y t c pb po v (fv k l s a d e st))) [{ n:=n }] (.value (.pointer (some ⟨n,0,none⟩))) [{ k:=4,ad:=⟨n,0,none⟩,o:=DX }] #[]:=⟨by kernel_rfl,by kernel_rfl,λw=>by kernel_rfl,by kernel_rfl,by kernel_rfl,by kernel_rfl,by kernel_rfl⟩
theorem Zc(y:Lk)(t:Nat->ai)(c pb po:Nat)(v:ai)(k l s:Nat)(a:Option cy)(d e st bx:Nat):bZ aa false (g7 aa y t c pb po v k l s a d e st bx) [] .skip
 [{ k:=1,ad:=⟨bx,0,none⟩,v:=.int .i64 (k:Nat) },{ k:=1,ad:=⟨bx,1,none⟩,v:=.int .i64 (l:Nat) },{ k:=1,ad:=⟨bx,2,none⟩,v:=.int .i64 (s:Nat) },{ k:=1,ad:=⟨bx,3,none⟩,v:=.slice a d e }]
 #[⟨.cell ⟨bx,0,none⟩,true,false⟩,⟨.cell ⟨bx,1,none⟩,true,false⟩,⟨.cell ⟨bx,2,none⟩,true,false⟩,⟨.cell ⟨bx,3,none⟩,true,false⟩]:=⟨by kernel_rfl,by kernel_rfl,λw=>by kernel_rfl,by kernel_rfl,by kernel_rfl,by kernel_rfl,by kernel_rfl⟩
theorem Zd(y:Lk)(t:Nat->ai)(c pb po:Nat)(v:ai)(k l s:Nat)(a:Option cy)(d e st bx:Nat):aO aa false 6 (go1 aa (g7 aa y t c pb po v k l s a d e st bx) .skip):=by
 iterate 6 (refine aO.step (by kernel_rfl) (λw=>by kernel_rfl) ?_)
 exact aO.nil
theorem Ze(y:Lk)(t:Nat->ai)(c pb po:Nat)(v:ai)(k l s:Nat)(a:Option cy)(d e st bx:Nat):bZ aa false (g8 aa y t c pb po v k l s a d e st bx) [{ v:=.int .i64 (l:Nat) }] (.value (.int .i64 (l:Nat))) [{ k:=0,ad:=⟨bx,1,none⟩,v:=.int .i64 (l:Nat) }] #[⟨.cell ⟨bx,1,none⟩,false,false⟩]:=⟨by kernel_rfl,by kernel_rfl,λw=>by kernel_rfl,by kernel_rfl,by kernel_rfl,by kernel_rfl,by kernel_rfl⟩
theorem Zf(y:Lk)(t:Nat->ai)(c pb po:Nat)(v:ai)(k l s:Nat)(a:Option cy)(d e st bx:Nat):aO aa false 2 (go1 aa (g8 aa y t c pb po v k l s a d e st bx) (.value (.int .i64 (l:Nat)))):=by
 iterate 2 (refine aO.step (by kernel_rfl) (λw=>by kernel_rfl) ?_)
 exact aO.nil
theorem Zg(y:Lk)(t:Nat->ai)(c pb po:Nat)(v:ai)(k l s:Nat)(a:Option cy)(d e st bx:Nat):bZ aa false (g9 aa y t c pb po v k l s a d e st bx) [{ v:=.int .i64 (s:Nat) }] (.value (.int .i64 (s:Nat))) [{ k:=0,ad:=⟨bx,2,none⟩,v:=.int .i64 (s:Nat) }] #[⟨.cell ⟨bx,2,none⟩,false,false⟩]:=⟨by kernel_rfl,by kernel_rfl,λw=>by kernel_rfl,by kernel_rfl,by kernel_rfl,by kernel_rfl,by kernel_rfl⟩
theorem Zh(y:Lk)(t:Nat->ai)(c pb po:Nat)(v:ai)(k l s:Nat)(a:Option cy)(d e st bx:Nat):aO aa false 1 (go1 aa (g9 aa y t c pb po v k l s a d e st bx) (.value (.int .i64 (s:Nat)))):=by
 iterate 1 (refine aO.step (by kernel_rfl) (λw=>by kernel_rfl) ?_)
 exact aO.nil
theorem U3(y:Lk)(t:Nat->ai)(c pb po:Nat)(v:ai)(k l s:Nat)(a:Option cy)(d e st bx:Nat):bZ aa false (g10 aa y t c pb po v k l s a d e st bx) [{ v:=.int .i64 (k:Nat) }] (.value (.int .i64 (k:Nat))) [{ k:=0,ad:=⟨bx,0,none⟩,v:=.int .i64 (k:Nat) }] #[⟨.cell ⟨bx,0,none⟩,false,false⟩]:=⟨by kernel_rfl,by kernel_rfl,λw=>by kernel_rfl,by kernel_rfl,by kernel_rfl,by kernel_rfl,by kernel_rfl⟩
theorem U4(y:Lk)(t:Nat->ai)(c pb po:Nat)(v:ai)(k l s:Nat)(a:Option cy)(d e st bx:Nat):aO aa false 2 (go1 aa (g10 aa y t c pb po v k l s a d e st bx) (.value (.int .i64 (k:Nat)))):=by
 iterate 2 (refine aO.step (by kernel_rfl) (λw=>by kernel_rfl) ?_)
 exact aO.nil
def Zi(c k l s st:Nat):ai:=.agg #[.int .i64 (st:Nat),.int .i64 (l:Nat),.int .i64 (c:Nat),.int .i64 (s:Nat),.int .i64 (k:Nat)]
theorem Q8(y:Lk)(t:Nat->ai)(c pb po:Nat)(v:ai)(k l s:Nat)(a:Option cy)(d e st bx:Nat)(w:ae) :
 stepG aa false (g11 aa y t c pb po v k l s a d e st bx) w=.comm (g11 aa y t c pb po v k l s a d e st bx) #[scase y.bc (Zi c k l s st) (.tuple #[])] true .send w #[]:=by kernel_rfl
theorem U5(y:Lk)(t:Nat->ai)(c pb po:Nat)(v:ai)(k l s:Nat)(a:Option cy)(d e st bx:Nat):aO aa false 3 (Conc.served (g11 aa y t c pb po v k l s a d e st bx) undef):=by
 iterate 3 (refine aO.step (by kernel_rfl) (λw=>by kernel_rfl) ?_)
 exact aO.nil
def g12(P:ar)(y:Lk)(t:Nat->ai)(c pb po:Nat)(v:ai)(k l s:Nat)(a:Option cy)(d e st bx:Nat):ag:=Conc.served (g11 P y t c pb po v k l s a d e st bx) undef
theorem Q9(y:Lk)(t:Nat->ai)(c pb po:Nat)(v:ai)(k l s:Nat)(a:Option cy)(d e st bx:Nat):dN aa false 3 (g12 aa y t c pb po v k l s a d e st bx)=sj aa y (g12 aa y t c pb po v k l s a d e st bx).frame.tmps:=by kernel_rfl
theorem Q_(y:Lk)(t:Nat->ai)(c pb po:Nat)(v:ai)(k l s:Nat)(a:Option cy)(d e st bx:Nat):(g12 aa y t c pb po v k l s a d e st bx).frame.tmps.size=35:=by kernel_rfl
theorem ady(y:Lk)(t:Nat->ai)(c pb po:Nat)(v:ai)(k l s:Nat)(a:Option cy)(d e st bx:Nat):(g12 aa y t c pb po v k l s a d e st bx).frame.tmps[0]?=some y.pages:=by kernel_rfl
theorem adz(y:Lk)(t:Nat->ai)(c pb po:Nat)(v:ai)(k l s:Nat)(a:Option cy)(d e st bx:Nat):(g12 aa y t c pb po v k l s a d e st bx).frame.tmps[1]?=some (ptr y.b6):=by kernel_rfl
theorem adA(y:Lk)(t:Nat->ai)(c pb po:Nat)(v:ai)(k l s:Nat)(a:Option cy)(d e st bx:Nat):(g12 aa y t c pb po v k l s a d e st bx).frame.tmps[2]?=some (.chan (some y.bc)):=by kernel_rfl
theorem U6(y:Lk)(t:Nat->ai)(c pb po:Nat)(v:ai)(k l s:Nat)(a:Option cy)(d e st bx:Nat):(g11 aa y t c pb po v k l s a d e st bx).status=.running:=by kernel_rfl
theorem Ra(y:Lk)(T:Array ai):(sj aa y T).status=.running:=by kernel_rfl
theorem Rb(y:Lk)(t:Nat->ai):(dN aa false 15 (sj aa y (wT y t))).status=.running:=by kernel_rfl
end Go.Proofs.YtjlgehmebfkioaaGreatDoor
namespace Go.Proofs.YtjlgehmebfkioaaGreatDoor
open Go Go.Conc
def Xu(P:ar)(l:List cw):Bool:=l.all λt=>match P.info? t with
 |some i=>(i.zero.map mO).getD true
 |none=>true
theorem zI{P:ar}{fns:Fx}{l:List cw}(hl:∀ t,fns.tys t=true->t∈l)(h:Xu P l=true):zeros P fns:=by
 intro t i v ht hi hv
 unfold Xu at h
 rw[kn] at h
 have:=h t (hl t ht)
 rw[hi] at this
 simp only[hv] at this
 exact this
def Rf(P:ar)(fns:Fx)(l:List gw):Bool:=l.all λf=>rV P fns f&&match P.funcs[f]? with
 |some fn=>match fn.body with
  |some c=>ji P fns (Du P f) c
  |none=>true
 |none=>true
theorem uY{P:ar}{fns:Fx}{l:List gw}(hl:∀ f,fns.ok f=true->f∈l)(h:Rf P fns l=true)(hj:∀ f,fns.ok f=true->fns.jf f=false->fns.rf[f]?=P.funcs[f]?):lu P fns:=by
 unfold Rf at h
 rw[kn] at h
 refine⟨λf hf=>?_,λf fn c hf h1 h2=>?_,hj⟩
 .have:=h f (hl f hf)
  rw[bz] at this
  exact this.1
 .have:=h f (hl f hf)
  rw[bz,h1] at this
  simp only[h2] at this
  exact this.2
abbrev Xv:List gw:=[59,87,63,86,85,97,98,96,95,116,115,127]
abbrev Xw:List cw:=[88,5]
def iQ(P:ar)(lo:Nat->Nat):Fx:=⟨λf=>Xv.contains f,lo,λt=>Xw.contains t,P.funcs,λ_=>false,false,λ_=>false,λa=>lo a==0,λa h=>by simpa using h⟩
theorem zJ(lo:Nat->Nat):zeros aa (iQ aa lo):=zI (l:=Xw) (λt ht=>by simpa [iQ] using ht) (by kernel_rfl)
theorem zK:0<aa.depth:=of_decide_eq_true (by kernel_rfl)
theorem o_(lo:Nat->Nat):g_ aa (iQ aa lo):=⟨uY (l:=Xv) (λf hf=>by simpa [iQ] using hf) (by kernel_rfl) (λ_ _ _=>rfl),rfl,λ_=>rfl⟩
end Go.Proofs.YtjlgehmebfkioaaGreatDoor
namespace Go.Proofs.YtjlgehmebfkioaaGreatDoor
open Go Go.Conc
open Go.ConcN (WgLive Has AtR0 RW DWs)
open Go.ConcR (KK wgBlock WgAt stA smA rd wr Payload DC0)
variable {w:ae}
structure Kw(y:Lk)(w:ae):Prop where
 fz:∀ b,y.Fz b->w.heap[b]?=y.w0.heap[b]?
 size:y.w0.heap.size<=w.heap.size
 live:WgLive 203 y.b7 w
def Own(y:Lk)(O:Nat->Prop):Prop:=∀ b,O b->y.w0.heap.size<=b
def Rh(P:ar)(y:Lk)(O:Nat->Prop)(g:ag)(w:ae):Prop :=
 (∃ T:Array ai,g=sj P y T/\T.size=35/\T[0]?=some y.pages/\T[1]?=some (ptr y.b6)/\T[2]?=some (.chan (some y.bc)))/\Kw y w/\Own y O
def Lk.cx(P:ar)(y:Lk)(AW Nx:(Nat->Prop)->ag->ae->Prop):Cx :=
 { P:=P,ty:=203,tN:=197,Wg:=y.b7,Nx:=y.b6,Ch:=y.bc,C:=y.b2,nC:=1,val:=y.pages,len:=y.len,n:=y.n,m0:=y.m0,sight:=y.sight,Fz:=y.Fz,KX:=Rh P y,AnchW:=AW,Next:=Nx }
structure Zj(P:ar)(y:Lk)(i:Nat):Prop where
 gh:∃ (lo:Nat->Nat) (E:Nat->Nat->Prop) (gh:ae) (av:ai),(∀ a b,E a b->y.Fz b)/\WR P (iQ P lo) E (λa=>∃ b,E a b) gh y.w0/\VR (iQ P lo) E av (.slice (y.ha i) (y.hl i) (y.hc i)) /\
  ∀ w:ae,w.heap=gh.heap->Calls P 59 #[av] w (λe _=>∃ a d c,e=.returned (fv (y.kd i) (y.lb i) (y.sq i) a d c (y.st i)))
structure Lk.Ok(P:ar)(y:Lk):Prop where
 b2:y.w0.heap[y.b2]?=some (.cells #[y.pages] 35)
 b8:y.w0.heap[y.b8]?=some (.cells #[.chan (some y.bc)] 204)
 f2:y.Fz y.b2
 f8:y.Fz y.b8
 fl:∀ b,y.Fz b->b<y.w0.heap.size/\b≠y.b6/\b≠y.b7/\b≠y.bc
 low:y.b6<y.w0.heap.size/\y.b7<y.w0.heap.size/\y.bc<y.w0.heap.size
 glob:P.globals.size<y.w0.heap.size
 page:∀ i,i<y.len->∃ pb po,y.pa=some ⟨pb,po,none⟩/\y.Fz pb/\y.w0.cell? ⟨pb,po+i,none⟩=some (.slice (y.ha i) (y.hl i) (y.hc i))
 pg:∀ i,i<y.len->Zj P y i
 most:y.len<=4096
theorem DY{P:ar}{main:Bool}{R:ae->ae->Prop}{D:ae->ae->Array gj->Prop}{S:ag->ae->Prop}(hR:∀ w,R w w){m:Nat}{g g':ag}{es:Array gj}(hs:stepG P main g w=.go g' w es)(hno:¬S g w)(h:Goes P main R D S m g w):D w w es/\∃ m',Goes P main R D S m' g' w:=by
 cases m with
 |zero=>exact absurd (h w (hR w)) hno
 |succ m =>
  rcases h with h|⟨_,h⟩
  .exact absurd (h w (hR w)) hno
  .have:=h w (hR w)
   rw[hs,goes_go] at this
   exact⟨this.1,m,this.2⟩
section
variable {y:Lk} {AW Nx:(Nat->Prop)->ag->ae->Prop} {O:Nat->Prop}
theorem mW(P:ar)(O:Nat->Prop):Nw y.Fz (y.cx P AW Nx).Ex (Kw y) O:=λ_ _ r h=>⟨λb hb=>(r.fz b hb).trans (h.fz b hb),cC h.size r.size,r.ex h.live⟩
theorem Kw.cell(h:Kw y w){a:cy}(hb:y.Fz a.block):w.cell? a=y.w0.cell? a:=by unfold ck;rw[h.fz _ hb]
theorem Kw.keep{P:ar}(ok:y.Ok P){w':ae}(h:Kw y w)(hk:∀ b,b<y.w0.heap.size->w'.heap[b]?=w.heap[b]?)(hs:w.heap.size<=w'.heap.size):Kw y w':=by
 refine⟨λb hb=>(hk b (ok.fl b hb).1).trans (h.fz b hb),cC h.size hs,?_⟩
 obtain⟨st,sm,hw⟩:=h.live
 exact⟨st,sm,(hk _ ok.low.2.1).trans hw⟩
theorem wrap_small{z:Int}(h0:0<=z)(h1:z<9223372036854775808):IntKind.i64.wrap z=z:=by rw[IntKind.wrap_i64];omega
theorem Zk[Payload](ok:y.Ok aa)(t:Nat->ai)(c:Nat)(w:ae)(hw:Kw y w):AtR0 aa 203 y.b7 y.b2 1 0 1 y.pages (gM aa y t c) w:=by
 have hhas:Has y.b2 (1-1) y.pages w:=by
  show w.cell? ⟨y.b2,0,none⟩=some y.pages
  rw[hw.cell ok.f2]
  simp[ck,ok.b2]
 have hshape:w.shape? y.b7=some (203,2):=by
  obtain⟨st,sm,h⟩:=hw.live
  have h':w.heap[y.b7]?=some (wgBlock 203 st sm):=h
  simp[World.shape?,h',wgBlock]
 have hd:=Go.ConcN.Gen.doneN (L:=Tryz.link) Tryz.acZ (Own:=λ_ _=>False) (Rd:=λ_ _=>False) (Wg:=y.b7) (C:=y.b2) (n:=1) (Low:=0) (k:=1) (val:=y.pages) (U0 y t c) (Bz 2 (Y2 y t c) (Y3 y t c)) w ⟨hw.live,hhas⟩
 rw[<-adx] at hd
 have hR:∀ w,RW Tryz.link.tWg y.b7 y.b2 1 0 (1-1) w w:=λw=>⟨λ_ _ _ _=>rfl,λh=>h,λh=>h,rfl⟩
 have hS:∀ g w,AtR0 aa Tryz.link.tWg y.b7 y.b2 1 0 1 y.pages g w->∃ g' es,stepG aa false g w=.go g' w es/\es≠#[]:=λg w h=>by
  obtain⟨_,_,g',h1,_⟩:=h
  exact⟨g',_,h1,by simp⟩
 obtain⟨m1,h1⟩:=uW hR hS 14 (Q7 y t c) hd
 -- the conversion
 have hst:stepG aa false (gC aa y t c) w=.go (gM aa y t c) w #[]:=(Jy y t c).step (show fq _ _ _ from⟨hshape,hshape,rfl⟩)
 have af':¬AtR0 aa Tryz.link.tWg y.b7 y.b2 1 0 1 y.pages (gC aa y t c) w:=λh=>by
  obtain⟨g2,es,e1,e2⟩:=hS _ w h
  exact e2 (GStep.go.inj (hst.symm.trans e1)).2.2.symm
 obtain⟨_,m2,h2⟩:=DY hR hst af' h1
 -- where it says 'release' it has stopped: behind it would come 'disable'
 apply cE
 intro hno
 obtain⟨_,m3,h3⟩:=DY hR (U1 y t c w) hno h2
 obtain⟨m4,h4⟩:=uW hR hS 3 (Y4 y t c) h3
 have aga:¬AtR0 aa Tryz.link.tWg y.b7 y.b2 1 0 1 y.pages (gK aa y t c) w:=λh=>by
  obtain⟨_,_,g',h1,_⟩:=h
  have h6:=(La y t c w).symm.trans h1
  simp[ConcR.mk] at h6
 obtain⟨hd,_⟩:=DY hR (La y t c w) aga h4
 exact(hd.2 (ConcR.mk .disable) (by simp)).2.1 rfl
end
