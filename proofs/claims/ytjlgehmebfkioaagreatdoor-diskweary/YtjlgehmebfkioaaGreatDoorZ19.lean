/- Part of the proof. -/
import Derived.Test.YtjlgehmebfkioaaGreatDoorZ18
import Derived.Conc.Beside
import Derived.Conc.CrowdTrace
namespace Go.Proofs.YtjlgehmebfkioaaGreatDoor
open Go Go.Conc
variable {c fr fr':Frame}
variable {P:Program} {E E' DJ:Nat->Nat->Prop} {Z:Nat->Prop} {fns:Fx} {T K:List Frame} {main:Bool} {gh re:World} {k0:List Item}
theorem uE{cs:List Frame}{w:World}(h:fr.mode=.run):stepG P main (G fr cs) w=stepG.exec P main true fr cs none w:=by
 simp only[G,stepG,h]
theorem lM{cs:List Frame}{w:World}(h:fr.mode=.returning):stepG P main (G fr cs) w=unwind P main fr cs none w:=by
 simp only[G,stepG,h]
theorem TN(hz:zeros P fns)(fJ:0<P.depth)(hp:kV P fns){L:List (Frame × Frame)}(hF:FR P fns E (IG L k0) fr fr')(hL:FL P fns E k0 L)(hw:WR P fns E Z gh re)(hnil:fr.todo=[]->IG L k0=[]) :
 uz P fns Z k0 T K E gh re (stepG.exec P true true fr (L.map (·.1)++T) none gh) (stepG.exec (fns.re P) main true fr' (L.map (·.2)++K) none re):=by
 obtain⟨fn,tm,td,df,md,kd,ro⟩:=fr
 obtain⟨fn',tm',td',df',md',kd',ro'⟩:=fr'
 have htd:td'=td++IG L k0:=hF.todo
 subst htd
 have hok:td.all (jM P fns (C9 P fn))=true:=hF.ok
 have hr:ro=none:=hF.r
 subst hr
 have hr':ro'=none:=hF.r'
 subst hr'
 cases td with
 |nil =>
  have hk:=hnil rfl
  simp only[stepG.exec,hk,List.append_nil,if_true]
  have:=J8 (T:=T) (K:=K) hF hL hw
  simp only[hk,List.append_nil] at this
  exact .inl this
 |cons i k =>
  simp only[List.all_cons,Bool.and_eq_true] at hok
  cases i with
  |code c =>
   cases c with
   |skip=>simp only[stepG.exec,List.cons_append];exact .inl (jd hF hL hw hok.2)
   |label l=>simp only[stepG.exec,List.cons_append];exact .inl (jd hF hL hw hok.2)
   |ret=>simp only[stepG.exec,List.cons_append,if_true];exact .inl (J8 hF hL hw)
   |seq a b =>
    have h1:=hok.1
    simp only[jM,jc,Bool.and_eq_true] at h1
    simp only[stepG.exec,List.cons_append]
    exact .inl (jd hF hL hw (by simp only[List.all_cons,Bool.and_eq_true];exact⟨h1.1,h1.2,hok.2⟩))
   |cond c a b =>
    have h1:=hok.1
    simp only[jM,jc,Bool.and_eq_true] at h1
    have hv:=hF.eval c h1.1.1
    simp only[stepG.exec,List.cons_append]
    generalize he:Frame.eval _ c=v at hv ⊢
    cases v with
    |bool t =>
     rw[l5] at hv
     simp only[List.cons_append] at hv
     rw[hv]
     refine .inl (jd hF hL hw ?_)
     simp only[List.all_cons,Bool.and_eq_true]
     refine⟨?_,hok.2⟩
     cases t
     .exact h1.2
     .exact h1.1.2
    |_=>exact trivial
   |block id b=>simp only[stepG.exec,List.cons_append];exact .inl (jd hF hL hw (by simp only[List.all_cons,Bool.and_eq_true];exact⟨hok.1,rfl,hok.2⟩))
   |loop b=>simp only[stepG.exec,List.cons_append];exact .inl (jd hF hL hw (by simp only[List.all_cons,Bool.and_eq_true];exact⟨hok.1,hok.1,hok.2⟩))
   |scope b=>simp only[stepG.exec,List.cons_append];exact .inl (jd hF hL hw (by simp only[List.all_cons,Bool.and_eq_true];exact⟨hok.1,hok.1,hok.2⟩))
   |exit id =>
    simp only[stepG.exec,List.cons_append]
    cases hx:exitTo id k with
    |none=>exact trivial
    |some k'=>rw[qz _ hx];exact .inl (jd hF hL hw (uw hok.2 hx))
   |goto l =>
    simp only[stepG.exec,List.cons_append]
    cases hx:gotoIn l k with
    |none=>exact trivial
    |some k'=>rw[qA _ hx];exact .inl (jd hF hL hw (uy hok.2 hx))
   |region id ops draw =>
    have h1:jM P fns (C9 P fn) (.inRegion ops (List.range ops.size))=true:=hok.1
    simp only[stepG.exec,List.cons_append]
    cases draw with
    |false=>exact .inl (jd hF hL hw (by simp only[List.all_cons,Bool.and_eq_true];exact⟨h1,hok.2⟩))
    |true =>
     simp only[Bool.not_true,Bool.false_eq_true,if_false,run_choose,Question.forced,Question.cut]
     refine .inl λsame=>?_
     have e0:=same 0 (by simp)
     simp only[Nat.add_zero] at e0
     have efn:fn'=fn:=hF.fn
     rw[e0,efn]
     rw[efn] at hF
     refine⟨E,_,{ re with drawn:=re.drawn+1 },#[],rfl,?_,.inl ⟨_,_,L,rfl,rfl,hF.to (k:=.inRegion ops _::k) (by simp only[List.all_cons,Bool.and_eq_true];exact⟨hok.1,hok.2⟩),hL⟩,λe he=>by simp at he⟩
     exact⟨λ_ _ x=>x,⟨hw.jB,hw.jK,hw.j5,hw.mG,hw.glob,hw.inj,hw.cells⟩,λ_ _ x=>.inl x,Nat.le_refl _,Nat.le_refl _,rfl,rfl,by simp,by simp,rfl,rfl,rfl,rfl,λ_ _ _=>rfl,λ_ _ _=>rfl,Nat.add_comm _ _,λi hi=>by simp at hi;omega⟩
   |_=>cases hok.1
  |inBlock id=>simp only[stepG.exec,List.cons_append];exact .inl (jd hF hL hw hok.2)
  |inScope b=>simp only[stepG.exec,List.cons_append];exact .inl (jd hF hL hw hok.2)
  |inLoop b=>simp only[stepG.exec,List.cons_append];exact .inl (jd hF hL hw (by simp only[List.all_cons,Bool.and_eq_true];exact⟨hok.1,hok.1,hok.2⟩))
  |inRegion ops todo =>
   cases todo with
   |nil=>simp only[stepG.exec,List.cons_append];exact .inl (jd hF hL hw hok.2)
   |cons i rest =>
    simp only[stepG.exec,List.cons_append]
    rw[zV hF.tmps]
    split
    .rename_i hwant
     unfold stepG.oper
     cases ho:ops[i]? with
     |none=>rw[ho] at hwant;simp at hwant
     |some o =>
      simp only[Frame.oper?,ho]
      refine MO hp hF hL hw rfl (by rw[ho];exact ak.execOp hz fJ hp.1 (λx hx=>hF.eval x hx) (λx hx=>hF.acp x hx) (λv=>rfl) (λf=>⟨rfl,rfl⟩) o (by
      have h1:=hok.1
      simp only[jM,Array.all_eq_true] at h1
      obtain⟨hlt,rfl⟩:=Array.getElem?_eq_some_iff.1 ho
      exact h1 i hlt))
    .refine .inl λ_=>?_
     exact⟨E,_,re,#[],rfl,Out.refl hw,.inl ⟨_,_,L,rfl,rfl,hF.finish rfl iW,hL⟩,λe he=>by simp at he⟩
  |_=>cases hok.1
theorem TP{c':Frame}{L:List (Frame × Frame)}(hF:FR P fns E [] fr fr')(hL:FL P fns E k0 ((c,c')::L))(hw:WR P fns E Z gh re)(hm:fr.mode=.returning) :
 uz P fns Z k0 T K E gh re (unwind P true fr (c::(L.map (·.1)++T)) none gh) (unwind (fns.re P) main fr' (c'::(L.map (·.2)++K)) none re):=by
 obtain⟨f,hf,hres⟩:=hF.func
 have hf':(fns.re P).funcs[fr'.fn]?=some f:=by rw[hF.fn];exact hF.same.trans hf
 have hm':fr'.mode=.returning:=hF.mode.trans hm
 have hs:=ak.results (P:=P) (Z:=Z) f hres hF.tmps gh re hw
 unfold unwind
 simp only[hF.d,hF.d',hm,hm',hf,hf',Sem.runT_eq]
 cases hr:(results f fr.tmps).run P gh with
 |halt h w=>cases h<;>exact trivial
 |ok v ji =>
  rw[hr] at hs
  simp only[doReturn,hF.k]
  refine .inl λsame=>?_
  obtain⟨E',v',re',e1,e2,e3,e4⟩:=hs same
  rw[e1]
  simp only[hF.k']
  obtain⟨⟨hc1,ops,i,rest,k,ht⟩,hL2⟩:=hL
  exact⟨E',_,re',_,rfl,e2,.inl ⟨_,_,L,rfl,rfl,(hc1.up e2.up).finish ht e3,hL2.up e2.up⟩,λe he=>(e4 #[] e (mem_seen (by simpa [GStep.after] using he))).resolve_left (by simp)⟩
theorem PO{kk:List Item}{s':GStep}(hF:FR P fns E kk fr fr')(hm:fr.mode=.returning):uz P fns Z k0 [c] K E gh re (unwind P true fr [c] none gh) s':=by
 obtain⟨f,hf,_⟩:=hF.func
 unfold unwind
 simp only[hF.d,hm,hf,Sem.runT_eq]
 cases hr:(results f fr.tmps).run P gh with
 |halt h w=>cases h<;>exact trivial
 |ok v ji =>
  simp only[doReturn,hF.k]
  exact .inr (.inr ⟨c,v,rfl,rfl⟩)
def dG(md:Bool)(T:List Frame)(g:Goroutine):Prop:=g.callers=T/\if md then g.frame.mode=.returning else g.frame.mode=.run/\g.frame.todo=[]
theorem rM(hz:zeros P fns)(fJ:0<P.depth)(hp:kV P fns){md:Bool}(hk:md=true->k0=[]){g g':Goroutine}(hg:GR P fns E k0 [c] K g g')(hw:WR P fns E Z gh re)(hs:¬dG md [c] g) :
 uz P fns Z k0 [c] K E gh re (stepG P true g gh) (stepG (fns.re P) main g' re):=by
 obtain⟨fr,fr',L,rfl,rfl,hF,hL⟩:=hg
 rcases hF.runs with hm|hm
 .rw[uE hm,uE (hF.mode.trans hm)]
  refine TN hz fJ hp hF hL hw λht=>?_
  cases L with
  |cons p L=>rfl
  |nil =>
   cases md with
   |true=>exact hk rfl
   |false=>exact(hs ⟨rfl,hm,ht⟩).elim
 .rw[lM hm,lM (hF.mode.trans hm)]
  cases L with
  |nil=>exact PO hF hm
  |cons c L=>exact TP hF hL hw hm
theorem uX{g:Goroutine}(h:kW P T g)(w:World):(∃ g1,stepG P true g w=.go g1 w/\kW P T g1)\/∃ fr chain,g=G fr T/\fr.mode=.panicking chain/\∀ c cs,T=c::cs->stepG P true g w=.go (G (c.raise chain) cs) w:=by
 obtain⟨fr,L,chain,rfl,hm,⟨hd,f,hf⟩,hL⟩:=h
 have hc:fr.catches P=false:=by simp only[Frame.catches,hf]
 cases L with
 |nil =>
  refine .inr ⟨fr,chain,rfl,hm,λc cs e=>?_⟩
  subst e
  simp only[List.nil_append,G,stepG,hm,unwind,hd,hc,Bool.false_eq_true,if_false]
 |cons c L =>
  obtain⟨ch,h1,h2⟩:=yQ (hL c (by simp)) chain
  refine .inl ⟨G (c.raise chain) (L++T),?_,_,L,ch,rfl,h1,h2,λf hf=>hL f (by simp[hf])⟩
  simp only[List.cons_append,G,stepG,hm,unwind,hd,hc,Bool.false_eq_true,if_false]
variable {g:Goroutine} {w:World}
def eZ(w:World)(t:Nat->Question->Nat)(d:Nat):World:={ w with tape:=t,drawn:=d }
def aL:Frame:={ fn:=0,tmps:=#[],todo:=[.code (.refuse "")],defers:=[{ target:=.nil,args:=#[] }],mode:=.run,kind:=.normal }
variable {P:Program} {E E' DJ:Nat->Nat->Prop} {Z:Nat->Prop} {fns:Fx} {T K:List Frame} {main:Bool} {gh re:World}
theorem FR.eq{fr fr':Frame}(h:FR P fns E [] fr fr')(hE:∀ a b,E a b->a=b):fr'=fr:=by
 obtain⟨f1,f2,f3,f4,f5,f6,f7⟩:=fr
 obtain⟨g1,g2,g3,g4,g5,g6,g7⟩:=fr'
 have a1:=h.fn
 have a2:=h.tmps.eq hE
 have a3:=h.todo
 rw[List.append_nil] at a3
 have a4:=h.d
 have a5:=h.d'
 have a6:=h.mode
 have a7:=h.k
 have a8:=h.k'
 have a9:=h.r
 have Ww:=h.r'
 simp only at a1 a2 a3 a4 a5 a6 a7 a8 a9 Ww
 subst a1 a2 a3 a4 a5 a6 a7 a8 a9 Ww
 rfl
theorem rO(L:List (Frame × Frame)):IG L []=[]:=by unfold IG;split<;>rfl
theorem FL.eq(hE:∀ a b,E a b->a=b):∀ {L:List (Frame × Frame)},FL P fns E [] L->L.map (·.2)=L.map (·.1)
 | [],_=>rfl
 |p::L,h=>by
  have h1:=h.1.1
  rw[rO] at h1
  simp only[List.map_cons,h1.eq hE,FL.eq hE h.2]
theorem GR.eq{g':Goroutine}(h:GR P fns E [] T T g g')(hE:∀ a b,E a b->a=b):g'=g:=by
 obtain⟨fr,fr',L,rfl,rfl,hF,hL⟩:=h
 rw[rO] at hF
 rw[hF.eq hE,hL.eq hE]
def Cl(P:Program)(fns:Fx)(Z:Nat->Prop)(T:List Frame)(g:Goroutine)(w:World):Prop :=
 ∃ E:Nat->Nat->Prop,(∀ a b,E a b->a=b)/\GR P fns E [] T T g g/\WR P fns E Z w w
theorem WR.on(h:WR P fns E Z w w)(t:Nat->Question->Nat)(d:Nat)(t':Nat->Question->Nat)(d':Nat):WR P fns E Z (eZ w t d) (eZ w t' d'):=⟨h.jB,h.jK,h.j5,h.mG,h.glob,h.inj,h.cells⟩
theorem Cl.on(h:Cl P fns Z T g w)(t:Nat->Question->Nat)(d:Nat):Cl P fns Z T g (eZ w t d) :=
 let ⟨E,h1,h2,h3⟩:=h;⟨E,h1,h2,h3.on t d t d⟩
theorem FX{a b:Array Obj}(h:a.size=b.size)(hx:∀ i,i<a.size->a[i]?=b[i]?):a=b:=by
 refine Array.ext h λi h1 h2=>?_
 have:=hx i h1
 rw[Array.getElem?_eq_getElem h1,Array.getElem?_eq_getElem h2] at this
 exact Option.some.inj this
theorem J_{k0:List Item}{g':Goroutine}(hp:gW P fns)(h:JR P fns E k0 T K g g'):False:=by
 obtain⟨f,_,_,_,_,_,hj,_⟩:=h
 rw[hp.2.2 f] at hj
 cases hj
theorem PS(hz:zeros P fns)(fJ:0<P.depth)(hp:gW P fns){md:Bool}{g1:Goroutine}{w1:World}{es:Array Event}(hc:Cl P fns Z [aL] g w)(hs:¬dG md [aL] g)(h:stepG P true g w=.go g1 w1 es) :
 (kW P [aL] g1\/g1=G aL [])\/(Cl P fns Z [aL] g1 w1/\w.drawn<=w1.drawn/\w1.tape=w.tape/\∀ t d,Same w w1 (eZ w t d)->∃ es',stepG P true g (eZ w t d)=.go g1 (eZ w1 t (d+(w1.drawn-w.drawn))) es'):=by
 obtain⟨E,hE,hG,hW⟩:=hc
 have key:∀ t d,uz P fns Z [] [aL] [aL] E w (eZ w t d) (stepG P true g w) (stepG P true g (eZ w t d)):=λt d =>
  (show (fns.re P)=P from hp.2.1)▸rM (main:=true) (md:=md) hz fJ hp.1 (λ_=>rfl) hG (show WR P fns E Z w (eZ w t d) from⟨hW.jB,hW.jK,hW.j5,hW.mG,hW.glob,hW.inj,hW.cells⟩) hs
 by_cases hd:kW P [aL] g1\/g1=G aL []
 .exact .inl hd
 right
 have ans:∀ t d,Ans P fns Z [] [aL] [aL] E w (eZ w t d) g1 w1 (stepG P true g (eZ w t d)):=λt d=>by
  have:=key t d
  rw[h] at this
  rcases this with h1|h1|⟨c,v,h1,h2⟩
  .exact h1
  .exact(hd (.inl h1)).elim
  .cases h1
   exact(hd (.inr h2)).elim
 -- the heaps are the same
 have full:∀ t d,Same w w1 (eZ w t d)->∃ E' es',(∀ a b,E' a b->a=b)/\stepG P true g (eZ w t d)=.go g1 (eZ w1 t (d+(w1.drawn-w.drawn))) es'/\GR P fns E' [] [aL] [aL] g1 g1/\WR P fns E' Z w1 w1/\w.drawn<=w1.drawn/\w1.tape=w.tape:=by
  intro t d same
  obtain⟨E',g1',re',es',e1,e2,e3,_⟩:=ans t d same
  have e3:=e3.resolve_right (J_ hp)
  have hE':∀ a b,E' a b->a=b:=by
   intro a b x
   rcases e2.fresh a b x with y|⟨y1,y2⟩
   .exact hE a b y
   .have hl:=e2.wr.lt x
    have hn:=e2.news (a-w.heap.size) (by omega)
    have ea:w.heap.size+(a-w.heap.size)=a:=by omega
    rw[ea] at hn
    have hb:(eZ w t d).heap.size+(a-w.heap.size)=a:=by show w.heap.size+_=a;omega
    rw[hb] at hn
    exact((e2.wr.inj _ _ _ _ x hn).1 rfl).symm
  have hg:g1'=g1:=e3.eq hE'
  subst hg
  have hheap:re'.heap=w1.heap:=by
   have hsz:re'.heap.size=w1.heap.size:=by
    have:=e2.sizes
    have e:(eZ w t d).heap.size=w.heap.size:=rfl
    omega
   refine FX hsz λi hi=>?_
   by_cases hx:∃ b,E' i b/\¬Z i
   .obtain⟨b,hb,hnz⟩:=hx
    obtain rfl:=hE' _ _ hb
    rcases e2.wr.cells _ _ hb with ⟨c,c',el,fr,fr',k1,k2,k3,k4,_⟩|⟨x,x',l,k1,k2,k3⟩
    .rw[k1,k2,(k3.all hnz (fns.pl _ (e2.wr.jK.1 _ hnz))).eq hE',k4 hnz]
    .rw[k1,k2,k3.eq hE']
   .by_cases hlt:i<w.heap.size
    .have hno:∀ b,E i b->Z i:=λb hb=>Classical.byContradiction λhnz=>hx ⟨b,e2.up _ _ hb,hnz⟩
     rw[e2.J2 i hlt hno,e2.keep i hlt λa ha=>by obtain rfl:=hE _ _ ha;exact hno _ ha]
     rfl
    .have hn:=e2.news (i-w.heap.size) (by omega)
     have ea:w.heap.size+(i-w.heap.size)=i:=by omega
     rw[ea] at hn
     exact(hx ⟨_,hn,λhz=>hlt (hW.jB _ hz)⟩).elim
  have hre:re'=eZ w1 t (d+(w1.drawn-w.drawn)):=by
   have t1:=e2.AU
   have t2:=e2.JZ
   have t3:=e2.os
   have t4:=e2.output
   have t5:=e2.gos
   have t6:=e2.X4
   obtain⟨r1,r2,r3,r4,r5⟩:=re'
   obtain⟨u1,u2,u3,u4,u5⟩:=w1
   simp only[eZ] at hheap t1 t2 t3 t4 t5 t6 ⊢
   subst hheap t1 t2 t3 t4 t5 t6
   rfl
  subst hre
  exact⟨E',es',hE',e1,e3,⟨e2.wr.jB,e2.wr.jK,e2.wr.j5,e2.wr.j5,e2.wr.glob,e2.wr.inj,e2.wr.cells⟩,e2.yC,e2.qY⟩
 obtain⟨E',es',f1,f2,f3,f4,f5,f6⟩:=full w.tape w.drawn (λj _=>rfl)
 exact⟨⟨E',f1,f3,f4⟩,f5,f6,λt d same=>by obtain⟨_,es',_,h,_⟩:=full t d same;exact⟨es',h⟩⟩
variable {fr fr':Frame} {cs:List Frame} {w w':World}
variable {P:Program} {E E' DJ:Nat->Nat->Prop} {Z:Nat->Prop} {fns:Fx} {main md:Bool} {gh re:World} {Fin:Goroutine->World->Prop}
theorem jD{fr1:Frame}{cs1:List Frame}{w1:World}{es:Array Event}(h:stepG P true (G fr cs) w=.go (G fr1 cs1) w1 es):step P (lone fr cs w)=.next (lone fr1 cs1 w1) :=
 step_lone_go (by
  have:({ frame:=fr,callers:=cs,status:=.running,dying:=none }:Goroutine)=G fr cs:=rfl
  rw[this,h];rfl)
theorem lN{w1:World}{o:Outcome}{es:Array Event}(h:stepG P true (G fr cs) w=.ended o w1 es):step P (lone fr cs w)=.ended o w1 :=
 step_lone_ended (by
  have:({ frame:=fr,callers:=cs,status:=.running,dying:=none }:Goroutine)=G fr cs:=rfl
  rw[this,h];rfl)
theorem je{cs':List Frame}(h:lone fr cs w=lone fr' cs' w'):fr=fr'/\cs=cs'/\w=w':=by
 simp only[lone,Machine.mk.injEq,Array.mk.injEq,List.cons.injEq,Goroutine.mk.injEq,and_true] at h
 exact⟨h.2.1,h.2.2,h.1⟩
theorem jE{m m1:Machine}(n:Nat)(h:step P m=.next m1):runN P (n+1) m=runN P n m1:=by simp only[runN,h]
theorem oM{m:Machine}{o:Outcome}(n:Nat)(h:step P m=.ended o w):runN P (n+1) m=.ended o w:=by simp only[runN,h]
theorem lQ(w:World)(vs:List PanicEntry):(∃ o es,stepG P true (G aL []) w=.ended o w es)/\∃ o es,stepG P true (G (aL.raise vs) []) w=.ended o w es:=by
 constructor
 .exact⟨_,_,rfl⟩
 .exact⟨_,_,rfl⟩
theorem mJ:∀ (n:Nat) {g:Goroutine} {w w':World} {fr':Frame},(kW P [aL] g\/g=G aL [])->runN P n (lone g.frame g.callers w)=.next (lone fr' [aL] w')->dG md [aL] (G fr' [aL])->False
 |0,g,w,w',fr',hd,h,hm=>by
  have:=je (Stepped.next.inj h)
  rcases hd with ⟨fr,L,chain,rfl,h1,_⟩|rfl
  .have e:fr=fr':=this.1
   subst e
   have hm:=hm.2
   cases md with
   |true=>simp only[if_true,G] at hm;rw[h1] at hm;cases hm
   |false=>simp only[Bool.false_eq_true,if_false,G] at hm;rw[h1] at hm;cases hm.1
  .cases this.2.1
 |n+1,g,w,w',fr',hd,h,hm=>by
  rcases hd with hd|rfl
  .have hg:g=G g.frame g.callers:=by obtain⟨fr,L,chain,rfl,_⟩:=hd;rfl
   rcases uX hd w with ⟨g1,hs,hd1⟩|⟨fr,chain,e,_,hs⟩
   .have hg1:g1=G g1.frame g1.callers:=by obtain⟨fr,L,chain,rfl,_⟩:=hd1;rfl
    rw[hg,hg1] at hs
    rw[jE _ (jD hs)] at h
    exact mJ n (.inl hd1) h hm
   .have hs:=hs aL [] rfl
    rw[hg] at hs
    rw[jE _ (jD hs)] at h
    cases n with
    |zero =>
     have:=je (Stepped.next.inj h)
     cases this.2.1
    |succ n =>
     obtain⟨o,es,he⟩:=(lQ (P:=P) w chain).2
     rw[oM _ (lN he)] at h
     cases h
  .obtain⟨o,es,he⟩:=(lQ (P:=P) w []).1
   have h2:runN P (n+1) (lone aL [] w)=.next (lone fr' [aL] w'):=h
   rw[oM _ (lN he)] at h2
   cases h2
theorem FY{fr2:Frame}(hF:FR P fns E [] fr fr2)(hm:fr.mode=.returning):∀ n,runN P n (lone fr [aL] w)=.next (lone fr' [aL] w')->n=0:=by
 intro n h
 obtain⟨f,hf⟩:=hF.func
 cases n with
 |zero=>rfl
 |succ n =>
  exfalso
  have e:(∃ v w1 es,stepG P true (G fr [aL]) w=.go (G (aL.finish v) []) w1 es)\/∃ o w1 es,stepG P true (G fr [aL]) w=.ended o w1 es:=by
   rw[lM hm]
   unfold unwind
   simp only[hF.d,hm,hf,Sem.runT_eq,doReturn,hF.k]
   cases (results f fr.tmps).run P w with
   |ok v w1=>exact .inl ⟨v,w1,_,rfl⟩
   |halt h w1=>cases h<;>exact .inr ⟨_,_,_,rfl⟩
  rcases e with ⟨v,w1,es,e⟩|⟨o,w1,es,e⟩
  .rw[jE _ (jD e)] at h
   cases n with
   |zero =>
    have:=je (Stepped.next.inj h)
    cases this.2.1
   |succ n =>
    obtain⟨o,es,he⟩:=(lQ (P:=P) w1 []).1
    have ht:aL.finish v=aL:=rfl
    rw[ht] at h
    rw[oM _ (lN he)] at h
    cases h
  .rw[oM _ (lN e)] at h
   cases h
theorem AZ{g:Goroutine}(hg:GR P fns E [] [aL] [aL] g g)(hs:dG md [aL] g)(hs':dG md [aL] (G fr' [aL])):∀ n,runN P n (lone g.frame g.callers w)=.next (lone fr' [aL] w')->n=0:=by
 obtain⟨fr,fr2,L,e,_,hF,hL⟩:=hg
 obtain⟨hcs,hm⟩:=hs
 subst e
 have hL0:L=[]:=by
  simp only[G] at hcs
  cases L with
  |nil=>rfl
  |cons p L =>
   have:=congrArg List.length hcs
   simp at this
 subst hL0
 rw[rO] at hF
 intro n h
 have h2:runN P n (lone fr [aL] w)=.next (lone fr' [aL] w'):=h
 cases md with
 |true=>simp only[if_true,G] at hm;exact FY hF hm n h2
 |false =>
  simp only[Bool.false_eq_true,if_false,G] at hm
  cases n with
  |zero=>rfl
  |succ n =>
   exfalso
   have e:stepG P true (G fr [aL]) w=.go (G { fr with mode:=.returning } [aL]) w:=by
    rw[uE hm.1]
    simp only[stepG.exec,hm.2,hF.r,if_true]
    rfl
   rw[jE _ (jD e)] at h2
   have:=FY (fr:={ fr with mode:=.returning }) (fr2:={ fr2 with mode:=.returning }) { hF with mode:=rfl,runs:=.inr rfl } rfl n h2
   subst this
   have:=(je (Stepped.next.inj h2)).1
   have hs2:=hs'.2
   simp only[Bool.false_eq_true,if_false,G] at hs2
   rw[<-this] at hs2
   cases hs2.1
theorem yS(hz:zeros P fns)(fJ:0<P.depth)(hp:gW P fns):∀ (n:Nat) {g:Goroutine} {w w':World} {fr':Frame},Cl P fns Z [aL] g w->runN P n (lone g.frame g.callers w)=.next (lone fr' [aL] w')->dG md [aL] (G fr' [aL]) ->
 ∀ t d,(∀ j,t (d+j)=w.tape (w.drawn+j))->∃ d',runN P n (lone g.frame g.callers (eZ w t d))=.next (lone fr' [aL] (eZ w' t d'))
 |0,g,w,w',fr',hc,h,hm,t,d,ht=>by
  obtain⟨e1,e2,e3⟩:=je (Stepped.next.inj h)
  subst e1 e3
  exact⟨d,by simp only[runN];rw[e2]⟩
 |n+1,g,w,w',fr',hc,h,hm,t,d,ht=>by
  have hg:g=G g.frame g.callers:=by obtain⟨_,_,⟨fr,_,L,rfl,_⟩,_⟩:=hc;rfl
  have hns:¬dG md [aL] g:=λhs=>by
   obtain⟨_,_,hG,_⟩:=hc
   have:=AZ hG hs hm _ h
   omega
  obtain⟨E,hE,hG,hW⟩:=hc
  have hok:=rM (main:=true) (K:=[aL]) (md:=md) hz fJ hp.1 (λ_=>rfl) hG hW hns
  cases hs:stepG P true g w with
  |go g1 w1 es =>
   have hc:Cl P fns Z [aL] g w:=⟨E,hE,hG,hW⟩
   have hgg:∀ g1,((kW P [aL] g1\/g1=G aL [])\/Cl P fns Z [aL] g1 w1)->g1=G g1.frame g1.callers:=by
    rintro g1 ((⟨_,_,_,rfl,_⟩|rfl)|⟨_,_,⟨fr,_,L,rfl,_⟩,_⟩)<;>rfl
   rcases PS hz fJ hp hc hns hs with hd|⟨hc1,hdr,htp,hall⟩
   .exfalso
    have hg1:=hgg g1 (.inl hd)
    rw[hg,hg1] at hs
    rw[jE _ (jD hs)] at h
    exact mJ n hd h hm
   .have hg1:=hgg g1 (.inr hc1)
    obtain⟨es',hs2⟩:=hall t d (λj _=>ht j)
    rw[hg,hg1] at hs hs2
    rw[jE _ (jD hs)] at h
    rw[jE _ (jD hs2)]
    have ih:=yS hz fJ hp n hc1 h hm t (d+(w1.drawn-w.drawn)) (λj=>by
     rw[htp]
     have:=ht (w1.drawn-w.drawn+j)
     have e1:d+(w1.drawn-w.drawn)+j=d+(w1.drawn-w.drawn+j):=by omega
     have e2:w1.drawn+j=w.drawn+(w1.drawn-w.drawn+j):=by omega
     rw[e1,e2];exact this)
    exact ih
  |ended o w1 es =>
   rw[hg] at hs
   rw[oM _ (lN hs)] at h
   cases h
  |_=>rw[hs] at hok;exact hok.elim
def Ends(P:Program)(fns:Fx)(Z:Nat->Prop)(md:Bool)(Fin:Goroutine->World->Prop)(g:Goroutine)(w:World):Prop :=
 Cl P fns Z [aL] g w/\∀ t d,∃ N fr' w',runN P N (lone g.frame g.callers (eZ w t d))=.next (lone fr' [aL] w')/\dG md [aL] (G fr' [aL])/\Fin (G fr' [aL]) w'
theorem Ends.step(hz:zeros P fns)(fJ:0<P.depth)(hp:gW P fns)(X9:∀ g w t d,Fin g w->Fin g (eZ w t d)){g:Goroutine}(h:Ends P fns Z md Fin g w) :
 (dG md [aL] g/\Fin g w)\/(¬dG md [aL] g/\∀ t d,∃ g1 w1 es,stepG P true g (eZ w t d)=.go g1 w1 es/\Ends P fns Z md Fin g1 w1/\d<=w1.drawn/\w1.tape=t /\
  ∀ t2 d2,(∀ j,d+j<w1.drawn->t2 (d2+j)=t (d+j))->∃ es',stepG P true g (eZ w t2 d2)=.go g1 (eZ w1 t2 (d2+(w1.drawn-d))) es'):=by
 obtain⟨hc,hall⟩:=h
 have hg:g=G g.frame g.callers:=by obtain⟨_,_,⟨fr,_,L,rfl,_⟩,_⟩:=hc;rfl
 by_cases hs:dG md [aL] g
 .refine .inl ⟨hs,?_⟩
  obtain⟨N,fr',w',h1,h2,h3⟩:=hall w.tape w.drawn
  obtain⟨_,_,hG,_⟩:=hc
  have:=AZ hG hs h2 _ h1
  subst this
  obtain⟨e1,e2,e3⟩:=je (Stepped.next.inj h1)
  subst e1
  have e4:w'=w:=by rw[<-e3];rfl
  rw[hg,hs.1,<-e4]
  exact h3
 .refine .inr ⟨hs,λt d=>?_⟩
  have hct:=hc.on t d
  obtain⟨N,fr',w',h1,h2,h3⟩:=hall t d
  cases N with
  |zero =>
   obtain⟨e1,e2,e3⟩:=je (Stepped.next.inj h1)
   exact(hs (by rw[hg,e1,e2];exact h2)).elim
  |succ N =>
   obtain⟨E,hE,hG,hW⟩:=hct
   have hok:=rM (main:=true) (K:=[aL]) (md:=md) hz fJ hp.1 (λ_=>rfl) hG hW hs
   cases hst:stepG P true g (eZ w t d) with
   |go g1 w1 es =>
    have hct:Cl P fns Z [aL] g (eZ w t d):=⟨E,hE,hG,hW⟩
    rcases PS hz fJ hp hct hs hst with hd|⟨hc1,hdr,htp,hre⟩
    .exfalso
     have hg1:g1=G g1.frame g1.callers:=by rcases hd with ⟨_,_,_,rfl,_⟩|rfl<;>rfl
     rw[hg,hg1] at hst
     rw[jE _ (jD hst)] at h1
     exact mJ N hd h1 h2
    .have hg1:g1=G g1.frame g1.callers:=by obtain⟨_,_,⟨fr,_,L,rfl,_⟩,_⟩:=hc1;rfl
     have acs:∀ t2 d2,(∀ j,d+j<w1.drawn->t2 (d2+j)=t (d+j))->∃ es',stepG P true g (eZ w t2 d2)=.go g1 (eZ w1 t2 (d2+(w1.drawn-d))) es':=λt2 d2 h=>hre t2 d2 h
     refine⟨g1,w1,es,rfl,⟨hc1,λt2 d2=>?_⟩,hdr,htp,acs⟩
     -- a tape that answers as t for this step,then as t2
     obtain⟨m,hm⟩:∃ m,w1.drawn=d+m:=⟨w1.drawn-d,by have:(eZ w t d).drawn=d:=rfl;omega⟩
     let t3:Nat->Question->Nat:=λi=>if i<m then t (d+i) else t2 (d2+(i-m))
     obtain⟨N3,fr3,w3,k1,k2,k3⟩:=hall t3 0
     obtain⟨es3,hs3⟩:=acs t3 0 (λj hj=>by
      have:j<m:=by omega
      simp only[t3,Nat.zero_add,if_pos this])
     have e0:0+(w1.drawn-d)=m:=by omega
     rw[e0] at hs3
     cases N3 with
     |zero =>
      obtain⟨e1,e2,e3⟩:=je (Stepped.next.inj k1)
      exact(hs (by rw[hg,e1,e2];exact k2)).elim
     |succ N3 =>
      have acu:=hs3
      rw[hg,hg1] at acu
      rw[jE _ (jD acu)] at k1
      obtain⟨d',hfin⟩:=yS hz fJ hp N3 (hc1.on t3 m) k1 k2 t2 d2 (λj=>by
       have:¬(m+j<m):=by omega
       show t2 (d2+j)=t3 (m+j)
       simp only[t3,if_neg this]
       congr 1
       omega)
      exact⟨N3,fr3,_,hfin,k2,X9 _ _ _ _ k3⟩
   |ended o w1 es =>
    rw[hg] at hst
    rw[oM _ (lN hst)] at h1
    cases h1
   |_=>rw[hst] at hok;exact hok.elim
variable {g:Goroutine} {w:World}
variable {P:Program} {Z:Nat->Prop} {fns:Fx} {md:Bool} {Fin:Goroutine->World->Prop}
def Runs(P:Program)(md:Bool)(Fin:Goroutine->World->Prop)(g:Goroutine)(w:World):Prop :=
 ∀ M:Goroutine->World->Prop,(∀ g w,dG md [aL] g->Fin g w->M g w) ->
   (∀ g w,¬dG md [aL] g->(∀ t d,∃ g1 w1 es,stepG P true g (eZ w t d)=.go g1 w1 es/\M g1 w1)->M g w)->M g w
theorem Runs.stop(hs:dG md [aL] g)(h:Fin g w):Runs P md Fin g w:=λ_ h1 _=>h1 g w hs h
theorem Runs.step(hs:¬dG md [aL] g)(h:∀ t d,∃ g1 w1 es,stepG P true g (eZ w t d)=.go g1 w1 es/\Runs P md Fin g1 w1):Runs P md Fin g w :=
 λM h1 h2=>h2 g w hs λt d=>let ⟨g1,w1,es,e,r⟩:=h t d;⟨g1,w1,es,e,r M h1 h2⟩
open Classical in
theorem Ends.runs(hz:zeros P fns)(fJ:0<P.depth)(hp:gW P fns)(X9:∀ g w t d,Fin g w->Fin g (eZ w t d))(h:Ends P fns Z md Fin g w):Runs P md Fin g w:=by
 intro M hstop hstep
 refine Classical.byContradiction λhno=>?_
 -- from each state that is not in M a step to another
 let S:={ c:Goroutine × World // Ends P fns Z md Fin c.1 c.2/\¬M c.1 c.2 }
 have nx:∀ c:S,∃ (t:Nat->Question->Nat) (d:Nat) (c1:S),d<=c1.1.2.drawn/\c1.1.2.tape=t/\¬dG md [aL] c.1.1 /\
  ∀ t2 d2,(∀ j,d+j<c1.1.2.drawn->t2 (d2+j)=t (d+j))->∃ es',stepG P true c.1.1 (eZ c.1.2 t2 d2)=.go c1.1.1 (eZ c1.1.2 t2 (d2+(c1.1.2.drawn-d))) es':=by
  rintro ⟨⟨g,w⟩,hE,hM⟩
  rcases hE.step hz fJ hp X9 with ⟨hs,hf⟩|⟨hs,hall⟩
  .exact(hM (hstop g w hs hf)).elim
  .have:¬∀ t d,∃ g1 w1 es,stepG P true g (eZ w t d)=.go g1 w1 es/\M g1 w1:=λx=>hM (hstep g w hs x)
   obtain⟨t,ht⟩:=Classical.not_forall.1 this
   obtain⟨d,hd⟩:=Classical.not_forall.1 ht
   obtain⟨g1,w1,es,e1,e2,e3,e4,e5⟩:=hall t d
   exact⟨t,d,⟨(g1,w1),e2,λhm=>hd ⟨g1,w1,es,e1,hm⟩⟩,e3,e4,hs,e5⟩
 let c0:S:=⟨(g,w),h,hno⟩
 let ft:S->(Nat->Question->Nat):=λc=>Classical.choose (nx c)
 let fd:S->Nat:=λc=>Classical.choose (Classical.choose_spec (nx c))
 let fc:S->S:=λc=>Classical.choose (Classical.choose_spec (Classical.choose_spec (nx c)))
 have fs:∀ c:S,fd c<=(fc c).1.2.drawn/\(fc c).1.2.tape=ft c/\¬dG md [aL] c.1.1/\∀ t2 d2,(∀ j,fd c+j<(fc c).1.2.drawn->t2 (d2+j)=ft c (fd c+j))->∃ es',stepG P true c.1.1 (eZ c.1.2 t2 d2)=.go (fc c).1.1 (eZ (fc c).1.2 t2 (d2+((fc c).1.2.drawn-fd c))) es' :=
  λc=>Classical.choose_spec (Classical.choose_spec (Classical.choose_spec (nx c)))
 -- the way
 let sq:Nat->S:=λk=>Nat.rec c0 (λ_ c=>fc c) k
 have sq0:sq 0=c0:=rfl
 have sqs:∀ k,sq (k+1)=fc (sq k):=λ_=>rfl
 let mk:Nat->Nat:=λk=>(fc (sq k)).1.2.drawn-fd (sq k)
 let D:Nat->Nat:=λk=>Nat.rec 0 (λk s=>s+mk k) k
 have D0:D 0=0:=rfl
 have Ds:∀ k,D (k+1)=D k+mk k:=λ_=>rfl
 have Wx:∀ k j,k<=j->D k<=D j:=λk j hkj=>by
  induction hkj with
  |refl=>exact Nat.le_refl _
  |step _ ih=>exact Nat.le_trans ih (by rw[Nat.succ_eq_add_one,Ds];omega)
 -- the tape that answers so
 have tx:∃ tt:Nat->Question->Nat,∀ k j,j<mk k->tt (D k+j)=ft (sq k) (fd (sq k)+j):=by
  refine⟨λi=>if hk:∃ k,D k<=i/\i<D (k+1) then ft (sq (Classical.choose hk)) (fd (sq (Classical.choose hk))+(i-D (Classical.choose hk))) else λ_=>0,λk j hj=>?_⟩
  have hk:∃ k',D k'<=D k+j/\D k+j<D (k'+1):=⟨k,by omega,by rw[Ds];omega⟩
  simp only[dif_pos hk]
  have hu:Classical.choose hk=k:=by
   obtain⟨h1,h2⟩:=Classical.choose_spec hk
   rcases Nat.lt_trichotomy (Classical.choose hk) k with hlt|he|hgt
   .have:=Wx _ _ (Nat.succ_le_of_lt hlt)
    rw[Nat.succ_eq_add_one] at this
    omega
   .exact he
   .have:=Wx _ _ (Nat.succ_le_of_lt hgt)
    rw[Nat.succ_eq_add_one,Ds] at this
    omega
  rw[hu]
  congr 1
  omega
 obtain⟨tt,htt⟩:=tx
 have hG:∀ c:S,c.1.1=G c.1.1.frame c.1.1.callers:=λc=>by
  obtain⟨⟨_,_⟩,⟨⟨_,_,⟨fr,_,L,e,_⟩,_⟩,_⟩,_⟩:=c
  simp only at e ⊢
  rw[e];rfl
 have way:∀ k,Go.step P (lone (sq k).1.1.frame (sq k).1.1.callers (eZ (sq k).1.2 tt (D k)))=.next (lone (sq (k+1)).1.1.frame (sq (k+1)).1.1.callers (eZ (sq (k+1)).1.2 tt (D (k+1)))):=λk=>by
  obtain⟨es',hs⟩:=(fs (sq k)).2.2.2 tt (D k) (λj hj=>htt k j (by show j<(fc (sq k)).1.2.drawn-fd (sq k);omega))
  rw[hG (sq k),hG (fc (sq k))] at hs
  have:=jD hs
  exact this
 have run:∀ n k,runN P n (lone (sq k).1.1.frame (sq k).1.1.callers (eZ (sq k).1.2 tt (D k)))=.next (lone (sq (k+n)).1.1.frame (sq (k+n)).1.1.callers (eZ (sq (k+n)).1.2 tt (D (k+n)))):=λn=>by
  induction n with
  |zero=>intro k;rfl
  |succ n ih =>
   intro k
   rw[jE _ (way k),ih (k+1)]
   have e:k+1+n=k+(n+1):=by omega
   rw[e]
 obtain⟨N,fr',w',h1,h2,_⟩:=h.2 tt 0
 have h3:=run N 0
 rw[Nat.zero_add] at h3
 have h4:runN P N (lone g.frame g.callers (eZ w tt 0))=.next (lone (sq N).1.1.frame (sq N).1.1.callers (eZ (sq N).1.2 tt (D N))):=h3
 rw[h4] at h1
 obtain⟨e1,e2,_⟩:=je (Stepped.next.inj h1)
 exact(fs (sq N)).2.2.1 (by rw[hG (sq N),e1,e2];exact h2)
end Go.Proofs.YtjlgehmebfkioaaGreatDoor
namespace Go.Proofs.YtjlgehmebfkioaaGreatDoor
open Go Go.Conc
open Go.ConcN (sumTo upd sumTo_upd upd_ne upd_same)
variable {g g':Goroutine} {gh:World}
variable {P:Program} {Z:Nat->Prop} {fns:Fx} {md main:Bool} {Fin:Goroutine->World->Prop} {E E':Nat->Nat->Prop} {k0:List Item} {K:List Frame}
theorem Runs.cases{w:World}(h:Runs P md Fin g w):(dG md [aL] g/\Fin g w)\/(¬dG md [aL] g/\∀ t d,∃ g1 w1 es,stepG P true g (eZ w t d)=.go g1 w1 es/\Runs P md Fin g1 w1) :=
 h (λg w=>(dG md [aL] g/\Fin g w)\/(¬dG md [aL] g/\∀ t d,∃ g1 w1 es,stepG P true g (eZ w t d)=.go g1 w1 es/\Runs P md Fin g1 w1))
   (λ_ _ hs hf=>.inl ⟨hs,hf⟩)
   (λ_ _ hs hall=>.inr ⟨hs,λt d=>by
    obtain⟨g1,w1,es,e,hm⟩:=hall t d
    refine⟨g1,w1,es,e,?_⟩
    rcases hm with ⟨a,b⟩|⟨a,b⟩
    .exact Runs.stop a b
    .exact Runs.step a b⟩)
def Bf(P:Program)(md:Bool)(c' c:Goroutine × World):Prop:=¬dG md [aL] c.1/\∃ t d es,stepG P true c.1 (eZ c.2 t d)=.go c'.1 c'.2 es
theorem Runs.acc{w:World}(h:Runs P md Fin g w):Acc (Bf P md) (g,w) :=
 h (λg w=>Acc (Bf P md) (g,w))
   (λ_ _ hs _=>Acc.intro _ λ_ hb=>(hb.1 hs).elim)
   (λ_ _ _ hall=>Acc.intro _ λc' hb=>by
    obtain⟨_,t,d,es,e⟩:=hb
    obtain⟨g1,w1,es1,e1,ha⟩:=hall t d
    simp only at e
    rw[e] at e1
    cases e1
    exact ha)
structure zW(P:Program)(fns:Fx)(Z:Nat->Prop)(md:Bool)(Fin:Goroutine->World->Prop)(k0:List Item)(K:List Frame)(E:Nat->Nat->Prop)(g:Goroutine)(gh:World)(g':Goroutine)(re:World):Prop where
 gr:GR P fns E k0 [aL] K g g'
 wr:WR P fns E Z gh re
 runs:Runs P md Fin g gh
theorem GR.running(h:GR P fns E k0 [aL] K g g'):g'.status=.running:=by obtain⟨_,_,_,_,rfl,_⟩:=h;rfl
theorem zW.rely{re PU:World}(h:zW P fns Z md Fin k0 K E g gh g' re)(hs:∀ a b,E a b->PU.heap[b]?=re.heap[b]?)(hl:re.heap.size<=PU.heap.size):zW P fns Z md Fin k0 K E g gh g' PU :=
 ⟨h.gr,⟨h.wr.jB,h.wr.jK,h.wr.j5,Nat.lt_of_lt_of_le h.wr.mG hl,h.wr.glob,h.wr.inj,λa b x=>by rw[hs a b x];exact h.wr.cells a b x⟩,h.runs⟩
theorem WR.qY{re:World}(h:WR P fns E Z gh re)(t:Nat->Question->Nat)(d:Nat):WR P fns E Z (eZ gh t d) re:=⟨h.jB,h.jK,h.j5,h.mG,h.glob,h.inj,h.cells⟩
theorem zW.stepJ(hz:zeros P fns)(fJ:0<P.depth)(hp:kV P fns)(hk:md=true->k0=[]){re:World}(h:zW P fns Z md Fin k0 K E g gh g' re) :
 (dG md [aL] g/\Fin g gh)\/∃ E' g1 w1 g1' re' es',stepG (fns.re P) main g' re=.go g1' re' es'/\Bf P md (g1,w1) (g,gh)/\(zW P fns Z md Fin k0 K E' g1 w1 g1' re'\/(JR P fns E' k0 [aL] K g1 g1'/\WR P fns E' Z w1 re'/\Runs P md Fin g1 w1))/\Out P fns E E' Z (eZ gh re.tape re.drawn) re w1 re'/\∀ e∈es',zS E' Z e:=by
 rcases h.runs.cases with h1|⟨hs,hall⟩
 .exact .inl h1
 .right
  obtain⟨g1,w1,es,e1,hr⟩:=hall re.tape re.drawn
  have hok:=rM (main:=main) (md:=md) hz fJ hp hk h.gr (h.wr.qY re.tape re.drawn) hs
  rw[e1] at hok
  rcases hok with ha|hd
  .obtain⟨E',g1',re',es',a1,a2,a3,a4⟩:=ha (λj _=>rfl)
   exact⟨E',g1,w1,g1',re',es',a1,⟨hs,_,_,_,e1⟩,a3.imp (λa3=>⟨a3,a2.wr,hr⟩) (λa3=>⟨a3,a2.wr,hr⟩),a2,a4⟩
  .exfalso
   have hd:kW P [aL] g1\/g1=G aL []:=by
    rcases hd with hd|⟨c,v,e,hd⟩
    .exact .inl hd
    .cases e;exact .inr hd
   -- what is doomed does not run to its end
   have never:∀ g w,Runs P md Fin g w->(kW P [aL] g\/g=G aL []\/∃ vs,g=G (aL.raise vs) [])->False:=by
    intro g w hr
    refine hr (λg w=>(kW P [aL] g\/g=G aL []\/∃ vs,g=G (aL.raise vs) [])->False) ?_ ?_
    .intro g w hs _ hd
     rcases hd with hd|rfl|⟨vs,rfl⟩
     .obtain⟨fr,L,chain,rfl,h1,_⟩:=hd
      have hm:=hs.2
      cases md with
      |true=>simp only[if_true,G] at hm;rw[h1] at hm;cases hm
      |false=>simp only[Bool.false_eq_true,if_false,G] at hm;rw[h1] at hm;cases hm.1
     .cases hs.1
     .cases hs.1
    .intro g w _ hall hd
     obtain⟨g1,w1,es,e,hm⟩:=hall w.tape w.drawn
     rcases hd with hd|rfl|⟨vs,rfl⟩
     .rcases uX hd (eZ w w.tape w.drawn) with ⟨g2,hs,hd1⟩|⟨fr,chain,_,_,hs⟩
      .rw[hs] at e
       cases e
       exact hm (.inl hd1)
      .rw[hs aL [] rfl] at e
       cases e
       exact hm (.inr (.inr ⟨chain,rfl⟩))
     .obtain⟨o,es,he⟩:=(lQ (P:=P) (eZ w w.tape w.drawn) []).1
      rw[he] at e
      cases e
     .obtain⟨o,es,he⟩:=(lQ (P:=P) (eZ w w.tape w.drawn) vs).2
      rw[he] at e
      cases e
   exact never g1 w1 hr (hd.imp id .inl)
theorem zW.step(hz:zeros P fns)(fJ:0<P.depth)(hp:gW P fns)(hk:md=true->k0=[]){re:World}(h:zW P fns Z md Fin k0 K E g gh g' re) :
 (dG md [aL] g/\Fin g gh)\/∃ E' g1 w1 g1' re' es',stepG P main g' re=.go g1' re' es'/\Bf P md (g1,w1) (g,gh)/\zW P fns Z md Fin k0 K E' g1 w1 g1' re'/\Out P fns E E' Z (eZ gh re.tape re.drawn) re w1 re'/\∀ e∈es',zS E' Z e:=by
 rcases h.stepJ (main:=main) hz fJ hp.1 hk with h|⟨E',g1,w1,g1',re',es',a1,a2,a3,a4⟩
 .exact .inl h
 .rw[hp.2.1] at a1
  exact .inr ⟨E',g1,w1,g1',re',es',a1,a2,a3.resolve_right λx=>J_ hp x.1,a4⟩
variable {P:Program} {Z:Nat->Prop} {fns:Fx} {md main:Bool} {Fin:Goroutine->World->Prop} {E E':Nat->Nat->Prop} {k0:List Item} {K:List Frame}
def dY(S:Nat->Prop)(l:Loc):Prop:=∃ b,blk l=some b/\S b
theorem PV{S:Nat->Prop}{B:Nat}{e:Event}(h:zS E Z e)(hS:∀ a b,E a b->¬S b)(hB:∀ a b,E a b->b<B):EvL (dY S) B e:=by
 obtain⟨loc,wr,sy⟩:=e
 rcases h with ⟨b,h1,h2,a,h3,_⟩|⟨m,h1,h2⟩
 .cases loc with
  |cell c =>
   simp only[blk,Option.some.injEq] at h1
   subst h1
   refine⟨λx hx hs=>?_,by simp,by simp,hB _ _ h3⟩
   have:x.loc=.cell c:=by
    simp only[MemAct.ofEvent,MemAct.touch?,Option.some.injEq] at hx
    rw[<-hx]
   rw[this] at hs
   obtain⟨b',e1,e2⟩:=hs
   simp only[blk,Option.some.injEq] at e1
   exact(hS _ _ h3 (e1▸e2)).elim
  |obj r =>
   simp only[blk,Option.some.injEq] at h1 h2
   subst h1
   subst h2
   refine⟨λx hx hs=>?_,by simp,by simp,by cases wr<;>exact hB _ _ h3⟩
   have:x.loc=.obj r:=by
    cases wr<;>(simp only[MemAct.ofEvent,MemAct.touch?,Option.some.injEq] at hx;rw[<-hx])
   rw[this] at hs
   obtain⟨b',e1,e2⟩:=hs
   simp only[blk,Option.some.injEq] at e1
   exact(hS _ _ h3 (e1▸e2)).elim
  |_=>simp[blk] at h1
 .simp only at h1
  subst h1
  cases m<;>first|(cases h2;done)|exact⟨λx hx=>by simp[MemAct.ofEvent,MemAct.touch?] at hx,by simp,by simp,by simp[MemAct.ofEvent,MemAct.low]⟩
theorem zW.at{g g':Goroutine}{gh w:World}(h:zW P fns Z md Fin k0 K E g gh g' w)(d:Nat):zW P fns Z md Fin k0 K E g gh g' (w.at d):=h.rely (λ_ _ _=>rfl) (Nat.le_refl _)
end Go.Proofs.YtjlgehmebfkioaaGreatDoor
namespace Go.Proofs.YtjlgehmebfkioaaGreatDoor
open Go Go.Conc
variable {a b:Option Addr} {gh:World}
variable {P:Program} {Z:Nat->Prop} {fns:Fx} {md main:Bool} {E E':Nat->Nat->Prop} {k0:List Item} {K:List Frame}
def dom(E:Nat->Nat->Prop)(a b:Nat):Prop:=a=b/\∃ x,E a x
theorem AR.dom{a b:Addr}(h:AR fns E a b):AR fns (dom E) a a:=⟨⟨rfl,_,h.1⟩,rfl,rfl,h.2.2.2⟩
theorem OA.dom(h:OA fns E a b):OA fns (dom E) a a:=by
 cases a with
 |none=>trivial
 |some a=>obtain⟨b',rfl,g⟩:=dA.1 h;exact AR.dom g
theorem AS.dom{a b:Addr}(h:AS fns E a b):AS fns (dom E) a a:=⟨⟨rfl,_,h.1⟩,rfl,rfl,h.2.2.2⟩
theorem OS.dom(h:OS fns E a b):OS fns (dom E) a a:=by
 cases a with
 |none=>trivial
 |some a=>obtain⟨b',rfl,g⟩:=dR.1 h;exact AS.dom g
theorem SR.dom{l c:Nat}(h:SR fns E l c a b):SR fns (dom E) l c a a:=h.imp (λx=>x.dom) λx=>⟨x.1,x.2.1,rfl⟩
theorem VR.afg:∀ (n:Nat) (v v':Value),SizeOf.sizeOf v<n->VR fns E v v'->VR fns (dom E) v v:=by
 intro n
 induction n with
 |zero=>intro v v' h;omega
 |succ n ih =>
  have arr:∀ x x':Array Value,(∀ i (h:i<x.size),SizeOf.sizeOf x[i]<n)->aV fns E x x'->aV fns (dom E) x x :=
   λx x' h2 h3=>⟨rfl,λi h _=>ih _ _ (h2 i h) (h3.2 i h (h3.1▸h))⟩
  intro v v' hn hv
  cases v with
  |pointer a=>obtain⟨b,rfl,h⟩:=aM.1 hv;exact aM.2 ⟨_,rfl,h.dom⟩
  |slice a l c=>obtain⟨b,rfl,h⟩:=aJ.1 hv;exact aJ.2 ⟨_,rfl,h.dom⟩
  |map r=>obtain⟨rfl,rfl⟩:=fE.1 hv;exact fE.2 ⟨rfl,rfl⟩
  |chan r=>obtain⟨rfl,rfl⟩:=dI.1 hv;exact dI.2 ⟨rfl,rfl⟩
  |func f x y =>
   obtain⟨x',y',rfl,h2,h3,h4⟩:=dz.1 hv
   exact dz.2 ⟨_,_,rfl,h2,arr _ _ (λi h=>by have:=Array.sizeOf_getElem x i h;simp at hn;omega) h3,arr _ _ (λi h=>by have:=Array.sizeOf_getElem y i h;simp at hn;omega) h4⟩
  |iface t u=>obtain⟨u',rfl,h⟩:=bE.1 hv;exact bE.2 ⟨_,rfl,ih _ _ (by simp at hn;omega) h⟩
  |agg x=>obtain⟨x',rfl,h⟩:=bW.1 hv;exact bW.2 ⟨_,rfl,arr _ _ (λi h=>by have:=Array.sizeOf_getElem x i h;simp at hn;omega) h⟩
  |tuple x=>obtain⟨x',rfl,h⟩:=bK.1 hv;exact bK.2 ⟨_,rfl,arr _ _ (λi h=>by have:=Array.sizeOf_getElem x i h;simp at hn;omega) h⟩
  |float=>exact(b_ hv).elim
  |complex=>exact(bO hv).elim
  |_=>rw[VR]
theorem VR.dom{v v':Value}(h:VR fns E v v'):VR fns (dom E) v v:=VR.afg (SizeOf.sizeOf v+1) v v' (by omega) h
theorem aV.dom{x x':Array Value}(h:aV fns E x x'):aV fns (dom E) x x:=⟨rfl,λi a _=>(h.2 i a (h.1▸a)).dom⟩
theorem VZ.dom{v v':Value}(h:VZ fns E v v'):VZ fns (dom E) v v:=by
 rcases h with h|⟨a,b,rfl,rfl,h⟩
 .exact .inl h.dom
 .exact .inr ⟨a,a,rfl,rfl,h.dom⟩
theorem TR.dom{ia:Nat->Bool}{x x':Array Value}(h:TR fns ia E x x'):TR fns ia (dom E) x x:=⟨rfl,λi a _=>(h.2 i a (h.1▸a)).imp (·.dom) λy=>⟨y.1,y.2.dom⟩⟩
theorem CR.dom{z:Prop}{lo:Nat}{c c':Array Value}(h:CR fns E z lo c c'):CR fns (dom E) z lo c c:=⟨Nat.le_refl _,λ_=>rfl,λi a _ l=>(h.at_ i a (by have:=h.le;omega) l).dom⟩
theorem FR.dom{fr fr':Frame}(h:FR P fns E k0 fr fr'):FR P fns (dom E) [] fr fr :=
 ⟨rfl,h.tmps.dom,by rw[List.append_nil],h.ok,h.d,h.d,rfl,h.runs,h.k,h.k,h.r,h.r,h.func,h.same,λg hg=>⟨⟨rfl,_,(h.gs g hg).1⟩,(h.gs g hg).2⟩⟩
theorem FL.dom:∀ {L:List (Frame × Frame)},FL P fns E k0 L->∃ L',L'.map (·.1)=L.map (·.1)/\L'.map (·.2)=L.map (·.1)/\FL P fns (dom E) [] L'
 | [],_=>⟨[],rfl,rfl,trivial⟩
 |p::L,h=>by
  obtain⟨L',h1,h2,h3⟩:=FL.dom h.2
  refine⟨(p.1,p.1)::L',by simp[h1],by simp[h2],⟨?_,h.1.2⟩,h3⟩
  rw[rO]
  exact h.1.1.dom
theorem GR.dom{T:List Frame}{g g':Goroutine}(h:GR P fns E k0 T K g g'):GR P fns (dom E) [] T T g g:=by
 obtain⟨fr,fr',L,rfl,rfl,hF,hL⟩:=h
 obtain⟨L',h1,h2,h3⟩:=hL.dom
 refine⟨fr,fr,L',by rw[h1],by rw[h2],?_,h3⟩
 rw[rO]
 exact hF.dom
theorem WR.dom{re:World}(h:WR P fns E Z gh re):WR P fns (dom E) Z gh gh:=by
 refine⟨h.jB,h.jK,h.j5,h.j5,λa b x _=>x.1,λa b a' b' x y=>?_,λa b x=>?_⟩
 .rw[<-x.1,<-y.1]
  exact⟨λe=>e,λe _=>e⟩
 .obtain⟨rfl,y,hy⟩:=x
  rcases h.cells _ _ hy with ⟨c,c',el,fr,fr',k1,k2,k3,k4,k5⟩|⟨x,x',l,k1,k2,k3⟩
  .exact .inl ⟨c,c,el,fr,fr,k1,k1,k3.dom,λ_=>rfl,k5⟩
  .exact .inr ⟨x,x,l,k1,k1,k3.dom⟩
theorem acv{g g':Goroutine}{re:World}(hg:GR P fns E k0 [aL] K g g')(hw:WR P fns E Z gh re):Cl P fns Z [aL] g gh:=⟨dom E,λ_ _ x=>x.1,hg.dom,hw.dom⟩
def yT(P:Program)(Q:Value->World->Prop)(g:Goroutine)(w:World):Prop :=
 ∃ fn v t d,P.funcs[g.frame.fn]?=some fn/\(results fn g.frame.tmps).run P (eZ w t d)=.ok v (eZ w t d)/\Q v (eZ w t d)
theorem yT.on{Q:Value->World->Prop}(g:Goroutine)(w:World)(t:Nat->Question->Nat)(d:Nat)(h:yT P Q g w):yT P Q g (eZ w t d) :=
 let ⟨fn,v,t',d',h⟩:=h;⟨fn,v,t',d',h⟩
theorem II{f:FuncId}{args:Array Value}{Q:Value->World->Prop}(hc:Cl P fns Z [aL] (G (Frame.enter P f args .normal) [aL]) gh)(h:∀ t d,Calls P f args (eZ gh t d) (λe w'=>∃ v,e=.returned v/\Q v w')) :
 Ends P fns Z true (yT P Q) (G (Frame.enter P f args .normal) [aL]) gh:=by
 refine⟨hc,λt d=>?_⟩
 obtain⟨e,w',fr,⟨v,rfl,hq⟩,⟨N,hN⟩,hfn,hm,hd,hk,fn,hf,hr⟩:=h t d [aL]
 exact⟨N,fr,w',hN,⟨rfl,by simp only[if_true];exact hm⟩,fn,v,w'.tape,w'.drawn,hf,hr,hq⟩
end Go.Proofs.YtjlgehmebfkioaaGreatDoor
namespace Go.Proofs.YtjlgehmebfkioaaGreatDoor
open Go Go.Conc
open Go.ConcN (fork_knows)
def MP(dO Fz:Nat->Prop)(Own:Nat->Nat->Prop)(g b:Nat)(x:Touch):Prop :=
 (dO b/\x.kind≠.plain/\(x.kind=.said->g=0))\/(Own g b/\x.kind=.plain)\/(Fz b/\x.write=false/\x.kind=.plain)
structure Sep(Sx dO Fz:Nat->Prop)(Own:Nat->Nat->Prop):Prop where
 own:∀ g g' b,Own g b->Own g' b->g=g'
 oF:∀ g b,Own g b->¬Fz b
 oA:∀ g b,Own g b->¬dO b
 oS:∀ g b,Own g b->¬Sx b
 fA:∀ b,Fz b->¬dO b
 fS:∀ b,Fz b->¬Sx b
 aS:∀ b,dO b->¬Sx b
def bn(m0 j g:Nat):Prop:=g=0\/(m0<=g/\g<m0+j)
structure TI(m0 j tz:Nat)(Sx dO Fz:Nat->Prop)(Own:Nat->Nat->Prop)(B:Nat)(t:Trace):Prop where
 clean:∀ said,¬Race said t
 len:tz<=t.size
 old:∀ i x,i<tz->touchAt t i=some x->x.loc.isMemory=true->(∀ g,bn m0 j g->Knows t g i)\/(dY Sx x.loc/\x.kind=.atomic)
 new:∀ (i:Nat) op x,tz<=i->t[i]?=some op->op.act.touch?=some x->x.loc.isMemory=true->bn m0 j op.g/\∃ b,blk x.loc=some b/\MP dO Fz Own op.g b x
 over:∀ i g,i<tz->t.g? i=some g->g≠0->t.counts i->∃ k,t.g? k=some 0/\HappensBefore t i k
 seen:∀ op∈t,op.act.low B
section
variable {m0 j tz:Nat} {Sx dO Fz:Nat->Prop} {Own Own':Nat->Nat->Prop} {B B':Nat} {t u:Trace}
theorem TI.mono(h:TI m0 j tz Sx dO Fz Own B t)(hO:∀ g b,Own g b->Own' g b)(hB:B<=B'):TI m0 j tz Sx dO Fz Own' B' t :=
 ⟨h.clean,h.len,h.old,λi op x hi ho hx hm=>let ⟨h0,b,h1,h2⟩:=h.new i op x hi ho hx hm;⟨h0,b,h1,h2.imp id λy=>y.imp (λz=>⟨hO _ _ z.1,z.2⟩) id⟩,h.over,λop hop=>MemAct.low_mono hB (h.seen op hop)⟩
theorem TI.grow(h:TI m0 j tz Sx dO Fz Own B t)(hB:B<=B')(hc:∀ said,¬Race said (t++u))
 (hu:∀ op∈u,(∀ x,op.act.touch?=some x->x.loc.isMemory=true->bn m0 j op.g/\∃ b,blk x.loc=some b/\MP dO Fz Own op.g b x)/\op.act.low B'):TI m0 j tz Sx dO Fz Own B' (t++u):=by
 have hl:=h.len
 refine⟨hc,by simp;omega,λi x hi hx hm=>?_,λi op x hi ho hx hm=>?_,λi g hi hg hne hcn=>?_,λop hop=>?_⟩
 .rw[touchAt_old (by omega)] at hx
  exact(h.old i x hi hx hm).imp (λk g hg=>(k g hg).app u) id
 .rcases getElem?_append_cases ho with ⟨_,ho'⟩|⟨_,hou⟩
  .exact h.new i op x hi ho' hx hm
  .exact(hu op hou).1 x hx hm
 .have hi':i<t.size:=by omega
  obtain⟨k,hk,hb⟩:=h.over i g hi (by rw[<-g?_old hi'];exact hg) hne ((counts_old hi').1 hcn)
  have hkl:k<t.size:=by
   unfold Trace.g? at hk
   obtain⟨z,hz,_⟩:=Option.map_eq_some_iff.1 hk
   exact lt_size_of_getElem? hz
  exact⟨k,by rw[g?_old hkl];exact hk,hb_app u hb⟩
 .rcases Array.mem_append.1 hop with hop|hop
  .exact MemAct.low_mono hB (h.seen op hop)
  .exact(hu op hop).2
theorem PY{l l':Loc}{b b':Nat}(h:blk l=some b)(h':blk l'=some b')(e:l=l'):b=b':=by rw[e,h'] at h;exact(Option.some.inj h).symm
theorem TI.app(S:Sep Sx dO Fz Own)(h:TI m0 j tz Sx dO Fz Own B t){g:Nat}(hg:bn m0 j g)(hB:B<=B')
 (hu:∀ op∈u,op.g=g/\(∀ x,op.act.touch?=some x->x.loc.isMemory=true->∃ b,blk x.loc=some b/\MP dO Fz Own g b x)/\op.act.low B'):TI m0 j tz Sx dO Fz Own B' (t++u):=by
 refine h.grow hB (λsaid=>noRace_append (h.clean said) (λop hop=>(hu op hop).1) λi a ha op hop y hy hc=>?_) λop hop=>⟨λx hx hm=>(hu op hop).1▸⟨hg,(hu op hop).2.1 x hx hm⟩,(hu op hop).2.2⟩
 obtain⟨b',hb',hN⟩:=(hu op hop).2.1 y hy (hc.1▸hc.2.1)
 by_cases hi:i<tz
 .rcases h.old i a hi ha hc.2.1 with k|⟨⟨b,hb,hS⟩,_⟩
  .exact k g hg
  .obtain rfl:=PY hb hb' hc.1
   rcases hN with ⟨x,_⟩|⟨x,_⟩|⟨x,_⟩
   .exact(S.aS _ x hS).elim
   .exact(S.oS _ _ x hS).elim
   .exact(S.fS _ x hS).elim
 .obtain⟨op',ho',IJ⟩:=touch_of ha
  obtain⟨_,b,hb,hM⟩:=h.new i op' a (by omega) ho' IJ hc.2.1
  obtain rfl:=PY hb hb' hc.1
  have own:op'.g=g->Knows t g i:=λe=>by
   have:=knows_own ho'
   rwa [e] at this
  obtain⟨hl,hm,hw,hk⟩:=hc
  rcases hM with ⟨m1,m2,m3⟩|⟨m1,m2⟩|⟨m1,m2,m3⟩<;>rcases hN with ⟨n1,n2,n3⟩|⟨n1,n2⟩|⟨n1,n2,n3⟩
  .rcases hk with hk|hk|⟨_,k1,k2⟩
   .exact(m2 hk).elim
   .exact(n2 hk).elim
   .exact own ((m3 k1).trans (n3 k2).symm)
  .exact(S.oA _ _ n1 m1).elim
  .exact(S.fA _ n1 m1).elim
  .exact(S.oA _ _ m1 n1).elim
  .exact own (S.own _ _ _ m1 n1)
  .exact(S.oF _ _ m1 n1).elim
  .exact(S.fA _ m1 n1).elim
  .exact(S.oF _ _ n1 m1).elim
  .rcases hw with hw|hw
   .rw[m2] at hw;cases hw
   .rw[n2] at hw;cases hw
theorem TI.mute(h:TI m0 j tz Sx dO Fz Own B t){g:Nat}(hB:B<=B')(hu:∀ op∈u,op.g=g/\op.act.touch?=none/\op.act.low B'):TI m0 j tz Sx dO Fz Own B' (t++u) :=
 h.grow hB (λsaid=>noRace_append (h.clean said) (λop hop=>(hu op hop).1) λi a _ op hop y hy _=>by rw[(hu op hop).2.1] at hy;cases hy)
  λop hop=>⟨λx hx=>(by rw[(hu op hop).2.1] at hx;cases hx),(hu op hop).2.2⟩
theorem TI.fork(h:TI m0 j tz Sx dO Fz Own B t){x y:MemOp}(hx:x.g=0/\x.act=.go (m0+j))(hy:y.g=m0+j/\y.act=.start)(h0:Deaf t 0=0)(hk:Deaf t (m0+j)=0):TI m0 (j+1) tz Sx dO Fz Own B (t++#[x,y]):=by
 have e:t++#[x,y]=(t++#[x])++#[y]:=by apply Array.ext';simp
 have h1:TI m0 j tz Sx dO Fz Own B (t++#[x]):=h.mute (g:=0) (Nat.le_refl _) λop hop=>by
  have:op=x:=by simpa using hop
  subst this
  exact⟨hx.1,by rw[hx.2];rfl,by rw[hx.2];trivial⟩
 have h2:TI m0 j tz Sx dO Fz Own B (t++#[x,y]):=by
  rw[e]
  exact h1.mute (g:=m0+j) (Nat.le_refl _) λop hop=>by
   have:op=y:=by simpa using hop
   subst this
   exact⟨hy.1,by rw[hy.2];rfl,by rw[hy.2];trivial⟩
 refine⟨h2.clean,h2.len,λi a hi ha hm=>?_,λi op a hi ho ha hm=>let ⟨h0,h1⟩:=h2.new i op a hi ho ha hm;⟨h0.imp id λz=>⟨z.1,by omega⟩,h1⟩,h2.over,h2.seen⟩
 have hl:=h.len
 rw[touchAt_old (by omega)] at ha
 rcases h.old i a hi ha hm with k|k
 .refine .inl λg hg=>?_
  by_cases hgj:g=m0+j
  .subst hgj
   exact fork_knows hx hy h0 hk (k 0 (.inl rfl))
  .exact(k g (hg.imp id λz=>⟨z.1,by omega⟩)).app _
 .exact .inr k
theorem PZ{Sx:Nat->Prop}(h:Past (dY Sx) B t):TI m0 0 t.size Sx dO Fz Own B t :=
 ⟨h.clean,Nat.le_refl _,λi x _ hx hm=>(h.known i x hx hm).imp (λk g hg=>by
  rcases hg with rfl|hg
  .exact k
  .omega) id,
  λi op x hi ho _ _=>by have:=lt_size_of_getElem? ho;omega,λi g _ hg hne hc=>h.over i g hg hne hc,h.seen⟩
end
end Go.Proofs.YtjlgehmebfkioaaGreatDoor
namespace Go.Proofs.YtjlgehmebfkioaaGreatDoor
open Go Go.Conc
def sA(Wg:Nat):Addr:=⟨Wg,0,none⟩
structure jg(Wg g r:Nat)(t:Trace):Prop where
 at_:∃ op,t[r]?=some op/\op.g=g/\op.act=.mark (.releaseMerge (sA Wg))
 heard:t.heard r
 late:∀ (i:Nat) op x,r<i->t[i]?=some op->op.g=g->op.act.touch?=some x->x.kind=.atomic/\blk x.loc=some Wg/\¬t.heard i
section
variable {m0 j tz:Nat} {Sx dO Fz:Nat->Prop} {Own Own':Nat->Nat->Prop} {B B':Nat} {t u:Trace} {Wg g r:Nat}
theorem jg.lt(h:jg Wg g r t):r<t.size:=by obtain⟨op,h1,_⟩:=h.at_;exact lt_size_of_getElem? h1
theorem jg.app(h:jg Wg g r t)(hu:∀ (i:Nat) op x,t.size<=i->(t++u)[i]?=some op->op.g=g->op.act.touch?=some x->x.kind=.atomic/\blk x.loc=some Wg/\¬(t++u).heard i):jg Wg g r (t++u):=by
 obtain⟨op,h1,h2,h3⟩:=h.at_
 refine⟨⟨op,by rw[getElem?_append_old h.lt];exact h1,h2,h3⟩,(heard_old h.lt).2 h.heard,λi op x hi ho hg hx=>?_⟩
 by_cases hlt:i<t.size
 .rw[getElem?_append_old hlt] at ho
  obtain⟨a,b,c⟩:=h.late i op x hi ho hg hx
  exact⟨a,b,λhh=>c ((heard_old hlt).1 hh)⟩
 .exact hu i op x (by omega) ho hg hx
theorem jg.other(h:jg Wg g r t)(hu:∀ op∈u,op.g≠g):jg Wg g r (t++u):=h.app λi op x hi ho hg _=>by
 rcases getElem?_append_cases ho with ⟨hlt,_⟩|⟨_,hm⟩
 .omega
 .exact(hu op hm hg).elim
theorem jg.still(h:jg Wg g r t)(hu:∀ op∈u,op.act.touch?=none):jg Wg g r (t++u):=h.app λi op x hi ho _ hx=>by
 rcases getElem?_append_cases ho with ⟨hlt,_⟩|⟨_,hm⟩
 .omega
 .rw[hu op hm] at hx;cases hx
theorem jg.deaf(h:jg Wg g r t){fn:FuncId}{pos:String}{es:Array Event}(hd:1<=Deaf t g)(he:∀ e∈es,e.sync=true/\∃ a:Addr,e.loc=.cell a/\a.block=Wg):jg Wg g r (t++MemOp.ofEvents g fn pos es):=by
 have marks:∀ e∈es,e.loc≠.mark .disable/\e.loc≠.mark .enable:=λe hx=>by
  obtain⟨_,a,h1,_⟩:=he e hx
  rw[h1];exact⟨by simp,by simp⟩
 refine h.app λi op x hi ho hg hx=>?_
 rcases getElem?_append_cases ho with ⟨hlt,_⟩|⟨_,hm⟩
 .omega
 .obtain⟨e,hes,rfl⟩:=Go.Conc.mem_ofEvents hm
  obtain⟨h1,a,h2,h3⟩:=he e hes
  obtain⟨loc,wr,sy⟩:=e
  simp only at h1 h2
  subst h1 h2
  simp only[MemAct.ofEvent,MemAct.touch?,Option.some.injEq] at hx
  subst hx
  refine⟨rfl,by simp[blk,h3],λ⟨g',hg',hdf⟩=>?_⟩
  have e1:g'=g:=by
   have:(t++MemOp.ofEvents g fn pos es).g? i=some g:=by simp only[Trace.g?,ho,Option.map_some]
   rw[this] at hg'
   exact(Option.some.inj hg').symm
  subst e1
  obtain⟨k,rfl⟩:∃ k,i=t.size+k:=⟨i-t.size,by omega⟩
  have hk:k<=es.size:=by
   have:=lt_size_of_getElem? ho
   rw[Array.size_append,ofEvents_eq,Array.size_map] at this
   omega
  rw[deaf_inside t g' fn pos es k hk] at hdf
  have:=deafBehind_still (es:=es.extract 0 k) (λe hx=>marks e (by
   obtain⟨q,hq,rfl⟩:=Array.mem_iff_getElem.1 hx
   rw[Array.getElem_extract]
   exact Array.getElem_mem _)) (Deaf t g')
  rw[this] at hdf
  omega
theorem jg.new{y:MemOp}(hg:y.g=g)(hy:y.act=.mark (.releaseMerge (sA Wg)))(hd:Deaf t g=0):jg Wg g t.size (t++#[y]):=by
 have hl:(t++#[y])[t.size]?=some y:=by rw[Array.getElem?_append_right (Nat.le_refl _)];simp
 refine⟨⟨y,hl,hg,hy⟩,⟨g,by simp only[Trace.g?,hl,Option.map_some,hg],by rw[deaf_old (Nat.le_refl _)];exact hd⟩,λi op x hi ho _ _=>?_⟩
 have:=lt_size_of_getElem? ho
 simp at this
 omega
theorem P5{n:Nat}(h:TI m0 n tz Sx dO Fz Own B t)(hr:∀ g,m0<=g->g<m0+n->∃ r,jg Wg g r t)(hn:NoRelease (sA Wg) t)(h0:Deaf t 0=0)(hW:Wg<B){y:MemOp}(hg:y.g=0)(hy:y.act=.mark (.acquire (sA Wg))) :
 Past (dY λb=>Sx b\/b=Wg) B (t++#[y]):=by
 have hl:(t++#[y])[t.size]?=some y:=by rw[Array.getElem?_append_right (Nat.le_refl _)];simp
 have hnone:∀ op∈#[y],op.act.touch?=none:=λop hop=>by
  have:op=y:=by simpa using hop
  subst this;rw[hy];rfl
 have h1:TI m0 n tz Sx dO Fz Own B (t++#[y]):=h.mute (g:=0) (Nat.le_refl _) λop hop=>by
  have:op=y:=by simpa using hop
  subst this
  exact⟨hg,by rw[hy];rfl,by rw[hy];exact hW⟩
 have hhy:(t++#[y]).heard t.size:=⟨0,by simp only[Trace.g?,hl,Option.map_some,hg],by rw[deaf_old (Nat.le_refl _)];exact h0⟩
 -- what a worker did ahead of its release happens before the acquire
 have edge:∀ g r i op,jg Wg g r t->t[i]?=some op->op.g=g->i<r->HappensBefore (t++#[y]) i t.size:=by
  intro g r i op hR hi hgi hlt
  obtain⟨o,o1,o2,o3⟩:=hR.at_
  have e1:HappensBefore t i r:=hb_po hlt hi o1 (by rw[hgi,o2])
  have o1':(t++#[y])[r]?=some o:=by rw[getElem?_append_old hR.lt];exact o1
  refine(hb_app _ e1).trans (.single (.inr ⟨.marked (a:=sA Wg) hR.lt (.inr (by rw[act?_of o1',o3])) (by rw[act?_of hl,hy]) (λk k1 k2 e=>?_),(heard_old hR.lt).2 hR.heard,hhy⟩))
  rw[act?_old k2] at e
  exact hn k e
 refine⟨h1.clean,λi a ha hm=>?_,λi g hgi hne hc=>?_,?_,h1.seen⟩
 .by_cases hi:i<tz
  .rcases h1.old i a hi ha hm with k|⟨⟨b,b1,b2⟩,k⟩
   .exact .inl (k 0 (.inl rfl))
   .exact .inr ⟨⟨b,b1,.inl b2⟩,k⟩
  .obtain⟨op,ho,IJ⟩:=touch_of ha
   obtain⟨hcr,b,hb,hN⟩:=h1.new i op a (by omega) ho IJ hm
   have hlt:i<t.size:=by
    rcases getElem?_append_cases ho with ⟨z,_⟩|⟨_,hmem⟩
    .exact z
    .rw[hnone op hmem] at IJ;cases IJ
   have ho':t[i]?=some op:=by rw[<-getElem?_append_old hlt];exact ho
   rcases hcr with h00|⟨g1,g2⟩
   .have:=knows_own ho
    rw[h00] at this
    exact .inl this
   .obtain⟨r,hR⟩:=hr op.g g1 g2
    rcases Nat.lt_trichotomy i r with hir|hir|hir
    .exact .inl ⟨t.size,y,hl,hg,.inr (edge _ _ _ _ hR ho' rfl hir)⟩
    .subst hir
     obtain⟨o,o1,_,o3⟩:=hR.at_
     rw[ho'] at o1
     cases o1
     rw[o3] at IJ;cases IJ
    .obtain⟨k1,k2,_⟩:=hR.late i op a hir ho' rfl IJ
     exact .inr ⟨⟨Wg,k2,.inr rfl⟩,k1⟩
 .by_cases hi:i<tz
  .exact h1.over i g hi hgi hne hc
  .obtain⟨x,hx,hm,hcn⟩:=hc
   obtain⟨op,ho,IJ⟩:=touch_of hx
   obtain⟨hcr,_⟩:=h1.new i op x (by omega) ho IJ hm
   have hlt:i<t.size:=by
    rcases getElem?_append_cases ho with ⟨z,_⟩|⟨_,hmem⟩
    .exact z
    .rw[hnone op hmem] at IJ;cases IJ
   have ho':t[i]?=some op:=by rw[<-getElem?_append_old hlt];exact ho
   have eg:op.g=g:=by
    simp only[Trace.g?,ho,Option.map_some,Option.some.injEq] at hgi
    exact hgi
   rcases hcr with h00|⟨g1,g2⟩
   .exact(hne (by rw[<-eg,h00])).elim
   .obtain⟨r,hR⟩:=hr op.g g1 g2
    rcases Nat.lt_trichotomy i r with hir|hir|hir
    .exact⟨t.size,by simp only[Trace.g?,hl,Option.map_some,hg],edge _ _ _ _ hR ho' rfl hir⟩
    .subst hir
     obtain⟨o,o1,_,o3⟩:=hR.at_
     rw[ho'] at o1
     cases o1
     rw[o3] at IJ;cases IJ
    .obtain⟨k1,_,k3⟩:=hR.late i op x hir ho' rfl IJ
     rcases hcn with hcn|hcn
     .exact(hcn k1).elim
     .exact(k3 ((heard_old hlt).1 hcn)).elim
 .rw[Deaf_push]
  simp only[deafStep,hy]
  exact h0
end
