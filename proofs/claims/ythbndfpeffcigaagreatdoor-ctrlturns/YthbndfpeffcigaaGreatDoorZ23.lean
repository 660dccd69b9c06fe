/- Part of the proof. -/
import Derived.Test.YthbndfpeffcigaaGreatDoorZ22
import Derived.Conc.Beside
namespace Go.Proofs.YthbndfpeffcigaaGreatDoor
open Go Go.Conc
variable {x':Array Value} {fr fr':Frame} {k:List Item} {v':Value}
variable {P:Program} {E E' BK:Nat->Nat->Prop} {Z:Nat->Prop} {fns:Fx} {T K:List Frame} {main:Bool} {gh re:World}
def Ans(P:Program)(fns:Fx)(Z:Nat->Prop)(T K:List Frame)(E:Nat->Nat->Prop)(gh re:World)(g1:Goroutine)(f_:World)(s':GStep):Prop :=
 Same gh f_ re->∃ E' g1' re' es',s'=.go g1' re' es'/\Out P fns E E' Z gh re f_ re'/\(GR P fns E' T K g1 g1'\/JR P fns E' T K g1 g1')/\∀ e∈es',qK E' Z e
def jE(P:Program)(fns:Fx)(Z:Nat->Prop)(T K:List Frame)(E:Nat->Nat->Prop)(gh re:World)(s s':GStep):Prop :=
 match s with
 | .go g1 f_ _=>Ans P fns Z T K E gh re g1 f_ s'\/jV P T g1 f_\/∃ c v,T=[c]/\g1=G (c.finish v) []
 | .ended _ _ _=>True
 |_=>False
theorem FR.to(h:FR P fns E fr fr'){k':List Item}(hk:k.all (jk P fns (o7 P fr.fn))=true)(hi:IL fns E k k'):FR P fns E { fr with todo:=k } { fr' with todo:=k' } :=
 { h with todo:=hi,ok:=hk }
theorem iR{L:List (Frame × Frame)}(hF:FR P fns E fr fr')(hL:FL P fns E L)(hw:WR P fns E Z gh re){k':List Item}(hk:k.all (jk P fns (o7 P fr.fn))=true)(hi:IL fns E k k') :
 Ans P fns Z T K E gh re (G { fr with todo:=k } (L.map (·.1)++T)) gh (.go (G { fr' with todo:=k' } (L.map (·.2)++K)) re) :=
 λ_=>⟨E,_,re,#[],rfl,Out.refl hw,.inl ⟨_,_,L,rfl,rfl,hF.to hk hi,hL⟩,λe he=>by simp at he⟩
theorem Jz{L:List (Frame × Frame)}(hF:FR P fns E fr fr')(hL:FL P fns E L)(hw:WR P fns E Z gh re) :
 Ans P fns Z T K E gh re (G { fr with mode:=.returning } (L.map (·.1)++T)) gh (.go (G { fr' with mode:=.returning } (L.map (·.2)++K)) re) :=
 λ_=>⟨E,_,re,#[],rfl,Out.refl hw,.inl ⟨_,_,L,rfl,rfl,{ hF with mode:=rfl,runs:=.inr rfl },hL⟩,λe he=>by simp at he⟩
theorem FR.TL(h:FR P fns E fr fr'){ops:Array Oper}{i:Nat}{rest:List Nat}(ht:fr.todo=.inRegion ops (i::rest)::k){v:Value}(hv:VR fns E v v'\/(((ops[i]?).bind (·.dst)).all (o7 P fr.fn)=true/\VZ fns E v v')):FR P fns E (fr.finish v) (fr'.finish v'):=by
 have h0:=h.todo
 rw[ht] at h0
 obtain⟨_,k',ht',rfl,hk'⟩:=h0
 have hok:=h.ok
 rw[ht] at hok
 simp only[List.all_cons,Bool.and_eq_true] at hok
 have e1:fr.finish v={ fr with tmps:=(match (ops[i]?).bind (·.dst) with|some d=>fr.tmps.setIfInBounds d v|none=>fr.tmps),todo:=.inRegion ops rest::k }:=by
  unfold Frame.finish;simp only[ht];cases (ops[i]?).bind (·.dst)<;>rfl
 have e2:fr'.finish v'={ fr' with tmps:=(match (ops[i]?).bind (·.dst) with|some d=>fr'.tmps.setIfInBounds d v'|none=>fr'.tmps),todo:=.inRegion ops rest::k' }:=by
  unfold Frame.finish;simp only[ht'];cases (ops[i]?).bind (·.dst)<;>rfl
 rw[e1,e2]
 refine { h with todo:=⟨_,_,rfl,rfl,hk'⟩,tmps:=?_,ok:=?_ }
 rotate_left
 .simp only[List.all_cons,Bool.and_eq_true];exact⟨hok.1,hok.2⟩
 .dsimp only
  split
  .rename_i d hd
   refine h.tmps.afl _ (hv.imp id λy=>⟨?_,y.2⟩)
   have:=y.1
   rw[hd] at this
   exact this
  .exact h.tmps
def zZ(fr:Frame):Option Nat:=match fr.todo with
 | .inRegion ops (i::_)::_=>(ops[i]?).bind (·.dst)
 |_=>none
theorem FR.JA(h:FR P fns E fr fr')(ha:Po fr){v:Value}(hv:VR fns E v v'\/((zZ fr).all (o7 P fr.fn)=true/\VZ fns E v v')):FR P fns E (fr.finish v) (fr'.finish v'):=by
 rcases ha with ⟨ops,i,rest,k,ht⟩|⟨l,k,ht⟩|⟨k,ht⟩
 .exact h.TL ht (by simpa only[zZ,ht] using hv)
 .have h0:=h.todo
  rw[ht] at h0
  obtain⟨_,k',ht',⟨l',rfl,hl⟩,hk'⟩:=h0
  have hok:=h.ok
  rw[ht] at hok
  simp only[List.all_cons,Bool.and_eq_true] at hok
  have e1:fr.finish v={ fr with todo:=.endRangeFunc l::k }:=by unfold Frame.finish;simp only[ht]
  have e2:fr'.finish v'={ fr' with todo:=.endRangeFunc l'::k' }:=by unfold Frame.finish;simp only[ht']
  rw[e1,e2]
  exact h.to (by simp only[List.all_cons,Bool.and_eq_true];exact⟨rfl,hok.2⟩) ⟨_,_,rfl,⟨l',rfl,hl⟩,hk'⟩
 .have h0:=h.todo
  rw[ht] at h0
  obtain⟨_,k',ht',rfl,hk'⟩:=h0
  have hok:=h.ok
  rw[ht] at hok
  simp only[List.all_cons,Bool.and_eq_true] at hok
  have e1:fr.finish v={ fr with todo:=k }:=by unfold Frame.finish;simp only[ht]
  have e2:fr'.finish v'={ fr' with todo:=k' }:=by unfold Frame.finish;simp only[ht']
  rw[e1,e2]
  exact h.to hok.2 hk'
theorem FR.finish(h:FR P fns E fr fr')(ha:Po fr){v:Value}(hv:VR fns E v v'):FR P fns E (fr.finish v) (fr'.finish v'):=h.JA ha (.inl hv)
theorem FR.round(hgs:∀ g,fns.gl g=true->E g g/\fns.pt g=true){l l':Nat}{f:FuncId}{x:Array Value}{a b:Code}(hE:fns.full=true/\E l l')(hx:aV fns E x x')(hf:Js P fns f)(ha:bT P fns (o7 P f) a=true)(hb:bT P fns (o7 P f) b=true):FR P fns E (Frame.round l f x a b .normal) (Frame.round l' f x' a b .normal) :=
 ⟨rfl,TR.of hx,⟨_,_,rfl,rfl,_,_,rfl,rfl,_,_,rfl,rfl,rfl⟩,by show (bT P fns (o7 P f) a&&(true&&(bT P fns (o7 P f) b&&true)))=true;rw[ha,hb];rfl,rfl,rfl,.inl rfl,rfl,rfl,⟨l',rfl,hE⟩,hf.1,hf.2,hgs⟩
theorem FR.enter(hp:kU P fns){f:FuncId}(hf:lJ P fns f=true)(hj:fns.jf f=false)(hgs:∀ g,fns.gl g=true->E g g/\fns.pt g=true){a a':Array Value}(ha:aV fns E a a'):FR P fns E (Frame.enter P f a .normal) (Frame.enter (fns.re P) f a' .normal):=by
 unfold lJ at hf
 cases hfn:P.funcs[f]? with
 |none=>rw[hfn] at hf;simp at hf
 |some fn =>
  rw[hfn] at hf
  simp only[Bool.and_eq_true] at hf
  obtain⟨⟨h1,_⟩,⟨h2,h3⟩,h4⟩:=hf
  obtain⟨c,hc⟩:=Option.isSome_iff_exists.1 h3
  have hsame:=hp.2.2.1 f h1 hj
  have hre:(fns.re P).funcs[f]?=some fn:=hsame.trans hfn
  refine⟨rfl,?_,?_,?_,rfl,rfl,.inl rfl,rfl,rfl,rfl,⟨fn,hfn,h4⟩,hsame,hgs⟩
  .refine TR.of ?_
   show aV fns E (a++_) (a'++_)
   rw[ha.1,hre,hfn]
   exact ha.append (aV.rep iN)
  .show IL fns E [_] [_]
   rw[hre,hfn]
   exact⟨_,_,rfl,rfl,rfl⟩
  .show (List.all [_] _)=true
   simp only[List.all_cons,List.all_nil,Bool.and_true,hfn,Option.bind_some,hc,Option.getD_some]
   exact hp.2.1 f fn c h1 hfn hc
theorem wZ{v:Value}(hv:VR fns E v v'):(match some v' with|some (Value.bool b)=>some b|_=>none)=(match some v with|some (Value.bool b)=>some b|_=>none):=by
 cases v with
 |bool b=>rw[j4] at hv;subst hv;rfl
 |pointer a=>obtain⟨b,rfl,_⟩:=aN.1 hv;rfl
 |slice a l c=>obtain⟨b,rfl,_⟩:=aO.1 hv;rfl
 |map r=>obtain⟨_,rfl⟩:=dZ.1 hv;rfl
 |chan r=>obtain⟨_,rfl⟩:=cZ.1 hv;rfl
 |func f x y=>obtain⟨f',x',y',rfl,_⟩:=cu.1 hv;rfl
 |iface t u=>obtain⟨u',rfl,_⟩:=bf.1 hv;rfl
 |agg x=>obtain⟨x',rfl,_⟩:=bQ.1 hv;rfl
 |tuple x=>obtain⟨x',rfl,_⟩:=bq.1 hv;rfl
 |float=>exact(bV hv).elim
 |complex=>exact(bL hv).elim
 |_=>rw[VR] at hv;subst hv;rfl
theorem za{ia:Nat->Bool}{x:Array Value}(h:TR fns ia E x x')(ops:Array Oper):yielded ops x'=yielded ops x:=by
 funext j
 unfold yielded
 cases (ops[j]?).bind (·.dst) with
 |none=>rfl
 |some d =>
  simp only[Option.bind_some]
  cases hx:x[d]? with
  |none=>rw[h.none d hx]
  |some v =>
   obtain⟨v',e,hv⟩:=h.get? d hx
   rw[e]
   rcases hv with hv|⟨_,hv⟩
   rotate_left
   .rcases hv with hv|⟨a,b,rfl,rfl,_⟩
    .exact wZ hv
    .rfl
   exact wZ hv
theorem pY{w:World}(h:qO P w fr)(vs:List PanicEntry):∃ ch,(fr.raise vs).mode=.panicking ch/\qO P w (fr.raise vs):=by
 unfold Frame.raise
 split
 .exact⟨_,rfl,h⟩
 .exact⟨_,rfl,h⟩
theorem sQ(hp:kU P fns){L:List (Frame × Frame)}(hF:FR P fns E fr fr')(hL:FL P fns E L)(hw:WR P fns E Z gh re)
 (hat:Po fr) {s s':Sem Next} (hs:au P fns Z E s s' (λE' n n'=>Ph P fns (o7 P fr.fn) (zZ fr) E' n n')) :
 jE P fns Z T K E gh re (stepG.apply P true fr (L.map (·.1)++T) none s gh) (stepG.apply (fns.re P) true fr' (L.map (·.2)++K) none s' re):=by
 have hk:(fr.kind==CallKind.early)=false:=by rw[hF.k];rfl
 have hk':(fr'.kind==CallKind.early)=false:=by rw[hF.k'];rfl
 have hnext:∀ n f_,s.run P gh=.ok n f_->∃ E' n',Ph P fns (o7 P fr.fn) (zZ fr) E' n n':=λn f_ e=>by
  have h:=hs gh { re with tape:=λi=>gh.tape (gh.drawn+(i-re.drawn)) } ⟨hw.iO,hw.iY,hw.jG,hw.lK,hw.glob,hw.inj,hw.cells⟩
  rw[e] at h
  obtain⟨E',n',_,_,_,hn,_⟩:=h (λj _=>by simp)
  exact⟨E',n',hn⟩
 have hs:=hs gh re hw
 have Pp:=hat
 have htd:=hF.todo
 rcases hat with ⟨ops,i,rest,k,ht⟩|⟨l,k,ht⟩|⟨k,ht⟩
 all_goals
  rw[ht] at htd
  obtain⟨i',k',ht',hi',_⟩:=htd
  first
   |obtain⟨l',rfl,_⟩:=hi'
   |cases hi'
  unfold stepG.apply
  simp only[Sem.runT_eq,if_true,hk,hk',ht,ht',Bool.false_eq_true,if_false]
  cases hr:s.run P gh with
  |halt h w =>
   rw[hr] at hs
   simp only at hs
   obtain⟨hs,hcalm⟩:=hs
   cases h with
   |panic v =>
    obtain⟨ch,h1,h2⟩:=pY ((hF.bare hw).calm hcalm) [{ v,recovered:=false }]
    exact .inr (.inl ⟨fr.raise [{ v,recovered:=false }],L.map (·.1),ch,rfl,h1,h2,λf hf=>(hL.bare hw f hf).calm hcalm⟩)
   |stuck w=>exact trivial
   |unsupported u =>
    cases u with
    |initOrder g=>cases hs
    |_=>exact trivial
   |_=>cases hs
  |ok n f_ =>
   rw[hr] at hs
   simp only at hs
   cases n with
   |value v =>
    refine .inl λsame=>?_
    obtain⟨E',n',re',e1,e2,hn,e4⟩:=hs same
    obtain⟨v',rfl,hv⟩:∃ v',n'=.value v'/\(VR fns E' v v'\/((zZ fr).all (o7 P fr.fn)=true/\VZ fns E' v v')):=by
     rcases hn with ⟨v',rfl,hv⟩|⟨hd,u,v',h1,rfl,hv⟩
     .exact⟨v',rfl,.inl hv⟩
     .cases h1;exact⟨v',rfl,.inr ⟨hd,hv⟩⟩
    rw[e1]
    exact⟨E',_,re',_,rfl,e2,.inl ⟨_,_,L,rfl,rfl,(hF.up e2.up).JA Pp hv,hL.up e2.up⟩,λe he=>(e4 #[] e (mem_seen (by simpa [GStep.after] using he))).resolve_left (by simp)⟩
   |skip =>
    refine .inl λsame=>?_
    obtain⟨E',n',re',e1,e2,e3,e4⟩:=hs same
    obtain rfl:n'=.skip:=by
     rcases e3 with h|⟨_,u,v',h1,_⟩
     .exact h
     .cases h1
    rw[e1]
    exact⟨E',_,re',_,rfl,e2,.inl ⟨_,_,L,rfl,rfl,(hF.up e2.up).finish Pp iN,hL.up e2.up⟩,λe he=>(e4 #[] e (mem_seen (by simpa [GStep.after] using he))).resolve_left (by simp)⟩
   |enter f a =>
    refine .inl λsame=>?_
    obtain⟨E',n',re',e1,e2,hn,e4⟩:=hs same
    obtain⟨a',rfl,hf,ha,har⟩:∃ a',n'=.enter f a'/\lJ P fns f=true/\aV fns E' a a'/\wP P fns f a.size=true:=by
     rcases hn with h|⟨_,u,v',h1,_⟩
     .exact h
     .cases h1
    rw[e1]
    have hgr:GR P fns E' T K (G (Frame.enter P f a .normal) (fr::(L.map (·.1)++T))) (G (Frame.enter (fns.re P) f a' .normal) (fr'::(L.map (·.2)++K)))\/JR P fns E' T K (G (Frame.enter P f a .normal) (fr::(L.map (·.1)++T))) (G (Frame.enter (fns.re P) f a' .normal) (fr'::(L.map (·.2)++K))):=by
     cases hj:fns.jf f with
     |false=>exact .inl ⟨_,_,(fr,fr')::L,rfl,rfl,FR.enter hp hf hj (hF.up e2.up).gs ha,⟨hF.up e2.up,Pp⟩,hL.up e2.up⟩
     |true=>exact .inr ⟨f,a,a',fr,fr',L,hj,hf,⟨ha,har⟩,rfl,rfl,⟨hF.up e2.up,Pp⟩,hL.up e2.up⟩
    exact⟨E',_,re',_,rfl,e2,hgr,λe he=>(e4 #[] e (mem_seen (by simpa [GStep.after] using he))).resolve_left (by simp)⟩
   |round l f x a b =>
    refine .inl λsame=>?_
    obtain⟨E',n',re',e1,e2,hn,e4⟩:=hs same
    have hn:G5 P fns E' (.round l f x a b) n':=by
     rcases hn with h|⟨_,u,v',h1,_⟩
     .exact h
     .cases h1
    obtain⟨_,l',_,_,x',_,_,e5,rfl,hu,hl,hx,hf,ha,hb⟩:=hn
    cases e5
    rw[e1]
    exact⟨E',_,re',_,rfl,e2,.inl ⟨_,_,(fr,fr')::L,rfl,rfl,FR.round (hF.up e2.up).gs ⟨hu,hl⟩ hx hf ha hb,⟨hF.up e2.up,Pp⟩,hL.up e2.up⟩,λe he=>(e4 #[] e (mem_seen (by simpa [GStep.after] using he))).resolve_left (by simp)⟩
   |_ =>
    obtain⟨_,_,h⟩:=hnext _ _ hr
    rcases h with h|⟨_,u,v',h1,_⟩
    .exact h.elim
    .cases h1
theorem au.TM{v:Value}(hv:VZ fns E v v'):au P fns Z E (Go.asAddr v) (Go.asAddr v') (λE' a a'=>AS fns E' a a'):=by
 rcases hv with hv|⟨a,b,rfl,rfl,h⟩
 .exact(au.asAddr hv).mono λ_ _ _ _ h=>h.as
 .exact au.pure h
theorem au.acA{α:Type}{f f':α->Sem Value}(x:Array α)(hf:∀ jT,(∀ a b,E a b->jT a b)->∀ a∈x,au P fns Z jT (f a) (f' a) (λE' v v'=>VR fns E' v v')):au P fns Z E (x.mapM f) (x.mapM f') (λE' x x'=>aV fns E' x x'):=by
 rw[Array.mapM_eq_mapM_toList,Array.mapM_eq_mapM_toList]
 have key:∀ (l:List α),(∀ a∈l,a∈x)->∀ {jT:Nat->Nat->Prop},(∀ a b,E a b->jT a b)->au P fns Z jT (l.mapM f) (l.mapM f') (λE' x x'=>aV fns E' x.toArray x'.toArray):=by
  intro l
  induction l with
  |nil=>intro _ jT _;simp only[List.mapM_nil];exact au.pure eX
  |cons a l ih =>
   intro hl jT up
   simp only[List.mapM_cons]
   refine au.bind (hf jT up a (hl a (by simp))) λE2 v v' dH hv=>?_
   refine au.bind (ih (λy hy=>hl y (by simp[hy])) λa b h=>dH _ _ (up a b h)) λE3 y y' fH hy=>au.pure ?_
   have:=(dR (hv.up fH)).append hy
   simpa using this
 refine au.bind (Φ:=λE' x x'=>aV fns E' x.toArray x'.toArray) (key _ (λa ha=>by simpa using ha) λ_ _ h=>h) λE1 x y up h=>au.pure h
theorem au.results{ia:Nat->Bool}(fn:Func)(hres:fn.results.all (wM ia)=true){x:Array Value}(hx:TR fns ia E x x'):au P fns Z E (Go.results fn x) (Go.results fn x') (λE' v v'=>VR fns E' v v'):=by
 unfold Go.results
 refine au.bind (au.acA _ (λjT up a ha=>?_)) λE1 y y' up hy=>au.pure ?_
 .have hok:wM ia a=true:=by
   rw[Array.all_eq_true] at hres
   obtain⟨k,hk,rfl⟩:=Array.mem_iff_getElem.1 ha
   exact hres k hk
  cases a with
  |tmp t=>exact au.pure ((hx.up up).getD t (by simpa [wM] using hok) iN)
  |cell a t=>exact au.bind (au.TM ((hx.up up).acy a iN)) λE2 b b' dH hb=>au.loadVar t hb
 .by_cases h:y.size=1
  .have h':y'.size=1:=hy.1▸h
   rw[dif_pos h,dif_pos h']
   exact hy.2 0 _ _
  .have h':¬y'.size=1:=hy.1▸h
   rw[dif_neg h,dif_neg h']
   exact bq.2 ⟨_,rfl,hy⟩
variable {c fr fr':Frame} {w:World}
variable {P:Program} {E E' BK:Nat->Nat->Prop} {Z:Nat->Prop} {fns:Fx} {T K:List Frame} {main:Bool} {gh re:World}
theorem z8{cs:List Frame}(h:fr.mode=.run):stepG P main (G fr cs) w=stepG.exec P main true fr cs none w:=by
 simp only[G,stepG,h]
theorem lQ{cs:List Frame}(h:fr.mode=.returning):stepG P main (G fr cs) w=unwind P main fr cs none w:=by
 simp only[G,stepG,h]
def G8(P:Program)(main:Bool)(fr:Frame)(cs:List Frame)(l:Nat)(j:Option Code)(w:World):GStep :=
 let (r,es):=(Instr.endRound l j).runT P w #[]
 GStep.after (seen P fr.fn es)<|match r with
 | .ok v w=>doReturn P main fr cs none v w
 | .halt _ w=>.ended (.stuck "range over a function: no such loop" (fr.pos P)) w
theorem oG{L:List (Frame × Frame)}(hF:FR P fns E fr fr')(hL:FL P fns E L)(hw:WR P fns E Z gh re){l l':Nat}(hl:fns.full=true/\E l l'){j:Option Code}(hj:∀ c,j=some c->zX c=true) :
 jE P fns Z [c] K E gh re (G8 P true fr (L.map (·.1)++[c]) l j gh) (G8 (fns.re P) main fr' (L.map (·.2)++K) l' j re):=by
 have hs:=au.endRound (P:=P) (fns:=fns) (Z:=Z) hl.1 hl.2 hj gh re hw
 unfold G8
 simp only[Sem.runT_eq]
 cases hr:(Instr.endRound l j).run P gh with
 |halt h w=>exact trivial
 |ok v f_ =>
  rw[hr] at hs
  cases L with
  |nil =>
   simp only[doReturn,hF.k,List.map_nil,List.nil_append]
   exact .inr (.inr ⟨c,v,rfl,rfl⟩)
  |cons p L =>
   simp only[doReturn,hF.k,List.map_cons,List.cons_append]
   refine .inl λsame=>?_
   obtain⟨E',v',re',e1,e2,e3,e4⟩:=hs same
   rw[e1]
   simp only[hF.k']
   obtain⟨⟨hc1,ha⟩,hL2⟩:=hL
   exact⟨E',_,re',_,rfl,e2,.inl ⟨_,_,L,rfl,rfl,(hc1.up e2.up).finish ha e3,hL2.up e2.up⟩,λe he=>(e4 #[] e (mem_seen (by simpa [GStep.after] using he))).resolve_left (by simp)⟩
theorem jE.pre{E1:Nat->Nat->Prop}{dW re1:World}(o:Out P fns E E1 Z gh re dW re1)(hd:dW.drawn=gh.drawn){es es':Array Event}(he:∀ e∈es',qK E1 Z e){s s':GStep}(h:jE P fns Z T K E1 dW re1 s s') :
 jE P fns Z T K E gh re (GStep.after es s) (GStep.after es' s'):=by
 cases s with
 |go g1 f_ es0 =>
  rcases h with h|h|h
  .refine .inl λsame=>?_
   obtain⟨E',g1',re',es1,rfl,o2,hg,hev⟩:=h (λj hj=>by
    have:=same j (by omega)
    rw[o.wR,o.Eu,o.o9,hd,Nat.sub_self,Nat.add_zero]
    exact this)
   refine⟨E',g1',re',es'++es1,rfl,o.trans o2,hg,λe hm=>?_⟩
   rcases Array.mem_append.1 hm with hm|hm
   .exact(he e hm).up o2.up
   .exact hev e hm
  .exact .inr (.inl h)
  .exact .inr (.inr h)
 |ended o w es0=>exact trivial
 |_=>exact h.elim
theorem uI{fn:FuncId}{x:Array Value}{ps:Array Tmp}{a b:Code}{o:Option Nat}{w1:World}{r:Nat × List Deferred}(h:(Instr.enterLoop fn x ps a b o).run P w=.ok r w1):w1.drawn=w.drawn:=by
 unfold Instr.enterLoop at h
 cases o with
 |none =>
  simp only[Go.newObj,bind,Sem.bind,Sem.run,pure,Result.ok.injEq] at h
  rw[<-h.2]
 |some l =>
  simp only[Instr.getLoop,Go.getObj,Go.newObj,bind,Sem.bind,Sem.run,pure] at h
  split at h
  .cases h
  .split at h
   .simp only[Sem.bind,Sem.run,Result.ok.injEq] at h
    rw[<-h.2]
   .simp only[Go.stuck,Sem.bind,Sem.run] at h
    cases h
  .cases h
theorem TN{ia:Nat->Bool}{c:Code}(h:zX c=true):bT P fns ia c=true:=by
 cases c<;>first|rfl|cases h
theorem TP(hz:zeros P fns)(fu:0<P.depth)(hp:kU P fns){L:List (Frame × Frame)}(hF:FR P fns E fr fr')(hL:FL P fns E L)(hw:WR P fns E Z gh re) :
 jE P fns Z [c] K E gh re (stepG.exec P true true fr (L.map (·.1)++[c]) none gh) (stepG.exec (fns.re P) main true fr' (L.map (·.2)++K) none re):=by
 obtain⟨fn,tm,td,df,md,kd,ro⟩:=fr
 obtain⟨fn',tm',td',df',md',kd',ro'⟩:=fr'
 have htd:IL fns E td td':=hF.todo
 have hok:td.all (jk P fns (o7 P fn))=true:=hF.ok
 have hro:OE fns E ro ro':=hF.r
 cases td with
 |nil =>
  cases htd
  cases ro with
  |none =>
   cases hro
   simp only[stepG.exec,if_true]
   exact .inl (Jz hF hL hw)
  |some l =>
   obtain⟨l',rfl,hl⟩:=hro
   exact oG hF hL hw hl (j:=none) (λc h=>by cases h)
 |cons i k =>
  simp only[List.all_cons,Bool.and_eq_true] at hok
  obtain⟨i',k',rfl,hi,htd⟩:=htd
  cases i with
  |code cd =>
   cases hi
   cases cd with
   |skip=>simp only[stepG.exec];exact .inl (iR hF hL hw hok.2 htd)
   |label l=>simp only[stepG.exec];exact .inl (iR hF hL hw hok.2 htd)
   |ret =>
    cases ro with
    |none=>cases hro;simp only[stepG.exec,if_true];exact .inl (Jz hF hL hw)
    |some l =>
     obtain⟨l',rfl,hl⟩:=hro
     exact oG hF hL hw hl (j:=some .ret) (λc h=>by cases h;rfl)
   |seq a b =>
    have h1:=hok.1
    simp only[jk,bT,Bool.and_eq_true] at h1
    simp only[stepG.exec]
    exact .inl (iR hF hL hw (by simp only[List.all_cons,Bool.and_eq_true];exact⟨h1.1,h1.2,hok.2⟩) ⟨_,_,rfl,rfl,_,_,rfl,rfl,htd⟩)
   |cond c a b =>
    have h1:=hok.1
    simp only[jk,bT,Bool.and_eq_true] at h1
    have hv:=hF.eval c h1.1.1
    simp only[stepG.exec]
    generalize he:Frame.eval _ c=v at hv ⊢
    cases v with
    |bool t =>
     rw[j4] at hv
     rw[hv]
     refine .inl (iR hF hL hw ?_ ⟨_,_,rfl,rfl,htd⟩)
     simp only[List.all_cons,Bool.and_eq_true]
     refine⟨?_,hok.2⟩
     cases t
     .exact h1.2
     .exact h1.1.2
    |_=>exact trivial
   |block id b=>simp only[stepG.exec];exact .inl (iR hF hL hw (by simp only[List.all_cons,Bool.and_eq_true];exact⟨hok.1,rfl,hok.2⟩) ⟨_,_,rfl,rfl,_,_,rfl,rfl,htd⟩)
   |loop b=>simp only[stepG.exec];exact .inl (iR hF hL hw (by simp only[List.all_cons,Bool.and_eq_true];exact⟨hok.1,hok.1,hok.2⟩) ⟨_,_,rfl,rfl,_,_,rfl,rfl,htd⟩)
   |scope b=>simp only[stepG.exec];exact .inl (iR hF hL hw (by simp only[List.all_cons,Bool.and_eq_true];exact⟨hok.1,hok.1,hok.2⟩) ⟨_,_,rfl,rfl,_,_,rfl,rfl,htd⟩)
   |exit id =>
    cases hx:exitTo id k with
    |none =>
     cases ro with
     |none=>cases hro;simp only[stepG.exec,hx];exact trivial
     |some l =>
      obtain⟨l',rfl,hl⟩:=hro
      have h2:=jA htd hx
      simp only[stepG.exec,hx,h2]
      exact oG hF hL hw hl (j:=some (.exit id)) (λc h=>by cases h;rfl)
    |some k1 =>
     obtain⟨t1,e1,e2⟩:=lM htd hx
     simp only[stepG.exec,hx,e1]
     exact .inl (iR hF hL hw (sM hok.2 hx) e2)
   |goto id =>
    cases hx:gotoIn id k with
    |none =>
     cases ro with
     |none=>cases hro;simp only[stepG.exec,hx];exact trivial
     |some l =>
      obtain⟨l',rfl,hl⟩:=hro
      have h2:=jB htd hx
      simp only[stepG.exec,hx,h2]
      exact oG hF hL hw hl (j:=some (.goto id)) (λc h=>by cases h;rfl)
    |some k1 =>
     obtain⟨t1,e1,e2⟩:=lN htd hx
     simp only[stepG.exec,hx,e1]
     exact .inl (iR hF hL hw (sP hok.2 hx) e2)
   |region id ops draw =>
    have h1:jk P fns (o7 P fn) (.inRegion ops (List.range ops.size))=true:=hok.1
    simp only[stepG.exec]
    cases draw with
    |false=>exact .inl (iR hF hL hw (by simp only[List.all_cons,Bool.and_eq_true];exact⟨h1,hok.2⟩) ⟨_,_,rfl,rfl,htd⟩)
    |true =>
     simp only[Bool.not_true,Bool.false_eq_true,if_false,run_choose,Question.forced,Question.cut]
     refine .inl λsame=>?_
     have e0:=same 0 (by simp)
     simp only[Nat.add_zero] at e0
     have efn:fn'=fn:=hF.fn
     rw[e0,efn]
     rw[efn] at hF
     refine⟨E,_,{ re with drawn:=re.drawn+1 },#[],rfl,?_,.inl ⟨_,_,L,rfl,rfl,hF.to (k:=.inRegion ops _::k) (by simp only[List.all_cons,Bool.and_eq_true];exact⟨hok.1,hok.2⟩) ⟨_,_,rfl,rfl,htd⟩,hL⟩,λe he=>by simp at he⟩
     exact⟨λ_ _ x=>x,⟨hw.iO,hw.iY,hw.jG,hw.lK,hw.glob,hw.inj,hw.cells⟩,λ_ _ x=>.inl x,Nat.le_refl _,Nat.le_refl _,rfl,rfl,by simp,by simp,rfl,rfl,rfl,rfl,λ_ _ _=>rfl,λ_ _ _=>rfl,Nat.add_comm _ _,λi hi=>by simp at hi;omega⟩
   |rangeFunc f ps a b =>
    have h1:=hok.1
    simp only[jk,bT,Bool.and_eq_true] at h1
    have hs:=au.enterLoop (P:=P) (Z:=Z) h1.1.1.1 (hF.tmps.full h1.1.1.1) ps (fn:=fn) ⟨hF.func,hF.same⟩ h1.1.2 h1.2 hro gh re hw
    simp only[stepG.exec,Sem.runT_eq]
    cases hr:(Instr.enterLoop fn tm ps a b ro).run P gh with
    |halt h w=>exact trivial
    |ok r dW =>
     rw[hr] at hs
     have hd:=uI hr
     obtain⟨E1,r',re1,e1,o1,e3,e4⟩:=hs (λj hj=>by omega)
     obtain⟨l,m⟩:=r
     obtain⟨l',m'⟩:=r'
     obtain⟨hl,hm⟩:=e3
     have efn:fn'=fn:=hF.fn
     subst efn
     rw[e1]
     dsimp only at hl hm ⊢
     have hF1:FR P fns E1 { fn:=fn',tmps:=tm,todo:=.inRangeFunc l::k,defers:=m++df,mode:=md,kind:=kd,roundOf:=ro } { fn:=fn',tmps:=tm',todo:=.inRangeFunc l'::k',defers:=m'++df',mode:=md',kind:=kd',roundOf:=ro' } :=
      { hF.up o1.up with todo:=⟨_,_,rfl,⟨l',rfl,h1.1.1.1,hl⟩,htd.up o1.up⟩,ok:=by simp only[List.all_cons,Bool.and_eq_true];exact⟨rfl,hok.2⟩,d:=hm.append ((hF.up o1.up).d) }
     refine jE.pre o1 hd (λe he=>(e4 #[] e (mem_seen he)).resolve_left (by simp)) (sQ hp hF1 (hL.up o1.up) o1.wr (.inr (.inl ⟨l,k,rfl⟩)) ?_)
     unfold Go.resolve
     simp only[List.map_toArray,List.map_cons,List.map_nil]
     exact au.mono (Φ:=λE' n n'=>uq P fns E' n n') (au.zY hp.1 hp.2.2.2 (hF1.eval f h1.1.1.2) (a:=#[.func (.yield l) #[] #[]]) (a':=#[.func (.yield l') #[] #[]]) (dR (cu.2 ⟨_,_,_,rfl,.inr ⟨h1.1.1.1,l,l',rfl,rfl,hl⟩,eX,eX⟩))) λ_ _ _ _ h=>.inl h
   |_=>cases hok.1
  |inBlock id=>cases hi;simp only[stepG.exec];exact .inl (iR hF hL hw hok.2 htd)
  |inScope b=>cases hi;simp only[stepG.exec];exact .inl (iR hF hL hw hok.2 htd)
  |inLoop b=>cases hi;simp only[stepG.exec];exact .inl (iR hF hL hw (by simp only[List.all_cons,Bool.and_eq_true];exact⟨hok.1,hok.1,hok.2⟩) ⟨_,_,rfl,rfl,_,_,rfl,rfl,htd⟩)
  |inRangeFunc l=>exact trivial
  |beginRound =>
   cases hi
   simp only[stepG.exec]
   refine sQ hp hF hL hw (.inr (.inr ⟨k,rfl⟩)) ?_
   cases ro with
   |none=>exact au.dies (aK.bind aK.stuck)
   |some l =>
    obtain⟨l',rfl,hl⟩:=hro
    exact au.bind (au.beginRound hl.1 hl.2) λ_ _ _ _ _=>au.pure (.inl rfl)
  |endRangeFunc l =>
   obtain⟨l',rfl,hl⟩:=hi
   have hs:=au.endLoop (P:=P) (fns:=fns) (Z:=Z) hl.1 hl.2 gh re hw
   simp only[stepG.exec,Sem.runT_eq]
   cases hr:(Instr.endLoop l).run P gh with
   |halt h w =>
    rw[hr] at hs
    cases h with
    |panic v =>
     obtain⟨ch,h1,h2⟩:=pY ((hF.bare hw).calm hs.2) [{ v,recovered:=false }]
     exact .inr (.inl ⟨_,L.map (·.1),ch,rfl,h1,h2,λf hf=>(hL.bare hw f hf).calm hs.2⟩)
    |_=>exact trivial
   |ok jm f_ =>
    rw[hr] at hs
    refine .inl λsame=>?_
    obtain⟨E',jm',re',e1,o1,⟨rfl,hj⟩,e4⟩:=hs same
    rw[e1]
    refine⟨E',_,re',_,rfl,o1,.inl ⟨_,_,L,rfl,rfl,(hF.up o1.up).to (k:=(jm'.map Item.code).toList++k) (k':=(jm'.map Item.code).toList++k') ?_ ?_,hL.up o1.up⟩,λe he=>(e4 #[] e (mem_seen (by simpa [GStep.after] using he))).resolve_left (by simp)⟩
    .cases jm' with
     |none=>exact hok.2
     |some j=>show (List.all (Item.code j::k) _)=true;simp only[List.all_cons,Bool.and_eq_true];exact⟨TN (hj j rfl),hok.2⟩
    .cases jm' with
     |none=>exact htd.up o1.up
     |some j=>exact⟨_,_,rfl,rfl,htd.up o1.up⟩
  |inRegion ops todo =>
   cases hi
   cases todo with
   |nil=>simp only[stepG.exec];exact .inl (iR hF hL hw hok.2 htd)
   |cons i rest =>
    simp only[stepG.exec]
    rw[za hF.tmps]
    split
    .rename_i hwant
     cases ho:ops[i]? with
     |none=>rw[ho] at hwant;simp at hwant
     |some o =>
      have hoo:mF P fns (o7 P fn) o=true:=by
       have h1:=hok.1
       simp only[jk,Array.all_eq_true] at h1
       obtain⟨hlt,rfl⟩:=Array.getElem?_eq_some_iff.1 ho
       exact h1 i hlt
      have hA:=sQ (T:=[c]) (K:=K) hp hF hL hw (.inl ⟨ops,i,rest,k,rfl⟩) (s:=execOp (Frame.eval _) o) (s':=execOp (Frame.eval _) o) (by
       have:=au.execOp (P:=P) (Z:=Z) hz fu hp.1 hp.2.2.2 (λx hx=>hF.eval x hx) (λx hx=>hF.acz x hx) (λv=>rfl) (λf=>⟨rfl,rfl⟩) o hoo
       simpa only[zZ,ho,Option.bind_some] using this)
      unfold stepG.oper
      simp only[Frame.oper?,ho]
      cases ro with
      |none=>cases hro;exact hA
      |some l =>
       obtain⟨l',rfl,hl⟩:=hro
       cases hop:o.op with
       |defer c=>simp only[mF,hop,gY] at hoo;cases hoo
       |_=>simp only;exact hA
    .refine .inl λ_=>?_
     exact⟨E,_,re,#[],rfl,Out.refl hw,.inl ⟨_,_,L,rfl,rfl,hF.finish (.inl ⟨ops,i,rest,k,rfl⟩) iN,hL⟩,λe he=>by simp at he⟩
  |_=>cases hok.1
theorem LH{L:List (Frame × Frame)}(hF:FR P fns E fr fr')(hL:FL P fns E L)(hw:WR P fns E Z gh re){d:Deferred}{ds:List Deferred}(hd:fr.defers=d::ds) :
 jE P fns Z T K E gh re (unwind P true fr (L.map (·.1)++T) none gh) (unwind (fns.re P) main fr' (L.map (·.2)++K) none re):=by
 have h0:=hF.d
 rw[hd] at h0
 obtain⟨b,b',ds',rfl,e2,hb,hds⟩:=h0
 have hs:=au.takeDeferred (P:=P) (fns:=fns) (Z:=Z) hb.1 hb.2 gh re hw
 unfold unwind
 simp only[hd,e2,Sem.runT_eq]
 cases hr:(Instr.takeDeferred b).run P gh with
 |halt h w=>exact trivial
 |ok v f_ =>
  rw[hr] at hs
  refine .inl λsame=>?_
  obtain⟨E',v',re',e1,o,⟨rfl,rfl⟩,e4⟩:=hs same
  rw[e1]
  exact⟨E',_,re',_,rfl,o,.inl ⟨_,_,L,rfl,rfl,{ hF.up o.up with d:=hds.up o.up },hL.up o.up⟩,λe he=>(e4 #[] e (mem_seen (by simpa [GStep.after] using he))).resolve_left (by simp)⟩
theorem TQ{c':Frame}{L:List (Frame × Frame)}(hF:FR P fns E fr fr')(hL:FL P fns E ((c,c')::L))(hw:WR P fns E Z gh re)(hm:fr.mode=.returning)(hd:fr.defers=[]) :
 jE P fns Z T K E gh re (unwind P true fr (c::(L.map (·.1)++T)) none gh) (unwind (fns.re P) main fr' (c'::(L.map (·.2)++K)) none re):=by
 obtain⟨f,hf,hres⟩:=hF.func
 have hf':(fns.re P).funcs[fr'.fn]?=some f:=by rw[hF.fn];exact hF.same.trans hf
 have hm':fr'.mode=.returning:=hF.mode.trans hm
 have hd':fr'.defers=[]:=by have:=hF.d;rw[hd] at this;exact this
 have hs:=au.results (P:=P) (Z:=Z) f hres hF.tmps gh re hw
 unfold unwind
 simp only[hd,hd',hm,hm',hf,hf',Sem.runT_eq]
 cases hr:(results f fr.tmps).run P gh with
 |halt h w=>cases h<;>exact trivial
 |ok v f_ =>
  rw[hr] at hs
  simp only[doReturn,hF.k]
  refine .inl λsame=>?_
  obtain⟨E',v',re',e1,e2,e3,e4⟩:=hs same
  rw[e1]
  simp only[hF.k']
  obtain⟨⟨hc1,ha⟩,hL2⟩:=hL
  exact⟨E',_,re',_,rfl,e2,.inl ⟨_,_,L,rfl,rfl,(hc1.up e2.up).finish ha e3,hL2.up e2.up⟩,λe he=>(e4 #[] e (mem_seen (by simpa [GStep.after] using he))).resolve_left (by simp)⟩
theorem Pq{s':GStep}(hF:FR P fns E fr fr')(hm:fr.mode=.returning)(hd:fr.defers=[]):jE P fns Z [c] K E gh re (unwind P true fr [c] none gh) s':=by
 obtain⟨f,hf,_⟩:=hF.func
 unfold unwind
 simp only[hd,hm,hf,Sem.runT_eq]
 cases hr:(results f fr.tmps).run P gh with
 |halt h w=>cases h<;>exact trivial
 |ok v f_ =>
  simp only[doReturn,hF.k]
  exact .inr (.inr ⟨c,v,rfl,rfl⟩)
def dP(T:List Frame)(g:Goroutine):Prop:=g.callers=T/\g.frame.mode=.returning/\g.frame.defers=[]
theorem qP(hz:zeros P fns)(fu:0<P.depth)(hp:kU P fns){g g':Goroutine}(hg:GR P fns E [c] K g g')(hw:WR P fns E Z gh re) :
 jE P fns Z [c] K E gh re (stepG P true g gh) (stepG (fns.re P) main g' re):=by
 obtain⟨fr,fr',L,rfl,rfl,hF,hL⟩:=hg
 rcases hF.runs with hm|hm
 .rw[z8 hm,z8 (hF.mode.trans hm)]
  exact TP hz fu hp hF hL hw
 .rw[lQ hm,lQ (hF.mode.trans hm)]
  cases hd:fr.defers with
  |cons d ds=>exact LH hF hL hw hd
  |nil =>
   cases L with
   |nil=>exact Pq hF hm hd
   |cons c L=>exact TQ hF hL hw hm hd
theorem Pt{b:Nat}{w1:World}{l:List Deferred}(h:(Instr.takeDeferred b).run P w=.ok l w1):w.heap[b]?=some (.deferred (some l))/\w1.heap=w.heap.setIfInBounds b (.deferred none):=by
 unfold Instr.takeDeferred at h
 simp only[Go.getObj,Go.setObj,bind,Sem.bind,Sem.run,pure] at h
 cases h0:w.heap[b]? with
 |none=>rw[h0] at h;cases h
 |some o =>
  rw[h0] at h
  cases o with
  |deferred x =>
   cases x with
   |none=>cases h
   |some ds =>
    simp only[Sem.run,h0,Result.ok.injEq] at h
    rw[<-h.1,<-h.2]
    exact⟨rfl,rfl⟩
  |_=>cases h
theorem uw{g:Goroutine}(h:jV P T g w):(∃ g1 w1 es,stepG P true g w=.go g1 w1 es/\jV P T g1 w1)\/(∃ o w1 es,stepG P true g w=.ended o w1 es)\/∃ fr chain,g=G fr T/\fr.mode=.panicking chain/\∀ c cs,T=c::cs->stepG P true g w=.go (G (c.raise chain) cs) w:=by
 obtain⟨fr,L,chain,rfl,hm,hb0,hL⟩:=h
 have hb:=hb0
 obtain⟨hd,f,hf⟩:=hb
 have hc:fr.catches P=false:=by simp only[Frame.catches,hf]
 cases hdf:fr.defers with
 |cons d ds =>
  obtain⟨b,rfl,hb⟩:=hd d (by rw[hdf];simp)
  cases hr:(Instr.takeDeferred b).run P w with
  |halt h w1=>exact .inr (.inl ⟨_,_,_,by simp only[G,stepG,hm,unwind,hdf,Sem.runT_eq,hr];rfl⟩)
  |ok l w1 =>
   obtain⟨e1,e2⟩:=Pt hr
   obtain rfl:=hb l e1
   have hcalm:Calm w w1:=λx es e=>by
    rw[e2] at e
    by_cases hx:b=x
    .subst hx
     rw[Array.getElem?_setIfInBounds_self_of_lt (lt_of_heap e1)] at e
     cases e
    .rw[Array.getElem?_setIfInBounds_ne hx] at e
     exact .inr e
   refine .inl ⟨G { fr with defers:=ds } (L++T),w1,_,by simp only[G,stepG,hm,unwind,hdf,Sem.runT_eq,hr];rfl,_,L,chain,rfl,hm,⟨λd hd2=>?_,f,hf⟩,λf hf=>(hL f hf).calm hcalm⟩
   exact(hb0.calm hcalm).1 d (by rw[hdf];exact List.mem_cons_of_mem _ hd2)
 |nil =>
  cases L with
  |nil =>
   refine .inr (.inr ⟨fr,chain,rfl,hm,λc cs e=>?_⟩)
   subst e
   simp only[List.nil_append,G,stepG,hm,unwind,hdf,hc,Bool.false_eq_true,if_false]
  |cons c L =>
   obtain⟨ch,h1,h2⟩:=pY (hL c (by simp)) chain
   refine .inl ⟨G (c.raise chain) (L++T),w,#[],?_,_,L,ch,rfl,h1,h2,λf hf=>hL f (by simp[hf])⟩
   simp only[List.cons_append,G,stepG,hm,unwind,hdf,hc,Bool.false_eq_true,if_false]
variable {g:Goroutine} {w:World}
def eP(w:World)(t:Nat->Question->Nat)(d:Nat):World:={ w with tape:=t,drawn:=d }
def aQ:Frame:={ fn:=0,tmps:=#[],todo:=[.code (.refuse "")],defers:=[{ target:=.nil,args:=#[] }],mode:=.run,kind:=.normal }
variable {P:Program} {E E' BK:Nat->Nat->Prop} {Z:Nat->Prop} {fns:Fx} {T K:List Frame} {main:Bool} {gh re:World}
theorem FR.eq{fr fr':Frame}(h:FR P fns E fr fr')(hE:∀ a b,E a b->a=b):fr'=fr:=by
 obtain⟨f1,f2,f3,f4,f5,f6,f7⟩:=fr
 obtain⟨g1,g2,g3,g4,g5,g6,g7⟩:=fr'
 have a1:=h.fn
 have a2:=h.tmps.eq hE
 have a3:=h.todo.eq hE
 have a4:=h.d.eq hE
 have a6:=h.mode
 have a7:=h.k
 have a8:=h.k'
 have a9:=h.r.eq hE
 simp only at a1 a2 a3 a4 a6 a7 a8 a9
 subst a1 a2 a3 a4 a6 a7 a8 a9
 rfl
theorem FL.eq(hE:∀ a b,E a b->a=b):∀ {L:List (Frame × Frame)},FL P fns E L->L.map (·.2)=L.map (·.1)
 | [],_=>rfl
 |p::L,h=>by
  have h1:=h.1.1
  simp only[List.map_cons,h1.eq hE,FL.eq hE h.2]
theorem GR.eq{g':Goroutine}(h:GR P fns E T T g g')(hE:∀ a b,E a b->a=b):g'=g:=by
 obtain⟨fr,fr',L,rfl,rfl,hF,hL⟩:=h
 rw[hF.eq hE,hL.eq hE]
def Cl(P:Program)(fns:Fx)(Z:Nat->Prop)(T:List Frame)(g:Goroutine)(w:World):Prop :=
 ∃ E:Nat->Nat->Prop,(∀ a b,E a b->a=b)/\GR P fns E T T g g/\WR P fns E Z w w
theorem WR.on(h:WR P fns E Z w w)(t:Nat->Question->Nat)(d:Nat)(t':Nat->Question->Nat)(d':Nat):WR P fns E Z (eP w t d) (eP w t' d'):=⟨h.iO,h.iY,h.jG,h.lK,h.glob,h.inj,h.cells⟩
theorem Cl.on(h:Cl P fns Z T g w)(t:Nat->Question->Nat)(d:Nat):Cl P fns Z T g (eP w t d) :=
 let ⟨E,h1,h2,h3⟩:=h;⟨E,h1,h2,h3.on t d t d⟩
theorem EC{a b:Array Obj}(h:a.size=b.size)(hx:∀ i,i<a.size->a[i]?=b[i]?):a=b:=by
 refine Array.ext h λi h1 h2=>?_
 have:=hx i h1
 rw[Array.getElem?_eq_getElem h1,Array.getElem?_eq_getElem h2] at this
 exact Option.some.inj this
theorem JB{g':Goroutine}(hp:fU P fns)(h:JR P fns E T K g g'):False:=by
 obtain⟨f,_,_,_,_,_,hj,_⟩:=h
 rw[hp.2.2 f] at hj
 cases hj
theorem Pv(hz:zeros P fns)(fu:0<P.depth)(hp:fU P fns){g1:Goroutine}{w1:World}{es:Array Event}(hc:Cl P fns Z [aQ] g w)(h:stepG P true g w=.go g1 w1 es) :
 (jV P [aQ] g1 w1\/g1=G aQ [])\/(Cl P fns Z [aQ] g1 w1/\w.drawn<=w1.drawn/\w1.tape=w.tape/\∀ t d,Same w w1 (eP w t d)->∃ es',stepG P true g (eP w t d)=.go g1 (eP w1 t (d+(w1.drawn-w.drawn))) es'):=by
 obtain⟨E,hE,hG,hW⟩:=hc
 have key:∀ t d,jE P fns Z [aQ] [aQ] E w (eP w t d) (stepG P true g w) (stepG P true g (eP w t d)):=λt d =>
  (show (fns.re P)=P from hp.2.1)▸qP (main:=true) hz fu hp.1 hG (show WR P fns E Z w (eP w t d) from⟨hW.iO,hW.iY,hW.jG,hW.lK,hW.glob,hW.inj,hW.cells⟩)
 by_cases hd:jV P [aQ] g1 w1\/g1=G aQ []
 .exact .inl hd
 right
 have ans:∀ t d,Ans P fns Z [aQ] [aQ] E w (eP w t d) g1 w1 (stepG P true g (eP w t d)):=λt d=>by
  have:=key t d
  rw[h] at this
  rcases this with h1|h1|⟨c,v,h1,h2⟩
  .exact h1
  .exact(hd (.inl h1)).elim
  .cases h1
   exact(hd (.inr h2)).elim
 -- the heaps are the same
 have full:∀ t d,Same w w1 (eP w t d)->∃ E' es',(∀ a b,E' a b->a=b)/\stepG P true g (eP w t d)=.go g1 (eP w1 t (d+(w1.drawn-w.drawn))) es'/\GR P fns E' [aQ] [aQ] g1 g1/\WR P fns E' Z w1 w1/\w.drawn<=w1.drawn/\w1.tape=w.tape:=by
  intro t d same
  obtain⟨E',g1',re',es',e1,e2,e3,_⟩:=ans t d same
  have e3:=e3.resolve_right (JB hp)
  have hE':∀ a b,E' a b->a=b:=by
   intro a b x
   rcases e2.fresh a b x with y|⟨y1,y2⟩
   .exact hE a b y
   .have hl:=e2.wr.lt x
    have hn:=e2.news (a-w.heap.size) (by omega)
    have ea:w.heap.size+(a-w.heap.size)=a:=by omega
    rw[ea] at hn
    have hb:(eP w t d).heap.size+(a-w.heap.size)=a:=by show w.heap.size+_=a;omega
    rw[hb] at hn
    exact((e2.wr.inj _ _ _ _ x hn).1 rfl).symm
  have hg:g1'=g1:=e3.eq hE'
  subst hg
  have hheap:re'.heap=w1.heap:=by
   have hsz:re'.heap.size=w1.heap.size:=by
    have:=e2.sizes
    have e:(eP w t d).heap.size=w.heap.size:=rfl
    omega
   refine EC hsz λi hi=>?_
   by_cases hx:∃ b,E' i b/\¬Z i
   .obtain⟨b,hb,hnz⟩:=hx
    obtain rfl:=hE' _ _ hb
    rcases e2.wr.cells _ _ hb with ⟨c,c',el,fr,fr',k1,k2,k3,k4,_⟩|⟨x,x',l,k1,k2,k3⟩|⟨_,o,o',k1,k2,k3⟩
    .rw[k1,k2,(k3.all hnz (fns.pl _ (e2.wr.iY.1 _ hnz))).eq hE',k4 hnz]
    .rw[k1,k2,k3.eq hE']
    .rw[k1,k2,k3.eq hE']
   .by_cases hlt:i<w.heap.size
    .have hno:∀ b,E i b->Z i:=λb hb=>Classical.byContradiction λhnz=>hx ⟨b,e2.up _ _ hb,hnz⟩
     rw[e2.Ev i hlt hno,e2.keep i hlt λa ha=>by obtain rfl:=hE _ _ ha;exact hno _ ha]
     rfl
    .have hn:=e2.news (i-w.heap.size) (by omega)
     have ea:w.heap.size+(i-w.heap.size)=i:=by omega
     rw[ea] at hn
     exact(hx ⟨_,hn,λhz=>hlt (hW.iO _ hz)⟩).elim
  have hre:re'=eP w1 t (d+(w1.drawn-w.drawn)):=by
   have t1:=e2.wR
   have t2:=e2.Eu
   have t3:=e2.os
   have t4:=e2.output
   have t5:=e2.gos
   have t6:=e2.X6
   obtain⟨r1,r2,r3,r4,r5⟩:=re'
   obtain⟨u1,u2,u3,u4,u5⟩:=w1
   simp only[eP] at hheap t1 t2 t3 t4 t5 t6 ⊢
   subst hheap t1 t2 t3 t4 t5 t6
   rfl
  subst hre
  exact⟨E',es',hE',e1,e3,⟨e2.wr.iO,e2.wr.iY,e2.wr.jG,e2.wr.jG,e2.wr.glob,e2.wr.inj,e2.wr.cells⟩,e2.wS,e2.o9⟩
 obtain⟨E',es',f1,f2,f3,f4,f5,f6⟩:=full w.tape w.drawn (λj _=>rfl)
 exact⟨⟨E',f1,f3,f4⟩,f5,f6,λt d same=>by obtain⟨_,es',_,h,_⟩:=full t d same;exact⟨es',h⟩⟩
variable {fr fr':Frame} {cs:List Frame} {w w':World}
variable {P:Program} {E E' BK:Nat->Nat->Prop} {Z:Nat->Prop} {fns:Fx} {main:Bool} {gh re:World} {Fin:Goroutine->World->Prop}
theorem jH{fr1:Frame}{cs1:List Frame}{w1:World}{es:Array Event}(h:stepG P true (G fr cs) w=.go (G fr1 cs1) w1 es):step P (lone fr cs w)=.next (lone fr1 cs1 w1) :=
 step_lone_go (by
  have:({ frame:=fr,callers:=cs,status:=.running,dying:=none }:Goroutine)=G fr cs:=rfl
  rw[this,h];rfl)
theorem jW{w1:World}{o:Outcome}{es:Array Event}(h:stepG P true (G fr cs) w=.ended o w1 es):step P (lone fr cs w)=.ended o w1 :=
 step_lone_ended (by
  have:({ frame:=fr,callers:=cs,status:=.running,dying:=none }:Goroutine)=G fr cs:=rfl
  rw[this,h];rfl)
theorem jC{cs':List Frame}(h:lone fr cs w=lone fr' cs' w'):fr=fr'/\cs=cs'/\w=w':=by
 simp only[lone,Machine.mk.injEq,Array.mk.injEq,List.cons.injEq,Goroutine.mk.injEq,and_true] at h
 exact⟨h.2.1,h.2.2,h.1⟩
theorem jI{m m1:Machine}(n:Nat)(h:step P m=.next m1):runN P (n+1) m=runN P n m1:=by simp only[runN,h]
theorem mI{m:Machine}{o:Outcome}(n:Nat)(h:step P m=.ended o w):runN P (n+1) m=.ended o w:=by simp only[runN,h]
theorem lT(w:World)(vs:List PanicEntry):(∃ o es,stepG P true (G aQ []) w=.ended o w es)/\∃ o es,stepG P true (G (aQ.raise vs) []) w=.ended o w es:=by
 constructor
 .exact⟨_,_,rfl⟩
 .exact⟨_,_,rfl⟩
theorem mJ:∀ (n:Nat) {g:Goroutine} {w w':World} {fr':Frame},(jV P [aQ] g w\/g=G aQ [])->runN P n (lone g.frame g.callers w)=.next (lone fr' [aQ] w')->dP [aQ] (G fr' [aQ])->False
 |0,g,w,w',fr',hd,h,hm=>by
  have:=jC (Stepped.next.inj h)
  rcases hd with ⟨fr,L,chain,rfl,h1,_⟩|rfl
  .have e:fr=fr':=this.1
   subst e
   have hm:fr.mode=_:=hm.2.1
   rw[h1] at hm
   cases hm
  .cases this.2.1
 |n+1,g,w,w',fr',hd,h,hm=>by
  rcases hd with hd|rfl
  .have hg:g=G g.frame g.callers:=by obtain⟨fr,L,chain,rfl,_⟩:=hd;rfl
   rcases uw hd with ⟨g1,w1,es,hs,hd1⟩|⟨o,w1,es,hs⟩|⟨fr,chain,e,_,hs⟩
   .have hg1:g1=G g1.frame g1.callers:=by obtain⟨fr,L,chain,rfl,_⟩:=hd1;rfl
    rw[hg,hg1] at hs
    rw[jI _ (jH hs)] at h
    exact mJ n (.inl hd1) h hm
   .rw[hg] at hs
    rw[mI _ (jW hs)] at h
    cases h
   .have hs:=hs aQ [] rfl
    rw[hg] at hs
    rw[jI _ (jH hs)] at h
    cases n with
    |zero =>
     have:=jC (Stepped.next.inj h)
     cases this.2.1
    |succ n =>
     obtain⟨o,es,he⟩:=(lT (P:=P) w chain).2
     rw[mI _ (jW he)] at h
     cases h
  .obtain⟨o,es,he⟩:=(lT (P:=P) w []).1
   have h2:runN P (n+1) (lone aQ [] w)=.next (lone fr' [aQ] w'):=h
   rw[mI _ (jW he)] at h2
   cases h2
theorem Pw{fr2:Frame}(hF:FR P fns E fr fr2)(hm:fr.mode=.returning)(hd:fr.defers=[]):∀ n,runN P n (lone fr [aQ] w)=.next (lone fr' [aQ] w')->n=0:=by
 intro n h
 obtain⟨f,hf⟩:=hF.func
 cases n with
 |zero=>rfl
 |succ n =>
  exfalso
  have e:(∃ v w1 es,stepG P true (G fr [aQ]) w=.go (G (aQ.finish v) []) w1 es)\/∃ o w1 es,stepG P true (G fr [aQ]) w=.ended o w1 es:=by
   rw[lQ hm]
   unfold unwind
   simp only[hd,hm,hf,Sem.runT_eq,doReturn,hF.k]
   cases (results f fr.tmps).run P w with
   |ok v w1=>exact .inl ⟨v,w1,_,rfl⟩
   |halt h w1=>cases h<;>exact .inr ⟨_,_,_,rfl⟩
  rcases e with ⟨v,w1,es,e⟩|⟨o,w1,es,e⟩
  .rw[jI _ (jH e)] at h
   cases n with
   |zero =>
    have:=jC (Stepped.next.inj h)
    cases this.2.1
   |succ n =>
    obtain⟨o,es,he⟩:=(lT (P:=P) w1 []).1
    have ht:aQ.finish v=aQ:=rfl
    rw[ht] at h
    rw[mI _ (jW he)] at h
    cases h
  .rw[mI _ (jW e)] at h
   cases h
theorem z_{g:Goroutine}(hg:GR P fns E [aQ] [aQ] g g)(hs:dP [aQ] g):∀ n,runN P n (lone g.frame g.callers w)=.next (lone fr' [aQ] w')->n=0:=by
 obtain⟨fr,fr2,L,e,_,hF,hL⟩:=hg
 obtain⟨hcs,hm⟩:=hs
 subst e
 have hL0:L=[]:=by
  simp only[G] at hcs
  cases L with
  |nil=>rfl
  |cons p L =>
   have:=congrArg List.length hcs
   simp at this
 subst hL0
 intro n h
 exact Pw hF hm.1 hm.2 n h
theorem w_(hz:zeros P fns)(fu:0<P.depth)(hp:fU P fns):∀ (n:Nat) {g:Goroutine} {w w':World} {fr':Frame},Cl P fns Z [aQ] g w->runN P n (lone g.frame g.callers w)=.next (lone fr' [aQ] w')->dP [aQ] (G fr' [aQ]) ->
 ∀ t d,(∀ j,t (d+j)=w.tape (w.drawn+j))->∃ d',runN P n (lone g.frame g.callers (eP w t d))=.next (lone fr' [aQ] (eP w' t d'))
 |0,g,w,w',fr',hc,h,hm,t,d,ht=>by
  obtain⟨e1,e2,e3⟩:=jC (Stepped.next.inj h)
  subst e1 e3
  exact⟨d,by simp only[runN];rw[e2]⟩
 |n+1,g,w,w',fr',hc,h,hm,t,d,ht=>by
  have hg:g=G g.frame g.callers:=by obtain⟨_,_,⟨fr,_,L,rfl,_⟩,_⟩:=hc;rfl
  have hns:¬dP [aQ] g:=λhs=>by
   obtain⟨_,_,hG,_⟩:=hc
   have:=z_ hG hs _ h
   omega
  obtain⟨E,hE,hG,hW⟩:=hc
  have hok:=qP (main:=true) (K:=[aQ]) hz fu hp.1 hG hW
  cases hs:stepG P true g w with
  |go g1 w1 es =>
   have hc:Cl P fns Z [aQ] g w:=⟨E,hE,hG,hW⟩
   have hgg:∀ g1,((jV P [aQ] g1 w1\/g1=G aQ [])\/Cl P fns Z [aQ] g1 w1)->g1=G g1.frame g1.callers:=by
    rintro g1 ((⟨_,_,_,rfl,_⟩|rfl)|⟨_,_,⟨fr,_,L,rfl,_⟩,_⟩)<;>rfl
   rcases Pv hz fu hp hc hs with hd|⟨hc1,hdr,htp,hall⟩
   .exfalso
    have hg1:=hgg g1 (.inl hd)
    rw[hg,hg1] at hs
    rw[jI _ (jH hs)] at h
    exact mJ n hd h hm
   .have hg1:=hgg g1 (.inr hc1)
    obtain⟨es',hs2⟩:=hall t d (λj _=>ht j)
    rw[hg,hg1] at hs hs2
    rw[jI _ (jH hs)] at h
    rw[jI _ (jH hs2)]
    have ih:=w_ hz fu hp n hc1 h hm t (d+(w1.drawn-w.drawn)) (λj=>by
     rw[htp]
     have:=ht (w1.drawn-w.drawn+j)
     have e1:d+(w1.drawn-w.drawn)+j=d+(w1.drawn-w.drawn+j):=by omega
     have e2:w1.drawn+j=w.drawn+(w1.drawn-w.drawn+j):=by omega
     rw[e1,e2];exact this)
    exact ih
  |ended o w1 es =>
   rw[hg] at hs
   rw[mI _ (jW hs)] at h
   cases h
  |_=>rw[hs] at hok;exact hok.elim
def Ends(P:Program)(fns:Fx)(Z:Nat->Prop)(Fin:Goroutine->World->Prop)(g:Goroutine)(w:World):Prop :=
 Cl P fns Z [aQ] g w/\∀ t d,∃ N fr' w',runN P N (lone g.frame g.callers (eP w t d))=.next (lone fr' [aQ] w')/\dP [aQ] (G fr' [aQ])/\Fin (G fr' [aQ]) w'
theorem Ends.step(hz:zeros P fns)(fu:0<P.depth)(hp:fU P fns)(Ya:∀ g w t d,Fin g w->Fin g (eP w t d)){g:Goroutine}(h:Ends P fns Z Fin g w) :
 (dP [aQ] g/\Fin g w)\/(¬dP [aQ] g/\∀ t d,∃ g1 w1 es,stepG P true g (eP w t d)=.go g1 w1 es/\Ends P fns Z Fin g1 w1/\d<=w1.drawn/\w1.tape=t /\
  ∀ t2 d2,(∀ j,d+j<w1.drawn->t2 (d2+j)=t (d+j))->∃ es',stepG P true g (eP w t2 d2)=.go g1 (eP w1 t2 (d2+(w1.drawn-d))) es'):=by
 obtain⟨hc,hall⟩:=h
 have hg:g=G g.frame g.callers:=by obtain⟨_,_,⟨fr,_,L,rfl,_⟩,_⟩:=hc;rfl
 by_cases hs:dP [aQ] g
 .refine .inl ⟨hs,?_⟩
  obtain⟨N,fr',w',h1,h2,h3⟩:=hall w.tape w.drawn
  obtain⟨_,_,hG,_⟩:=hc
  have:=z_ hG hs _ h1
  subst this
  obtain⟨e1,e2,e3⟩:=jC (Stepped.next.inj h1)
  subst e1
  have e4:w'=w:=by rw[<-e3];rfl
  rw[hg,hs.1,<-e4]
  exact h3
 .refine .inr ⟨hs,λt d=>?_⟩
  have hct:=hc.on t d
  obtain⟨N,fr',w',h1,h2,h3⟩:=hall t d
  cases N with
  |zero =>
   obtain⟨e1,e2,e3⟩:=jC (Stepped.next.inj h1)
   exact(hs (by rw[hg,e1,e2];exact h2)).elim
  |succ N =>
   obtain⟨E,hE,hG,hW⟩:=hct
   have hok:=qP (main:=true) (K:=[aQ]) hz fu hp.1 hG hW
   cases hst:stepG P true g (eP w t d) with
   |go g1 w1 es =>
    have hct:Cl P fns Z [aQ] g (eP w t d):=⟨E,hE,hG,hW⟩
    rcases Pv hz fu hp hct hst with hd|⟨hc1,hdr,htp,hre⟩
    .exfalso
     have hg1:g1=G g1.frame g1.callers:=by rcases hd with ⟨_,_,_,rfl,_⟩|rfl<;>rfl
     rw[hg,hg1] at hst
     rw[jI _ (jH hst)] at h1
     exact mJ N hd h1 h2
    .have hg1:g1=G g1.frame g1.callers:=by obtain⟨_,_,⟨fr,_,L,rfl,_⟩,_⟩:=hc1;rfl
     have acB:∀ t2 d2,(∀ j,d+j<w1.drawn->t2 (d2+j)=t (d+j))->∃ es',stepG P true g (eP w t2 d2)=.go g1 (eP w1 t2 (d2+(w1.drawn-d))) es':=λt2 d2 h=>hre t2 d2 h
     refine⟨g1,w1,es,rfl,⟨hc1,λt2 d2=>?_⟩,hdr,htp,acB⟩
     -- a tape that answers as t for this step,then as t2
     obtain⟨m,hm⟩:∃ m,w1.drawn=d+m:=⟨w1.drawn-d,by have:(eP w t d).drawn=d:=rfl;omega⟩
     let t3:Nat->Question->Nat:=λi=>if i<m then t (d+i) else t2 (d2+(i-m))
     obtain⟨N3,fr3,w3,k1,k2,k3⟩:=hall t3 0
     obtain⟨es3,hs3⟩:=acB t3 0 (λj hj=>by
      have:j<m:=by omega
      simp only[t3,Nat.zero_add,if_pos this])
     have e0:0+(w1.drawn-d)=m:=by omega
     rw[e0] at hs3
     cases N3 with
     |zero =>
      obtain⟨e1,e2,e3⟩:=jC (Stepped.next.inj k1)
      exact(hs (by rw[hg,e1,e2];exact k2)).elim
     |succ N3 =>
      have acC:=hs3
      rw[hg,hg1] at acC
      rw[jI _ (jH acC)] at k1
      obtain⟨d',hfin⟩:=w_ hz fu hp N3 (hc1.on t3 m) k1 k2 t2 d2 (λj=>by
       have:¬(m+j<m):=by omega
       show t2 (d2+j)=t3 (m+j)
       simp only[t3,if_neg this]
       congr 1
       omega)
      exact⟨N3,fr3,_,hfin,k2,Ya _ _ _ _ k3⟩
   |ended o w1 es =>
    rw[hg] at hst
    rw[mI _ (jW hst)] at h1
    cases h1
   |_=>rw[hst] at hok;exact hok.elim
variable {g:Goroutine} {w:World}
variable {P:Program} {Z:Nat->Prop} {fns:Fx} {Fin:Goroutine->World->Prop}
def Runs(P:Program)(Fin:Goroutine->World->Prop)(g:Goroutine)(w:World):Prop :=
 ∀ M:Goroutine->World->Prop,(∀ g w,dP [aQ] g->Fin g w->M g w) ->
   (∀ g w,¬dP [aQ] g->(∀ t d,∃ g1 w1 es,stepG P true g (eP w t d)=.go g1 w1 es/\M g1 w1)->M g w)->M g w
theorem Runs.stop(hs:dP [aQ] g)(h:Fin g w):Runs P Fin g w:=λ_ h1 _=>h1 g w hs h
theorem Runs.step(hs:¬dP [aQ] g)(h:∀ t d,∃ g1 w1 es,stepG P true g (eP w t d)=.go g1 w1 es/\Runs P Fin g1 w1):Runs P Fin g w :=
 λM h1 h2=>h2 g w hs λt d=>let ⟨g1,w1,es,e,r⟩:=h t d;⟨g1,w1,es,e,r M h1 h2⟩
open Classical in
theorem Ends.runs(hz:zeros P fns)(fu:0<P.depth)(hp:fU P fns)(Ya:∀ g w t d,Fin g w->Fin g (eP w t d))(h:Ends P fns Z Fin g w):Runs P Fin g w:=by
 intro M hstop hstep
 refine Classical.byContradiction λhno=>?_
 -- from each state that is not in M a step to another
 let S:={ c:Goroutine × World // Ends P fns Z Fin c.1 c.2/\¬M c.1 c.2 }
 have nx:∀ c:S,∃ (t:Nat->Question->Nat) (d:Nat) (c1:S),d<=c1.1.2.drawn/\c1.1.2.tape=t/\¬dP [aQ] c.1.1 /\
  ∀ t2 d2,(∀ j,d+j<c1.1.2.drawn->t2 (d2+j)=t (d+j))->∃ es',stepG P true c.1.1 (eP c.1.2 t2 d2)=.go c1.1.1 (eP c1.1.2 t2 (d2+(c1.1.2.drawn-d))) es':=by
  rintro ⟨⟨g,w⟩,hE,hM⟩
  rcases hE.step hz fu hp Ya with ⟨hs,hf⟩|⟨hs,hall⟩
  .exact(hM (hstop g w hs hf)).elim
  .have:¬∀ t d,∃ g1 w1 es,stepG P true g (eP w t d)=.go g1 w1 es/\M g1 w1:=λx=>hM (hstep g w hs x)
   obtain⟨t,ht⟩:=Classical.not_forall.1 this
   obtain⟨d,hd⟩:=Classical.not_forall.1 ht
   obtain⟨g1,w1,es,e1,e2,e3,e4,e5⟩:=hall t d
   exact⟨t,d,⟨(g1,w1),e2,λhm=>hd ⟨g1,w1,es,e1,hm⟩⟩,e3,e4,hs,e5⟩
 let c0:S:=⟨(g,w),h,hno⟩
 let ft:S->(Nat->Question->Nat):=λc=>Classical.choose (nx c)
 let fd:S->Nat:=λc=>Classical.choose (Classical.choose_spec (nx c))
 let fc:S->S:=λc=>Classical.choose (Classical.choose_spec (Classical.choose_spec (nx c)))
 have fs:∀ c:S,fd c<=(fc c).1.2.drawn/\(fc c).1.2.tape=ft c/\¬dP [aQ] c.1.1/\∀ t2 d2,(∀ j,fd c+j<(fc c).1.2.drawn->t2 (d2+j)=ft c (fd c+j))->∃ es',stepG P true c.1.1 (eP c.1.2 t2 d2)=.go (fc c).1.1 (eP (fc c).1.2 t2 (d2+((fc c).1.2.drawn-fd c))) es' :=
  λc=>Classical.choose_spec (Classical.choose_spec (Classical.choose_spec (nx c)))
 -- the way
 let sq:Nat->S:=λk=>Nat.rec c0 (λ_ c=>fc c) k
 have sq0:sq 0=c0:=rfl
 have sqs:∀ k,sq (k+1)=fc (sq k):=λ_=>rfl
 let mk:Nat->Nat:=λk=>(fc (sq k)).1.2.drawn-fd (sq k)
 let D:Nat->Nat:=λk=>Nat.rec 0 (λk s=>s+mk k) k
 have D0:D 0=0:=rfl
 have Ds:∀ k,D (k+1)=D k+mk k:=λ_=>rfl
 have Wv:∀ k j,k<=j->D k<=D j:=λk j hkj=>by
  induction hkj with
  |refl=>exact Nat.le_refl _
  |step _ ih=>exact Nat.le_trans ih (by rw[Nat.succ_eq_add_one,Ds];omega)
 -- the tape that answers so
 have tx:∃ tt:Nat->Question->Nat,∀ k j,j<mk k->tt (D k+j)=ft (sq k) (fd (sq k)+j):=by
  refine⟨λi=>if hk:∃ k,D k<=i/\i<D (k+1) then ft (sq (Classical.choose hk)) (fd (sq (Classical.choose hk))+(i-D (Classical.choose hk))) else λ_=>0,λk j hj=>?_⟩
  have hk:∃ k',D k'<=D k+j/\D k+j<D (k'+1):=⟨k,by omega,by rw[Ds];omega⟩
  simp only[dif_pos hk]
  have hu:Classical.choose hk=k:=by
   obtain⟨h1,h2⟩:=Classical.choose_spec hk
   rcases Nat.lt_trichotomy (Classical.choose hk) k with hlt|he|hgt
   .have:=Wv _ _ (Nat.succ_le_of_lt hlt)
    rw[Nat.succ_eq_add_one] at this
    omega
   .exact he
   .have:=Wv _ _ (Nat.succ_le_of_lt hgt)
    rw[Nat.succ_eq_add_one,Ds] at this
    omega
  rw[hu]
  congr 1
  omega
 obtain⟨tt,htt⟩:=tx
 have hG:∀ c:S,c.1.1=G c.1.1.frame c.1.1.callers:=λc=>by
  obtain⟨⟨_,_⟩,⟨⟨_,_,⟨fr,_,L,e,_⟩,_⟩,_⟩,_⟩:=c
  simp only at e ⊢
  rw[e];rfl
 have way:∀ k,Go.step P (lone (sq k).1.1.frame (sq k).1.1.callers (eP (sq k).1.2 tt (D k)))=.next (lone (sq (k+1)).1.1.frame (sq (k+1)).1.1.callers (eP (sq (k+1)).1.2 tt (D (k+1)))):=λk=>by
  obtain⟨es',hs⟩:=(fs (sq k)).2.2.2 tt (D k) (λj hj=>htt k j (by show j<(fc (sq k)).1.2.drawn-fd (sq k);omega))
  rw[hG (sq k),hG (fc (sq k))] at hs
  have:=jH hs
  exact this
 have run:∀ n k,runN P n (lone (sq k).1.1.frame (sq k).1.1.callers (eP (sq k).1.2 tt (D k)))=.next (lone (sq (k+n)).1.1.frame (sq (k+n)).1.1.callers (eP (sq (k+n)).1.2 tt (D (k+n)))):=λn=>by
  induction n with
  |zero=>intro k;rfl
  |succ n ih =>
   intro k
   rw[jI _ (way k),ih (k+1)]
   have e:k+1+n=k+(n+1):=by omega
   rw[e]
 obtain⟨N,fr',w',h1,h2,_⟩:=h.2 tt 0
 have h3:=run N 0
 rw[Nat.zero_add] at h3
 have h4:runN P N (lone g.frame g.callers (eP w tt 0))=.next (lone (sq N).1.1.frame (sq N).1.1.callers (eP (sq N).1.2 tt (D N))):=h3
 rw[h4] at h1
 obtain⟨e1,e2,_⟩:=jC (Stepped.next.inj h1)
 exact(fs (sq N)).2.2.1 (by rw[hG (sq N),e1,e2];exact h2)
end Go.Proofs.YthbndfpeffcigaaGreatDoor
namespace Go.Proofs.YthbndfpeffcigaaGreatDoor
open Go Go.Conc
open Go.ConcN (sumTo upd sumTo_upd upd_ne upd_same)
variable {g g':Goroutine} {gh:World}
variable {P:Program} {Z:Nat->Prop} {fns:Fx} {main:Bool} {Fin:Goroutine->World->Prop} {E E':Nat->Nat->Prop} {K:List Frame}
theorem Runs.cases{w:World}(h:Runs P Fin g w):(dP [aQ] g/\Fin g w)\/(¬dP [aQ] g/\∀ t d,∃ g1 w1 es,stepG P true g (eP w t d)=.go g1 w1 es/\Runs P Fin g1 w1) :=
 h (λg w=>(dP [aQ] g/\Fin g w)\/(¬dP [aQ] g/\∀ t d,∃ g1 w1 es,stepG P true g (eP w t d)=.go g1 w1 es/\Runs P Fin g1 w1))
   (λ_ _ hs hf=>.inl ⟨hs,hf⟩)
   (λ_ _ hs hall=>.inr ⟨hs,λt d=>by
    obtain⟨g1,w1,es,e,hm⟩:=hall t d
    refine⟨g1,w1,es,e,?_⟩
    rcases hm with ⟨a,b⟩|⟨a,b⟩
    .exact Runs.stop a b
    .exact Runs.step a b⟩)
def Bf(P:Program)(c' c:Goroutine × World):Prop:=¬dP [aQ] c.1/\∃ t d es,stepG P true c.1 (eP c.2 t d)=.go c'.1 c'.2 es
theorem Runs.acc{w:World}(h:Runs P Fin g w):Acc (Bf P) (g,w) :=
 h (λg w=>Acc (Bf P) (g,w))
   (λ_ _ hs _=>Acc.intro _ λ_ hb=>(hb.1 hs).elim)
   (λ_ _ _ hall=>Acc.intro _ λc' hb=>by
    obtain⟨_,t,d,es,e⟩:=hb
    obtain⟨g1,w1,es1,e1,ha⟩:=hall t d
    simp only at e
    rw[e] at e1
    cases e1
    exact ha)
structure ze(P:Program)(fns:Fx)(Z:Nat->Prop)(Fin:Goroutine->World->Prop)(K:List Frame)(E:Nat->Nat->Prop)(g:Goroutine)(gh:World)(g':Goroutine)(re:World):Prop where
 gr:GR P fns E [aQ] K g g'
 wr:WR P fns E Z gh re
 runs:Runs P Fin g gh
theorem GR.running(h:GR P fns E [aQ] K g g'):g'.status=.running:=by obtain⟨_,_,_,_,rfl,_⟩:=h;rfl
theorem ze.rely{re Px:World}(h:ze P fns Z Fin K E g gh g' re)(hs:∀ a b,E a b->Px.heap[b]?=re.heap[b]?)(hl:re.heap.size<=Px.heap.size):ze P fns Z Fin K E g gh g' Px :=
 ⟨h.gr,⟨h.wr.iO,h.wr.iY,h.wr.jG,Nat.lt_of_lt_of_le h.wr.lK hl,h.wr.glob,h.wr.inj,λa b x=>by rw[hs a b x];exact h.wr.cells a b x⟩,h.runs⟩
theorem WR.o9{re:World}(h:WR P fns E Z gh re)(t:Nat->Question->Nat)(d:Nat):WR P fns E Z (eP gh t d) re:=⟨h.iO,h.iY,h.jG,h.lK,h.glob,h.inj,h.cells⟩
theorem ze.stepJ(hz:zeros P fns)(fu:0<P.depth)(hp:kU P fns){re:World}(h:ze P fns Z Fin K E g gh g' re) :
 (dP [aQ] g/\Fin g gh)\/∃ E' g1 w1 g1' re' es',stepG (fns.re P) main g' re=.go g1' re' es'/\Bf P (g1,w1) (g,gh)/\(ze P fns Z Fin K E' g1 w1 g1' re'\/(JR P fns E' [aQ] K g1 g1'/\WR P fns E' Z w1 re'/\Runs P Fin g1 w1))/\Out P fns E E' Z (eP gh re.tape re.drawn) re w1 re'/\∀ e∈es',qK E' Z e:=by
 rcases h.runs.cases with h1|⟨hs,hall⟩
 .exact .inl h1
 .right
  obtain⟨g1,w1,es,e1,hr⟩:=hall re.tape re.drawn
  have hok:=qP (main:=main) hz fu hp h.gr (h.wr.o9 re.tape re.drawn)
  rw[e1] at hok
  rcases hok with ha|hd
  .obtain⟨E',g1',re',es',a1,a2,a3,a4⟩:=ha (λj _=>rfl)
   exact⟨E',g1,w1,g1',re',es',a1,⟨hs,_,_,_,e1⟩,a3.imp (λa3=>⟨a3,a2.wr,hr⟩) (λa3=>⟨a3,a2.wr,hr⟩),a2,a4⟩
  .exfalso
   have hd:jV P [aQ] g1 w1\/g1=G aQ []:=by
    rcases hd with hd|⟨c,v,e,hd⟩
    .exact .inl hd
    .cases e;exact .inr hd
   -- what is doomed does not run to its end
   have never:∀ g w,Runs P Fin g w->(jV P [aQ] g w\/g=G aQ []\/∃ vs,g=G (aQ.raise vs) [])->False:=by
    intro g w hr
    refine hr (λg w=>(jV P [aQ] g w\/g=G aQ []\/∃ vs,g=G (aQ.raise vs) [])->False) ?_ ?_
    .intro g w hs _ hd
     rcases hd with hd|rfl|⟨vs,rfl⟩
     .obtain⟨fr,L,chain,rfl,h1,_⟩:=hd
      have hm:fr.mode=_:=hs.2.1
      rw[h1] at hm
      cases hm
     .cases hs.1
     .cases hs.1
    .intro g w _ hall hd
     obtain⟨g1,w1,es,e,hm⟩:=hall w.tape w.drawn
     rcases hd with hd|rfl|⟨vs,rfl⟩
     .have hdw:jV P [aQ] g (eP w w.tape w.drawn):=hd
      rcases uw hdw with ⟨g2,w2,es2,hs,hd1⟩|⟨o,w2,es2,hs⟩|⟨fr,chain,_,_,hs⟩
      .rw[hs] at e
       cases e
       exact hm (.inl hd1)
      .rw[hs] at e
       cases e
      .rw[hs aQ [] rfl] at e
       cases e
       exact hm (.inr (.inr ⟨chain,rfl⟩))
     .obtain⟨o,es,he⟩:=(lT (P:=P) (eP w w.tape w.drawn) []).1
      rw[he] at e
      cases e
     .obtain⟨o,es,he⟩:=(lT (P:=P) (eP w w.tape w.drawn) vs).2
      rw[he] at e
      cases e
   exact never g1 w1 hr (hd.imp id .inl)
theorem ze.step(hz:zeros P fns)(fu:0<P.depth)(hp:fU P fns){re:World}(h:ze P fns Z Fin K E g gh g' re) :
 (dP [aQ] g/\Fin g gh)\/∃ E' g1 w1 g1' re' es',stepG P main g' re=.go g1' re' es'/\Bf P (g1,w1) (g,gh)/\ze P fns Z Fin K E' g1 w1 g1' re'/\Out P fns E E' Z (eP gh re.tape re.drawn) re w1 re'/\∀ e∈es',qK E' Z e:=by
 rcases h.stepJ (main:=main) hz fu hp.1 with h|⟨E',g1,w1,g1',re',es',a1,a2,a3,a4⟩
 .exact .inl h
 .rw[hp.2.1] at a1
  exact .inr ⟨E',g1,w1,g1',re',es',a1,a2,a3.resolve_right λx=>JB hp x.1,a4⟩
variable {P:Program} {Z:Nat->Prop} {fns:Fx} {main:Bool} {Fin:Goroutine->World->Prop} {E E':Nat->Nat->Prop} {K:List Frame}
def dX(S:Nat->Prop)(l:Loc):Prop:=∃ b,blk l=some b/\S b
theorem Py{S:Nat->Prop}{B:Nat}{e:Event}(h:qK E Z e)(hS:∀ a b,E a b->¬S b)(hB:∀ a b,E a b->b<B):EvL (dX S) B e:=by
 obtain⟨loc,wr,sy⟩:=e
 rcases h with ⟨b,h1,h2,a,h3,_⟩|⟨m,h1,h2⟩
 .cases loc with
  |cell c =>
   simp only[blk,Option.some.injEq] at h1
   subst h1
   refine⟨λx hx hs=>?_,by simp,by simp,hB _ _ h3⟩
   have:x.loc=.cell c:=by
    simp only[MemAct.ofEvent,MemAct.touch?,Option.some.injEq] at hx
    rw[<-hx]
   rw[this] at hs
   obtain⟨b',e1,e2⟩:=hs
   simp only[blk,Option.some.injEq] at e1
   exact(hS _ _ h3 (e1▸e2)).elim
  |obj r =>
   simp only[blk,Option.some.injEq] at h1 h2
   subst h1
   subst h2
   refine⟨λx hx hs=>?_,by simp,by simp,by cases wr<;>exact hB _ _ h3⟩
   have:x.loc=.obj r:=by
    cases wr<;>(simp only[MemAct.ofEvent,MemAct.touch?,Option.some.injEq] at hx;rw[<-hx])
   rw[this] at hs
   obtain⟨b',e1,e2⟩:=hs
   simp only[blk,Option.some.injEq] at e1
   exact(hS _ _ h3 (e1▸e2)).elim
  |_=>simp[blk] at h1
 .simp only at h1
  subst h1
  cases m<;>first|(cases h2;done)|exact⟨λx hx=>by simp[MemAct.ofEvent,MemAct.touch?] at hx,by simp,by simp,by simp[MemAct.ofEvent,MemAct.low]⟩
theorem ze.at{g g':Goroutine}{gh w:World}(h:ze P fns Z Fin K E g gh g' w)(d:Nat):ze P fns Z Fin K E g gh g' (w.at d):=h.rely (λ_ _ _=>rfl) (Nat.le_refl _)
