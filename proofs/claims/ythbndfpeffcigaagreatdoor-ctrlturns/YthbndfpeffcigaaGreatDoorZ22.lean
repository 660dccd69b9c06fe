/- Part of the proof. -/
import Derived.Test.YthbndfpeffcigaaGreatDoorZ21
import GoSem.Builtin.Clear
import Derived.Conc.Listed
namespace Go.Proofs.YthbndfpeffcigaaGreatDoor
open Go
variable {a a':Array Value} {ia:Nat->Bool} {p p':Place} {name:String} {t:TypeId} {v' x':Value}
variable {P:Program} {fns:Fx} {E E' BK:Nat->Nat->Prop} {Z:Nat->Prop}
def uq(P:Program)(fns:Fx)(E:Nat->Nat->Prop):Next->Next->Prop
 | .value v,n'=>∃ v',n'=.value v'/\VR fns E v v'
 | .skip,n'=>n'=.skip
 | .enter f a,n'=>∃ a',n'=.enter f a'/\lJ P fns f=true/\aV fns E a a'/\wP P fns f a.size=true
 | .round l f x a b,n'=>G5 P fns E (.round l f x a b) n'
 |_,_=>False
def Ph(P:Program)(fns:Fx)(ia:Nat->Bool)(dst:Option Nat)(E:Nat->Nat->Prop)(n n':Next):Prop:=uq P fns E n n'\/(dst.all ia=true/\∃ v v',n=.value v/\n'=.value v'/\VZ fns E v v')
theorem ow(h:sj P fns t=true)(e:TypeId)(hu:P.underlying t=some (.slice e)):fns.tys e=true:=by
 unfold sj at h
 rw[hu] at h
 exact h
theorem au.value{s s':Sem Value}(h:au P fns Z E s s' (λE' v v'=>VR fns E' v v')):au P fns Z E (do Pure.pure (Next.value (<-s))) (do Pure.pure (Next.value (<-s'))) (λE' n n'=>uq P fns E' n n') :=
 au.bind h λ_ _ v' _ hv=>au.pure ⟨v',rfl,hv⟩
theorem au.unit{s s':Sem Unit}(h:au P fns Z E s s' (λ_ _ _=>True)):au P fns Z E (do s;Pure.pure Next.skip) (do s';Pure.pure Next.skip) (λE' n n'=>uq P fns E' n n') :=
 au.bind h λ_ _ _ _ _=>au.pure rfl
theorem oz{v:Value}{l l':List Value}(h:aV fns E (v::l).toArray (v'::l').toArray):VR fns E v v'/\aV fns E l.toArray l'.toArray :=
 ⟨by simpa using h.2 0 (by simp) (by simp),⟨by have:=h.1;simpa using this,λj a b=>by
  have:=h.2 (j+1) (by simpa using a) (by simpa using b)
  simpa using this⟩⟩
theorem au.forIn{σ:Type}{f f':Value->σ->Sem (ForInStep σ)}(hf:∀ E c c' r,VR fns E c c'->au P fns Z E (f c r) (f' c' r) (λ_ x y=>y=x)) :
 ∀ (l l':List Value) (s:σ) {E:Nat->Nat->Prop},aV fns E l.toArray l'.toArray->au P fns Z E (ForIn.forIn l s f) (ForIn.forIn l' s f') (λ_ x y=>y=x)
 | [],[],s,E,h=>by simp only[List.forIn_nil];exact au.pure rfl
 | [],v'::vs',s,E,h=>by have:=h.1;simp at this
 |v::vs,[],s,E,h=>by have:=h.1;simp at this
 |v::vs,v'::vs',s,E,h=>by
  obtain⟨h0,h1⟩:=oz h
  simp only[List.forIn_cons]
  refine au.bind (hf E v v' s h0) λE1 x y dh e=>?_
  subst e
  cases y with
  |done r=>exact au.pure rfl
  |yield r=>exact au.forIn hf vs vs' r (h1.up dh)
theorem au.bytesToString{v:Value}(hv:VR fns E v v'):au P fns Z E (Conv.bytesToString v) (Conv.bytesToString v') (λE' v v'=>VR fns E' v v'):=by
 cases v with
 |slice a l c =>
  obtain⟨b,rfl,hb⟩:=aO.1 hv
  unfold Conv.bytesToString
  rcases hb with hb|⟨e1,e2,e3⟩
  rotate_left
  .subst e1 e2 e3
   cases a with
   |none=>exact au.pure (aH rfl)
   |some a =>
    dsimp only
    refine au.bind (Φ:=λE' x x'=>aV fns E' x x') (au.pure eX) λE1 x x' dh hx=>?_
    refine au.bind (Φ:=λ_ s s'=>s'=s) ?_ λE2 s s' dH e=>au.pure (by rw[e];exact aH rfl)
    rw[<-Array.forIn_toList,<-Array.forIn_toList]
    refine au.forIn (λE c c' r hc=>?_) _ _ _ (fC hx)
    split
    .rw[dB] at hc;subst hc;exact au.pure rfl
    .exact au.stuck
  cases a with
  |none=>rw[gU] at hb;subst hb;exact au.pure (aH rfl)
  |some a =>
   obtain⟨b',rfl,hb⟩:=dO.1 hb
   dsimp only
   refine au.bind (au.loadCells _ hb) λE1 x x' dh hx=>?_
   refine au.bind (Φ:=λ_ s s'=>s'=s) ?_ λE2 s s' dH e=>au.pure (by rw[e];exact aH rfl)
   rw[<-Array.forIn_toList,<-Array.forIn_toList]
   refine au.forIn (λE c c' r hc=>?_) _ _ _ (fC hx)
   split
   .rw[dB] at hc;subst hc;exact au.pure rfl
   .exact au.stuck
 |_=>exact au.dies (aK.halt rfl)
theorem au.convert{s d:TypeId}(h:GX P s d=true){v:Value}(hv:VR fns E v v'):au P fns Z E (Go.convert s d v) (Go.convert s d v') (λE' v v'=>VR fns E' v v'):=by
 unfold Go.convert
 refine au.bind (au.underlying s) λE1 x x' dh e=>?_
 obtain⟨rfl,h1⟩:=e
 refine au.bind (au.underlying d) λE2 y y' dH e=>?_
 obtain⟨rfl,h2⟩:=e
 have hv2:=(hv.up dh).up dH
 unfold GX at h
 rw[h1,h2] at h
 clear h1 h2 hv
 split at h
 ·-- between integers
  rename_i e1 e2
  cases e1;cases e2
  cases v with
  |int k n=>rw[dB] at hv2;subst hv2;exact au.pure (aH rfl)
  |float=>exact(bV hv2).elim
  |complex=>exact(bL hv2).elim
  |pointer a=>cases a<;>exact au.dies (aK.halt rfl)
  |slice a l c=>cases a<;>exact au.dies (aK.halt rfl)
  |_=>exact au.dies (aK.halt rfl)
 .rename_i e1 e2
  cases e1;cases e2
  split at h
  .rename_i e3
   cases v with
   |int k n=>rw[dB] at hv2;subst hv2;exact au.pure (aH rfl)
   |string s=>rw[dL] at hv2;subst hv2;exact au.pure (aH rfl)
   |float=>exact(bV hv2).elim
   |complex=>exact(bL hv2).elim
   |pointer a=>obtain⟨b,rfl,_⟩:=aN.1 hv2;(refine au.bind (au.underlying _) λE3 z z' fH e=>?_;obtain⟨rfl,h3⟩:=e;rw[e3] at h3;cases h3;exact au.bytesToString (hv2.up fH))
   |slice a l c=>obtain⟨b,rfl,_⟩:=aO.1 hv2;(refine au.bind (au.underlying _) λE3 z z' fH e=>?_;obtain⟨rfl,h3⟩:=e;rw[e3] at h3;cases h3;exact au.bytesToString (hv2.up fH))
   |map r=>obtain⟨rfl,rfl⟩:=dZ.1 hv2;(refine au.bind (au.underlying _) λE3 z z' fH e=>?_;obtain⟨rfl,h3⟩:=e;rw[e3] at h3;cases h3;exact au.bytesToString (hv2.up fH))
   |chan r=>obtain⟨rfl,rfl⟩:=cZ.1 hv2;(refine au.bind (au.underlying _) λE3 z z' fH e=>?_;obtain⟨rfl,h3⟩:=e;rw[e3] at h3;cases h3;exact au.bytesToString (hv2.up fH))
   |func f x y=>obtain⟨f',x',y',rfl,_⟩:=cu.1 hv2;(refine au.bind (au.underlying _) λE3 z z' fH e=>?_;obtain⟨rfl,h3⟩:=e;rw[e3] at h3;cases h3;exact au.bytesToString (hv2.up fH))
   |iface t u=>obtain⟨u',rfl,_⟩:=bf.1 hv2;(refine au.bind (au.underlying _) λE3 z z' fH e=>?_;obtain⟨rfl,h3⟩:=e;rw[e3] at h3;cases h3;exact au.bytesToString (hv2.up fH))
   |agg x=>obtain⟨x',rfl,_⟩:=bQ.1 hv2;(refine au.bind (au.underlying _) λE3 z z' fH e=>?_;obtain⟨rfl,h3⟩:=e;rw[e3] at h3;cases h3;exact au.bytesToString (hv2.up fH))
   |tuple x=>obtain⟨x',rfl,_⟩:=bq.1 hv2;(refine au.bind (au.underlying _) λE3 z z' fH e=>?_;obtain⟨rfl,h3⟩:=e;rw[e3] at h3;cases h3;exact au.bytesToString (hv2.up fH))
   |bool b=>have:=hv2;rw[VR] at this;subst this;(refine au.bind (au.underlying _) λE3 z z' fH e=>?_;obtain⟨rfl,h3⟩:=e;rw[e3] at h3;cases h3;exact au.bytesToString (hv2.up fH))
   |nilFunc=>have:=hv2;rw[VR] at this;subst this;(refine au.bind (au.underlying _) λE3 z z' fH e=>?_;obtain⟨rfl,h3⟩:=e;rw[e3] at h3;cases h3;exact au.bytesToString (hv2.up fH))
   |nilIface=>have:=hv2;rw[VR] at this;subst this;(refine au.bind (au.underlying _) λE3 z z' fH e=>?_;obtain⟨rfl,h3⟩:=e;rw[e3] at h3;cases h3;exact au.bytesToString (hv2.up fH))
  .cases h
 .cases h
theorem G7{ia:Nat->Bool}{ρ ρ':Operand->Value}(hρ:∀ x,bP fns ia x=true->VR fns E (ρ x) (ρ' x)):∀ (l:List (Nat × Operand)),(l.all λp=>bP fns ia p.2)=true->sw fns E (l.map λp=>(p.1,ρ p.2)) (l.map λp=>(p.1,ρ' p.2))
 | [],_=>⟨rfl,eX⟩
 | (i,x)::l,h=>by
   simp only[List.all_cons,Bool.and_eq_true] at h
   have ih:=G7 hρ l h.2
   refine⟨by simp,?_⟩
   have:=(dR (hρ x h.1)).append ih.2
   simpa using this
theorem Pj{ρ ρ':Operand->Value}(hρ:∀ x,bP fns ia x=true->VR fns E (ρ x) (ρ' x))(x:Array Operand)(h:x.all (bP fns ia)=true):aV fns E (x.map ρ) (x.map ρ'):=by
 refine⟨by simp,λi a b=>?_⟩
 simp only[Array.getElem_map]
 rw[Array.all_eq_true] at h
 exact hρ _ (h i (by simpa using a))
theorem X8{ρ ρ':Operand->Value}(hρ:∀ x,bP fns ia x=true->VR fns E (ρ x) (ρ' x))(x:Option Operand)(h:x.all (bP fns ia)=true):oQ fns E (x.map ρ) (x.map ρ'):=by
 cases x with
 |none=>trivial
 |some x=>exact hρ _ h
theorem au.callFunc{f:FuncId}(h:lJ P fns f=true)(ha:aV fns E a a')(har:wP P fns f a.size=true):au P fns Z E (Go.callFunc f a) (Go.callFunc f a') (λE' n n'=>uq P fns E' n n'):=by
 unfold Go.callFunc
 refine au.bind au.program λE1 p q dh e=>?_
 obtain⟨rfl,rfl⟩:=e
 have h0:=h
 unfold lJ X5 at h
 rw[show (fns.re p).funcs=fns.rf from rfl]
 cases hf:p.funcs[f]? with
 |none=>rw[hf] at h;simp at h
 |some fn =>
  cases hg:fns.rf[f]? with
  |none=>rw[hg] at h;simp at h
  |some fn' =>
   rw[hf,hg] at h
   simp only[Bool.and_eq_true,bne_iff_ne,ne_eq] at h
   obtain⟨⟨h1,h5,h6⟩,⟨h2,h3⟩,_⟩:=h
   have e1:(fn.name== "runtime.NumGoroutine")=false:=by simpa using h2
   have e2:fn.body.isNone=false:=by cases hb:fn.body<;>simp_all
   have e3:(fn'.name== "runtime.NumGoroutine")=false:=by simpa using h5
   have e4:fn'.body.isNone=false:=by cases hb:fn'.body<;>simp_all
   simp only[e1,e2,e3,e4,Bool.false_eq_true,if_false]
   exact au.pure ⟨a',rfl,h0,ha.up dh,har⟩
theorem au.makeInterface(ht:fns.it t=true){v:Value}(hv:VR fns E v v'):au P fns Z E (Instr.makeInterface t v) (Instr.makeInterface t v') (λE' v v'=>VR fns E' v v'):=by
 unfold Instr.makeInterface
 refine au.bind (au.underlying t) λE1 x x' dh e=>?_
 obtain⟨rfl,_⟩:=e
 cases x'<;>first|exact au.stuck|exact au.pure (bf.2 ⟨_,rfl,hv.up dh,ht⟩)
def BS(P:Program)(fns:Fx):Prop:=∀ name,fns.me name=true->∀ t i m,fns.it t=true->P.info? t=some i->i.methods.find? (·.name==name)=some m->∃ f,m.func=some (f,true)/\lJ P fns f=true/\fns.jf f=false
def X9(fns:Fx)(E:Nat->Nat->Prop):Place->Place->Prop
 | .val v,p=>∃ v',p=.val v'/\VR fns E v v'
 | .var a,p=>∃ a',p=.var a'/\AR fns E a a'
theorem X9.up(h:X9 fns E p p')(hE:∀ a b,E a b->E' a b):X9 fns E' p p':=by
 cases p with
 |val v=>obtain⟨v',e,h⟩:=h;exact⟨v',e,h.up hE⟩
 |var a=>obtain⟨v',e,h⟩:=h;exact⟨v',e,h.up hE⟩
theorem au.get(t:TypeId)(h:X9 fns E p p'):au P fns Z E (p.get t) (p'.get t) (λE' v v'=>VR fns E' v v'):=by
 cases p with
 |val v=>obtain⟨v',rfl,h⟩:=h;exact au.pure h
 |var a=>obtain⟨v',rfl,h⟩:=h;exact au.loadVar t h.as
theorem au.follow:∀ (l:List FieldStep) (t:TypeId) {E:Nat->Nat->Prop} {p p':Place},X9 fns E p p'->au P fns Z E (Go.follow l t p) (Go.follow l t p') (λE' r r'=>r'.1=r.1/\X9 fns E' r.2 r'.2)
 | [],t,E,p,p',h=>by unfold Go.follow;exact au.pure ⟨rfl,h⟩
 |s::rest,t,E,p,p',h=>by
  unfold Go.follow
  refine au.bind (au.underlying s.struct) λE1 d d' up e=>?_
  obtain⟨rfl,_⟩:=e
  cases d' with
  |struct fields =>
   dsimp only
   cases hf:fields[s.index]? with
   |none=>exact au.stuck
   |some fd =>
    dsimp only
    split
    .refine au.bind (au.get t (h.up up)) λE2 v v' dH hv=>au.bind (au.asAddr hv) λE3 a a' fH ha=>?_
     exact au.bind (au.fieldPlace ha fd) λE4 b b' qL hb=>au.follow rest fd.type ⟨b',rfl,hb⟩
    .cases p with
     |var a =>
      obtain⟨a',rfl,ha⟩:=h
      exact au.bind (au.fieldPlace (ha.up up) fd) λE4 b b' qL hb=>au.follow rest fd.type ⟨b',rfl,hb⟩
     |val v =>
      obtain⟨v',rfl,hv⟩:=h
      cases v with
      |agg x =>
       obtain⟨x',rfl,hx⟩:=bQ.1 hv
       exact au.bind (au.part fd.type (hx.up up) fd.offset) λE4 b b' qL hb=>au.follow rest fd.type ⟨b',rfl,hb⟩
      |_=>exact au.dies aK.stuck
  |_=>exact au.dies aK.stuck
theorem au.receiverAt(t:TypeId)(h:X9 fns E p p')(o:Option String):au P fns Z E (Go.receiverAt t p true o) (Go.receiverAt t p' true o) (λE' v v'=>VR fns E' v v'):=by
 unfold Go.receiverAt
 refine au.bind (au.underlying t) λE1 d d' up e=>?_
 obtain⟨rfl,_⟩:=e
 have h:=h.up up
 cases d' with
 |pointer e=>exact au.get t h
 |_ =>
  cases p with
  |var a=>obtain⟨a',rfl,ha⟩:=h;exact au.pure (aN.2 ⟨_,rfl,cB.2 ⟨_,rfl,ha⟩⟩)
  |val v=>obtain⟨v',rfl,hv⟩:=h;exact au.dies aK.stuck
theorem au.method(hme:BS P fns)(hn:fns.me name=true)(k:Nat)(ht:fns.it t=true){v:Value}(hv:VR fns E v v'):au P fns Z E (Go.method k t v name) (Go.method k t v' name) (λE' r r'=>r'.1=r.1/\lJ P fns r.1=true/\fns.jf r.1=false/\VR fns E' r.2 r'.2):=by
 cases k with
 |zero=>exact au.dies (aK.halt rfl)
 |succ k =>
  unfold Go.method
  refine au.bind (au.typeInfo t) λE1 i i' up e=>?_
  obtain⟨rfl,hi⟩:=e
  dsimp only
  cases hm:i'.methods.find? (·.name==name) with
  |none=>exact au.stuck
  |some m =>
   obtain⟨f,e1,e2,e3⟩:=hme name hn t _ m ht hi hm
   dsimp only
   refine au.bind (au.follow m.path.toList t (p:=.val v) (p':=.val v') ⟨v',rfl,hv.up up⟩) λE2 r r' dH h=>?_
   obtain⟨xt,x⟩:=r
   obtain⟨xt',x'⟩:=r'
   obtain⟨h1,h2⟩:=h
   dsimp only at h1 h2 ⊢
   subst h1
   rw[e1]
   exact au.bind (au.receiverAt _ h2 _) λE3 u u' fH hu=>au.pure ⟨rfl,e2,e3,hu⟩
theorem au.callMethod(hme:BS P fns)(hn:fns.me name=true){v:Value}(hv:VR fns E v v')(ha:aV fns E a a') :
 au P fns Z E (Go.callMethod v name a) (Go.callMethod v' name a') (λE' n n'=>uq P fns E' n n'):=by
 unfold Go.callMethod
 cases v with
 |iface t u =>
  obtain⟨u',rfl,hu,ht⟩:=bf.1 hv
  refine au.bind au.program λE1 p q up h=>?_
  obtain⟨rfl,rfl⟩:=h
  refine au.bind (au.method hme hn _ ht (hu.up up)) λE2 r r' dH h=>?_
  obtain⟨f,w⟩:=r
  obtain⟨f',w'⟩:=r'
  obtain⟨h1,h2,h3,h4⟩:=h
  dsimp only at h1 h2 h3 h4 ⊢
  subst h1
  exact au.callFunc h2 ((dR h4).append ((ha.up up).up dH)) (by unfold wP;rw[h3];rfl)
 |nilIface =>
  rw[dG] at hv
  subst hv
  have:aK P (runtimePanic .nilDeref:Sem Next):=aK.runtimePanic _
  exact au.dies this
 |_=>exact au.dies (aK.halt rfl)
def BlR(fns:Fx)(E:Nat->Nat->Prop)(r r':Except (Option Bool) (TypeId × Option Value)):Prop:=(∃ e,r=.error e/\r'=.error e)\/∃ t x x',r=.ok (t,x)/\r'=.ok (t,x')/\oQ fns E x x'
theorem au.followBlind:∀ (l:List FieldStep) (t:TypeId) {E:Nat->Nat->Prop} {x x':Option Value},oQ fns E x x'->au P fns Z E (Go.followBlind l t x) (Go.followBlind l t x') (λE' r r'=>BlR fns E' r r')
 | [],t,E,x,x',h=>by unfold Go.followBlind;exact au.pure (.inr ⟨_,_,_,rfl,rfl,h⟩)
 |s::rest,t,E,x,x',h=>by
  unfold Go.followBlind
  refine au.bind (au.underlying s.struct) λE1 d d' up e=>?_
  obtain⟨rfl,_⟩:=e
  have n0:∀ E,oQ fns E (none:Option Value) none:=λE=>trivial
  cases d' with
  |struct fields =>
   dsimp only
   cases hf:fields[s.index]? with
   |none=>exact au.stuck
   |some fd =>
    dsimp only
    cases x with
    |none =>
     cases x' with
     |some _=>exact h.elim
     |none=>cases s.deref<;>dsimp only<;>first|exact au.pure (.inl ⟨_,rfl,rfl⟩)|exact au.followBlind rest fd.type (n0 _)
    |some v =>
     cases x' with
     |none=>exact h.elim
     |some v' =>
      have hv:VR fns E1 v v':=VR.up h up
      cases hd:s.deref with
      |true =>
       cases v with
       |pointer a =>
        obtain⟨b,rfl,hb⟩:=aN.1 hv
        cases a with
        |none=>rw[jq] at hb;subst hb;exact au.pure (.inl ⟨_,rfl,rfl⟩)
        |some a=>obtain⟨b',rfl,_⟩:=cB.1 hb;exact au.followBlind rest fd.type (n0 _)
       |_=>exact au.dies aK.stuck
      |false =>
       cases v with
       |agg y =>
        obtain⟨y',rfl,hy⟩:=bQ.1 hv
        exact au.bind (au.part fd.type hy fd.offset) λE2 u u' dH hu=>au.followBlind rest fd.type (x:=some u) (x':=some u') hu
       |_=>exact au.dies aK.stuck
  |_=>exact au.dies aK.stuck
theorem au.nilAhead(hme:BS P fns)(hn:fns.me name=true)(k:Nat)(ht:fns.it t=true){v:Value}(hv:VR fns E v v'):au P fns Z E (Go.nilAhead k t v name) (Go.nilAhead k t v' name) (λ_ r r'=>r'=r):=by
 cases k with
 |zero=>unfold Go.nilAhead;exact au.pure rfl
 |succ k =>
  unfold Go.nilAhead
  refine au.bind (au.typeInfo t) λE1 i i' up e=>?_
  obtain⟨rfl,hi⟩:=e
  cases hm:i'.methods.find? (·.name==name) with
  |none=>exact au.stuck
  |some m =>
   obtain⟨f,e1,e2,e3⟩:=hme name hn t _ m ht hi hm
   dsimp only
   refine au.bind (au.followBlind m.path.toList t (x:=some v) (x':=some v') (hv.up up)) λE2 r r' dH h=>?_
   rcases h with ⟨e,rfl,rfl⟩|⟨t1,x,x',rfl,rfl,_⟩
   .exact au.pure rfl
   .dsimp only
    rw[e1]
    cases x<;>cases x'<;>exact au.pure rfl
theorem au.zY(hfn:∀ f,fns.ok f=true->lJ P fns f=true)(hme:BS P fns){v:Value}(hv:VR fns E v v')(ha:aV fns E a a') :
 au P fns Z E (Deferred.ofValue v a >>= λd=>Go.invoke d.target d.args) (Deferred.ofValue v' a' >>= λd=>Go.invoke d.target d.args) (λE' n n'=>uq P fns E' n n'):=by
 cases v with
 |func f x y =>
  obtain⟨f',x',y',rfl,h1,h2,h3⟩:=cu.1 hv
  rcases h1 with ⟨rfl,h1⟩|⟨hfu,l,l',rfl,rfl,h1⟩
  .cases f' with
   |func f =>
    rw[mq,Bool.and_eq_true] at h1
    have:=au.callFunc (P:=P) (Z:=Z) (E:=E) (hfn f h1.1) ((h2.append ha).append h3) (by unfold wP;rw[h1.2];rfl)
    exact this
   |method m =>
    have h4:=h2.append ha
    show au P fns Z E (Go.invoke (.fn (.method m) y) (x++a)) (Go.invoke (.fn (.method m) y') (x'++a')) _
    unfold Go.invoke
    dsimp only
    cases h0:(x++a)[0]? with
    |none=>exact au.dies aK.stuck
    |some r =>
     obtain⟨r',e,hr⟩:=h4.get? 0 h0
     rw[e]
     dsimp only
     rw[<-h4.1]
     exact au.callMethod hme h1 hr (h4.extract 1 _)
   |_=>cases h1
  .have h4:=h2.append ha
   show au P fns Z E (Go.invoke (.fn (.yield l) y) (x++a)) (Go.invoke (.fn (.yield l') y') (x'++a')) _
   unfold Go.invoke
   refine(au.yield hfu h1 h4).mono λE' n n' _ h=>?_
   obtain⟨l,l',f,x,x',a,b,rfl,rfl,h⟩:=h
   exact⟨l,l',f,x,x',a,b,rfl,rfl,h⟩
 |nilFunc =>
  rw[GV] at hv
  subst hv
  have:aK P (runtimePanic .nilDeref:Sem Next):=aK.runtimePanic _
  exact au.dies this
 |_=>exact au.dies (aK.halt rfl)
theorem au.index(t:TypeId){v x:Value}(hv:VR fns E v v')(hx:VR fns E x x'):au P fns Z E (Instr.index t v x) (Instr.index t v' x') (λE' v v'=>VR fns E' v v'):=by
 unfold Instr.index
 refine au.bind (au.asIntOf hx) λE1 n n' dh e=>?_
 subst e
 dsimp only
 refine au.bind (au.underlying t) λE2 d d' dH e=>?_
 obtain⟨rfl,hd⟩:=e
 have hv2:=(hv.up dh).up dH
 cases v with
 |string s =>
  rw[dL] at hv2
  subst hv2
  cases d' with
  |string =>
   dsimp only
   split
   .exact au.pure (aH rfl)
   .exact au.dies (aK.boundsPanic _ _ _ _)
  |_=>exact au.dies aK.stuck
 |agg xs =>
  obtain⟨xs',rfl,hxs⟩:=bQ.1 hv2
  cases d' with
  |array len elem =>
   dsimp only
   split
   .refine au.bind (au.sizeOf elem) λE3 k k' fH e=>?_
    subst e
    exact au.part elem (aV.up hxs fH) _
   .exact au.dies (aK.boundsPanic _ _ _ _)
  |_=>exact au.dies aK.stuck
 |_=>cases d'<;>exact au.dies aK.stuck
theorem Jy:VR fns E (.tuple #[]) (.tuple #[]):=bq.2 ⟨_,rfl,⟨rfl,λi a _=>absurd a (by simp)⟩⟩
theorem au.clear(hz:zeros P fns)(ts:Array TypeId)(t:TypeId)(ht:∀ t e,ts[0]?=some t->P.underlying t=some (.slice e)->fns.tys e=true){x x':Array Value}(hx:aV fns E x x'):au P fns Z E (Builtin.clear_ ts t x) (Builtin.clear_ ts t x') (λE' v v'=>VR fns E' v v'):=by
 unfold Builtin.clear_
 cases h0:x[0]? with
 |none=>cases ts[0]?<;>exact au.dies aK.stuck
 |some v =>
  obtain⟨v',h1,hv⟩:=hx.get? 0 h0
  rw[h1]
  cases hts:ts[0]? with
  |none=>exact au.dies aK.stuck
  |some ty =>
   refine au.bind (au.underlying ty) λE1 d d' dh e=>?_
   obtain⟨rfl,hd⟩:=e
   have fin:au P fns Z E1 (Pure.pure (Value.tuple #[])) (Pure.pure (Value.tuple #[])) (λE' v v'=>VR fns E' v v'):=au.pure Jy
   cases v with
   |map r=>obtain⟨rfl,rfl⟩:=dZ.1 hv;exact fin
   |slice a n c =>
    obtain⟨b,rfl,hb⟩:=aO.1 hv
    rcases hb with hb|⟨e1,e2,e3⟩
    rotate_left
    .subst e1 e2 e3
     cases a<;>exact fin
    cases a with
    |none=>rw[gU] at hb;subst hb;exact fin
    |some a =>
     obtain⟨b',rfl,hb⟩:=dO.1 hb
     cases n with
     |zero=>exact fin
     |succ n =>
      cases d' with
      |slice e =>
       dsimp only
       refine au.bind (au.zeroValue hz e (ht ty e hts hd)) λE2 z z' dH hzz=>?_
       obtain⟨rfl,hcl⟩:=hzz
       exact au.bind (au.storeCells _ _ 0 ((hb.up dh).up dH) (fC (jU (iP hcl) _))) λ_ _ _ _ _=>au.pure Jy
      |_=>exact au.dies aK.stuck
   |_=>exact au.dies aK.stuck
theorem au.max2{x y y':Value}(hx:VR fns E x x')(hy:VR fns E y y'):au P fns Z E (Builtin.max2 x y) (Builtin.max2 x' y') (λE' v v'=>VR fns E' v v'):=by
 cases x with
 |int k n =>
  rw[dB] at hx
  subst hx
  cases y with
  |int k' m=>rw[dB] at hy;subst hy;exact au.pure (aH rfl)
  |pointer a=>cases a<;>exact au.dies (aK.halt rfl)
  |_=>exact au.dies (aK.halt rfl)
 |string s =>
  rw[dL] at hx
  subst hx
  cases y with
  |string s' =>
   rw[dL] at hy
   subst hy
   unfold Builtin.max2
   refine au.bind (au.stringOp _ _ _) λE1 v v' dh hv=>?_
   refine au.bind (au.asBool hv) λE2 b b' dH e=>?_
   subst e
   exact au.pure (aH rfl)
  |pointer a=>cases a<;>exact au.dies (aK.halt rfl)
  |_=>exact au.dies (aK.halt rfl)
 |float=>exact(bV hx).elim
 |pointer a =>
  cases a with
  |some a=>cases y<;>exact au.dies (aK.halt rfl)
  |none =>
   cases y with
   |pointer b=>cases b<;>exact au.dies (aK.halt rfl)
   |_=>exact au.dies (aK.halt rfl)
 |_ =>
  cases y with
  |pointer b=>cases b<;>exact au.dies (aK.halt rfl)
  |_=>exact au.dies (aK.halt rfl)
theorem au.min2{x y y':Value}(hx:VR fns E x x')(hy:VR fns E y y'):au P fns Z E (Builtin.min2 x y) (Builtin.min2 x' y') (λE' v v'=>VR fns E' v v'):=by
 cases x with
 |int k n =>
  rw[dB] at hx
  subst hx
  cases y with
  |int k' m=>rw[dB] at hy;subst hy;exact au.pure (aH rfl)
  |pointer a=>cases a<;>exact au.dies (aK.halt rfl)
  |_=>exact au.dies (aK.halt rfl)
 |string s =>
  rw[dL] at hx
  subst hx
  cases y with
  |string s' =>
   rw[dL] at hy
   subst hy
   unfold Builtin.min2
   refine au.bind (au.stringOp _ _ _) λE1 v v' dh hv=>?_
   refine au.bind (au.asBool hv) λE2 b b' dH e=>?_
   subst e
   exact au.pure (aH rfl)
  |pointer a=>cases a<;>exact au.dies (aK.halt rfl)
  |_=>exact au.dies (aK.halt rfl)
 |float=>exact(bV hx).elim
 |pointer a =>
  cases a with
  |some a=>cases y<;>exact au.dies (aK.halt rfl)
  |none =>
   cases y with
   |pointer b=>cases b<;>exact au.dies (aK.halt rfl)
   |_=>exact au.dies (aK.halt rfl)
 |_ =>
  cases y with
  |pointer b=>cases b<;>exact au.dies (aK.halt rfl)
  |_=>exact au.dies (aK.halt rfl)
theorem au.Pm{f:Value->Value->Sem Value}(hf:∀ {E:Nat->Nat->Prop} {x x' y y':Value},VR fns E x x'->VR fns E y y'->au P fns Z E (f x y) (f x' y') (λE' v v'=>VR fns E' v v')) :
 ∀ (l l':List Value) {E:Nat->Nat->Prop} {x x':Value},aV fns E l.toArray l'.toArray->VR fns E x x'->au P fns Z E (l.foldlM f x) (l'.foldlM f x') (λE' v v'=>VR fns E' v v')
 | [],[],E,x,x',h,hx=>by simp only[List.foldlM_nil];exact au.pure hx
 | [],v'::vs',E,x,x',h,hx=>by have:=h.1;simp at this
 |v::vs,[],E,x,x',h,hx=>by have:=h.1;simp at this
 |v::vs,v'::vs',E,x,x',h,hx=>by
  obtain⟨h0,h1⟩:=oz h
  simp only[List.foldlM_cons]
  exact au.bind (hf hx h0) λE1 r r' dh hr=>au.Pm hf vs vs' (h1.up dh) hr
theorem au.max(ts:Array TypeId)(t:TypeId)(ha:aV fns E a a'):au P fns Z E (Builtin.max_ ts t a) (Builtin.max_ ts t a') (λE' v v'=>VR fns E' v v'):=by
 have hl:=fC ha
 unfold Builtin.max_
 generalize a.toList=l at hl
 generalize a'.toList=l' at hl
 cases l with
 |nil=>exact au.dies (aK.halt rfl)
 |cons v vs =>
  cases l' with
  |nil=>have:=hl.1;simp at this
  |cons v' vs'=>obtain⟨h0,h1⟩:=oz hl;exact au.Pm (λhx hy=>au.max2 hx hy) vs vs' h1 h0
theorem au.min(ts:Array TypeId)(t:TypeId)(ha:aV fns E a a'):au P fns Z E (Builtin.min_ ts t a) (Builtin.min_ ts t a') (λE' v v'=>VR fns E' v v'):=by
 have hl:=fC ha
 unfold Builtin.min_
 generalize a.toList=l at hl
 generalize a'.toList=l' at hl
 cases l with
 |nil=>exact au.dies (aK.halt rfl)
 |cons v vs =>
  cases l' with
  |nil=>have:=hl.1;simp at this
  |cons v' vs'=>obtain⟨h0,h1⟩:=oz hl;exact au.Pm (λhx hy=>au.min2 hx hy) vs vs' h1 h0
theorem au.field(t:TypeId){v:Value}(hv:VR fns E v v')(i:Nat):au P fns Z E (Instr.field t v i) (Instr.field t v' i) (λE' v v'=>VR fns E' v v'):=by
 unfold Instr.field
 refine au.bind (au.underlying t) λE1 d d' dh e=>?_
 obtain⟨rfl,_⟩:=e
 have hv1:=hv.up dh
 cases d' with
 |struct fs =>
  dsimp only
  cases fs[i]? with
  |none=>exact au.dies aK.stuck
  |some f =>
   cases v with
   |agg xs =>
    obtain⟨xs',rfl,hxs⟩:=bQ.1 hv1
    exact au.part f.type hxs f.offset
   |_=>exact au.dies (aK.bind aK.stuck)
 |_=>exact au.dies aK.stuck
theorem au.makeFunc{fn:Fn}(hf:mq fns fn=true){b b':Array Value}(ha:aV fns E a a')(hb:aV fns E b b'):au P fns Z E (Instr.makeFunc fn a b) (Instr.makeFunc fn a' b') (λE' v v'=>VR fns E' v v'):=by
 unfold Instr.makeFunc
 exact au.pure (cu.2 ⟨_,_,_,rfl,.inl ⟨rfl,hf⟩,ha,hb⟩)
theorem au.typeAssert(xt:TypeId)(h:Es P t=true){x:Value}(hx:VR fns E x x'):au P fns Z E (Instr.typeAssert x xt t false) (Instr.typeAssert x' xt t false) (λE' v v'=>VR fns E' v v'):=by
 unfold Instr.typeAssert
 refine au.bind (au.underlying t) λE1 d d' dh e=>?_
 obtain⟨rfl,hd⟩:=e
 have hni:∀ ms,d'≠.interface ms:=λms e=>by
  unfold Es at h
  rw[hd,e] at h
  cases h
 have hx1:=hx.up dh
 cases x with
 |iface u v =>
  obtain⟨v',rfl,hv,_⟩:=bf.1 hx1
  cases d' with
  |interface ms=>exact(hni ms rfl).elim
  |_ =>
   dsimp only
   simp only[Bool.false_eq_true,if_false]
   split
   .exact au.pure hv
   .exact au.dies (aK.runtimePanic _)
 |nilIface =>
  cases d' with
  |interface ms=>exact(hni ms rfl).elim
  |_=>dsimp only;simp only[Bool.false_eq_true,if_false];exact au.dies (aK.runtimePanic _)
 |_ =>
  cases d' with
  |interface ms=>exact(hni ms rfl).elim
  |_=>exact au.dies (aK.halt rfl)
theorem EB{a a' b b':Value}(ha:VR fns E a a')(hb:VR fns E b b'):aV fns E #[a,b] #[a',b']:=by
 refine⟨rfl,λi h _=>?_⟩
 simp only[List.size_toArray,List.length_cons,List.length_nil] at h
 match i,h with
 |0,_=>exact ha
 |1,_=>exact hb
theorem au.BU(hz:zeros P fns)(xt:TypeId)(h:Es P t=true)(ht:fns.tys t=true){x:Value}(hx:VR fns E x x'):au P fns Z E (Instr.typeAssert x xt t true) (Instr.typeAssert x' xt t true) (λE' v v'=>VR fns E' v v'):=by
 unfold Instr.typeAssert
 refine au.bind (au.underlying t) λE1 d d' dh e=>?_
 obtain⟨rfl,hd⟩:=e
 have hni:∀ ms,d'≠.interface ms:=λms e=>by
  unfold Es at h
  rw[hd,e] at h
  cases h
 have hx1:=hx.up dh
 have hno:au P fns Z E1 (do Pure.pure (Value.tuple #[<-Go.zeroValue t,.bool false])) (do Pure.pure (Value.tuple #[<-Go.zeroValue t,.bool false])) (λE' v v'=>VR fns E' v v') :=
  au.bind (au.zeroValue hz t ht) λE2 z z' _ hzz=>au.pure (bq.2 ⟨_,rfl,EB (by rw[hzz.1];exact jL hzz.2) (aH rfl)⟩)
 cases x with
 |iface u v =>
  obtain⟨v',rfl,hv,_⟩:=bf.1 hx1
  cases d' with
  |interface ms=>exact(hni ms rfl).elim
  |_ =>
   dsimp only
   simp only[if_true]
   split
   .exact au.pure (bq.2 ⟨_,rfl,EB hv (aH rfl)⟩)
   .exact hno
 |nilIface =>
  cases d' with
  |interface ms=>exact(hni ms rfl).elim
  |_=>dsimp only;simp only[if_true];rw[dG.1 hx1];exact hno
 |_ =>
  cases d' with
  |interface ms=>exact(hni ms rfl).elim
  |_=>exact au.dies (aK.halt rfl)
theorem wY(gh:World):(∃ a w,(Instr.panicnil).run P gh=.ok a w/\Calm gh w)\/∃ h w,(Instr.panicnil).run P gh=.halt h w/\dead h=true/\Calm gh w:=by
 unfold Instr.panicnil
 rw[Sem.run_bind]
 have hs:(Go.sys .env).run P gh=.ok (gh.sys .env).1 (gh.sys .env).2:=rfl
 rw[hs,Result.andThen_ok]
 have hc:Calm gh (gh.sys .env).2:=λ_ _ e=>.inr e
 revert hc
 generalize (gh.sys .env).1=r
 generalize (gh.sys .env).2=w
 intro hc
 cases r with
 |strings env=>exact .inl ⟨_,_,rfl,hc⟩
 |_=>exact .inr ⟨_,_,rfl,rfl,hc⟩
theorem aK.X_(v:Value):aK P (Instr.panic v):=by
 unfold Instr.panic
 cases v with
 |iface t u=>exact aK.panic
 |nilIface =>
  refine aK.nD (wY) λb=>?_
  split
  .exact aK.panic
  .exact aK.runtimePanic _
 |_=>exact aK.halt rfl
theorem au.TK(hz:zeros P fns)(fu:0<P.depth)(hfn:∀ f,fns.ok f=true->lJ P fns f=true)(hme:BS P fns){ρ ρ':Operand->Value}(hρ:∀ x,bP fns ia x=true->VR fns E (ρ x) (ρ' x))(Pn:∀ x,Er fns ia x=true->VZ fns E (ρ x) (ρ' x))(hc:∀ v,ρ (.const v)=v)(hf:∀ f,ρ (.func f)=.func (.func f) #[] #[]/\ρ' (.func f)=.func (.func f) #[] #[])
 (o:Oper) (ho:gY P fns ia o.op=true):au P fns Z E (Go.execOp ρ o) (Go.execOp ρ' o) (λE' n n'=>uq P fns E' n n'):=by
 unfold Go.execOp
 dsimp only
 cases hop:o.op with
 |move x=>rw[hop] at ho;exact au.pure ⟨_,rfl,hρ x ho⟩
 |assign x=>rw[hop] at ho;exact au.pure ⟨_,rfl,hρ x ho⟩
 |pick c a b =>
  rw[hop] at ho
  simp only[gY,Bool.and_eq_true] at ho
  refine au.bind (au.asBool (hρ c ho.1.1)) λE1 r r' dh e=>?_
  subst e
  refine au.pure ⟨_,rfl,?_⟩
  split
  .exact(hρ a ho.1.2).up dh
  .exact(hρ b ho.2).up dh
 |alloc t=>rw[hop] at ho;exact au.value (au.alloc hz t ho)
 |box t x=>rw[hop] at ho;exact au.value (au.box t (hρ x ho))
 |build t ps=>rw[hop] at ho;simp only[gY,Bool.and_eq_true] at ho;exact au.value (au.build hz t ho.1 (by simpa using G7 hρ ps.toList (by simpa using ho.2)))
 |buildSlice t n ps=>rw[hop] at ho;simp only[gY,Bool.and_eq_true] at ho;exact au.value (au.buildSlice hz t (ow ho.1) n (by simpa using G7 hρ ps.toList (by simpa using ho.2)))
 |load t a=>rw[hop] at ho;exact au.value (au.loadAt t (Pn a ho))
 |store t a v=>rw[hop] at ho;simp only[gY,Bool.and_eq_true] at ho;exact au.unit (au.storeAt t (Pn a ho.1) (hρ v ho.2))
 |binOp op t x y yt =>
  rw[hop] at ho
  simp only[gY,Bool.and_eq_true] at ho
  have hy:∀ v,y=.const v->ρ y=v:=λv e=>by rw[e,hc]
  exact au.value (au.bind (au.TJ fu op t x y ho.2 (hρ x ho.1.1) (hρ y ho.1.2) hy) λE1 _ _ dh _=>au.binOp op t y ho.2 ((hρ x ho.1.1).up dh) ((hρ y ho.1.2).up dh) hy)
 |unOp op t x=>rw[hop] at ho;exact au.value (au.unary op (hρ x ho))
 |convert s d x=>rw[hop] at ho;simp only[gY,Bool.and_eq_true] at ho;exact au.value (au.convert ho.2 (hρ x ho.1))
 |makeSlice t l c=>rw[hop] at ho;simp only[gY,Bool.and_eq_true] at ho;exact au.value (au.makeSlice hz t (ow ho.1.1) (hρ l ho.1.2) (hρ c ho.2))
 |slice t x lo hi mx =>
  rw[hop] at ho
  simp only[gY,Bool.and_eq_true] at ho
  exact au.value (au.sliceAt t (hρ x ho.1.1.1) (X8 hρ lo ho.1.1.2) (X8 hρ hi ho.1.2) (X8 hρ mx ho.2))
 |extract x i=>rw[hop] at ho;exact au.value (au.extract (hρ x ho) i)
 |index t x i=>rw[hop] at ho;simp only[gY,Bool.and_eq_true] at ho;exact au.value (au.index t (hρ x ho.1) (hρ i ho.2))
 |call c =>
  rw[hop] at ho
  simp only[gY,wQ,Bool.and_eq_true] at ho
  obtain⟨h1,h2⟩:=ho
  have ha:=Pj hρ c.args h1
  show au P fns Z E (Go.resolve ρ c o.type >>= λd=>Go.invoke d.target d.args) (Go.resolve ρ' c o.type >>= λd=>Go.invoke d.target d.args) _
  unfold Go.resolve
  split at h2
  .rename_i mH
   rw[mH]
   exact au.value (au.len _ _ ha)
  .rename_i mH
   rw[mH]
   exact au.value (au.copy _ _ ha)
  .rename_i mH
   rw[mH]
   exact au.value (au.cap _ _ ha)
  .rename_i mH
   rw[mH]
   exact au.value (au.max _ _ ha)
  .rename_i mH
   rw[mH]
   exact au.value (au.min _ _ ha)
  .rename_i mH
   rw[mH]
   exact au.value (au.clear hz _ _ (λt e h0 hu=>by rw[h0] at h2;exact ow h2 e hu) ha)
  .rename_i mH
   rw[mH]
   rw[Bool.and_eq_true] at h2
   refine au.value (au.append hz _ _ (λty e e1 e2=>?_) (λxt d e1 e2=>?_) ha)
   .have:=h2.1
    rw[e1] at this
    exact ow this e e2
   .have:=h2.2
    rw[e1] at this
    simp only[e2] at this
    simpa using this
  .rename_i f mH
   rw[mH]
   dsimp only
   rw[(hf f).1,(hf f).2]
   rw[Bool.and_eq_true] at h2
   have:=au.callFunc (P:=P) (Z:=Z) (E:=E) h2.1 ((eX.append ha).append eX) (by simpa using h2.2)
   exact this
  .rename_i tm mH
   rw[mH]
   exact au.zY hfn hme (hρ (.tmp tm) h2) ha
  .rename_i rv m mH
   rw[mH]
   rw[Bool.and_eq_true] at h2
   have hr:=hρ rv h2.1
   show au P fns Z E (Go.invoke (.fn (.method m) #[]) (#[ρ rv]++c.args.map ρ)) (Go.invoke (.fn (.method m) #[]) (#[ρ' rv]++c.args.map ρ')) _
   have h4:=(dR hr).append ha
   unfold Go.invoke
   dsimp only
   have e0:∀ (v:Value) (x:Array Value),(#[v]++x)[0]?=some v:=λv x=>by rw[Array.getElem?_append_left (by simp)];rfl
   rw[e0,e0]
   dsimp only
   rw[<-h4.1]
   exact au.callMethod hme h2.2 hr (h4.extract 1 _)
  .cases h2
 |makeInterface t x=>rw[hop] at ho;simp only[gY,Bool.and_eq_true] at ho;exact au.value (au.makeInterface ho.2 (hρ x ho.1))
 |panic x=>exact au.dies (aK.bind (aK.X_ _))
 |field t x i=>rw[hop] at ho;exact au.value (au.field t (hρ x ho) i)
 |makeFunc fn a b =>
  rw[hop] at ho
  simp only[gY,Bool.and_eq_true] at ho
  exact au.value (au.makeFunc ho.1.1 (Pj hρ a ho.1.2) (Pj hρ b ho.2))
 |typeAssert x xt t c =>
  rw[hop] at ho
  simp only[gY,Bool.and_eq_true] at ho
  cases c with
  |false=>exact au.value (au.typeAssert xt ho.1.2 (hρ x ho.1.1))
  |true=>exact au.value (au.BU hz xt ho.1.2 (by simpa using ho.2) (hρ x ho.1.1))
 |nilCheck x =>
  rw[hop] at ho
  have hv:=hρ x ho
  dsimp only
  generalize ρ x=v at hv
  generalize ρ' x=v' at hv
  cases v with
  |pointer a =>
   obtain⟨b,rfl,hb⟩:=aN.1 hv
   cases a with
   |none=>exact au.dies (aK.runtimePanic _)
   |some a=>obtain⟨b',rfl,_⟩:=cB.1 hb;exact au.pure ⟨_,rfl,hv⟩
  |nilIface=>exact au.dies (aK.runtimePanic _)
  |nilFunc=>exact au.dies (aK.runtimePanic _)
  |func f x y =>
   obtain⟨f',x',y',rfl,h1,h2,_⟩:=cu.1 hv
   rcases h1 with ⟨rfl,h1⟩|⟨_,l,l',rfl,rfl,h1⟩
   .cases f' with
    |func f=>exact au.pure ⟨_,rfl,hv⟩
    |method m =>
     dsimp only
     cases h0:x[0]? with
     |none=>rw[h2.none 0 h0];exact au.pure ⟨_,rfl,hv⟩
     |some r =>
      obtain⟨r',e,hr⟩:=h2.get? 0 h0
      rw[e]
      have other:(∀ t w,r≠.iface t w)->r≠.nilIface->(∀ t w,r'≠.iface t w)/\r'≠.nilIface:=λh1 h2=>by
       cases r with
       |pointer a=>obtain⟨b,rfl,_⟩:=aN.1 hr;exact⟨(λ_ _ h=>by cases h),(λh=>by cases h)⟩
       |slice a l c=>obtain⟨b,rfl,_⟩:=aO.1 hr;exact⟨(λ_ _ h=>by cases h),(λh=>by cases h)⟩
       |map r=>obtain⟨_,rfl⟩:=dZ.1 hr;exact⟨(λ_ _ h=>by cases h),(λh=>by cases h)⟩
       |chan r=>obtain⟨_,rfl⟩:=cZ.1 hr;exact⟨(λ_ _ h=>by cases h),(λh=>by cases h)⟩
       |func f x y=>obtain⟨f',x',y',rfl,_⟩:=cu.1 hr;exact⟨(λ_ _ h=>by cases h),(λh=>by cases h)⟩
       |iface t u=>exact(h1 _ _ rfl).elim
       |nilIface=>exact(h2 rfl).elim
       |agg x=>obtain⟨x',rfl,_⟩:=bQ.1 hr;exact⟨(λ_ _ h=>by cases h),(λh=>by cases h)⟩
       |tuple x=>obtain⟨x',rfl,_⟩:=bq.1 hr;exact⟨(λ_ _ h=>by cases h),(λh=>by cases h)⟩
       |float=>exact(bV hr).elim
       |complex=>exact(bL hr).elim
       |_=>rw[VR] at hr;subst hr;exact⟨(λ_ _ h=>by cases h),(λh=>by cases h)⟩
      by_cases hi:∃ t w,r=.iface t w
      .obtain⟨t,w,rfl⟩:=hi
       obtain⟨w',rfl,hw,ht⟩:=bf.1 hr
       dsimp only
       refine au.bind au.program λE1 p q up h=>?_
       obtain⟨rfl,rfl⟩:=h
       refine au.bind (au.nilAhead hme h1 _ ht (hw.up up)) λE2 b b' dH h=>?_
       subst h
       have hv2:=(hv.up up).up dH
       split
       .exact au.dies (aK.bind (aK.halt rfl))
       .exact au.pure ⟨_,rfl,hv2⟩
      .by_cases hn:r=.nilIface
       .subst hn
        rw[dG] at hr
        subst hr
        exact au.dies (aK.runtimePanic _)
       .obtain⟨o1,o2⟩:=other (λt w e=>hi ⟨t,w,e⟩) hn
        split
        .rename_i e;cases e;exact(hn rfl).elim
        .rename_i e;cases e;exact(hi ⟨_,_,rfl⟩).elim
        .split
         .rename_i e;cases e;exact(o2 rfl).elim
         .rename_i e;cases e;exact(o1 _ _ rfl).elim
         .exact au.pure ⟨_,rfl,hv⟩
    |_=>cases h1
   .exact au.pure ⟨_,rfl,hv⟩
  |slice a l c=>obtain⟨b,rfl,hb⟩:=aO.1 hv;exact au.pure ⟨_,rfl,hv⟩
  |map r=>obtain⟨rfl,rfl⟩:=dZ.1 hv;exact au.pure ⟨_,rfl,hv⟩
  |chan r=>obtain⟨rfl,rfl⟩:=cZ.1 hv;exact au.pure ⟨_,rfl,hv⟩
  |iface t u=>obtain⟨u',rfl,_⟩:=bf.1 hv;exact au.pure ⟨_,rfl,hv⟩
  |agg x=>obtain⟨x',rfl,_⟩:=bQ.1 hv;exact au.pure ⟨_,rfl,hv⟩
  |tuple x=>obtain⟨x',rfl,_⟩:=bq.1 hv;exact au.pure ⟨_,rfl,hv⟩
  |float=>exact(bV hv).elim
  |complex=>exact(bL hv).elim
  |bool b=>rw[j4] at hv;subst hv;exact au.pure ⟨_,rfl,aH rfl⟩
  |int k n=>rw[dB] at hv;subst hv;exact au.pure ⟨_,rfl,aH rfl⟩
  |string s=>rw[dL] at hv;subst hv;exact au.pure ⟨_,rfl,aH rfl⟩
 |_=>rw[hop] at ho;cases ho
theorem au.execOp(hz:zeros P fns)(fu:0<P.depth)(hfn:∀ f,fns.ok f=true->lJ P fns f=true)(hme:BS P fns){ρ ρ':Operand->Value}(hρ:∀ x,bP fns ia x=true->VR fns E (ρ x) (ρ' x))(Pn:∀ x,Er fns ia x=true->VZ fns E (ρ x) (ρ' x))(hc:∀ v,ρ (.const v)=v)(hf:∀ f,ρ (.func f)=.func (.func f) #[] #[]/\ρ' (.func f)=.func (.func f) #[] #[])
 (o:Oper) (ho:mF P fns ia o=true):au P fns Z E (Go.execOp ρ o) (Go.execOp ρ' o) (λE' n n'=>Ph P fns ia o.dst E' n n'):=by
 have plain:gY P fns ia o.op=true->au P fns Z E (Go.execOp ρ o) (Go.execOp ρ' o) (λE' n n'=>Ph P fns ia o.dst E' n n'):=λh=>(au.TK hz fu hfn hme hρ Pn hc hf o h).mono λ_ _ _ _ h=>.inl h
 have acw:∀ {s s':Sem Value},o.dst.all ia=true->au P fns Z E s s' (λE' v v'=>VZ fns E' v v')->au P fns Z E (do Pure.pure (Next.value (<-s))) (do Pure.pure (Next.value (<-s'))) (λE' n n'=>Ph P fns ia o.dst E' n n'):=λhd h =>
  au.bind h λ_ v v' _ hv=>au.pure (.inr ⟨hd,v,v',rfl,rfl,hv⟩)
 unfold mF at ho
 split at ho
 .rename_i t a v hop
  simp only[Bool.and_eq_true] at ho
  unfold Go.execOp
  dsimp only
  rw[hop]
  by_cases hfull:fns.full=true
  .exact(au.value ((au.indexAt t (hρ a ho.1.1) (hρ v ho.1.2)).mono λ_ _ _ _ h=>h.full hfull)).mono λ_ _ _ _ h=>.inl h
  .exact acw (by have:=ho.2;simpa [hfull] using this) (au.indexAt t (hρ a ho.1.1) (hρ v ho.1.2))
 .rename_i t x f hop
  simp only[Bool.or_eq_true,Bool.and_eq_true] at ho
  unfold Go.execOp
  dsimp only
  rw[hop]
  rcases ho with ho|ho
  .exact(au.value (au.fieldAt t (hρ x ho) f)).mono λ_ _ _ _ h=>.inl h
  .exact acw ho.2 (au.Pb t (Pn x ho.1) f)
 .exact plain ho
end Go.Proofs.YthbndfpeffcigaaGreatDoor
namespace Go.Proofs.YthbndfpeffcigaaGreatDoor
open Go Go.Conc
variable {fr fr':Frame} {id:Nat} {d:Value} {gh:World}
variable {P:Program} {E E' BK:Nat->Nat->Prop} {Z:Nat->Prop} {fns:Fx}
def jk(P:Program)(fns:Fx)(ia:Nat->Bool):Item->Bool
 | .code c | .inLoop c | .inScope c=>bT P fns ia c
 | .inBlock _ | .inRangeFunc _ | .endRangeFunc _ | .beginRound=>true
 | .inRegion ops _=>ops.all λo=>mF P fns ia o
 |_=>false
def kU(P:Program)(fns:Fx):Prop:=(∀ f,fns.ok f=true->lJ P fns f=true)/\(∀ f fn c,fns.ok f=true->P.funcs[f]?=some fn->fn.body=some c->bT P fns (o7 P f) c=true)/\(∀ f,fns.ok f=true->fns.jf f=false->fns.rf[f]?=P.funcs[f]?)/\BS P fns
def fU(P:Program)(fns:Fx):Prop:=kU P fns/\fns.re P=P/\∀ f,fns.jf f=false
def TR(fns:Fx)(ia:Nat->Bool)(E:Nat->Nat->Prop)(x x':Array Value):Prop:=x.size=x'.size/\∀ i (h:i<x.size) (h':i<x'.size),VR fns E x[i] x'[i]\/(ia i=true/\VZ fns E x[i] x'[i])
section
variable {ia:Nat->Bool} {x x':Array Value}
theorem TR.up(h:TR fns ia E x x')(hE:∀ a b,E a b->E' a b):TR fns ia E' x x':=⟨h.1,λi a b=>(h.2 i a b).imp (·.up hE) λy=>⟨y.1,y.2.up hE⟩⟩
theorem TR.of(h:aV fns E x x'):TR fns ia E x x':=⟨h.1,λi a b=>.inl (h.2 i a b)⟩
theorem TR.get?(h:TR fns ia E x x')(i:Nat){v:Value}(hv:x[i]?=some v):∃ v',x'[i]?=some v'/\(VR fns E v v'\/(ia i=true/\VZ fns E v v')):=by
 obtain⟨hi,rfl⟩:=Array.getElem?_eq_some_iff.1 hv
 exact⟨x'[i]'(h.1▸hi),Array.getElem?_eq_getElem _,h.2 i hi _⟩
theorem TR.none(h:TR fns ia E x x')(i:Nat)(hv:x[i]?=none):x'[i]?=none:=by
 rw[Array.getElem?_eq_none_iff] at hv ⊢;have:=h.1;omega
theorem TR.getD(h:TR fns ia E x x')(i:Nat)(hi:ia i=false)(hd:VR fns E d d):VR fns E (x.getD i d) (x'.getD i d):=by
 simp only[Array.getD_eq_getD_getElem?]
 cases hx:x[i]? with
 |none=>rw[h.none i hx];exact hd
 |some v =>
  obtain⟨v',e,r⟩:=h.get? i hx
  rw[e]
  rcases r with r|⟨r,_⟩
  .exact r
  .rw[hi] at r;cases r
theorem TR.afk(h:TR fns ia E x x')(hf:fns.full=true)(i:Nat)(hd:VR fns E d d):VR fns E (x.getD i d) (x'.getD i d):=by
 simp only[Array.getD_eq_getD_getElem?]
 cases hx:x[i]? with
 |none=>rw[h.none i hx];exact hd
 |some v =>
  obtain⟨v',e,r⟩:=h.get? i hx
  rw[e]
  exact r.elim id λy=>y.2.full hf
theorem TR.acy(h:TR fns ia E x x')(i:Nat)(hd:VR fns E d d):VZ fns E (x.getD i d) (x'.getD i d):=by
 simp only[Array.getD_eq_getD_getElem?]
 cases hx:x[i]? with
 |none=>rw[h.none i hx];exact .inl hd
 |some v =>
  obtain⟨v',e,r⟩:=h.get? i hx
  rw[e]
  exact r.elim .inl (·.2)
theorem TR.afl(h:TR fns ia E x x')(i:Nat){v v':Value}(hv:VR fns E v v'\/(ia i=true/\VZ fns E v v')):TR fns ia E (x.setIfInBounds i v) (x'.setIfInBounds i v'):=by
 refine⟨by simp[h.1],λj a b=>?_⟩
 simp only[Array.size_setIfInBounds] at a b
 rw[Array.getElem_setIfInBounds,Array.getElem_setIfInBounds]
 split
 .rename_i e;subst e;exact hv
 .exact h.2 j a b
theorem VZ.eq{v v':Value}(h:VZ fns E v v')(hE:∀ a b,E a b->a=b):v'=v:=by
 rcases h with h|⟨a,b,rfl,rfl,h⟩
 .exact h.eq hE
 .rw[AS.eq h hE]
theorem TR.eq(h:TR fns ia E x x')(hE:∀ a b,E a b->a=b):x'=x:=Array.ext h.1.symm λi a b=>(h.2 i b a).elim (·.eq hE) (·.2.eq hE)
end
theorem TR.full{ia:Nat->Bool}{x x':Array Value}(h:TR fns ia E x x')(hf:fns.full=true):aV fns E x x':=⟨h.1,λi a b=>(h.2 i a b).elim id λy=>y.2.full hf⟩
def IR(fns:Fx)(E:Nat->Nat->Prop):Item->Item->Prop
 | .inRangeFunc l,i'=>∃ l',i'=.inRangeFunc l'/\fns.full=true/\E l l'
 | .endRangeFunc l,i'=>∃ l',i'=.endRangeFunc l'/\fns.full=true/\E l l'
 |i,i'=>i'=i
def IL(fns:Fx)(E:Nat->Nat->Prop):List Item->List Item->Prop
 | [],t=>t=[]
 |i::k,t=>∃ i' t',t=i'::t'/\IR fns E i i'/\IL fns E k t'
theorem IR.up{i i':Item}(h:IR fns E i i')(hE:∀ a b,E a b->E' a b):IR fns E' i i':=by
 cases i with
 |inRangeFunc l=>obtain⟨l',h1,h2,h3⟩:=h;exact⟨l',h1,h2,hE _ _ h3⟩
 |endRangeFunc l=>obtain⟨l',h1,h2,h3⟩:=h;exact⟨l',h1,h2,hE _ _ h3⟩
 |_=>exact h
theorem IR.eq{i i':Item}(h:IR fns E i i')(hE:∀ a b,E a b->a=b):i'=i:=by
 cases i with
 |inRangeFunc l=>obtain⟨l',h1,_,h2⟩:=h;rw[h1,hE _ _ h2]
 |endRangeFunc l=>obtain⟨l',h1,_,h2⟩:=h;rw[h1,hE _ _ h2]
 |_=>exact h
theorem IL.up(hE:∀ a b,E a b->E' a b):∀ {k t:List Item},IL fns E k t->IL fns E' k t
 | [],_,h=>h
 |_::_,_,⟨i',t',h1,h2,h3⟩=>⟨i',t',h1,h2.up hE,IL.up hE h3⟩
theorem IL.eq(hE:∀ a b,E a b->a=b):∀ {k t:List Item},IL fns E k t->t=k
 | [],_,h=>h
 |_::_,_,⟨i',t',h1,h2,h3⟩=>by rw[h1,h2.eq hE,IL.eq hE h3]
structure FR(P:Program)(fns:Fx)(E:Nat->Nat->Prop)(fr fr':Frame):Prop where
 fn:fr'.fn=fr.fn
 tmps:TR fns (o7 P fr.fn) E fr.tmps fr'.tmps
 todo:IL fns E fr.todo fr'.todo
 ok:fr.todo.all (jk P fns (o7 P fr.fn))=true
 d:DL fns E fr.defers fr'.defers
 mode:fr'.mode=fr.mode
 runs:fr.mode=.run\/fr.mode=.returning
 k:fr.kind=.normal
 k':fr'.kind=.normal
 r:OE fns E fr.roundOf fr'.roundOf
 func:∃ fn,P.funcs[fr.fn]?=some fn/\fn.results.all (wM (o7 P fr.fn))=true
 same:fns.rf[fr.fn]?=P.funcs[fr.fn]?
 gs:∀ g,fns.gl g=true->E g g/\fns.pt g=true
theorem FR.up(h:FR P fns E fr fr')(hE:∀ a b,E a b->E' a b):FR P fns E' fr fr':={ h with tmps:=h.tmps.up hE,todo:=h.todo.up hE,d:=h.d.up hE,r:=h.r.up hE,gs:=λg hg=>⟨hE _ _ (h.gs g hg).1,(h.gs g hg).2⟩ }
def Po(fr:Frame):Prop:=(∃ ops i rest k,fr.todo=.inRegion ops (i::rest)::k)\/(∃ l k,fr.todo=.inRangeFunc l::k)\/∃ k,fr.todo=.beginRound::k
def FL(P:Program)(fns:Fx)(E:Nat->Nat->Prop):List (Frame × Frame)->Prop
 | []=>True
 |p::L=>(FR P fns E p.1 p.2/\Po p.1)/\FL P fns E L
def GR(P:Program)(fns:Fx)(E:Nat->Nat->Prop)(T K:List Frame)(g g':Goroutine):Prop :=
 ∃ (fr fr':Frame) (L:List (Frame × Frame)),g=G fr (L.map (·.1)++T)/\g'=G fr' (L.map (·.2)++K)/\FR P fns E fr fr'/\FL P fns E L
def JR(P:Program)(fns:Fx)(E:Nat->Nat->Prop)(T K:List Frame)(g g':Goroutine):Prop :=
 ∃ (f:FuncId) (a a':Array Value) (fr fr':Frame) (L:List (Frame × Frame)),fns.jf f=true/\lJ P fns f=true/\(aV fns E a a'/\wP P fns f a.size=true)/\g=G (Frame.enter P f a .normal) (fr::(L.map (·.1)++T))/\g'=G (Frame.enter (fns.re P) f a' .normal) (fr'::(L.map (·.2)++K)) /\
   (FR P fns E fr fr'/\Po fr)/\FL P fns E L
theorem FL.up(hE:∀ a b,E a b->E' a b):∀ {L:List (Frame × Frame)},FL P fns E L->FL P fns E' L
 | [],_=>trivial
 |_::_,h=>⟨⟨h.1.1.up hE,h.1.2⟩,FL.up hE h.2⟩
def qO(P:Program)(w:World)(fr:Frame):Prop:=(∀ d∈fr.defers,∃ b,d={ target:=.collected b,args:=#[] }/\∀ ds,w.heap[b]?=some (.deferred (some ds))->ds=[])/\∃ fn,P.funcs[fr.fn]?=some fn
def jV(P:Program)(T:List Frame)(g:Goroutine)(w:World):Prop :=
 ∃ (fr:Frame) (L:List Frame) (chain:List PanicEntry),g=G fr (L++T)/\fr.mode=.panicking chain/\qO P w fr/\∀ f∈L,qO P w f
theorem qO.calm{w w':World}(h:qO P w fr)(hc:Calm w w'):qO P w' fr:=⟨λd hd=>by
 obtain⟨b,h1,h2⟩:=h.1 d hd
 exact⟨b,h1,λds e=>(hc b ds e).elim id (h2 ds)⟩,h.2⟩
theorem DL.bare{gh re:World}(hw:WR P fns E Z gh re):∀ {l l':List Deferred},DL fns E l l'->∀ d∈l,∃ b,d={ target:=.collected b,args:=#[] }/\∀ ds,gh.heap[b]?=some (.deferred (some ds))->ds=[]
 | [],_,_,d,hd=>by simp at hd
 |_::_,_,⟨b,b',ds',h1,h2,h3,h4⟩,d,hd=>by
  rcases List.mem_cons.1 hd with rfl|hd
  .refine⟨b,h1,λds e=>?_⟩
   rcases hw.cells _ _ h3.2 with ⟨_,_,_,_,_,k1,_⟩|⟨_,_,_,k1,_⟩|⟨_,o,o',k1,_,k3⟩
   .rw[k1] at e;cases e
   .rw[k1] at e;cases e
   .rw[k1] at e
    cases e
    rcases k3 with ⟨r,x,d,k4,_⟩|⟨d,k4,k5,_⟩
    .cases k4
    .cases k5
     rcases k4 with k4|k4<;>cases k4
     rfl
  .exact DL.bare hw h4 d hd
theorem FR.bare{re:World}(h:FR P fns E fr fr')(hw:WR P fns E Z gh re):qO P gh fr:=⟨h.d.bare hw,h.func.imp λ_ x=>x.1⟩
theorem FL.bare{gh re:World}(hw:WR P fns E Z gh re):∀ {L:List (Frame × Frame)},FL P fns E L->∀ f∈L.map (·.1),qO P gh f
 | [],_,f,hf=>by simp at hf
 |p::L,h,f,hf=>by
  rcases List.mem_cons.1 hf with rfl|hf
  .exact h.1.1.bare hw
  .exact FL.bare hw h.2 f hf
theorem FR.eval(h:FR P fns E fr fr')(x:Operand)(hx:bP fns (o7 P fr.fn) x=true):VR fns E (fr.eval x) (fr'.eval x):=by
 cases x with
 |tmp t =>
  by_cases hfull:fns.full=true
  .exact h.tmps.afk hfull t iN
  .exact h.tmps.getD t (by simpa [bP,hfull] using hx) iN
 |const v=>exact X3 hx
 |global g=>exact aN.2 ⟨_,rfl,cB.2 ⟨_,rfl,(h.gs g hx).1,rfl,rfl,fns.Jq (h.gs g hx).2 _⟩⟩
 |func f=>exact cu.2 ⟨_,_,_,rfl,.inl ⟨rfl,hx⟩,eX,eX⟩
theorem FR.acz(h:FR P fns E fr fr')(x:Operand)(hx:Er fns (o7 P fr.fn) x=true):VZ fns E (fr.eval x) (fr'.eval x):=by
 cases x with
 |tmp t=>exact h.tmps.acy t iN
 |_=>exact .inl (h.eval _ hx)
theorem lM{id:Nat}:∀ {k t k1:List Item},IL fns E k t->exitTo id k=some k1->∃ t1,exitTo id t=some t1/\IL fns E k1 t1
 | [],_,_,_,h=>by simp[exitTo] at h
 |i::k,t,k1,⟨i',t',e,h2,h3⟩,h=>by
  subst e
  cases i with
  |inBlock id' =>
   cases h2
   simp only[exitTo] at h ⊢
   split at h
   .rename_i hid;cases h;rw[if_pos hid];exact⟨_,rfl,h3⟩
   .rename_i hid;rw[if_neg hid];exact lM h3 h
  |inRangeFunc l=>obtain⟨l',rfl,_⟩:=h2;simp only[exitTo] at h ⊢;exact lM h3 h
  |endRangeFunc l=>obtain⟨l',rfl,_⟩:=h2;simp only[exitTo] at h ⊢;exact lM h3 h
  |_=>cases h2;simp only[exitTo] at h ⊢;exact lM h3 h
theorem jA{id:Nat}:∀ {k t:List Item},IL fns E k t->exitTo id k=none->exitTo id t=none
 | [],_,h,_=>by cases h;rfl
 |i::k,t,⟨i',t',e,h2,h3⟩,h=>by
  subst e
  cases i with
  |inBlock id' =>
   cases h2
   simp only[exitTo] at h ⊢
   split at h
   .cases h
   .rename_i hid;rw[if_neg hid];exact jA h3 h
  |inRangeFunc l=>obtain⟨l',rfl,_⟩:=h2;simp only[exitTo] at h ⊢;exact jA h3 h
  |endRangeFunc l=>obtain⟨l',rfl,_⟩:=h2;simp only[exitTo] at h ⊢;exact jA h3 h
  |_=>cases h2;simp only[exitTo] at h ⊢;exact jA h3 h
theorem sM{ia:Nat->Bool}{id:Nat}:∀ {k k':List Item},k.all (jk P fns ia)=true->exitTo id k=some k'->k'.all (jk P fns ia)=true
 | [],k',_,h=>by simp[exitTo] at h
 |i::k,k',hk,h=>by
  simp only[List.all_cons,Bool.and_eq_true] at hk
  unfold exitTo at h
  split at h
  .split at h
   .cases h;exact(by rename_i e;cases e;exact hk.2)
   .rename_i e _;cases e;exact sM hk.2 h
  .rename_i e;cases e;exact sM hk.2 h
  .rename_i e;cases e
theorem BX{ia:Nat->Bool}{l:Nat}:∀ {c r:Code},bT P fns ia c=true->findLabel c l=some r->bT P fns ia r=true:=by
 intro c
 induction c with
 |seq a b iha ihb =>
  intro r hc h
  simp only[bT,Bool.and_eq_true] at hc
  unfold findLabel at h
  split at h
  .rename_i rest hr
   cases h
   simp only[bT,Bool.and_eq_true]
   exact⟨iha hc.1 hr,hc.2⟩
  .exact ihb hc.2 h
 |label l' =>
  intro r hc h
  unfold findLabel at h
  split at h
  .cases h;rfl
  .cases h
 |_=>intro r hc h;simp[findLabel] at h
theorem lN{l:Nat}:∀ {k t k1:List Item},IL fns E k t->gotoIn l k=some k1->∃ t1,gotoIn l t=some t1/\IL fns E k1 t1
 | [],_,_,_,h=>by simp[gotoIn] at h
 |i::k,t,k1,⟨i',t',e,h2,h3⟩,h=>by
  subst e
  cases i with
  |inScope body =>
   cases h2
   simp only[gotoIn] at h ⊢
   cases hr:findLabel body l with
   |some rest =>
    rw[hr] at h
    cases h
    exact⟨_,rfl,_,_,rfl,rfl,_,_,rfl,rfl,h3⟩
   |none=>rw[hr] at h;exact lN h3 h
  |inRangeFunc l=>obtain⟨l',rfl,_⟩:=h2;simp only[gotoIn] at h ⊢;exact lN h3 h
  |endRangeFunc l=>obtain⟨l',rfl,_⟩:=h2;simp only[gotoIn] at h ⊢;exact lN h3 h
  |_=>cases h2;simp only[gotoIn] at h ⊢;exact lN h3 h
theorem jB{l:Nat}:∀ {k t:List Item},IL fns E k t->gotoIn l k=none->gotoIn l t=none
 | [],_,h,_=>by cases h;rfl
 |i::k,t,⟨i',t',e,h2,h3⟩,h=>by
  subst e
  cases i with
  |inScope body =>
   cases h2
   simp only[gotoIn] at h ⊢
   cases hr:findLabel body l with
   |some rest=>rw[hr] at h;cases h
   |none=>rw[hr] at h;exact jB h3 h
  |inRangeFunc l=>obtain⟨l',rfl,_⟩:=h2;simp only[gotoIn] at h ⊢;exact jB h3 h
  |endRangeFunc l=>obtain⟨l',rfl,_⟩:=h2;simp only[gotoIn] at h ⊢;exact jB h3 h
  |_=>cases h2;simp only[gotoIn] at h ⊢;exact jB h3 h
theorem sP{ia:Nat->Bool}{l:Nat}:∀ {k k':List Item},k.all (jk P fns ia)=true->gotoIn l k=some k'->k'.all (jk P fns ia)=true
 | [],k',_,h=>by simp[gotoIn] at h
 |i::k,k',hk,h=>by
  have hk0:=hk
  simp only[List.all_cons,Bool.and_eq_true] at hk
  unfold gotoIn at h
  split at h
  .rename_i body k2 e
   cases e
   split at h
   .rename_i rest hr
    cases h
    simp only[List.all_cons,Bool.and_eq_true]
    exact⟨BX (c:=body) hk.1 hr,hk.1,hk.2⟩
   .exact sP hk.2 h
  .rename_i e;cases e;exact sP hk.2 h
  .rename_i e;cases e
