/- Part of the proof. -/
import Derived.Test.YtjlgehmebfkioaaGreatDoorZ17
import Derived.Conc.Listed
import Derived.Conc.Beside
namespace Go.Proofs.YtjlgehmebfkioaaGreatDoor
open Go Go.Conc
variable {P:Program} {E E' D_:Nat->Nat->Prop} {Z:Nat->Prop} {fns:Fx}
def jh(P:Program)(fns:Fx)(ia:Nat->Bool):Code->Bool
 | .skip | .exit _ | .label _ | .goto _ | .ret=>true
 | .region _ ops _=>ops.all λo=>Dk P fns ia o
 | .seq a b=>jh P fns ia a&&jh P fns ia b
 | .cond c a b=>dh fns ia c&&jh P fns ia a&&jh P fns ia b
 | .block _ b | .loop b | .scope b=>jh P fns ia b
 |_=>false
def jQ(P:Program)(fns:Fx)(ia:Nat->Bool):Item->Bool
 | .code c | .inLoop c | .inScope c=>jh P fns ia c
 | .inBlock _=>true
 | .inRegion ops _=>ops.all λo=>Dk P fns ia o
 |_=>false
def lg(P:Program)(fns:Fx):Prop:=(∀ f,fns.ok f=true->rP P fns f=true)/\(∀ f fn c,fns.ok f=true->P.funcs[f]?=some fn->fn.body=some c->jh P fns (Dj P f) c=true)/\∀ f,fns.ok f=true->fns.jf f=false->fns.rf[f]?=P.funcs[f]?
def gY(P:Program)(fns:Fx):Prop:=lg P fns/\fns.re P=P/\∀ f,fns.jf f=false
def TR(fns:Fx)(ia:Nat->Bool)(E:Nat->Nat->Prop)(x x':Array Value):Prop:=x.size=x'.size/\∀ i (h:i<x.size) (h':i<x'.size),VR fns E x[i] x'[i]\/(ia i=true/\VZ fns E x[i] x'[i])
section
variable {ia:Nat->Bool} {x x':Array Value}
theorem TR.up(h:TR fns ia E x x')(hE:∀ a b,E a b->E' a b):TR fns ia E' x x':=⟨h.1,λi a b=>(h.2 i a b).imp (·.up hE) λy=>⟨y.1,y.2.up hE⟩⟩
theorem TR.of(h:aU fns E x x'):TR fns ia E x x':=⟨h.1,λi a b=>.inl (h.2 i a b)⟩
theorem TR.get?(h:TR fns ia E x x')(i:Nat){v:Value}(hv:x[i]?=some v):∃ v',x'[i]?=some v'/\(VR fns E v v'\/(ia i=true/\VZ fns E v v')):=by
 obtain⟨hi,rfl⟩:=Array.getElem?_eq_some_iff.1 hv
 exact⟨x'[i]'(h.1▸hi),Array.getElem?_eq_getElem _,h.2 i hi _⟩
theorem TR.none(h:TR fns ia E x x')(i:Nat)(hv:x[i]?=none):x'[i]?=none:=by
 rw[Array.getElem?_eq_none_iff] at hv ⊢;have:=h.1;omega
theorem TR.getD(h:TR fns ia E x x')(i:Nat)(hi:ia i=false){d:Value}(hd:VR fns E d d):VR fns E (x.getD i d) (x'.getD i d):=by
 simp only[Array.getD_eq_getD_getElem?]
 cases hx:x[i]? with
 |none=>rw[h.none i hx];exact hd
 |some v =>
  obtain⟨v',e,r⟩:=h.get? i hx
  rw[e]
  rcases r with r|⟨r,_⟩
  .exact r
  .rw[hi] at r;cases r
theorem TR.ae_(h:TR fns ia E x x')(hf:fns.full=true)(i:Nat){d:Value}(hd:VR fns E d d):VR fns E (x.getD i d) (x'.getD i d):=by
 simp only[Array.getD_eq_getD_getElem?]
 cases hx:x[i]? with
 |none=>rw[h.none i hx];exact hd
 |some v =>
  obtain⟨v',e,r⟩:=h.get? i hx
  rw[e]
  exact r.elim id λy=>y.2.full hf
theorem TR.aco(h:TR fns ia E x x')(i:Nat){d:Value}(hd:VR fns E d d):VZ fns E (x.getD i d) (x'.getD i d):=by
 simp only[Array.getD_eq_getD_getElem?]
 cases hx:x[i]? with
 |none=>rw[h.none i hx];exact .inl hd
 |some v =>
  obtain⟨v',e,r⟩:=h.get? i hx
  rw[e]
  exact r.elim .inl (·.2)
theorem TR.ae'(h:TR fns ia E x x')(i:Nat){v v':Value}(hv:VR fns E v v'\/(ia i=true/\VZ fns E v v')):TR fns ia E (x.setIfInBounds i v) (x'.setIfInBounds i v'):=by
 refine⟨by simp[h.1],λj a b=>?_⟩
 simp only[Array.size_setIfInBounds] at a b
 rw[Array.getElem_setIfInBounds,Array.getElem_setIfInBounds]
 split
 .rename_i e;subst e;exact hv
 .exact h.2 j a b
theorem VZ.eq{v v':Value}(h:VZ fns E v v')(hE:∀ a b,E a b->a=b):v'=v:=by
 rcases h with h|⟨a,b,rfl,rfl,h⟩
 .exact h.eq hE
 .rw[AS.eq h hE]
theorem TR.eq(h:TR fns ia E x x')(hE:∀ a b,E a b->a=b):x'=x:=Array.ext h.1.symm λi a b=>(h.2 i b a).elim (·.eq hE) (·.2.eq hE)
end
structure FR(P:Program)(fns:Fx)(E:Nat->Nat->Prop)(k0:List Item)(fr fr':Frame):Prop where
 fn:fr'.fn=fr.fn
 tmps:TR fns (Dj P fr.fn) E fr.tmps fr'.tmps
 todo:fr'.todo=fr.todo++k0
 ok:fr.todo.all (jQ P fns (Dj P fr.fn))=true
 d:fr.defers=[]
 d':fr'.defers=[]
 mode:fr'.mode=fr.mode
 runs:fr.mode=.run\/fr.mode=.returning
 k:fr.kind=.normal
 k':fr'.kind=.normal
 r:fr.roundOf=none
 r':fr'.roundOf=none
 func:∃ fn,P.funcs[fr.fn]?=some fn/\fn.results.all (A_ (Dj P fr.fn))=true
 same:fns.rf[fr.fn]?=P.funcs[fr.fn]?
 gs:∀ g,fns.gl g=true->E g g/\fns.pt g=true
theorem FR.up{k0:List Item}{fr fr':Frame}(h:FR P fns E k0 fr fr')(hE:∀ a b,E a b->E' a b):FR P fns E' k0 fr fr':={ h with tmps:=h.tmps.up hE,gs:=λg hg=>⟨hE _ _ (h.gs g hg).1,(h.gs g hg).2⟩ }
def acp(fr:Frame):Prop:=∃ ops i rest k,fr.todo=.inRegion ops (i::rest)::k
def IZ(L:List (Frame × Frame))(k0:List Item):List Item:=if L.isEmpty then k0 else []
def FL(P:Program)(fns:Fx)(E:Nat->Nat->Prop)(k0:List Item):List (Frame × Frame)->Prop
 | []=>True
 |p::L=>(FR P fns E (IZ L k0) p.1 p.2/\acp p.1)/\FL P fns E k0 L
def GR(P:Program)(fns:Fx)(E:Nat->Nat->Prop)(k0:List Item)(T K:List Frame)(g g':Goroutine):Prop :=
 ∃ (fr fr':Frame) (L:List (Frame × Frame)),g=G fr (L.map (·.1)++T)/\g'=G fr' (L.map (·.2)++K)/\FR P fns E (IZ L k0) fr fr'/\FL P fns E k0 L
def JR(P:Program)(fns:Fx)(E:Nat->Nat->Prop)(k0:List Item)(T K:List Frame)(g g':Goroutine):Prop :=
 ∃ (f:FuncId) (a a':Array Value) (fr fr':Frame) (L:List (Frame × Frame)),fns.jf f=true/\rP P fns f=true/\(aU fns E a a'/\z_ P fns f a.size=true)/\g=G (Frame.enter P f a .normal) (fr::(L.map (·.1)++T))/\g'=G (Frame.enter (fns.re P) f a' .normal) (fr'::(L.map (·.2)++K)) /\
   (FR P fns E (IZ L k0) fr fr'/\acp fr)/\FL P fns E k0 L
theorem FL.up{k0:List Item}(hE:∀ a b,E a b->E' a b):∀ {L:List (Frame × Frame)},FL P fns E k0 L->FL P fns E' k0 L
 | [],_=>trivial
 |_::_,h=>⟨⟨h.1.1.up hE,h.1.2⟩,FL.up hE h.2⟩
def Bb(P:Program)(fr:Frame):Prop:=fr.defers=[]/\∃ fn,P.funcs[fr.fn]?=some fn
def lq(P:Program)(T:List Frame)(g:Goroutine):Prop :=
 ∃ (fr:Frame) (L:List Frame) (chain:List PanicEntry),g=G fr (L++T)/\fr.mode=.panicking chain/\Bb P fr/\∀ f∈L,Bb P f
theorem FR.bare{k0:List Item}{fr fr':Frame}(h:FR P fns E k0 fr fr'):Bb P fr:=⟨h.d,h.func.imp λ_ x=>x.1⟩
theorem FL.bare{k0:List Item}:∀ {L:List (Frame × Frame)},FL P fns E k0 L->∀ f∈L.map (·.1),Bb P f
 | [],_,f,hf=>by simp at hf
 |p::L,h,f,hf=>by
  rcases List.mem_cons.1 hf with rfl|hf
  .exact h.1.1.bare
  .exact FL.bare h.2 f hf
theorem FR.eval{k0:List Item}{fr fr':Frame}(h:FR P fns E k0 fr fr')(x:Operand)(hx:dh fns (Dj P fr.fn) x=true):VR fns E (fr.eval x) (fr'.eval x):=by
 cases x with
 |tmp t =>
  by_cases hfull:fns.full=true
  .exact h.tmps.ae_ hfull t jd
  .exact h.tmps.getD t (by simpa [dh,hfull] using hx) jd
 |const v=>exact jY hx
 |global g=>exact aM.2 ⟨_,rfl,dB.2 ⟨_,rfl,(h.gs g hx).1,rfl,rfl,fns.Ka (h.gs g hx).2 _⟩⟩
 |func f=>exact dA.2 ⟨_,_,rfl,hx,gH,gH⟩
theorem FR.acr{k0:List Item}{fr fr':Frame}(h:FR P fns E k0 fr fr')(x:Operand)(hx:MO fns (Dj P fr.fn) x=true):VZ fns E (fr.eval x) (fr'.eval x):=by
 cases x with
 |tmp t=>exact h.tmps.aco t jd
 |_=>exact .inl (h.eval _ hx)
theorem qA{id:Nat}(k0:List Item):∀ {k k':List Item},exitTo id k=some k'->exitTo id (k++k0)=some (k'++k0)
 | [],k',h=>by simp[exitTo] at h
 |i::k,k',h=>by
  cases i with
  |inBlock id' =>
   simp only[exitTo,List.cons_append] at h ⊢
   split at h
   .cases h;simp_all
   .rename_i hne;simp only[hne];exact qA k0 h
  |_=>simp only[exitTo,List.cons_append] at h ⊢;exact qA k0 h
theorem uH{ia:Nat->Bool}{id:Nat}:∀ {k k':List Item},k.all (jQ P fns ia)=true->exitTo id k=some k'->k'.all (jQ P fns ia)=true
 | [],k',_,h=>by simp[exitTo] at h
 |i::k,k',hk,h=>by
  simp only[List.all_cons,Bool.and_eq_true] at hk
  unfold exitTo at h
  split at h
  .split at h
   .cases h;exact(by rename_i e;cases e;exact hk.2)
   .rename_i e _;cases e;exact uH hk.2 h
  .rename_i e;cases e;exact uH hk.2 h
  .rename_i e;cases e
theorem Dm{ia:Nat->Bool}{l:Nat}:∀ {c r:Code},jh P fns ia c=true->findLabel c l=some r->jh P fns ia r=true:=by
 intro c
 induction c with
 |seq a b iha ihb =>
  intro r hc h
  simp only[jh,Bool.and_eq_true] at hc
  unfold findLabel at h
  split at h
  .rename_i rest hr
   cases h
   simp only[jh,Bool.and_eq_true]
   exact⟨iha hc.1 hr,hc.2⟩
  .exact ihb hc.2 h
 |label l' =>
  intro r hc h
  unfold findLabel at h
  split at h
  .cases h;rfl
  .cases h
 |_=>intro r hc h;simp[findLabel] at h
theorem qB{l:Nat}(k0:List Item):∀ {k k':List Item},gotoIn l k=some k'->gotoIn l (k++k0)=some (k'++k0)
 | [],k',h=>by simp[gotoIn] at h
 |i::k,k',h=>by
  cases i with
  |inScope body =>
   simp only[gotoIn,List.cons_append] at h ⊢
   cases hr:findLabel body l with
   |some rest=>rw[hr] at h;cases h;rfl
   |none=>rw[hr] at h;exact qB k0 h
  |_=>simp only[gotoIn,List.cons_append] at h ⊢;exact qB k0 h
theorem uI{ia:Nat->Bool}{l:Nat}:∀ {k k':List Item},k.all (jQ P fns ia)=true->gotoIn l k=some k'->k'.all (jQ P fns ia)=true
 | [],k',_,h=>by simp[gotoIn] at h
 |i::k,k',hk,h=>by
  have hk0:=hk
  simp only[List.all_cons,Bool.and_eq_true] at hk
  unfold gotoIn at h
  split at h
  .rename_i body k2 e
   cases e
   split at h
   .rename_i rest hr
    cases h
    simp only[List.all_cons,Bool.and_eq_true]
    exact⟨Dm (c:=body) hk.1 hr,hk.1,hk.2⟩
   .exact uI hk.2 h
  .rename_i e;cases e;exact uI hk.2 h
  .rename_i e;cases e
variable {P:Program} {E E' D_:Nat->Nat->Prop} {Z:Nat->Prop} {fns:Fx} {T K:List Frame} {main:Bool} {gh re:World} {k0:List Item}
def Ans(P:Program)(fns:Fx)(Z:Nat->Prop)(k0:List Item)(T K:List Frame)(E:Nat->Nat->Prop)(gh re:World)(g1:Goroutine)(jo:World)(s':GStep):Prop :=
 Same gh jo re->∃ E' g1' re' es',s'=.go g1' re' es'/\Out P fns E E' Z gh re jo re'/\(GR P fns E' k0 T K g1 g1'\/JR P fns E' k0 T K g1 g1')/\∀ e∈es',zZ E' Z e
def uJ(P:Program)(fns:Fx)(Z:Nat->Prop)(k0:List Item)(T K:List Frame)(E:Nat->Nat->Prop)(gh re:World)(s s':GStep):Prop :=
 match s with
 | .go g1 jo _=>Ans P fns Z k0 T K E gh re g1 jo s'\/lq P T g1\/∃ c v,T=[c]/\g1=G (c.finish v) []
 | .ended _ _ _=>True
 |_=>False
theorem FR.to{kk:List Item}{fr fr':Frame}(h:FR P fns E kk fr fr'){k:List Item}(hk:k.all (jQ P fns (Dj P fr.fn))=true):FR P fns E kk { fr with todo:=k } { fr' with todo:=k++kk } :=
 { h with todo:=rfl,ok:=hk }
theorem ji{fr fr':Frame}{L:List (Frame × Frame)}(hF:FR P fns E (IZ L k0) fr fr')(hL:FL P fns E k0 L)(hw:WR P fns E Z gh re){k:List Item}(hk:k.all (jQ P fns (Dj P fr.fn))=true) :
 Ans P fns Z k0 T K E gh re (G { fr with todo:=k } (L.map (·.1)++T)) gh (.go (G { fr' with todo:=k++IZ L k0 } (L.map (·.2)++K)) re) :=
 λ_=>⟨E,_,re,#[],rfl,Out.refl hw,.inl ⟨_,_,L,rfl,rfl,hF.to hk,hL⟩,λe he=>by simp at he⟩
theorem Km{fr fr':Frame}{L:List (Frame × Frame)}(hF:FR P fns E (IZ L k0) fr fr')(hL:FL P fns E k0 L)(hw:WR P fns E Z gh re) :
 Ans P fns Z k0 T K E gh re (G { fr with mode:=.returning } (L.map (·.1)++T)) gh (.go (G { fr' with mode:=.returning } (L.map (·.2)++K)) re) :=
 λ_=>⟨E,_,re,#[],rfl,Out.refl hw,.inl ⟨_,_,L,rfl,rfl,{ hF with mode:=rfl,runs:=.inr rfl },hL⟩,λe he=>by simp at he⟩
theorem FR.Ko{kk:List Item}{fr fr':Frame}(h:FR P fns E kk fr fr'){ops:Array Oper}{i:Nat}{rest:List Nat}{k:List Item}(ht:fr.todo=.inRegion ops (i::rest)::k){v v':Value}(hv:VR fns E v v'\/(((ops[i]?).bind (·.dst)).all (Dj P fr.fn)=true/\VZ fns E v v')):FR P fns E kk (fr.finish v) (fr'.finish v'):=by
 have ht':fr'.todo=.inRegion ops (i::rest)::(k++kk):=by rw[h.todo,ht];rfl
 have hok:=h.ok
 rw[ht] at hok
 simp only[List.all_cons,Bool.and_eq_true] at hok
 have e1:fr.finish v={ fr with tmps:=(match (ops[i]?).bind (·.dst) with|some d=>fr.tmps.setIfInBounds d v|none=>fr.tmps),todo:=.inRegion ops rest::k }:=by
  unfold Frame.finish;simp only[ht];cases (ops[i]?).bind (·.dst)<;>rfl
 have e2:fr'.finish v'={ fr' with tmps:=(match (ops[i]?).bind (·.dst) with|some d=>fr'.tmps.setIfInBounds d v'|none=>fr'.tmps),todo:=.inRegion ops rest::(k++kk) }:=by
  unfold Frame.finish;simp only[ht'];cases (ops[i]?).bind (·.dst)<;>rfl
 rw[e1,e2]
 refine { h with todo:=rfl,tmps:=?_,ok:=?_ }
 rotate_left
 .simp only[List.all_cons,Bool.and_eq_true];exact⟨hok.1,hok.2⟩
 .dsimp only
  split
  .rename_i d hd
   refine h.tmps.ae' _ (hv.imp id λy=>⟨?_,y.2⟩)
   have:=y.1
   rw[hd] at this
   exact this
  .exact h.tmps
theorem FR.finish{kk:List Item}{fr fr':Frame}(h:FR P fns E kk fr fr'){ops:Array Oper}{i:Nat}{rest:List Nat}{k:List Item}(ht:fr.todo=.inRegion ops (i::rest)::k){v v':Value}(hv:VR fns E v v'):FR P fns E kk (fr.finish v) (fr'.finish v'):=h.Ko ht (.inl hv)
theorem FR.enter(hp:lg P fns){f:FuncId}(hf:rP P fns f=true)(hj:fns.jf f=false)(hgs:∀ g,fns.gl g=true->E g g/\fns.pt g=true){a a':Array Value}(ha:aU fns E a a'):FR P fns E [] (Frame.enter P f a .normal) (Frame.enter (fns.re P) f a' .normal):=by
 unfold rP at hf
 cases hfn:P.funcs[f]? with
 |none=>rw[hfn] at hf;simp at hf
 |some fn =>
  rw[hfn] at hf
  simp only[Bool.and_eq_true] at hf
  obtain⟨⟨h1,_⟩,⟨h2,h3⟩,h4⟩:=hf
  obtain⟨c,hc⟩:=Option.isSome_iff_exists.1 h3
  have hsame:=hp.2.2 f h1 hj
  have hre:(fns.re P).funcs[f]?=some fn:=hsame.trans hfn
  refine⟨rfl,?_,?_,?_,rfl,rfl,rfl,.inl rfl,rfl,rfl,rfl,rfl,⟨fn,hfn,h4⟩,hsame,hgs⟩
  .refine TR.of ?_
   show aU fns E (a++_) (a'++_)
   rw[ha.1,hre,hfn]
   exact ha.append (aU.rep jd)
  .show [_]=[_]++[]
   rw[hre,hfn]
   rfl
  .show (List.all [_] _)=true
   simp only[List.all_cons,List.all_nil,Bool.and_true,hfn,Option.bind_some,hc,Option.getD_some]
   exact hp.2.1 f fn c h1 hfn hc
theorem yU{v v':Value}(hv:VR fns E v v'):(match some v' with|some (Value.bool b)=>some b|_=>none)=(match some v with|some (Value.bool b)=>some b|_=>none):=by
 cases v with
 |bool b=>rw[mD] at hv;subst hv;rfl
 |pointer a=>obtain⟨b,rfl,_⟩:=aM.1 hv;rfl
 |slice a l c=>obtain⟨b,rfl,_⟩:=aJ.1 hv;rfl
 |map r=>obtain⟨_,rfl⟩:=fE.1 hv;rfl
 |chan r=>obtain⟨_,rfl⟩:=dJ.1 hv;rfl
 |func f x y=>obtain⟨x',y',rfl,_⟩:=dA.1 hv;rfl
 |iface t u=>obtain⟨u',rfl,_⟩:=bE.1 hv;rfl
 |agg x=>obtain⟨x',rfl,_⟩:=bX.1 hv;rfl
 |tuple x=>obtain⟨x',rfl,_⟩:=bK.1 hv;rfl
 |float=>exact(b_ hv).elim
 |complex=>exact(bO hv).elim
 |_=>rw[VR] at hv;subst hv;rfl
theorem Aa{ia:Nat->Bool}{x x':Array Value}(h:TR fns ia E x x')(ops:Array Oper):yielded ops x'=yielded ops x:=by
 funext j
 unfold yielded
 cases (ops[j]?).bind (·.dst) with
 |none=>rfl
 |some d =>
  simp only[Option.bind_some]
  cases hx:x[d]? with
  |none=>rw[h.none d hx]
  |some v =>
   obtain⟨v',e,hv⟩:=h.get? d hx
   rw[e]
   rcases hv with hv|⟨_,hv⟩
   rotate_left
   .rcases hv with hv|⟨a,b,rfl,rfl,_⟩
    .exact yU hv
    .rfl
   exact yU hv
theorem yV{fr:Frame}(h:Bb P fr)(vs:List PanicEntry):∃ ch,(fr.raise vs).mode=.panicking ch/\Bb P (fr.raise vs):=by
 unfold Frame.raise
 split
 .exact⟨_,rfl,h⟩
 .exact⟨_,rfl,h⟩
theorem MQ(hp:lg P fns){fr fr':Frame}{L:List (Frame × Frame)}(hF:FR P fns E (IZ L k0) fr fr')(hL:FL P fns E k0 L)(hw:WR P fns E Z gh re)
 {ops:Array Oper} {i:Nat} {rest:List Nat} {k:List Item} (ht:fr.todo=.inRegion ops (i::rest)::k) {s s':Sem Next} (hs:ak P fns Z E s s' (λE' n n'=>P7 P fns (Dj P fr.fn) ((ops[i]?).bind (·.dst)) E' n n')) :
 uJ P fns Z k0 T K E gh re (stepG.apply P true fr (L.map (·.1)++T) none s gh) (stepG.apply (fns.re P) true fr' (L.map (·.2)++K) none s' re):=by
 have ht':fr'.todo=.inRegion ops (i::rest)::(k++IZ L k0):=by rw[hF.todo,ht];rfl
 have hk:(fr.kind==CallKind.early)=false:=by rw[hF.k];rfl
 have hk':(fr'.kind==CallKind.early)=false:=by rw[hF.k'];rfl
 have hnext:∀ n jo,s.run P gh=.ok n jo->∃ E' n',P7 P fns (Dj P fr.fn) ((ops[i]?).bind (·.dst)) E' n n':=λn jo e=>by
  have h:=hs gh { re with tape:=λi=>gh.tape (gh.drawn+(i-re.drawn)) } ⟨hw.jE,hw.jM,hw.kL,hw.mP,hw.glob,hw.inj,hw.cells⟩
  rw[e] at h
  obtain⟨E',n',_,_,_,hn,_⟩:=h (λj _=>by simp)
  exact⟨E',n',hn⟩
 have hs:=hs gh re hw
 unfold stepG.apply
 simp only[Sem.runT_eq,if_true,hk,hk',ht,ht',Bool.false_eq_true,if_false]
 cases hr:s.run P gh with
 |halt h w =>
  rw[hr] at hs
  simp only at hs
  cases h with
  |panic v =>
   obtain⟨ch,h1,h2⟩:=yV hF.bare [{ v,recovered:=false }]
   exact .inr (.inl ⟨fr.raise [{ v,recovered:=false }],L.map (·.1),ch,rfl,h1,h2,hL.bare⟩)
  |stuck w=>exact trivial
  |unsupported u =>
   cases u with
   |initOrder g=>cases hs
   |_=>exact trivial
  |_=>cases hs
 |ok n jo =>
  rw[hr] at hs
  simp only at hs
  cases n with
  |value v =>
   refine .inl λsame=>?_
   obtain⟨E',n',re',e1,e2,hn,e4⟩:=hs same
   obtain⟨v',rfl,hv⟩:∃ v',n'=.value v'/\(VR fns E' v v'\/(((ops[i]?).bind (·.dst)).all (Dj P fr.fn)=true/\VZ fns E' v v')):=by
    rcases hn with ⟨v',rfl,hv⟩|⟨hd,u,v',h1,rfl,hv⟩
    .exact⟨v',rfl,.inl hv⟩
    .cases h1;exact⟨v',rfl,.inr ⟨hd,hv⟩⟩
   rw[e1]
   exact⟨E',_,re',_,rfl,e2,.inl ⟨_,_,L,rfl,rfl,(hF.up e2.up).Ko ht hv,hL.up e2.up⟩,λe he=>(e4 #[] e (mem_seen (by simpa [GStep.after] using he))).resolve_left (by simp)⟩
  |skip =>
   refine .inl λsame=>?_
   obtain⟨E',n',re',e1,e2,e3,e4⟩:=hs same
   obtain rfl:n'=.skip:=by
    rcases e3 with h|⟨_,u,v',h1,_⟩
    .exact h
    .cases h1
   rw[e1]
   exact⟨E',_,re',_,rfl,e2,.inl ⟨_,_,L,rfl,rfl,(hF.up e2.up).finish ht jd,hL.up e2.up⟩,λe he=>(e4 #[] e (mem_seen (by simpa [GStep.after] using he))).resolve_left (by simp)⟩
  |enter f a =>
   refine .inl λsame=>?_
   obtain⟨E',n',re',e1,e2,hn,e4⟩:=hs same
   obtain⟨a',rfl,hf,ha,har⟩:∃ a',n'=.enter f a'/\rP P fns f=true/\aU fns E' a a'/\z_ P fns f a.size=true:=by
    rcases hn with h|⟨_,u,v',h1,_⟩
    .exact h
    .cases h1
   rw[e1]
   have hgr:GR P fns E' k0 T K (G (Frame.enter P f a .normal) (fr::(L.map (·.1)++T))) (G (Frame.enter (fns.re P) f a' .normal) (fr'::(L.map (·.2)++K)))\/JR P fns E' k0 T K (G (Frame.enter P f a .normal) (fr::(L.map (·.1)++T))) (G (Frame.enter (fns.re P) f a' .normal) (fr'::(L.map (·.2)++K))):=by
    cases hj:fns.jf f with
    |false=>exact .inl ⟨_,_,(fr,fr')::L,rfl,rfl,FR.enter hp hf hj (hF.up e2.up).gs ha,⟨hF.up e2.up,_,_,_,_,ht⟩,hL.up e2.up⟩
    |true=>exact .inr ⟨f,a,a',fr,fr',L,hj,hf,⟨ha,har⟩,rfl,rfl,⟨hF.up e2.up,_,_,_,_,ht⟩,hL.up e2.up⟩
   exact⟨E',_,re',_,rfl,e2,hgr,λe he=>(e4 #[] e (mem_seen (by simpa [GStep.after] using he))).resolve_left (by simp)⟩
  |_ =>
   obtain⟨_,_,h⟩:=hnext _ _ hr
   rcases h with h|⟨_,u,v',h1,_⟩
   .exact h.elim
   .cases h1
theorem ak.T9{v v':Value}(hv:VZ fns E v v'):ak P fns Z E (Go.asAddr v) (Go.asAddr v') (λE' a a'=>AS fns E' a a'):=by
 rcases hv with hv|⟨a,b,rfl,rfl,h⟩
 .exact(ak.asAddr hv).mono λ_ _ _ _ h=>h.as
 .exact ak.pure h
theorem ak.acs{α:Type}{f f':α->Sem Value}(x:Array α)(hf:∀ mQ,(∀ a b,E a b->mQ a b)->∀ a∈x,ak P fns Z mQ (f a) (f' a) (λE' v v'=>VR fns E' v v')):ak P fns Z E (x.mapM f) (x.mapM f') (λE' x x'=>aU fns E' x x'):=by
 rw[Array.mapM_eq_mapM_toList,Array.mapM_eq_mapM_toList]
 have key:∀ (l:List α),(∀ a∈l,a∈x)->∀ {mQ:Nat->Nat->Prop},(∀ a b,E a b->mQ a b)->ak P fns Z mQ (l.mapM f) (l.mapM f') (λE' x x'=>aU fns E' x.toArray x'.toArray):=by
  intro l
  induction l with
  |nil=>intro _ mQ _;simp only[List.mapM_nil];exact ak.pure gH
  |cons a l ih =>
   intro hl mQ up
   simp only[List.mapM_cons]
   refine ak.bind (hf mQ up a (hl a (by simp))) λE2 v v' dW hv=>?_
   refine ak.bind (ih (λy hy=>hl y (by simp[hy])) λa b h=>dW _ _ (up a b h)) λE3 y y' gJ hy=>ak.pure ?_
   have:=(fO (hv.up gJ)).append hy
   simpa using this
 refine ak.bind (Φ:=λE' x x'=>aU fns E' x.toArray x'.toArray) (key _ (λa ha=>by simpa using ha) λ_ _ h=>h) λE1 x y up h=>ak.pure h
theorem ak.results{ia:Nat->Bool}(fn:Func)(hres:fn.results.all (A_ ia)=true){x x':Array Value}(hx:TR fns ia E x x'):ak P fns Z E (Go.results fn x) (Go.results fn x') (λE' v v'=>VR fns E' v v'):=by
 unfold Go.results
 refine ak.bind (ak.acs _ (λmQ up a ha=>?_)) λE1 y y' up hy=>ak.pure ?_
 .have hok:A_ ia a=true:=by
   rw[Array.all_eq_true] at hres
   obtain⟨k,hk,rfl⟩:=Array.mem_iff_getElem.1 ha
   exact hres k hk
  cases a with
  |tmp t=>exact ak.pure ((hx.up up).getD t (by simpa [A_] using hok) jd)
  |cell a t=>exact ak.bind (ak.T9 ((hx.up up).aco a jd)) λE2 b b' dW hb=>ak.loadVar t hb
 .by_cases h:y.size=1
  .have h':y'.size=1:=hy.1▸h
   rw[dif_pos h,dif_pos h']
   exact hy.2 0 _ _
  .have h':¬y'.size=1:=hy.1▸h
   rw[dif_neg h,dif_neg h']
   exact bK.2 ⟨_,rfl,hy⟩
variable {P:Program} {E E' D_:Nat->Nat->Prop} {Z:Nat->Prop} {fns:Fx} {T K:List Frame} {main:Bool} {gh re:World} {k0:List Item}
theorem uL{fr:Frame}{cs:List Frame}{w:World}(h:fr.mode=.run):stepG P main (G fr cs) w=stepG.exec P main true fr cs none w:=by
 simp only[G,stepG,h]
theorem lY{fr:Frame}{cs:List Frame}{w:World}(h:fr.mode=.returning):stepG P main (G fr cs) w=unwind P main fr cs none w:=by
 simp only[G,stepG,h]
theorem T_(hz:zeros P fns)(fP:0<P.depth)(hp:lg P fns){fr fr':Frame}{L:List (Frame × Frame)}(hF:FR P fns E (IZ L k0) fr fr')(hL:FL P fns E k0 L)(hw:WR P fns E Z gh re)(hnil:fr.todo=[]->IZ L k0=[]) :
 uJ P fns Z k0 T K E gh re (stepG.exec P true true fr (L.map (·.1)++T) none gh) (stepG.exec (fns.re P) main true fr' (L.map (·.2)++K) none re):=by
 obtain⟨fn,tm,td,df,md,kd,ro⟩:=fr
 obtain⟨fn',tm',td',df',md',kd',ro'⟩:=fr'
 have htd:td'=td++IZ L k0:=hF.todo
 subst htd
 have hok:td.all (jQ P fns (Dj P fn))=true:=hF.ok
 have hr:ro=none:=hF.r
 subst hr
 have hr':ro'=none:=hF.r'
 subst hr'
 cases td with
 |nil =>
  have hk:=hnil rfl
  simp only[stepG.exec,hk,List.append_nil,if_true]
  have:=Km (T:=T) (K:=K) hF hL hw
  simp only[hk,List.append_nil] at this
  exact .inl this
 |cons i k =>
  simp only[List.all_cons,Bool.and_eq_true] at hok
  cases i with
  |code c =>
   cases c with
   |skip=>simp only[stepG.exec,List.cons_append];exact .inl (ji hF hL hw hok.2)
   |label l=>simp only[stepG.exec,List.cons_append];exact .inl (ji hF hL hw hok.2)
   |ret=>simp only[stepG.exec,List.cons_append,if_true];exact .inl (Km hF hL hw)
   |seq a b =>
    have h1:=hok.1
    simp only[jQ,jh,Bool.and_eq_true] at h1
    simp only[stepG.exec,List.cons_append]
    exact .inl (ji hF hL hw (by simp only[List.all_cons,Bool.and_eq_true];exact⟨h1.1,h1.2,hok.2⟩))
   |cond c a b =>
    have h1:=hok.1
    simp only[jQ,jh,Bool.and_eq_true] at h1
    have hv:=hF.eval c h1.1.1
    simp only[stepG.exec,List.cons_append]
    generalize he:Frame.eval _ c=v at hv ⊢
    cases v with
    |bool t =>
     rw[mD] at hv
     simp only[List.cons_append] at hv
     rw[hv]
     refine .inl (ji hF hL hw ?_)
     simp only[List.all_cons,Bool.and_eq_true]
     refine⟨?_,hok.2⟩
     cases t
     .exact h1.2
     .exact h1.1.2
    |_=>exact trivial
   |block id b=>simp only[stepG.exec,List.cons_append];exact .inl (ji hF hL hw (by simp only[List.all_cons,Bool.and_eq_true];exact⟨hok.1,rfl,hok.2⟩))
   |loop b=>simp only[stepG.exec,List.cons_append];exact .inl (ji hF hL hw (by simp only[List.all_cons,Bool.and_eq_true];exact⟨hok.1,hok.1,hok.2⟩))
   |scope b=>simp only[stepG.exec,List.cons_append];exact .inl (ji hF hL hw (by simp only[List.all_cons,Bool.and_eq_true];exact⟨hok.1,hok.1,hok.2⟩))
   |exit id =>
    simp only[stepG.exec,List.cons_append]
    cases hx:exitTo id k with
    |none=>exact trivial
    |some k'=>rw[qA _ hx];exact .inl (ji hF hL hw (uH hok.2 hx))
   |goto l =>
    simp only[stepG.exec,List.cons_append]
    cases hx:gotoIn l k with
    |none=>exact trivial
    |some k'=>rw[qB _ hx];exact .inl (ji hF hL hw (uI hok.2 hx))
   |region id ops draw =>
    have h1:jQ P fns (Dj P fn) (.inRegion ops (List.range ops.size))=true:=hok.1
    simp only[stepG.exec,List.cons_append]
    cases draw with
    |false=>exact .inl (ji hF hL hw (by simp only[List.all_cons,Bool.and_eq_true];exact⟨h1,hok.2⟩))
    |true =>
     simp only[Bool.not_true,Bool.false_eq_true,if_false,run_choose,Question.forced,Question.cut]
     refine .inl λsame=>?_
     have e0:=same 0 (by simp)
     simp only[Nat.add_zero] at e0
     have efn:fn'=fn:=hF.fn
     rw[e0,efn]
     rw[efn] at hF
     refine⟨E,_,{ re with drawn:=re.drawn+1 },#[],rfl,?_,.inl ⟨_,_,L,rfl,rfl,hF.to (k:=.inRegion ops _::k) (by simp only[List.all_cons,Bool.and_eq_true];exact⟨hok.1,hok.2⟩),hL⟩,λe he=>by simp at he⟩
     exact⟨λ_ _ x=>x,⟨hw.jE,hw.jM,hw.kL,hw.mP,hw.glob,hw.inj,hw.cells⟩,λ_ _ x=>.inl x,Nat.le_refl _,Nat.le_refl _,rfl,rfl,by simp,by simp,rfl,rfl,rfl,rfl,λ_ _ _=>rfl,λ_ _ _=>rfl,Nat.add_comm _ _,λi hi=>by simp at hi;omega⟩
   |_=>cases hok.1
  |inBlock id=>simp only[stepG.exec,List.cons_append];exact .inl (ji hF hL hw hok.2)
  |inScope b=>simp only[stepG.exec,List.cons_append];exact .inl (ji hF hL hw hok.2)
  |inLoop b=>simp only[stepG.exec,List.cons_append];exact .inl (ji hF hL hw (by simp only[List.all_cons,Bool.and_eq_true];exact⟨hok.1,hok.1,hok.2⟩))
  |inRegion ops todo =>
   cases todo with
   |nil=>simp only[stepG.exec,List.cons_append];exact .inl (ji hF hL hw hok.2)
   |cons i rest =>
    simp only[stepG.exec,List.cons_append]
    rw[Aa hF.tmps]
    split
    .rename_i hwant
     unfold stepG.oper
     cases ho:ops[i]? with
     |none=>rw[ho] at hwant;simp at hwant
     |some o =>
      simp only[Frame.oper?,ho]
      refine MQ hp hF hL hw rfl (by rw[ho];exact ak.execOp hz fP hp.1 (λx hx=>hF.eval x hx) (λx hx=>hF.acr x hx) (λv=>rfl) (λf=>⟨rfl,rfl⟩) o (by
      have h1:=hok.1
      simp only[jQ,Array.all_eq_true] at h1
      obtain⟨hlt,rfl⟩:=Array.getElem?_eq_some_iff.1 ho
      exact h1 i hlt))
    .refine .inl λ_=>?_
     exact⟨E,_,re,#[],rfl,Out.refl hw,.inl ⟨_,_,L,rfl,rfl,hF.finish rfl jd,hL⟩,λe he=>by simp at he⟩
  |_=>cases hok.1
theorem Ua{fr fr':Frame}{c c':Frame}{L:List (Frame × Frame)}(hF:FR P fns E [] fr fr')(hL:FL P fns E k0 ((c,c')::L))(hw:WR P fns E Z gh re)(hm:fr.mode=.returning) :
 uJ P fns Z k0 T K E gh re (unwind P true fr (c::(L.map (·.1)++T)) none gh) (unwind (fns.re P) main fr' (c'::(L.map (·.2)++K)) none re):=by
 obtain⟨f,hf,hres⟩:=hF.func
 have hf':(fns.re P).funcs[fr'.fn]?=some f:=by rw[hF.fn];exact hF.same.trans hf
 have hm':fr'.mode=.returning:=hF.mode.trans hm
 have hs:=ak.results (P:=P) (Z:=Z) f hres hF.tmps gh re hw
 unfold unwind
 simp only[hF.d,hF.d',hm,hm',hf,hf',Sem.runT_eq]
 cases hr:(results f fr.tmps).run P gh with
 |halt h w=>cases h<;>exact trivial
 |ok v jo =>
  rw[hr] at hs
  simp only[doReturn,hF.k]
  refine .inl λsame=>?_
  obtain⟨E',v',re',e1,e2,e3,e4⟩:=hs same
  rw[e1]
  simp only[hF.k']
  obtain⟨⟨hc1,ops,i,rest,k,ht⟩,hL2⟩:=hL
  exact⟨E',_,re',_,rfl,e2,.inl ⟨_,_,L,rfl,rfl,(hc1.up e2.up).finish ht e3,hL2.up e2.up⟩,λe he=>(e4 #[] e (mem_seen (by simpa [GStep.after] using he))).resolve_left (by simp)⟩
theorem Qb{fr fr':Frame}{kk:List Item}{c:Frame}{s':GStep}(hF:FR P fns E kk fr fr')(hm:fr.mode=.returning):uJ P fns Z k0 [c] K E gh re (unwind P true fr [c] none gh) s':=by
 obtain⟨f,hf,_⟩:=hF.func
 unfold unwind
 simp only[hF.d,hm,hf,Sem.runT_eq]
 cases hr:(results f fr.tmps).run P gh with
 |halt h w=>cases h<;>exact trivial
 |ok v jo =>
  simp only[doReturn,hF.k]
  exact .inr (.inr ⟨c,v,rfl,rfl⟩)
def dH(md:Bool)(T:List Frame)(g:Goroutine):Prop:=g.callers=T/\if md then g.frame.mode=.returning else g.frame.mode=.run/\g.frame.todo=[]
theorem rQ(hz:zeros P fns)(fP:0<P.depth)(hp:lg P fns){md:Bool}(hk:md=true->k0=[]){c:Frame}{g g':Goroutine}(hg:GR P fns E k0 [c] K g g')(hw:WR P fns E Z gh re)(hs:¬dH md [c] g) :
 uJ P fns Z k0 [c] K E gh re (stepG P true g gh) (stepG (fns.re P) main g' re):=by
 obtain⟨fr,fr',L,rfl,rfl,hF,hL⟩:=hg
 rcases hF.runs with hm|hm
 .rw[uL hm,uL (hF.mode.trans hm)]
  refine T_ hz fP hp hF hL hw λht=>?_
  cases L with
  |cons p L=>rfl
  |nil =>
   cases md with
   |true=>exact hk rfl
   |false=>exact(hs ⟨rfl,hm,ht⟩).elim
 .rw[lY hm,lY (hF.mode.trans hm)]
  cases L with
  |nil=>exact Qb hF hm
  |cons c L=>exact Ua hF hL hw hm
theorem vg{g:Goroutine}(h:lq P T g)(w:World):(∃ g1,stepG P true g w=.go g1 w/\lq P T g1)\/∃ fr chain,g=G fr T/\fr.mode=.panicking chain/\∀ c cs,T=c::cs->stepG P true g w=.go (G (c.raise chain) cs) w:=by
 obtain⟨fr,L,chain,rfl,hm,⟨hd,f,hf⟩,hL⟩:=h
 have hc:fr.catches P=false:=by simp only[Frame.catches,hf]
 cases L with
 |nil =>
  refine .inr ⟨fr,chain,rfl,hm,λc cs e=>?_⟩
  subst e
  simp only[List.nil_append,G,stepG,hm,unwind,hd,hc,Bool.false_eq_true,if_false]
 |cons c L =>
  obtain⟨ch,h1,h2⟩:=yV (hL c (by simp)) chain
  refine .inl ⟨G (c.raise chain) (L++T),?_,_,L,ch,rfl,h1,h2,λf hf=>hL f (by simp[hf])⟩
  simp only[List.cons_append,G,stepG,hm,unwind,hd,hc,Bool.false_eq_true,if_false]
def eU(w:World)(t:Nat->Question->Nat)(d:Nat):World:={ w with tape:=t,drawn:=d }
def aL:Frame:={ fn:=0,tmps:=#[],todo:=[.code (.refuse "")],defers:=[{ target:=.nil,args:=#[] }],mode:=.run,kind:=.normal }
variable {P:Program} {E E' D_:Nat->Nat->Prop} {Z:Nat->Prop} {fns:Fx} {T K:List Frame} {main:Bool} {gh re:World}
theorem FR.eq{fr fr':Frame}(h:FR P fns E [] fr fr')(hE:∀ a b,E a b->a=b):fr'=fr:=by
 obtain⟨f1,f2,f3,f4,f5,f6,f7⟩:=fr
 obtain⟨g1,g2,g3,g4,g5,g6,g7⟩:=fr'
 have a1:=h.fn
 have a2:=h.tmps.eq hE
 have a3:=h.todo
 rw[List.append_nil] at a3
 have a4:=h.d
 have a5:=h.d'
 have a6:=h.mode
 have a7:=h.k
 have a8:=h.k'
 have a9:=h.r
 have WI:=h.r'
 simp only at a1 a2 a3 a4 a5 a6 a7 a8 a9 WI
 subst a1 a2 a3 a4 a5 a6 a7 a8 a9 WI
 rfl
theorem rR(L:List (Frame × Frame)):IZ L []=[]:=by unfold IZ;split<;>rfl
theorem FL.eq(hE:∀ a b,E a b->a=b):∀ {L:List (Frame × Frame)},FL P fns E [] L->L.map (·.2)=L.map (·.1)
 | [],_=>rfl
 |p::L,h=>by
  have h1:=h.1.1
  rw[rR] at h1
  simp only[List.map_cons,h1.eq hE,FL.eq hE h.2]
theorem GR.eq{g g':Goroutine}(h:GR P fns E [] T T g g')(hE:∀ a b,E a b->a=b):g'=g:=by
 obtain⟨fr,fr',L,rfl,rfl,hF,hL⟩:=h
 rw[rR] at hF
 rw[hF.eq hE,hL.eq hE]
def Cl(P:Program)(fns:Fx)(Z:Nat->Prop)(T:List Frame)(g:Goroutine)(w:World):Prop :=
 ∃ E:Nat->Nat->Prop,(∀ a b,E a b->a=b)/\GR P fns E [] T T g g/\WR P fns E Z w w
theorem WR.on{w:World}(h:WR P fns E Z w w)(t:Nat->Question->Nat)(d:Nat)(t':Nat->Question->Nat)(d':Nat):WR P fns E Z (eU w t d) (eU w t' d'):=⟨h.jE,h.jM,h.kL,h.mP,h.glob,h.inj,h.cells⟩
theorem Cl.on{g:Goroutine}{w:World}(h:Cl P fns Z T g w)(t:Nat->Question->Nat)(d:Nat):Cl P fns Z T g (eU w t d) :=
 let ⟨E,h1,h2,h3⟩:=h;⟨E,h1,h2,h3.on t d t d⟩
theorem Gf{a b:Array Obj}(h:a.size=b.size)(hx:∀ i,i<a.size->a[i]?=b[i]?):a=b:=by
 refine Array.ext h λi h1 h2=>?_
 have:=hx i h1
 rw[Array.getElem?_eq_getElem h1,Array.getElem?_eq_getElem h2] at this
 exact Option.some.inj this
theorem Kq{k0:List Item}{g g':Goroutine}(hp:gY P fns)(h:JR P fns E k0 T K g g'):False:=by
 obtain⟨f,_,_,_,_,_,hj,_⟩:=h
 rw[hp.2.2 f] at hj
 cases hj
theorem Qc(hz:zeros P fns)(fP:0<P.depth)(hp:gY P fns){md:Bool}{g g1:Goroutine}{w w1:World}{es:Array Event}(hc:Cl P fns Z [aL] g w)(hs:¬dH md [aL] g)(h:stepG P true g w=.go g1 w1 es) :
 (lq P [aL] g1\/g1=G aL [])\/(Cl P fns Z [aL] g1 w1/\w.drawn<=w1.drawn/\w1.tape=w.tape/\∀ t d,Same w w1 (eU w t d)->∃ es',stepG P true g (eU w t d)=.go g1 (eU w1 t (d+(w1.drawn-w.drawn))) es'):=by
 obtain⟨E,hE,hG,hW⟩:=hc
 have key:∀ t d,uJ P fns Z [] [aL] [aL] E w (eU w t d) (stepG P true g w) (stepG P true g (eU w t d)):=λt d =>
  (show (fns.re P)=P from hp.2.1)▸rQ (main:=true) (md:=md) hz fP hp.1 (λ_=>rfl) hG (show WR P fns E Z w (eU w t d) from⟨hW.jE,hW.jM,hW.kL,hW.mP,hW.glob,hW.inj,hW.cells⟩) hs
 by_cases hd:lq P [aL] g1\/g1=G aL []
 .exact .inl hd
 right
 have ans:∀ t d,Ans P fns Z [] [aL] [aL] E w (eU w t d) g1 w1 (stepG P true g (eU w t d)):=λt d=>by
  have:=key t d
  rw[h] at this
  rcases this with h1|h1|⟨c,v,h1,h2⟩
  .exact h1
  .exact(hd (.inl h1)).elim
  .cases h1
   exact(hd (.inr h2)).elim
 -- the heaps are the same
 have full:∀ t d,Same w w1 (eU w t d)->∃ E' es',(∀ a b,E' a b->a=b)/\stepG P true g (eU w t d)=.go g1 (eU w1 t (d+(w1.drawn-w.drawn))) es'/\GR P fns E' [] [aL] [aL] g1 g1/\WR P fns E' Z w1 w1/\w.drawn<=w1.drawn/\w1.tape=w.tape:=by
  intro t d same
  obtain⟨E',g1',re',es',e1,e2,e3,_⟩:=ans t d same
  have e3:=e3.resolve_right (Kq hp)
  have hE':∀ a b,E' a b->a=b:=by
   intro a b x
   rcases e2.fresh a b x with y|⟨y1,y2⟩
   .exact hE a b y
   .have hl:=e2.wr.lt x
    have hn:=e2.news (a-w.heap.size) (by omega)
    have ea:w.heap.size+(a-w.heap.size)=a:=by omega
    rw[ea] at hn
    have hb:(eU w t d).heap.size+(a-w.heap.size)=a:=by show w.heap.size+_=a;omega
    rw[hb] at hn
    exact((e2.wr.inj _ _ _ _ x hn).1 rfl).symm
  have hg:g1'=g1:=e3.eq hE'
  subst hg
  have hheap:re'.heap=w1.heap:=by
   have hsz:re'.heap.size=w1.heap.size:=by
    have:=e2.sizes
    have e:(eU w t d).heap.size=w.heap.size:=rfl
    omega
   refine Gf hsz λi hi=>?_
   by_cases hx:∃ b,E' i b/\¬Z i
   .obtain⟨b,hb,hnz⟩:=hx
    obtain rfl:=hE' _ _ hb
    rcases e2.wr.cells _ _ hb with ⟨c,c',el,fr,fr',k1,k2,k3,k4,_⟩|⟨x,x',l,k1,k2,k3⟩
    .rw[k1,k2,(k3.all hnz (fns.pl _ (e2.wr.jM.1 _ hnz))).eq hE',k4 hnz]
    .rw[k1,k2,k3.eq hE']
   .by_cases hlt:i<w.heap.size
    .have hno:∀ b,E i b->Z i:=λb hb=>Classical.byContradiction λhnz=>hx ⟨b,e2.up _ _ hb,hnz⟩
     rw[e2.Kg i hlt hno,e2.keep i hlt λa ha=>by obtain rfl:=hE _ _ ha;exact hno _ ha]
     rfl
    .have hn:=e2.news (i-w.heap.size) (by omega)
     have ea:w.heap.size+(i-w.heap.size)=i:=by omega
     rw[ea] at hn
     exact(hx ⟨_,hn,λhz=>hlt (hW.jE _ hz)⟩).elim
  have hre:re'=eU w1 t (d+(w1.drawn-w.drawn)):=by
   have t1:=e2.A9
   have t2:=e2.Ke
   have t3:=e2.os
   have t4:=e2.output
   have t5:=e2.gos
   have t6:=e2.X9
   obtain⟨r1,r2,r3,r4,r5⟩:=re'
   obtain⟨u1,u2,u3,u4,u5⟩:=w1
   simp only[eU] at hheap t1 t2 t3 t4 t5 t6 ⊢
   subst hheap t1 t2 t3 t4 t5 t6
   rfl
  subst hre
  exact⟨E',es',hE',e1,e3,⟨e2.wr.jE,e2.wr.jM,e2.wr.kL,e2.wr.kL,e2.wr.glob,e2.wr.inj,e2.wr.cells⟩,e2.yM,e2.rH⟩
 obtain⟨E',es',f1,f2,f3,f4,f5,f6⟩:=full w.tape w.drawn (λj _=>rfl)
 exact⟨⟨E',f1,f3,f4⟩,f5,f6,λt d same=>by obtain⟨_,es',_,h,_⟩:=full t d same;exact⟨es',h⟩⟩
variable {P:Program} {E E' D_:Nat->Nat->Prop} {Z:Nat->Prop} {fns:Fx} {main md:Bool} {gh re:World} {Fin:Goroutine->World->Prop}
theorem jG{fr fr1:Frame}{cs cs1:List Frame}{w w1:World}{es:Array Event}(h:stepG P true (G fr cs) w=.go (G fr1 cs1) w1 es):step P (lone fr cs w)=.next (lone fr1 cs1 w1) :=
 step_lone_go (by
  have:({ frame:=fr,callers:=cs,status:=.running,dying:=none }:Goroutine)=G fr cs:=rfl
  rw[this,h];rfl)
theorem lZ{fr:Frame}{cs:List Frame}{w w1:World}{o:Outcome}{es:Array Event}(h:stepG P true (G fr cs) w=.ended o w1 es):step P (lone fr cs w)=.ended o w1 :=
 step_lone_ended (by
  have:({ frame:=fr,callers:=cs,status:=.running,dying:=none }:Goroutine)=G fr cs:=rfl
  rw[this,h];rfl)
theorem jk{fr fr':Frame}{cs cs':List Frame}{w w':World}(h:lone fr cs w=lone fr' cs' w'):fr=fr'/\cs=cs'/\w=w':=by
 simp only[lone,Machine.mk.injEq,Array.mk.injEq,List.cons.injEq,Goroutine.mk.injEq,and_true] at h
 exact⟨h.2.1,h.2.2,h.1⟩
theorem jH{m m1:Machine}(n:Nat)(h:step P m=.next m1):runN P (n+1) m=runN P n m1:=by simp only[runN,h]
theorem oV{m:Machine}{o:Outcome}{w:World}(n:Nat)(h:step P m=.ended o w):runN P (n+1) m=.ended o w:=by simp only[runN,h]
theorem l5(w:World)(vs:List PanicEntry):(∃ o es,stepG P true (G aL []) w=.ended o w es)/\∃ o es,stepG P true (G (aL.raise vs) []) w=.ended o w es:=by
 constructor
 .exact⟨_,_,rfl⟩
 .exact⟨_,_,rfl⟩
theorem mU:∀ (n:Nat) {g:Goroutine} {w w':World} {fr':Frame},(lq P [aL] g\/g=G aL [])->runN P n (lone g.frame g.callers w)=.next (lone fr' [aL] w')->dH md [aL] (G fr' [aL])->False
 |0,g,w,w',fr',hd,h,hm=>by
  have:=jk (Stepped.next.inj h)
  rcases hd with ⟨fr,L,chain,rfl,h1,_⟩|rfl
  .have e:fr=fr':=this.1
   subst e
   have hm:=hm.2
   cases md with
   |true=>simp only[if_true,G] at hm;rw[h1] at hm;cases hm
   |false=>simp only[Bool.false_eq_true,if_false,G] at hm;rw[h1] at hm;cases hm.1
  .cases this.2.1
 |n+1,g,w,w',fr',hd,h,hm=>by
  rcases hd with hd|rfl
  .have hg:g=G g.frame g.callers:=by obtain⟨fr,L,chain,rfl,_⟩:=hd;rfl
   rcases vg hd w with ⟨g1,hs,hd1⟩|⟨fr,chain,e,_,hs⟩
   .have hg1:g1=G g1.frame g1.callers:=by obtain⟨fr,L,chain,rfl,_⟩:=hd1;rfl
    rw[hg,hg1] at hs
    rw[jH _ (jG hs)] at h
    exact mU n (.inl hd1) h hm
   .have hs:=hs aL [] rfl
    rw[hg] at hs
    rw[jH _ (jG hs)] at h
    cases n with
    |zero =>
     have:=jk (Stepped.next.inj h)
     cases this.2.1
    |succ n =>
     obtain⟨o,es,he⟩:=(l5 (P:=P) w chain).2
     rw[oV _ (lZ he)] at h
     cases h
  .obtain⟨o,es,he⟩:=(l5 (P:=P) w []).1
   have h2:runN P (n+1) (lone aL [] w)=.next (lone fr' [aL] w'):=h
   rw[oV _ (lZ he)] at h2
   cases h2
theorem Gg{fr fr2 fr':Frame}{w w':World}(hF:FR P fns E [] fr fr2)(hm:fr.mode=.returning):∀ n,runN P n (lone fr [aL] w)=.next (lone fr' [aL] w')->n=0:=by
 intro n h
 obtain⟨f,hf⟩:=hF.func
 cases n with
 |zero=>rfl
 |succ n =>
  exfalso
  have e:(∃ v w1 es,stepG P true (G fr [aL]) w=.go (G (aL.finish v) []) w1 es)\/∃ o w1 es,stepG P true (G fr [aL]) w=.ended o w1 es:=by
   rw[lY hm]
   unfold unwind
   simp only[hF.d,hm,hf,Sem.runT_eq,doReturn,hF.k]
   cases (results f fr.tmps).run P w with
   |ok v w1=>exact .inl ⟨v,w1,_,rfl⟩
   |halt h w1=>cases h<;>exact .inr ⟨_,_,_,rfl⟩
  rcases e with ⟨v,w1,es,e⟩|⟨o,w1,es,e⟩
  .rw[jH _ (jG e)] at h
   cases n with
   |zero =>
    have:=jk (Stepped.next.inj h)
    cases this.2.1
   |succ n =>
    obtain⟨o,es,he⟩:=(l5 (P:=P) w1 []).1
    have ht:aL.finish v=aL:=rfl
    rw[ht] at h
    rw[oV _ (lZ he)] at h
    cases h
  .rw[oV _ (lZ e)] at h
   cases h
theorem Bc{g:Goroutine}{w w':World}{fr':Frame}(hg:GR P fns E [] [aL] [aL] g g)(hs:dH md [aL] g)(hs':dH md [aL] (G fr' [aL])):∀ n,runN P n (lone g.frame g.callers w)=.next (lone fr' [aL] w')->n=0:=by
 obtain⟨fr,fr2,L,e,_,hF,hL⟩:=hg
 obtain⟨hcs,hm⟩:=hs
 subst e
 have hL0:L=[]:=by
  simp only[G] at hcs
  cases L with
  |nil=>rfl
  |cons p L =>
   have:=congrArg List.length hcs
   simp at this
 subst hL0
 rw[rR] at hF
 intro n h
 have h2:runN P n (lone fr [aL] w)=.next (lone fr' [aL] w'):=h
 cases md with
 |true=>simp only[if_true,G] at hm;exact Gg hF hm n h2
 |false =>
  simp only[Bool.false_eq_true,if_false,G] at hm
  cases n with
  |zero=>rfl
  |succ n =>
   exfalso
   have e:stepG P true (G fr [aL]) w=.go (G { fr with mode:=.returning } [aL]) w:=by
    rw[uL hm.1]
    simp only[stepG.exec,hm.2,hF.r,if_true]
    rfl
   rw[jH _ (jG e)] at h2
   have:=Gg (fr:={ fr with mode:=.returning }) (fr2:={ fr2 with mode:=.returning }) { hF with mode:=rfl,runs:=.inr rfl } rfl n h2
   subst this
   have:=(jk (Stepped.next.inj h2)).1
   have hs2:=hs'.2
   simp only[Bool.false_eq_true,if_false,G] at hs2
   rw[<-this] at hs2
   cases hs2.1
theorem yX(hz:zeros P fns)(fP:0<P.depth)(hp:gY P fns):∀ (n:Nat) {g:Goroutine} {w w':World} {fr':Frame},Cl P fns Z [aL] g w->runN P n (lone g.frame g.callers w)=.next (lone fr' [aL] w')->dH md [aL] (G fr' [aL]) ->
 ∀ t d,(∀ j,t (d+j)=w.tape (w.drawn+j))->∃ d',runN P n (lone g.frame g.callers (eU w t d))=.next (lone fr' [aL] (eU w' t d'))
 |0,g,w,w',fr',hc,h,hm,t,d,ht=>by
  obtain⟨e1,e2,e3⟩:=jk (Stepped.next.inj h)
  subst e1 e3
  exact⟨d,by simp only[runN];rw[e2]⟩
 |n+1,g,w,w',fr',hc,h,hm,t,d,ht=>by
  have hg:g=G g.frame g.callers:=by obtain⟨_,_,⟨fr,_,L,rfl,_⟩,_⟩:=hc;rfl
  have hns:¬dH md [aL] g:=λhs=>by
   obtain⟨_,_,hG,_⟩:=hc
   have:=Bc hG hs hm _ h
   omega
  obtain⟨E,hE,hG,hW⟩:=hc
  have hok:=rQ (main:=true) (K:=[aL]) (md:=md) hz fP hp.1 (λ_=>rfl) hG hW hns
  cases hs:stepG P true g w with
  |go g1 w1 es =>
   have hc:Cl P fns Z [aL] g w:=⟨E,hE,hG,hW⟩
   have hgg:∀ g1,((lq P [aL] g1\/g1=G aL [])\/Cl P fns Z [aL] g1 w1)->g1=G g1.frame g1.callers:=by
    rintro g1 ((⟨_,_,_,rfl,_⟩|rfl)|⟨_,_,⟨fr,_,L,rfl,_⟩,_⟩)<;>rfl
   rcases Qc hz fP hp hc hns hs with hd|⟨hc1,hdr,htp,hall⟩
   .exfalso
    have hg1:=hgg g1 (.inl hd)
    rw[hg,hg1] at hs
    rw[jH _ (jG hs)] at h
    exact mU n hd h hm
   .have hg1:=hgg g1 (.inr hc1)
    obtain⟨es',hs2⟩:=hall t d (λj _=>ht j)
    rw[hg,hg1] at hs hs2
    rw[jH _ (jG hs)] at h
    rw[jH _ (jG hs2)]
    have ih:=yX hz fP hp n hc1 h hm t (d+(w1.drawn-w.drawn)) (λj=>by
     rw[htp]
     have:=ht (w1.drawn-w.drawn+j)
     have e1:d+(w1.drawn-w.drawn)+j=d+(w1.drawn-w.drawn+j):=by omega
     have e2:w1.drawn+j=w.drawn+(w1.drawn-w.drawn+j):=by omega
     rw[e1,e2];exact this)
    exact ih
  |ended o w1 es =>
   rw[hg] at hs
   rw[oV _ (lZ hs)] at h
   cases h
  |_=>rw[hs] at hok;exact hok.elim
def Ends(P:Program)(fns:Fx)(Z:Nat->Prop)(md:Bool)(Fin:Goroutine->World->Prop)(g:Goroutine)(w:World):Prop :=
 Cl P fns Z [aL] g w/\∀ t d,∃ N fr' w',runN P N (lone g.frame g.callers (eU w t d))=.next (lone fr' [aL] w')/\dH md [aL] (G fr' [aL])/\Fin (G fr' [aL]) w'
theorem Ends.step(hz:zeros P fns)(fP:0<P.depth)(hp:gY P fns)(Yd:∀ g w t d,Fin g w->Fin g (eU w t d)){g:Goroutine}{w:World}(h:Ends P fns Z md Fin g w) :
 (dH md [aL] g/\Fin g w)\/(¬dH md [aL] g/\∀ t d,∃ g1 w1 es,stepG P true g (eU w t d)=.go g1 w1 es/\Ends P fns Z md Fin g1 w1/\d<=w1.drawn/\w1.tape=t /\
  ∀ t2 d2,(∀ j,d+j<w1.drawn->t2 (d2+j)=t (d+j))->∃ es',stepG P true g (eU w t2 d2)=.go g1 (eU w1 t2 (d2+(w1.drawn-d))) es'):=by
 obtain⟨hc,hall⟩:=h
 have hg:g=G g.frame g.callers:=by obtain⟨_,_,⟨fr,_,L,rfl,_⟩,_⟩:=hc;rfl
 by_cases hs:dH md [aL] g
 .refine .inl ⟨hs,?_⟩
  obtain⟨N,fr',w',h1,h2,h3⟩:=hall w.tape w.drawn
  obtain⟨_,_,hG,_⟩:=hc
  have:=Bc hG hs h2 _ h1
  subst this
  obtain⟨e1,e2,e3⟩:=jk (Stepped.next.inj h1)
  subst e1
  have e4:w'=w:=by rw[<-e3];rfl
  rw[hg,hs.1,<-e4]
  exact h3
 .refine .inr ⟨hs,λt d=>?_⟩
  have hct:=hc.on t d
  obtain⟨N,fr',w',h1,h2,h3⟩:=hall t d
  cases N with
  |zero =>
   obtain⟨e1,e2,e3⟩:=jk (Stepped.next.inj h1)
   exact(hs (by rw[hg,e1,e2];exact h2)).elim
  |succ N =>
   obtain⟨E,hE,hG,hW⟩:=hct
   have hok:=rQ (main:=true) (K:=[aL]) (md:=md) hz fP hp.1 (λ_=>rfl) hG hW hs
   cases hst:stepG P true g (eU w t d) with
   |go g1 w1 es =>
    have hct:Cl P fns Z [aL] g (eU w t d):=⟨E,hE,hG,hW⟩
    rcases Qc hz fP hp hct hs hst with hd|⟨hc1,hdr,htp,hre⟩
    .exfalso
     have hg1:g1=G g1.frame g1.callers:=by rcases hd with ⟨_,_,_,rfl,_⟩|rfl<;>rfl
     rw[hg,hg1] at hst
     rw[jH _ (jG hst)] at h1
     exact mU N hd h1 h2
    .have hg1:g1=G g1.frame g1.callers:=by obtain⟨_,_,⟨fr,_,L,rfl,_⟩,_⟩:=hc1;rfl
     have acu:∀ t2 d2,(∀ j,d+j<w1.drawn->t2 (d2+j)=t (d+j))->∃ es',stepG P true g (eU w t2 d2)=.go g1 (eU w1 t2 (d2+(w1.drawn-d))) es':=λt2 d2 h=>hre t2 d2 h
     refine⟨g1,w1,es,rfl,⟨hc1,λt2 d2=>?_⟩,hdr,htp,acu⟩
     -- a tape that answers as t for this step,then as t2
     obtain⟨m,hm⟩:∃ m,w1.drawn=d+m:=⟨w1.drawn-d,by have:(eU w t d).drawn=d:=rfl;omega⟩
     let t3:Nat->Question->Nat:=λi=>if i<m then t (d+i) else t2 (d2+(i-m))
     obtain⟨N3,fr3,w3,k1,k2,k3⟩:=hall t3 0
     obtain⟨es3,hs3⟩:=acu t3 0 (λj hj=>by
      have:j<m:=by omega
      simp only[t3,Nat.zero_add,if_pos this])
     have e0:0+(w1.drawn-d)=m:=by omega
     rw[e0] at hs3
     cases N3 with
     |zero =>
      obtain⟨e1,e2,e3⟩:=jk (Stepped.next.inj k1)
      exact(hs (by rw[hg,e1,e2];exact k2)).elim
     |succ N3 =>
      have acv:=hs3
      rw[hg,hg1] at acv
      rw[jH _ (jG acv)] at k1
      obtain⟨d',hfin⟩:=yX hz fP hp N3 (hc1.on t3 m) k1 k2 t2 d2 (λj=>by
       have:¬(m+j<m):=by omega
       show t2 (d2+j)=t3 (m+j)
       simp only[t3,if_neg this]
       congr 1
       omega)
      exact⟨N3,fr3,_,hfin,k2,Yd _ _ _ _ k3⟩
   |ended o w1 es =>
    rw[hg] at hst
    rw[oV _ (lZ hst)] at h1
    cases h1
   |_=>rw[hst] at hok;exact hok.elim
variable {P:Program} {Z:Nat->Prop} {fns:Fx} {md:Bool} {Fin:Goroutine->World->Prop}
def Runs(P:Program)(md:Bool)(Fin:Goroutine->World->Prop)(g:Goroutine)(w:World):Prop :=
 ∀ M:Goroutine->World->Prop,(∀ g w,dH md [aL] g->Fin g w->M g w) ->
   (∀ g w,¬dH md [aL] g->(∀ t d,∃ g1 w1 es,stepG P true g (eU w t d)=.go g1 w1 es/\M g1 w1)->M g w)->M g w
theorem Runs.stop{g:Goroutine}{w:World}(hs:dH md [aL] g)(h:Fin g w):Runs P md Fin g w:=λ_ h1 _=>h1 g w hs h
theorem Runs.step{g:Goroutine}{w:World}(hs:¬dH md [aL] g)(h:∀ t d,∃ g1 w1 es,stepG P true g (eU w t d)=.go g1 w1 es/\Runs P md Fin g1 w1):Runs P md Fin g w :=
 λM h1 h2=>h2 g w hs λt d=>let ⟨g1,w1,es,e,r⟩:=h t d;⟨g1,w1,es,e,r M h1 h2⟩
open Classical in
theorem Ends.runs(hz:zeros P fns)(fP:0<P.depth)(hp:gY P fns)(Yd:∀ g w t d,Fin g w->Fin g (eU w t d)){g:Goroutine}{w:World}(h:Ends P fns Z md Fin g w):Runs P md Fin g w:=by
 intro M hstop hstep
 refine Classical.byContradiction λhno=>?_
 -- from each state that is not in M a step to another
 let S:={ c:Goroutine × World // Ends P fns Z md Fin c.1 c.2/\¬M c.1 c.2 }
 have nx:∀ c:S,∃ (t:Nat->Question->Nat) (d:Nat) (c1:S),d<=c1.1.2.drawn/\c1.1.2.tape=t/\¬dH md [aL] c.1.1 /\
  ∀ t2 d2,(∀ j,d+j<c1.1.2.drawn->t2 (d2+j)=t (d+j))->∃ es',stepG P true c.1.1 (eU c.1.2 t2 d2)=.go c1.1.1 (eU c1.1.2 t2 (d2+(c1.1.2.drawn-d))) es':=by
  rintro ⟨⟨g,w⟩,hE,hM⟩
  rcases hE.step hz fP hp Yd with ⟨hs,hf⟩|⟨hs,hall⟩
  .exact(hM (hstop g w hs hf)).elim
  .have:¬∀ t d,∃ g1 w1 es,stepG P true g (eU w t d)=.go g1 w1 es/\M g1 w1:=λx=>hM (hstep g w hs x)
   obtain⟨t,ht⟩:=Classical.not_forall.1 this
   obtain⟨d,hd⟩:=Classical.not_forall.1 ht
   obtain⟨g1,w1,es,e1,e2,e3,e4,e5⟩:=hall t d
   exact⟨t,d,⟨(g1,w1),e2,λhm=>hd ⟨g1,w1,es,e1,hm⟩⟩,e3,e4,hs,e5⟩
 let c0:S:=⟨(g,w),h,hno⟩
 let ft:S->(Nat->Question->Nat):=λc=>Classical.choose (nx c)
 let fd:S->Nat:=λc=>Classical.choose (Classical.choose_spec (nx c))
 let fc:S->S:=λc=>Classical.choose (Classical.choose_spec (Classical.choose_spec (nx c)))
 have fs:∀ c:S,fd c<=(fc c).1.2.drawn/\(fc c).1.2.tape=ft c/\¬dH md [aL] c.1.1/\∀ t2 d2,(∀ j,fd c+j<(fc c).1.2.drawn->t2 (d2+j)=ft c (fd c+j))->∃ es',stepG P true c.1.1 (eU c.1.2 t2 d2)=.go (fc c).1.1 (eU (fc c).1.2 t2 (d2+((fc c).1.2.drawn-fd c))) es' :=
  λc=>Classical.choose_spec (Classical.choose_spec (Classical.choose_spec (nx c)))
 -- the way
 let sq:Nat->S:=λk=>Nat.rec c0 (λ_ c=>fc c) k
 have sq0:sq 0=c0:=rfl
 have sqs:∀ k,sq (k+1)=fc (sq k):=λ_=>rfl
 let mk:Nat->Nat:=λk=>(fc (sq k)).1.2.drawn-fd (sq k)
 let D:Nat->Nat:=λk=>Nat.rec 0 (λk s=>s+mk k) k
 have D0:D 0=0:=rfl
 have Ds:∀ k,D (k+1)=D k+mk k:=λ_=>rfl
 have WJ:∀ k j,k<=j->D k<=D j:=λk j hkj=>by
  induction hkj with
  |refl=>exact Nat.le_refl _
  |step _ ih=>exact Nat.le_trans ih (by rw[Nat.succ_eq_add_one,Ds];omega)
 -- the tape that answers so
 have tx:∃ tt:Nat->Question->Nat,∀ k j,j<mk k->tt (D k+j)=ft (sq k) (fd (sq k)+j):=by
  refine⟨λi=>if hk:∃ k,D k<=i/\i<D (k+1) then ft (sq (Classical.choose hk)) (fd (sq (Classical.choose hk))+(i-D (Classical.choose hk))) else λ_=>0,λk j hj=>?_⟩
  have hk:∃ k',D k'<=D k+j/\D k+j<D (k'+1):=⟨k,by omega,by rw[Ds];omega⟩
  simp only[dif_pos hk]
  have hu:Classical.choose hk=k:=by
   obtain⟨h1,h2⟩:=Classical.choose_spec hk
   rcases Nat.lt_trichotomy (Classical.choose hk) k with hlt|he|hgt
   .have:=WJ _ _ (Nat.succ_le_of_lt hlt)
    rw[Nat.succ_eq_add_one] at this
    omega
   .exact he
   .have:=WJ _ _ (Nat.succ_le_of_lt hgt)
    rw[Nat.succ_eq_add_one,Ds] at this
    omega
  rw[hu]
  congr 1
  omega
 obtain⟨tt,htt⟩:=tx
 have hG:∀ c:S,c.1.1=G c.1.1.frame c.1.1.callers:=λc=>by
  obtain⟨⟨_,_⟩,⟨⟨_,_,⟨fr,_,L,e,_⟩,_⟩,_⟩,_⟩:=c
  simp only at e ⊢
  rw[e];rfl
 have way:∀ k,Go.step P (lone (sq k).1.1.frame (sq k).1.1.callers (eU (sq k).1.2 tt (D k)))=.next (lone (sq (k+1)).1.1.frame (sq (k+1)).1.1.callers (eU (sq (k+1)).1.2 tt (D (k+1)))):=λk=>by
  obtain⟨es',hs⟩:=(fs (sq k)).2.2.2 tt (D k) (λj hj=>htt k j (by show j<(fc (sq k)).1.2.drawn-fd (sq k);omega))
  rw[hG (sq k),hG (fc (sq k))] at hs
  have:=jG hs
  exact this
 have run:∀ n k,runN P n (lone (sq k).1.1.frame (sq k).1.1.callers (eU (sq k).1.2 tt (D k)))=.next (lone (sq (k+n)).1.1.frame (sq (k+n)).1.1.callers (eU (sq (k+n)).1.2 tt (D (k+n)))):=λn=>by
  induction n with
  |zero=>intro k;rfl
  |succ n ih =>
   intro k
   rw[jH _ (way k),ih (k+1)]
   have e:k+1+n=k+(n+1):=by omega
   rw[e]
 obtain⟨N,fr',w',h1,h2,_⟩:=h.2 tt 0
 have h3:=run N 0
 rw[Nat.zero_add] at h3
 have h4:runN P N (lone g.frame g.callers (eU w tt 0))=.next (lone (sq N).1.1.frame (sq N).1.1.callers (eU (sq N).1.2 tt (D N))):=h3
 rw[h4] at h1
 obtain⟨e1,e2,_⟩:=jk (Stepped.next.inj h1)
 exact(fs (sq N)).2.2.1 (by rw[hG (sq N),e1,e2];exact h2)
end Go.Proofs.YtjlgehmebfkioaaGreatDoor
namespace Go.Proofs.YtjlgehmebfkioaaGreatDoor
open Go Go.Conc
open Go.ConcN (sumTo upd sumTo_upd upd_ne upd_same)
variable {P:Program} {Z:Nat->Prop} {fns:Fx} {md main:Bool} {Fin:Goroutine->World->Prop} {E E':Nat->Nat->Prop} {k0:List Item} {K:List Frame}
theorem Runs.cases{g:Goroutine}{w:World}(h:Runs P md Fin g w):(dH md [aL] g/\Fin g w)\/(¬dH md [aL] g/\∀ t d,∃ g1 w1 es,stepG P true g (eU w t d)=.go g1 w1 es/\Runs P md Fin g1 w1) :=
 h (λg w=>(dH md [aL] g/\Fin g w)\/(¬dH md [aL] g/\∀ t d,∃ g1 w1 es,stepG P true g (eU w t d)=.go g1 w1 es/\Runs P md Fin g1 w1))
   (λ_ _ hs hf=>.inl ⟨hs,hf⟩)
   (λ_ _ hs hall=>.inr ⟨hs,λt d=>by
    obtain⟨g1,w1,es,e,hm⟩:=hall t d
    refine⟨g1,w1,es,e,?_⟩
    rcases hm with ⟨a,b⟩|⟨a,b⟩
    .exact Runs.stop a b
    .exact Runs.step a b⟩)
def Bf(P:Program)(md:Bool)(c' c:Goroutine × World):Prop:=¬dH md [aL] c.1/\∃ t d es,stepG P true c.1 (eU c.2 t d)=.go c'.1 c'.2 es
theorem Runs.acc{g:Goroutine}{w:World}(h:Runs P md Fin g w):Acc (Bf P md) (g,w) :=
 h (λg w=>Acc (Bf P md) (g,w))
   (λ_ _ hs _=>Acc.intro _ λ_ hb=>(hb.1 hs).elim)
   (λ_ _ _ hall=>Acc.intro _ λc' hb=>by
    obtain⟨_,t,d,es,e⟩:=hb
    obtain⟨g1,w1,es1,e1,ha⟩:=hall t d
    simp only at e
    rw[e] at e1
    cases e1
    exact ha)
structure Ab(P:Program)(fns:Fx)(Z:Nat->Prop)(md:Bool)(Fin:Goroutine->World->Prop)(k0:List Item)(K:List Frame)(E:Nat->Nat->Prop)(g:Goroutine)(gh:World)(g':Goroutine)(re:World):Prop where
 gr:GR P fns E k0 [aL] K g g'
 wr:WR P fns E Z gh re
 runs:Runs P md Fin g gh
theorem GR.running{g g':Goroutine}(h:GR P fns E k0 [aL] K g g'):g'.status=.running:=by obtain⟨_,_,_,_,rfl,_⟩:=h;rfl
theorem Ab.rely{g g':Goroutine}{gh re Qd:World}(h:Ab P fns Z md Fin k0 K E g gh g' re)(hs:∀ a b,E a b->Qd.heap[b]?=re.heap[b]?)(hl:re.heap.size<=Qd.heap.size):Ab P fns Z md Fin k0 K E g gh g' Qd :=
 ⟨h.gr,⟨h.wr.jE,h.wr.jM,h.wr.kL,Nat.lt_of_lt_of_le h.wr.mP hl,h.wr.glob,h.wr.inj,λa b x=>by rw[hs a b x];exact h.wr.cells a b x⟩,h.runs⟩
theorem WR.rH{gh re:World}(h:WR P fns E Z gh re)(t:Nat->Question->Nat)(d:Nat):WR P fns E Z (eU gh t d) re:=⟨h.jE,h.jM,h.kL,h.mP,h.glob,h.inj,h.cells⟩
theorem Ab.stepJ(hz:zeros P fns)(fP:0<P.depth)(hp:lg P fns)(hk:md=true->k0=[]){g g':Goroutine}{gh re:World}(h:Ab P fns Z md Fin k0 K E g gh g' re) :
 (dH md [aL] g/\Fin g gh)\/∃ E' g1 w1 g1' re' es',stepG (fns.re P) main g' re=.go g1' re' es'/\Bf P md (g1,w1) (g,gh)/\(Ab P fns Z md Fin k0 K E' g1 w1 g1' re'\/(JR P fns E' k0 [aL] K g1 g1'/\WR P fns E' Z w1 re'/\Runs P md Fin g1 w1))/\Out P fns E E' Z (eU gh re.tape re.drawn) re w1 re'/\∀ e∈es',zZ E' Z e:=by
 rcases h.runs.cases with h1|⟨hs,hall⟩
 .exact .inl h1
 .right
  obtain⟨g1,w1,es,e1,hr⟩:=hall re.tape re.drawn
  have hok:=rQ (main:=main) (md:=md) hz fP hp hk h.gr (h.wr.rH re.tape re.drawn) hs
  rw[e1] at hok
  rcases hok with ha|hd
  .obtain⟨E',g1',re',es',a1,a2,a3,a4⟩:=ha (λj _=>rfl)
   exact⟨E',g1,w1,g1',re',es',a1,⟨hs,_,_,_,e1⟩,a3.imp (λa3=>⟨a3,a2.wr,hr⟩) (λa3=>⟨a3,a2.wr,hr⟩),a2,a4⟩
  .exfalso
   have hd:lq P [aL] g1\/g1=G aL []:=by
    rcases hd with hd|⟨c,v,e,hd⟩
    .exact .inl hd
    .cases e;exact .inr hd
   -- what is doomed does not run to its end
   have never:∀ g w,Runs P md Fin g w->(lq P [aL] g\/g=G aL []\/∃ vs,g=G (aL.raise vs) [])->False:=by
    intro g w hr
    refine hr (λg w=>(lq P [aL] g\/g=G aL []\/∃ vs,g=G (aL.raise vs) [])->False) ?_ ?_
    .intro g w hs _ hd
     rcases hd with hd|rfl|⟨vs,rfl⟩
     .obtain⟨fr,L,chain,rfl,h1,_⟩:=hd
      have hm:=hs.2
      cases md with
      |true=>simp only[if_true,G] at hm;rw[h1] at hm;cases hm
      |false=>simp only[Bool.false_eq_true,if_false,G] at hm;rw[h1] at hm;cases hm.1
     .cases hs.1
     .cases hs.1
    .intro g w _ hall hd
     obtain⟨g1,w1,es,e,hm⟩:=hall w.tape w.drawn
     rcases hd with hd|rfl|⟨vs,rfl⟩
     .rcases vg hd (eU w w.tape w.drawn) with ⟨g2,hs,hd1⟩|⟨fr,chain,_,_,hs⟩
      .rw[hs] at e
       cases e
       exact hm (.inl hd1)
      .rw[hs aL [] rfl] at e
       cases e
       exact hm (.inr (.inr ⟨chain,rfl⟩))
     .obtain⟨o,es,he⟩:=(l5 (P:=P) (eU w w.tape w.drawn) []).1
      rw[he] at e
      cases e
     .obtain⟨o,es,he⟩:=(l5 (P:=P) (eU w w.tape w.drawn) vs).2
      rw[he] at e
      cases e
   exact never g1 w1 hr (hd.imp id .inl)
theorem Ab.step(hz:zeros P fns)(fP:0<P.depth)(hp:gY P fns)(hk:md=true->k0=[]){g g':Goroutine}{gh re:World}(h:Ab P fns Z md Fin k0 K E g gh g' re) :
 (dH md [aL] g/\Fin g gh)\/∃ E' g1 w1 g1' re' es',stepG P main g' re=.go g1' re' es'/\Bf P md (g1,w1) (g,gh)/\Ab P fns Z md Fin k0 K E' g1 w1 g1' re'/\Out P fns E E' Z (eU gh re.tape re.drawn) re w1 re'/\∀ e∈es',zZ E' Z e:=by
 rcases h.stepJ (main:=main) hz fP hp.1 hk with h|⟨E',g1,w1,g1',re',es',a1,a2,a3,a4⟩
 .exact .inl h
 .rw[hp.2.1] at a1
  exact .inr ⟨E',g1,w1,g1',re',es',a1,a2,a3.resolve_right λx=>Kq hp x.1,a4⟩
variable {P:Program} {Z:Nat->Prop} {fns:Fx} {md main:Bool} {Fin:Goroutine->World->Prop} {E E':Nat->Nat->Prop} {k0:List Item} {K:List Frame}
def dZ(S:Nat->Prop)(l:Loc):Prop:=∃ b,blk l=some b/\S b
theorem Qe{S:Nat->Prop}{B:Nat}{e:Event}(h:zZ E Z e)(hS:∀ a b,E a b->¬S b)(hB:∀ a b,E a b->b<B):EvL (dZ S) B e:=by
 obtain⟨loc,wr,sy⟩:=e
 rcases h with ⟨b,h1,h2,a,h3,_⟩|⟨m,h1,h2⟩
 .cases loc with
  |cell c =>
   simp only[blk,Option.some.injEq] at h1
   subst h1
   refine⟨λx hx hs=>?_,by simp,by simp,hB _ _ h3⟩
   have:x.loc=.cell c:=by
    simp only[MemAct.ofEvent,MemAct.touch?,Option.some.injEq] at hx
    rw[<-hx]
   rw[this] at hs
   obtain⟨b',e1,e2⟩:=hs
   simp only[blk,Option.some.injEq] at e1
   exact(hS _ _ h3 (e1▸e2)).elim
  |obj r =>
   simp only[blk,Option.some.injEq] at h1 h2
   subst h1
   subst h2
   refine⟨λx hx hs=>?_,by simp,by simp,by cases wr<;>exact hB _ _ h3⟩
   have:x.loc=.obj r:=by
    cases wr<;>(simp only[MemAct.ofEvent,MemAct.touch?,Option.some.injEq] at hx;rw[<-hx])
   rw[this] at hs
   obtain⟨b',e1,e2⟩:=hs
   simp only[blk,Option.some.injEq] at e1
   exact(hS _ _ h3 (e1▸e2)).elim
  |_=>simp[blk] at h1
 .simp only at h1
  subst h1
  cases m<;>first|(cases h2;done)|exact⟨λx hx=>by simp[MemAct.ofEvent,MemAct.touch?] at hx,by simp,by simp,by simp[MemAct.ofEvent,MemAct.low]⟩
theorem Ab.at{g g':Goroutine}{gh w:World}(h:Ab P fns Z md Fin k0 K E g gh g' w)(d:Nat):Ab P fns Z md Fin k0 K E g gh g' (w.at d):=h.rely (λ_ _ _=>rfl) (Nat.le_refl _)
