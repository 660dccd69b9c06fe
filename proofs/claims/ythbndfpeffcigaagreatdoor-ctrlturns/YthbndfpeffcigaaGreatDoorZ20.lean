/- Part of the proof. -/
import Derived.Test.YthbndfpeffcigaaGreatDoorZ19
namespace Go.Proofs.YthbndfpeffcigaaGreatDoor
open Go
variable {a a':Addr} {b:Nat} {v':Value}
variable {P:Program} {fns:Fx} {E E' BK:Nat->Nat->Prop} {Z:Nat->Prop} {gh re f_ re' GZ Ew:World}
theorem au.getObj{a:Nat}(x:E a b):au P fns Z E (Go.getObj a) (Go.getObj b) (λE' o o'=>(∃ y y' lost,o=.number y lost/\o'=.number y' lost/\AR fns E' y y')\/((fns.full=true->¬Z a)/\BJ P fns E' o o')):=by
 intro gh re hw
 rcases hw.cells _ _ x with ⟨c,c',el,fr,fr',k1,k2,k3,_⟩|⟨y,y',l,k1,k2,k3⟩|⟨hz,o,o',k1,k2,k3⟩
 rotate_left 2
 .rcases k3.two with ⟨⟨r,rfl⟩,r',rfl⟩|⟨⟨r,rfl⟩,r',rfl⟩ <;>
  .simp only[Go.getObj,Sem.run,k1]
   intro _
   refine⟨E,_,re,by simp only[k2],Out.refl hw,.inr ⟨hz,k3⟩,λes e he=>?_⟩
   simp only[Sem.events,Sem.runT,k2,Array.mem_push] at he
   rcases he with he|rfl
   .exact .inl he
   .exact .inr (.inl ⟨b,rfl,rfl,a,x,λh=>by cases h⟩)
 .simp only[Go.getObj,Sem.run,k1];exact⟨rfl,Calm.refl _⟩
 .simp only[Go.getObj,Sem.run,k1]
  intro _
  refine⟨E,.number y' l,re,by simp only[k2],Out.refl hw,.inl ⟨y,y',l,rfl,rfl,k3⟩,λes e he=>?_⟩
  simp only[Sem.events,Sem.runT,k2,Array.mem_push] at he
  rcases he with he|rfl
  .exact .inl he
  .exact .inr (.inl ⟨b,rfl,rfl,a,x,λh=>by cases h⟩)
theorem au.viewAt{a:Nat}(x:E a b):au P fns Z E (viewAt a) (viewAt b) (λ_ s s'=>s=none/\s'=none):=by
 unfold Go.viewAt
 refine au.bind (au.shape x) λE1 s s' up h=>?_
 rw[h.isSome]
 split
 .exact au.pure ⟨rfl,rfl⟩
 .refine au.bind (au.getObj (up _ _ x)) λE2 o o' dH h=>?_
  rcases h with ⟨y,y',l,rfl,rfl,_⟩|⟨_,h⟩
  .exact au.pure ⟨rfl,rfl⟩
  .rcases h.two with ⟨⟨r,rfl⟩,r',rfl⟩|⟨⟨r,rfl⟩,r',rfl⟩<;>exact au.pure ⟨rfl,rfl⟩
theorem au.numberAt{a:Nat}(x:E a b):au P fns Z E (numberAt a) (numberAt b) (λE' s s'=>(s=none/\s'=none)\/∃ y y' l,s=some (y,l)/\s'=some (y',l)/\AR fns E' y y'):=by
 unfold Go.numberAt
 refine au.bind (au.shape x) λE1 s s' up h=>?_
 rw[h.isSome]
 split
 .exact au.pure (.inl ⟨rfl,rfl⟩)
 .refine au.bind (au.getObj (up _ _ x)) λE2 o o' dH h=>?_
  rcases h with ⟨y,y',l,rfl,rfl,hy⟩|⟨_,h⟩
  .exact au.pure (.inr ⟨y,y',l,rfl,rfl,hy⟩)
  .rcases h.two with ⟨⟨r,rfl⟩,r',rfl⟩|⟨⟨r,rfl⟩,r',rfl⟩<;>exact au.pure (.inl ⟨rfl,rfl⟩)
theorem au.behindNumber(ha:AR fns E a a'):au P fns Z E (behindNumber a) (behindNumber a') (λE' s s'=>AR fns E' s.1 s'.1/\s.2=s'.2):=by
 unfold Go.behindNumber
 refine au.bind (au.numberAt ha.1) λE1 s s' up h=>au.pure ?_
 rcases h with ⟨rfl,rfl⟩|⟨y,y',l,rfl,rfl,hy⟩
 .exact⟨ha.up up,rfl⟩
 .exact⟨hy,rfl⟩
theorem au.asNumber(ha:AR fns E a a')(lost:Bool):au P fns Z E (asNumber a lost) (asNumber a' lost) (λE' v v'=>VR fns E' v v'):=by
 unfold Go.asNumber
 exact au.bind (au.newObj λjT up=>.inr (.inl ⟨a,a',lost,rfl,rfl,ha.up up⟩)) λE1 r r' up h=>au.pure (aN.2 ⟨_,rfl,h.1,rfl,rfl,fns.Jq h.2 _⟩)
theorem au.noView(ha:AS fns E a a'):au P fns Z E (noView a) (noView a') (λ_ _ _=>True):=by
 unfold Go.noView
 refine au.bind (au.viewAt ha.1) λE1 s s' up h=>?_
 obtain⟨rfl,rfl⟩:=h
 exact au.pure trivial
theorem o_(P:Program)(fns:Fx)(d:Nat)(t:TypeId)(o:Nat):byteOfCell (fns.re P) d t o=byteOfCell P d t o:=by
 induction d generalizing t o with
 |zero=>rfl
 |succ d ih =>
  unfold byteOfCell
  simp only[ih]
  rfl
theorem au.byteOf(ha:AS fns E a a'):au P fns Z E (byteOf a) (byteOf a') (λ_ n n'=>n'=n):=by
 unfold Go.byteOf
 rw[<-ha.2.2.1,<-ha.2.1]
 dsimp only
 split
 .exact au.pure rfl
 .refine au.bind au.program λE1 p q up h=>?_
  obtain⟨rfl,rfl⟩:=h
  refine au.bind (au.noView (ha.up up)) λE2 _ _ dH _=>?_
  refine au.bind (au.shape (dH _ _ (up _ _ ha.1))) λE3 s s' fH h=>?_
  rcases h with ⟨rfl,rfl⟩|⟨e,n,n',rfl,rfl,_⟩
  .exact au.stuck
  .dsimp only
   rw[show (fns.re p).cellsOf e=p.cellsOf e from rfl,show (fns.re p).depth=p.depth from rfl,o_,show (fns.re p).bytesOf e=p.bytesOf e from rfl]
   split
   .exact au.pure rfl
   .split
    .exact au.pure rfl
    .exact au.stuck
theorem au.partAt(ha:AR fns E a a')(c b:Nat):au P fns Z E (partAt a c b) (partAt a' c b) (λE' x x'=>AR fns E' x x'):=by
 unfold Go.partAt
 refine au.bind (au.byteOf ha.as) λE1 n n' up h=>?_
 subst h
 have hp:AR fns E1 { block:=a.block,off:=a.off+c } { block:=a'.block,off:=a'.off+c }:=⟨up _ _ ha.1,by simp[ha.2.1],rfl,ha.2.2.2.1,Nat.le_trans ha.2.2.2.2 (Nat.le_add_right _ _)⟩
 dsimp only
 refine au.bind (au.byteOf hp.as) λE2 n n' dH h=>au.pure ?_
 subst h
 split
 .exact hp.up dH
 .exact⟨dH _ _ hp.1,hp.2.1,rfl,hp.2.2.2⟩
theorem au.fieldPlace(ha:AR fns E a a')(f:Field):au P fns Z E (fieldPlace a f) (fieldPlace a' f) (λE' x x'=>AR fns E' x x'):=by
 unfold Go.fieldPlace
 refine au.bind (au.sizeOf _) λE1 n n' up h=>?_
 subst h
 split
 .exact au.partAt (ha.up up) _ _
 .exact au.pure ((ha.up up).add _)
theorem au.Tz(ha:AS fns E a a')(c b:Nat):au P fns Z E (Go.partAt a c b) (Go.partAt a' c b) (λE' x x'=>AS fns E' x x'):=by
 unfold Go.partAt
 refine au.bind (au.byteOf ha) λE1 n n' up h=>?_
 subst h
 have hp:AS fns E1 { block:=a.block,off:=a.off+c } { block:=a'.block,off:=a'.off+c }:=⟨up _ _ ha.1,by simp[ha.2.1],rfl,Nat.le_trans ha.2.2.2 (Nat.le_add_right _ _)⟩
 dsimp only
 refine au.bind (au.byteOf hp) λE2 n n' dH h=>au.pure ?_
 subst h
 split
 .exact hp.up dH
 .exact⟨dH _ _ hp.1,hp.2.1,rfl,hp.2.2.2⟩
theorem au.Ey(ha:AS fns E a a')(f:Field):au P fns Z E (Go.fieldPlace a f) (Go.fieldPlace a' f) (λE' x x'=>AS fns E' x x'):=by
 unfold Go.fieldPlace
 refine au.bind (au.sizeOf _) λE1 n n' up h=>?_
 subst h
 split
 .exact au.Tz (ha.up up) _ _
 .exact au.pure ((ha.up up).add _)
theorem au.asIntOf{v:Value}(hv:VR fns E v v'):au P fns Z E (asIntOf v) (asIntOf v') (λ_ n n'=>n'=n):=by
 cases v with
 |int k n=>rw[dB] at hv;subst hv;exact au.pure rfl
 |pointer a=>cases a<;>exact au.dies (aK.halt rfl)
 |_=>exact au.dies (aK.halt rfl)
theorem au.asInt{v:Value}(hv:VR fns E v v'):au P fns Z E (asInt v) (asInt v') (λ_ n n'=>n'=n):=by
 unfold Go.asInt
 exact au.bind (au.asIntOf hv) λE1 n n' up h=>au.pure (by rw[h])
theorem au.asBool{v:Value}(hv:VR fns E v v'):au P fns Z E (asBool v) (asBool v') (λ_ n n'=>n'=n):=by
 cases v with
 |bool b=>rw[j4] at hv;subst hv;exact au.pure rfl
 |_=>exact au.dies (aK.halt rfl)
theorem au.asAddr{v:Value}(hv:VR fns E v v'):au P fns Z E (asAddr v) (asAddr v') (λE' a a'=>AR fns E' a a'):=by
 cases v with
 |pointer a =>
  obtain⟨b,rfl,h⟩:=aN.1 hv
  cases a with
  |none=>exact au.dies (show aK P (Go.runtimePanic .nilDeref) from aK.runtimePanic _)
  |some a=>obtain⟨b',rfl,h⟩:=cB.1 h;exact au.pure h
 |_=>exact au.dies (aK.halt rfl)
theorem au.sureAddr{v:Value}(hv:VR fns E v v'):au P fns Z E (Instr.sureAddr v) (Instr.sureAddr v') (λE' a a'=>AR fns E' a a'):=by
 cases v with
 |pointer a =>
  obtain⟨b,rfl,h⟩:=aN.1 hv
  cases a with
  |none=>exact au.dies (aK.halt rfl)
  |some a=>obtain⟨b',rfl,h⟩:=cB.1 h;exact au.pure h
 |_=>exact au.dies (aK.halt rfl)
def VZ(fns:Fx)(E:Nat->Nat->Prop)(v v':Value):Prop:=VR fns E v v'\/∃ a b,v=.pointer (some a)/\v'=.pointer (some b)/\AS fns E a b
theorem VZ.full{v:Value}(h:VZ fns E v v')(hf:fns.full=true):VR fns E v v':=by
 rcases h with h|⟨a,b,rfl,rfl,h⟩
 .exact h
 .exact aN.2 ⟨_,rfl,cB.2 ⟨_,rfl,h.full hf⟩⟩
theorem VZ.up{v:Value}(h:VZ fns E v v')(hE:∀ a b,E a b->E' a b):VZ fns E' v v':=by
 rcases h with h|⟨a,b,rfl,rfl,h⟩
 .exact .inl (h.up hE)
 .exact .inr ⟨a,b,rfl,rfl,h.up hE⟩
theorem au.su{v:Value}(hv:VZ fns E v v'):au P fns Z E (Instr.sureAddr v) (Instr.sureAddr v') (λE' a a'=>AS fns E' a a'):=by
 rcases hv with hv|⟨a,b,rfl,rfl,h⟩
 .exact(au.sureAddr hv).mono λ_ _ _ _ h=>h.as
 .exact au.pure h
theorem au.loadAt(t:TypeId){v:Value}(hv:VZ fns E v v'):au P fns Z E (Instr.loadAt t v) (Instr.loadAt t v') (λE' v v'=>VR fns E' v v'):=by
 unfold Instr.loadAt
 exact au.bind (au.su hv) λE1 a a' up h=>au.loadVar t h
theorem au.storeAt(t:TypeId){v x x':Value}(hv:VZ fns E v v')(hx:VR fns E x x'):au P fns Z E (Instr.storeAt t v x) (Instr.storeAt t v' x') (λ_ _ _=>True):=by
 unfold Instr.storeAt
 exact au.bind (au.su hv) λE1 a a' up h=>au.storeVar t h (hx.up up)
theorem au.fieldAt(s:TypeId){v:Value}(hv:VR fns E v v')(f:Nat):au P fns Z E (Instr.fieldAt s v f) (Instr.fieldAt s v' f) (λE' v v'=>VR fns E' v v'):=by
 unfold Instr.fieldAt
 refine au.bind (au.underlying s) λE1 d d' up h=>?_
 obtain⟨rfl,_⟩:=h
 split
 .split
  .refine au.bind (au.sureAddr (hv.up up)) λE2 a a' dH h=>?_
   exact au.bind (au.fieldPlace h _) λE3 x x' fH h=>au.pure (aN.2 ⟨_,rfl,h⟩)
  .exact au.stuck
 .exact au.stuck
theorem au.Pb(s:TypeId){v:Value}(hv:VZ fns E v v')(f:Nat):au P fns Z E (Instr.fieldAt s v f) (Instr.fieldAt s v' f) (λE' v v'=>VZ fns E' v v'):=by
 unfold Instr.fieldAt
 refine au.bind (au.underlying s) λE1 d d' up h=>?_
 obtain⟨rfl,_⟩:=h
 split
 .split
  .refine au.bind (au.su (hv.up up)) λE2 a a' dH h=>?_
   exact au.bind (au.Ey h _) λE3 x x' fH h=>au.pure (.inr ⟨_,_,rfl,rfl,h⟩)
  .exact au.stuck
 .exact au.stuck
theorem au.alloc(hz:zeros P fns)(t:TypeId)(ht:fns.tys t=true):au P fns Z E (Instr.alloc t true (.tuple #[])) (Instr.alloc t true (.tuple #[])) (λE' v v'=>VR fns E' v v'):=by
 unfold Instr.alloc
 refine au.bind (au.zeroValue hz t ht) λE1 v v' up h=>?_
 obtain⟨rfl,hc⟩:=h
 exact au.bind (au.newVar (jL hc)) λE2 a a' dH h=>au.pure (aN.2 ⟨_,rfl,h⟩)
theorem au.box(t:TypeId){v:Value}(hv:VR fns E v v'):au P fns Z E (Instr.box t v) (Instr.box t v') (λE' v v'=>VR fns E' v v'):=by
 unfold Instr.box
 exact au.bind (au.newVar hv) λE2 a a' dH h=>au.pure (aN.2 ⟨_,rfl,h⟩)
def sw(fns:Fx)(E:Nat->Nat->Prop)(x x':List (Nat × Value)):Prop:=x.map (·.1)=x'.map (·.1)/\aV fns E (x.map (·.2)).toArray (x'.map (·.2)).toArray
theorem foldl_set(off:Nat):∀ (l l':List Value) (k:Nat) {c c':Array Value},aV fns E l.toArray l'.toArray->aV fns E c c' ->
 aV fns E ((l.zipIdx k).foldl (λcs (x:Value × Nat)=>cs.setIfInBounds (off+x.2) x.1) c) ((l'.zipIdx k).foldl (λcs (x:Value × Nat)=>cs.setIfInBounds (off+x.2) x.1) c')
 | [],[],k,c,c',h,hc=>hc
 | [],v'::vs',k,c,c',h,hc=>by have:=h.1;simp at this
 |v::vs,[],k,c,c',h,hc=>by have:=h.1;simp at this
 |v::vs,v'::vs',k,c,c',h,hc=>by
  have h0:VR fns E v v':=by simpa using h.2 0 (by simp) (by simp)
  have h1:aV fns E vs.toArray vs'.toArray:=⟨by have:=h.1;simpa using this,λj a b=>by
   have:=h.2 (j+1) (by simpa using a) (by simpa using b)
   simpa using this⟩
  simp only[List.zipIdx_cons,List.foldl_cons]
  exact foldl_set off vs vs' (k+1) h1 (hc.set _ h0)
theorem mG(place:Nat->Option (Nat × Nat)):∀ (l l':List (Nat × Value)) {c c':Array Value},sw fns E l l'->aV fns E c c' ->
 (∃ d d',Instr.fill place c l=some d/\Instr.fill place c' l'=some d'/\aV fns E d d')\/(Instr.fill place c l=none)
 | [],[],c,c',h,hc=>.inl ⟨c,c',rfl,rfl,hc⟩
 | [],v'::vs',c,c',h,hc=>by have:=h.1;simp at this
 |v::vs,[],c,c',h,hc=>by have:=h.1;simp at this
 | (i,v)::vs,(i',v')::vs',c,c',h,hc=>by
   obtain⟨g1,g2⟩:=h
   simp only[List.map_cons,List.cons.injEq] at g1
   obtain⟨rfl,g1⟩:=g1
   have h0:VR fns E v v':=by simpa using g2.2 0 (by simp) (by simp)
   have h1:sw fns E vs vs':=⟨g1,⟨by have:=g2.1;simpa using this,λj a b=>by
    have:=g2.2 (j+1) (by simpa using a) (by simpa using b)
    simpa using this⟩⟩
   have hv:=lI h0
   unfold Instr.fill
   cases place i with
   |none=>exact .inr rfl
   |some x =>
    obtain⟨off,size⟩:=x
    dsimp only
    rw[<-hv.1,<-hc.1]
    split
    .exact .inr rfl
    .refine mG place vs vs' h1 ?_
     have:=foldl_set off v.cells.toList v'.cells.toList 0 (by simpa using hv) hc
     rw[<-Array.foldl_toList,<-Array.foldl_toList]
     simpa [Array.toList_zipIdx] using this
variable {l':Nat} {o o':Option Nat}
variable {P:Program} {fns:Fx} {E E' BK:Nat->Nat->Prop} {Z:Nat->Prop} {gh re f_ re' GZ Ew:World}
theorem au.setObj{a b:Nat}(x:E a b)(hz:¬Z a){o o':Obj}(ho:BJ P fns E o o'):au P fns Z E (Go.setObj a o) (Go.setObj b o') (λ_ _ _=>True):=by
 intro gh re hw
 have key:∀ u u',gh.heap[a]?=some u->re.heap[b]?=some u'->(Go.setObj a o).run P gh=.ok () { gh with heap:=gh.heap.setIfInBounds a o }->(Go.setObj b o').run (fns.re P) re=.ok () { re with heap:=re.heap.setIfInBounds b o' } ->
  (∀ es,∀ e∈(Go.setObj b o').events (fns.re P) re es,e∈es\/qK E Z e) ->
  ∃ E' v re',(Go.setObj b o').run (fns.re P) re=.ok v re'/\Out P fns E E' Z gh re { gh with heap:=gh.heap.setIfInBounds a o } re'/\True/\∀ es,∀ e∈(Go.setObj b o').events (fns.re P) re es,e∈es\/qK E' Z e:=by
  intro u u' k1 k2 _ r2 hev
  have la:=lt_of_heap k1
  have lb:=lt_of_heap k2
  have g1:∀ y,(gh.heap.setIfInBounds a o)[y]?=if y=a then some o else gh.heap[y]?:=λy=>by
   by_cases h:a=y
   .subst h;simp[Array.getElem?_setIfInBounds_self_of_lt la]
   .rw[Array.getElem?_setIfInBounds_ne h,if_neg (Ne.symm h)]
  have g2:∀ y,(re.heap.setIfInBounds b o')[y]?=if y=b then some o' else re.heap[y]?:=λy=>by
   by_cases h:b=y
   .subst h;simp[Array.getElem?_setIfInBounds_self_of_lt lb]
   .rw[Array.getElem?_setIfInBounds_ne h,if_neg (Ne.symm h)]
  refine⟨E,(),_,r2,⟨λ_ _ x=>x,⟨λy hy=>by simpa using hw.iO y hy,hw.iY,by simpa using hw.jG,by simpa using hw.lK,hw.glob,hw.inj,λy y' hy=>?_⟩,λ_ _ x=>.inl x,by simp,by simp,rfl,rfl,Nat.le_refl _,by simp,rfl,rfl,rfl,rfl,λy _ hy=>?_,λy _ hy=>?_,by simp[Nat.add_comm],λi hi=>by simp at hi;omega⟩,trivial,hev⟩
  .rw[g1,g2]
   by_cases h:y=a
   .have h2:y'=b:=(hw.inj _ _ _ _ hy x).1 h
    subst h;subst h2
    rw[if_pos rfl,if_pos rfl]
    exact .inr (.inr ⟨λ_=>hz,o,o',rfl,rfl,ho⟩)
   .have h2:y'≠b:=λe=>h ((hw.inj _ _ _ _ x hy).2 e.symm (.inr (hw.iY.1 _ hz))).symm
    rw[if_neg h,if_neg h2]
    exact hw.cells _ _ hy
  .show (re.heap.setIfInBounds b o')[y]?=_
   rw[g2,if_neg]
   intro e
   exact hz (hy a (e▸x))
  .show (gh.heap.setIfInBounds a o)[y]?=_
   rw[g1,if_neg]
   intro e
   subst e
   exact hz (hy b x)
 have evs:∀ u',re.heap[b]?=some u'->(∀ c e f,u'≠.cells c e f)->∀ es,∀ e∈(Go.setObj b o').events (fns.re P) re es,e∈es\/qK E Z e:=by
  intro u' k2 hn es e he
  have hs:o'.isChan=false:=by rcases ho.two with ⟨_,r,rfl⟩|⟨_,r,rfl⟩<;>rfl
  simp only[Go.setObj,Sem.events,Sem.runT,k2] at he
  cases u' with
  |cells c e f=>exact(hn _ _ _ rfl).elim
  |_ =>
   simp only[Array.mem_push] at he
   rcases he with he|rfl
   .exact .inl he
   .exact .inr (.inl ⟨b,rfl,hs,a,x,λ_=>hz⟩)
 rcases hw.cells _ _ x with ⟨c,c',el,fr,fr',k1,k2,k3,_⟩|⟨y,y',l,k1,k2,k3⟩|⟨_,u,u',k1,k2,k3⟩
 .simp only[Go.setObj,Sem.run,k1];exact⟨rfl,Calm.refl _⟩
 .have r1:(Go.setObj a o).run P gh=.ok () { gh with heap:=gh.heap.setIfInBounds a o }:=by simp only[Go.setObj,Sem.run,k1]
  have r2:(Go.setObj b o').run (fns.re P) re=.ok () { re with heap:=re.heap.setIfInBounds b o' }:=by simp only[Go.setObj,Sem.run,k2]
  rw[r1]
  exact λ_=>key _ _ k1 k2 r1 r2 (evs _ k2 (λc e f h=>by cases h))
 .rcases k3.two with ⟨⟨r,rfl⟩,r',rfl⟩|⟨⟨r,rfl⟩,r',rfl⟩ <;>
  .have r1:(Go.setObj a o).run P gh=.ok () { gh with heap:=gh.heap.setIfInBounds a o }:=by simp only[Go.setObj,Sem.run,k1]
   have r2:(Go.setObj b o').run (fns.re P) re=.ok () { re with heap:=re.heap.setIfInBounds b o' }:=by simp only[Go.setObj,Sem.run,k2]
   rw[r1]
   exact λ_=>key _ _ k1 k2 r1 r2 (evs _ k2 (λc e f h=>by cases h))
def LpR(P:Program)(fns:Fx)(E:Nat->Nat->Prop)(r r':Loop):Prop:=BJ P fns E (.loop r) (.loop r')
theorem TD{r r':Loop}:LpR P fns E r r'↔∃ x d,r'={ r with tmps:=x,defers:=d }/\(∀ c,r.pending=some c->zX c=true)/\LoC P fns E r x d:=by
 constructor
 .rintro (⟨r1,x,d,h1,h2,h3⟩|⟨d,_,h1,_⟩)
  .cases h1;cases h2;exact⟨x,d,rfl,h3⟩
  .cases h1
 .rintro ⟨x,d,rfl,h⟩
  exact .inl ⟨r,x,d,rfl,rfl,h⟩
theorem au.getLoop{l:Nat}(x:E l l'):au P fns Z E (Instr.getLoop l) (Instr.getLoop l') (λE' r r'=>(fns.full=true->¬Z l)/\LpR P fns E' r r'):=by
 unfold Instr.getLoop
 refine au.bind (au.getObj x) λE1 o o' up h=>?_
 rcases h with ⟨y,y',lo,rfl,rfl,_⟩|⟨hz,h⟩
 .exact au.dies aK.stuck
 .rcases h.two with ⟨⟨r,rfl⟩,r',rfl⟩|⟨⟨d,rfl⟩,_⟩
  .exact au.pure ⟨hz,h⟩
  .exact au.dies aK.stuck
theorem wU:∀ (l l':List (Nat × Value)) {x x':Array Value},l.map (·.1)=l'.map (·.1)->aV fns E (l.map (·.2)).toArray (l'.map (·.2)).toArray->aV fns E x x' ->
 aV fns E (l.foldl (λt p=>t.setIfInBounds p.1 p.2) x) (l'.foldl (λt p=>t.setIfInBounds p.1 p.2) x')
 | [],[],_,_,_,_,h=>h
 | [],_::_,_,_,h,_,_=>by cases h
 |_::_,[],_,_,h,_,_=>by cases h
 |p::l,p'::l',x,x',h,h2,h3=>by
  simp only[List.map_cons,List.cons.injEq] at h h2
  have h0:VR fns E p.2 p'.2:=by simpa using h2.2 0 (by simp) (by simp)
  have h1:aV fns E (l.map (·.2)).toArray (l'.map (·.2)).toArray:=⟨by have:=h2.1;simpa using this,λj a b=>by
   have:=h2.2 (j+1) (by simpa using a) (by simpa using b)
   simpa using this⟩
  simp only[List.foldl_cons]
  rw[<-h.1]
  exact wU l l' h.2 h1 (h3.set _ h0)
def G5(P:Program)(fns:Fx)(E:Nat->Nat->Prop)(n n':Next):Prop :=
 ∃ l l' f x x' a b,n=.round l f x a b/\n'=.round l' f x' a b/\fns.full=true/\E l l'/\aV fns E x x'/\Js P fns f/\bT P fns (o7 P f) a=true/\bT P fns (o7 P f) b=true
theorem TF{ps:Array Tmp}{a a':Array Value}(h:aV fns E a a')(hs:a.size=ps.size):((ps.zip a).toList.map (·.1))=((ps.zip a').toList.map (·.1))/\aV fns E ((ps.zip a).toList.map (·.2)).toArray ((ps.zip a').toList.map (·.2)).toArray:=by
 have hs':a'.size=ps.size:=h.1▸hs
 have l1:ps.toList.length=a.toList.length:=by simp[hs]
 have l2:ps.toList.length=a'.toList.length:=by simp[hs']
 rw[Array.toList_zip,Array.toList_zip]
 constructor
 .rw[List.map_fst_zip (by omega),List.map_fst_zip (by omega)]
 .rw[List.map_snd_zip (by omega),List.map_snd_zip (by omega)]
  exact fC h
theorem au.yield(hfull:fns.full=true){l:Nat}(x:E l l'){a a':Array Value}(ha:aV fns E a a'):au P fns Z E (Instr.yield l a) (Instr.yield l' a') (λE' n n'=>G5 P fns E' n n'):=by
 unfold Instr.yield
 refine au.bind (au.getLoop x) λE1 r r' up h=>?_
 obtain⟨y,d,rfl,_,hc⟩:=TD.1 h.2
 obtain⟨h1,_,h4,h5,h6⟩:=hc.2 hfull
 have ha1:=ha.up up
 dsimp only
 rw[<-ha1.1]
 split
 .exact au.dies aK.stuck.bind
 .rename_i hs
  have hs:a.size=r.params.size:=by simpa using hs
  obtain⟨z1,z2⟩:=TF ha1 hs
  refine au.pure ⟨l,l',r.fn,_,_,r.assign,r.body,rfl,rfl,hfull,up _ _ x,?_,h4,h5,h6⟩
  rw[<-Array.foldl_toList,<-Array.foldl_toList]
  exact wU _ _ z1 z2 h1
theorem au.beginRound(hfull:fns.full=true){l:Nat}(x:E l l'):au P fns Z E (Instr.beginRound l) (Instr.beginRound l') (λ_ _ _=>True):=by
 unfold Instr.beginRound
 refine au.bind (au.getLoop x) λE1 r r' up h=>?_
 obtain⟨y,d,rfl,h1⟩:=TD.1 h.2
 refine au.bind (au.setObj (up _ _ x) (h.1 hfull) (TD.2 ⟨y,d,rfl,h1⟩)) λE2 _ _ dH _=>?_
 dsimp only
 cases r.state<;>first|exact au.pure trivial|exact au.dies (aK.runtimePanic _)
theorem au.endRound(hfull:fns.full=true){l:Nat}(x:E l l'){j:Option Code}(hj:∀ c,j=some c->zX c=true):au P fns Z E (Instr.endRound l j) (Instr.endRound l' j) (λE' v v'=>VR fns E' v v'):=by
 unfold Instr.endRound
 refine au.bind (au.getLoop x) λE1 r r' up h=>?_
 obtain⟨y,d,rfl,_,h4⟩:=TD.1 h.2
 refine au.bind (au.setObj (up _ _ x) (h.1 hfull) (TD.2 ⟨y,d,rfl,hj,h4⟩)) λE2 _ _ dH _=>au.pure (j4.2 rfl)
theorem au.endLoop(hfull:fns.full=true){l:Nat}(x:E l l'):au P fns Z E (Instr.endLoop l) (Instr.endLoop l') (λ_ j j'=>j'=j/\∀ c,j=some c->zX c=true):=by
 unfold Instr.endLoop
 refine au.bind (au.getLoop x) λE1 r r' up h=>?_
 obtain⟨y,d,rfl,h1⟩:=TD.1 h.2
 dsimp only
 split
 .exact au.dies (aK.runtimePanic _).bind
 .exact au.bind (au.setObj (up _ _ x) (h.1 hfull) (TD.2 ⟨y,d,rfl,h1⟩)) λE2 _ _ dH _=>au.pure ⟨rfl,h1.1⟩
theorem au.takeDeferred(hfull:fns.full=true){b b':Nat}(x:E b b'):au P fns Z E (Instr.takeDeferred b) (Instr.takeDeferred b') (λ_ l l'=>l=[]/\l'=[]):=by
 unfold Instr.takeDeferred
 refine au.bind (au.getObj x) λE1 o o' up h=>?_
 rcases h with ⟨y,y',lo,rfl,rfl,_⟩|⟨hz,h⟩
 .exact au.dies aK.stuck
 .rcases h with ⟨r,x1,d,rfl,rfl,_⟩|⟨d,hd,rfl,rfl⟩
  .exact au.dies aK.stuck
  .rcases hd with rfl|rfl
   .exact au.dies aK.stuck
   .exact au.bind (au.setObj (up _ _ x) (hz hfull) (.inr ⟨none,.inl rfl,rfl,rfl⟩)) λE2 _ _ dH _=>au.pure ⟨rfl,rfl⟩
def DL(fns:Fx)(E:Nat->Nat->Prop):List Deferred->List Deferred->Prop
 | [],l=>l=[]
 |d::ds,l=>∃ b b' ds',d={ target:=.collected b,args:=#[] }/\l={ target:=.collected b',args:=#[] }::ds'/\(fns.full=true/\E b b')/\DL fns E ds ds'
theorem DL.up(hE:∀ a b,E a b->E' a b):∀ {l l':List Deferred},DL fns E l l'->DL fns E' l l'
 | [],_,h=>h
 |_::_,_,⟨b,b',ds',h1,h2,h3,h4⟩=>⟨b,b',ds',h1,h2,⟨h3.1,hE _ _ h3.2⟩,DL.up hE h4⟩
theorem DL.eq(hE:∀ a b,E a b->a=b):∀ {l l':List Deferred},DL fns E l l'->l'=l
 | [],_,h=>h
 |_::_,_,⟨b,b',ds',h1,h2,h3,h4⟩=>by rw[h1,h2,hE _ _ h3.2,DL.eq hE h4]
theorem DL.append:∀ {l l' m m':List Deferred},DL fns E l l'->DL fns E m m'->DL fns E (l++m) (l'++m')
 | [],_,_,_,h,k=>by cases h;exact k
 |_::_,_,_,_,⟨b,b',ds',h1,h2,h3,h4⟩,k=>⟨b,b',ds'++_,h1,by rw[h2];rfl,h3,DL.append h4 k⟩
def OE(fns:Fx)(E:Nat->Nat->Prop):Option Nat->Option Nat->Prop
 |none,o=>o=none
 |some l,o=>∃ l',o=some l'/\fns.full=true/\E l l'
theorem OE.up(h:OE fns E o o')(hE:∀ a b,E a b->E' a b):OE fns E' o o':=by
 cases o with
 |none=>exact h
 |some l=>obtain⟨l',h1,h2,h3⟩:=h;exact⟨l',h1,h2,hE _ _ h3⟩
theorem OE.eq(h:OE fns E o o')(hE:∀ a b,E a b->a=b):o'=o:=by
 cases o with
 |none=>exact h
 |some l=>obtain⟨l',h1,_,h2⟩:=h;rw[h1,hE _ _ h2]
theorem au.enterLoop(hfull:fns.full=true){fn:FuncId}{x x':Array Value}(hx:aV fns E x x')(ps:Array Tmp){a b:Code}(hf:Js P fns fn)(ha:bT P fns (o7 P fn) a=true)(hb:bT P fns (o7 P fn) b=true)(ho:OE fns E o o') :
 au P fns Z E (Instr.enterLoop fn x ps a b o) (Instr.enterLoop fn x' ps a b o') (λE' r r'=>E' r.1 r'.1/\DL fns E' r.2 r'.2):=by
 unfold Instr.enterLoop
 have tail:∀ {E1:Nat->Nat->Prop} (d d':Nat) (m m':List Deferred),(∀ a b,E a b->E1 a b)->E1 d d'->DL fns E1 m m' ->
  au P fns Z E1 (do let l <-Go.newObj (.loop { state:=.ready,pending:=none,fn,tmps:=x,params:=ps,assign:=a,body:=b,defers:=d });Pure.pure (l,m)) (do let l <-Go.newObj (.loop { state:=.ready,pending:=none,fn,tmps:=x',params:=ps,assign:=a,body:=b,defers:=d' });Pure.pure (l,m')) (λE' (r r':Nat × List Deferred)=>E' r.1 r'.1/\DL fns E' r.2 r'.2):=λd d' m m' up hd hm =>
  au.bind (au.newObj λjT dh=>.inr (.inr (TD.2 ⟨x',d',rfl,(by intro c hc;cases hc),(λu=>by rw[hfull] at u;cases u),λ_=>⟨(hx.up up).up dh,dh _ _ hd,hf,ha,hb⟩⟩))) λE2 l l' dH h2=>au.pure ⟨h2.1,hm.up dH⟩
 cases o with
 |none =>
  cases ho
  exact au.bind (au.newObj λjT _=>.inr (.inr (.inr ⟨some [],.inr rfl,rfl,rfl⟩))) λE1 b b' up h=>tail b b' _ _ up h.1 ⟨b,b',[],rfl,rfl,⟨hfull,h.1⟩,rfl⟩
 |some l =>
  obtain⟨l',rfl,_,hl⟩:=ho
  refine au.bind (au.getLoop hl) λE1 r r' up h=>?_
  obtain⟨y,d,rfl,_,h2⟩:=TD.1 h.2
  exact tail _ _ _ _ up (h2.2 hfull).2.1 rfl
variable {h h' l' m m':Option Value} {v':Value}
variable {P:Program} {fns:Fx} {E E' BK:Nat->Nat->Prop} {Z:Nat->Prop}
theorem au.Ez{α β γ:Type}{f:α->Sem β}{f':α->Sem β}(hf:∀ E a,au P fns Z E (f a) (f' a) (λ_ x y=>y=x)):∀ (l:List α) {E:Nat->Nat->Prop},au P fns Z E (l.mapM f) (l.mapM f') (λ_ x y=>y=x)
 | [],E=>by simp only[List.mapM_nil];exact au.pure rfl
 |a::l,E=>by
  simp only[List.mapM_cons]
  refine au.bind (hf E a) λE1 x y up h=>?_
  subst h
  refine au.bind (au.Ez (γ:=γ) hf l) λE2 x y up h=>?_
  subst h
  exact au.pure rfl
theorem au.mapM{α β:Type}{f:α->Sem β}(hf:∀ E a,au P fns Z E (f a) (f a) (λ_ x y=>y=x))(x:Array α):au P fns Z E (x.mapM f) (x.mapM f) (λ_ x y=>y=x):=by
 rw[Array.mapM_eq_mapM_toList]
 refine au.bind (Φ:=λ_ x y=>y=x) (au.Ez (γ:=Unit) hf _) λE1 x y up h=>?_
 subst h
 exact au.pure rfl
theorem au.build(hz:zeros P fns)(t:TypeId)(ht:fns.tys t=true){x x':Array (Nat × Value)}(hx:sw fns E x.toList x'.toList):au P fns Z E (Instr.build t x) (Instr.build t x') (λE' v v'=>VR fns E' v v'):=by
 have hup:∀ {E1:Nat->Nat->Prop},(∀ a b,E a b->E1 a b)->sw fns E1 x.toList x'.toList:=λup=>⟨hx.1,hx.2.up up⟩
 unfold Instr.build
 refine au.bind (au.zeroValue hz t ht) λE1 v v' up h=>?_
 obtain⟨rfl,hc⟩:=h
 dsimp only
 refine au.bind (au.underlying t) λE2 d d' dH h=>?_
 obtain⟨rfl,_⟩:=h
 split
 .refine au.bind (au.mapM (λE f=>au.bind (au.sizeOf _) λE' n n' up h=>au.pure (by rw[h])) _) λE3 pl pl' fH h=>?_
  subst h
  rcases mG (E:=E3) (pl'[·]?) x.toList x'.toList (hup (λa b z=>fH _ _ (dH _ _ (up _ _ z)))) (lI (jL hc)) with ⟨d,d',h1,h2,h3⟩|h
  .rw[h1,h2];exact au.pure (bQ.2 ⟨_,rfl,h3⟩)
  .rw[h];exact au.stuck
 .refine au.bind (au.sizeOf _) λE3 pl pl' fH h=>?_
  subst h
  rcases mG (E:=E3) (λi=>some (i*pl',pl')) x.toList x'.toList (hup (λa b z=>fH _ _ (dH _ _ (up _ _ z)))) (lI (jL hc)) with ⟨d,d',h1,h2,h3⟩|h
  .rw[h1,h2];exact au.pure (bQ.2 ⟨_,rfl,h3⟩)
  .rw[h];exact au.stuck
 .exact au.stuck
theorem iP{v:Value}(h:mD v=true):∀ i (hi:i<v.cells.size),VR fns E v.cells[i] v.cells[i]:=λi hi=>(lI (jL h)).2 i hi hi
theorem sG{z:Array Value}(hz:∀ i (hi:i<z.size),VR fns E z[i] z[i])(n:Nat):aV fns E ((Array.range n).map (z[·%z.size]!)) ((Array.range n).map (z[·%z.size]!)):=by
 refine⟨rfl,λi a b=>?_⟩
 simp only[Array.getElem_map,Array.getElem_range]
 by_cases hp:i%z.size<z.size
 .rw[getElem!_pos z (i%z.size) hp]
  exact hz _ _
 .rw[getElem!_neg z (i%z.size) hp]
  exact aH rfl
theorem au.buildSlice(hz:zeros P fns)(t:TypeId)(ht:∀ e,P.underlying t=some (.slice e)->fns.tys e=true)(len:Nat){x x':Array (Nat × Value)}(hx:sw fns E x.toList x'.toList):au P fns Z E (Instr.buildSlice t len x) (Instr.buildSlice t len x') (λE' v v'=>VR fns E' v v'):=by
 unfold Instr.buildSlice
 refine au.bind (au.underlying t) λE1 d d' dh h=>?_
 obtain⟨rfl,hu⟩:=h
 split
 .refine au.bind (au.sizeOf _) λE2 n n' dH h=>?_
  subst h
  dsimp only
  have key:∀ {E3:Nat->Nat->Prop} (z:Array Value),(∀ a b,E a b->E3 a b)->(∀ E i (hi:i<z.size),VR fns E z[i] z[i]) ->
   (∃ d d',Instr.fill (λi=>some (i*n',n')) ((Array.range (len*n')).map (z[·%z.size]!)) x.toList=some d/\Instr.fill (λi=>some (i*n',n')) ((Array.range (len*n')).map (z[·%z.size]!)) x'.toList=some d'/\aV fns E3 d d')\/Instr.fill (λi=>some (i*n',n')) ((Array.range (len*n')).map (z[·%z.size]!)) x.toList=none :=
   λ{E3} z up hzz=>mG (E:=E3) (λi=>some (i*n',n')) x.toList x'.toList ⟨hx.1,hx.2.up up⟩ (sG (hzz E3) (len*n'))
  split
  .exact au.dies (aK.bind (aK.halt rfl))
  .split
   .refine au.bind (Φ:=λ_ z z'=>z=#[]/\z'=#[]) (au.pure ⟨rfl,rfl⟩) λE3 z z' fH h=>?_
    obtain⟨rfl,rfl⟩:=h
    rcases key (E3:=E3) #[] (λa b y=>fH _ _ (dH _ _ (dh _ _ y))) (λE i hi=>by simp at hi) with ⟨d,d',h1,h2,h3⟩|h
    .rw[h1,h2]
     exact au.bind (au.newRow h3) λE4 a a' qL h=>au.pure (aO.2 ⟨_,rfl,.inl h.as⟩)
    .rw[h];exact au.stuck
   .refine au.bind (au.zeroValue hz _ (ht _ hu)) λE3 v v' fH h=>?_
    obtain⟨rfl,hc⟩:=h
    refine au.bind (Φ:=λ_ z z'=>z=v'.cells/\z'=v'.cells) (au.pure ⟨rfl,rfl⟩) λE4 z z' qL h=>?_
    obtain⟨rfl,rfl⟩:=h
    rcases key (E3:=E4) v'.cells (λa b y=>qL _ _ (fH _ _ (dH _ _ (dh _ _ y)))) (λE i hi=>iP hc i hi) with ⟨d,d',h1,h2,h3⟩|h
    .rw[h1,h2]
     exact au.bind (au.newRow h3) λE4 a a' qL h=>au.pure (aO.2 ⟨_,rfl,.inl h.as⟩)
    .rw[h];exact au.stuck
 .exact au.stuck
theorem au.sliceBound{v:Value}(hv:VR fns E v v')(y:Nat)(c:BoundsCode):au P fns Z E (Instr.sliceBound v y c) (Instr.sliceBound v' y c) (λ_ n n'=>n'=n/\n<=y):=by
 unfold Instr.sliceBound
 refine au.bind (au.asIntOf hv) λE1 n n' up h=>?_
 subst h
 dsimp only
 split
 .rename_i hc
  exact au.pure ⟨rfl,by omega⟩
 .exact au.dies (aK.boundsPanic _ _ _ _)
def oQ(fns:Fx)(E:Nat->Nat->Prop):Option Value->Option Value->Prop
 |none,none=>True
 |some v,some v'=>VR fns E v v'
 |_,_=>False
theorem oQ.up{v v':Option Value}(h:oQ fns E v v')(hE:∀ a b,E a b->E' a b):oQ fns E' v v':=by
 cases v<;>cases v'<;>first|exact h|exact VR.up h hE
theorem au.sliceBounds(b:Bool)(len cap:Nat){l:Option Value}(hl:oQ fns E l l')(hh:oQ fns E h h')(hm:oQ fns E m m'):au P fns Z E (Instr.sliceBounds b len cap l h m) (Instr.sliceBounds b len cap l' h' m') (λ_ n n'=>n'=n/\(len=0->cap=0->n=(0,0,0))):=by
 unfold Instr.sliceBounds
 cases m<;>cases m'<;>first|exact hm.elim|skip
 all_goals refine au.bind (Φ:=λ_ n n'=>n'=n/\n<=cap) (by first|exact au.pure ⟨rfl,Nat.le_refl _⟩|exact au.sliceBound hm _ _) λE1 x x' dh e=>?_
 all_goals obtain⟨rfl,ex⟩:=e
 all_goals have N_:=hh.up dh
 all_goals cases h<;>cases h'<;>first|exact hh.elim|exact au.dies (aK.bind aK.stuck)|skip
 all_goals refine au.bind (Φ:=λ_ n n'=>n'=n/\(len=0->cap=0->n=0)) (by first|exact au.pure ⟨rfl,λe _=>e⟩|exact(au.sliceBound N_ _ _).mono λ_ _ _ _ e=>⟨e.1,λ_ _=>by have:=e.2;omega⟩) λE2 y y' dH e=>?_
 all_goals obtain⟨rfl,ey⟩:=e
 all_goals have hl2:=(hl.up dh).up dH
 all_goals cases l<;>cases l'<;>first|exact hl.elim|skip
 all_goals refine au.bind (Φ:=λ_ n n'=>n'=n/\(len=0->cap=0->n=0)) (by first|exact au.pure ⟨rfl,λ_ _=>rfl⟩|exact(au.sliceBound hl2 _ _).mono λ_ _ _ _ e=>⟨e.1,λe1 e2=>by have:=e.2;have:=ey e1 e2;omega⟩) λE3 z z' fH e=>?_
 all_goals obtain⟨rfl,ez⟩:=e
 all_goals exact au.pure ⟨rfl,λe1 e2=>by rw[ey e1 e2,ez e1 e2,show x'=0 by omega]⟩
theorem au.slice(t:TypeId){v:Value}(hv:VR fns E v v'){l:Option Value}(hl:oQ fns E l l')(hh:oQ fns E h h')(hm:oQ fns E m m'):au P fns Z E (Instr.slice t v l h m) (Instr.slice t v' l' h' m') (λE' v v'=>VR fns E' v v'):=by
 unfold Instr.slice
 refine au.bind (au.underlying t) λE1 d d' dh e=>?_
 obtain⟨rfl,_⟩:=e
 have hv1:=hv.up dh
 have hl1:=hl.up dh
 have N_:=hh.up dh
 have hm1:=hm.up dh
 have em:m'.isSome=m.isSome:=by cases m<;>cases m'<;>first|rfl|exact hm.elim
 split
 .rename_i s
  rw[dL] at hv1
  subst hv1
  rw[em]
  split
  .exact au.dies (aK.bind aK.stuck)
  .refine au.bind (au.sliceBounds _ _ _ hl1 N_ trivial) λE2 n n' dH e=>?_
   obtain⟨rfl,_⟩:=e
   exact au.pure (aH rfl)
 .rename_i a _ _ _
  obtain⟨b,rfl,ha⟩:=aO.1 hv1
  dsimp only
  refine au.bind (au.sliceBounds _ _ _ hl1 N_ hm1) λE2 n n' dH e=>?_
  obtain⟨rfl,hnil⟩:=e
  refine au.bind (au.sizeOf _) λE3 sz sz' fH e=>?_
  subst e
  refine au.pure (aO.2 ⟨_,rfl,?_⟩)
  rcases ha with ha|⟨e1,e2,e3⟩
  .have Fe:=(ha.up dH).up fH
   refine .inl ?_
   split
   .exact Fe
   .cases a with
    |none=>rw[gU] at Fe;subst Fe;trivial
    |some a=>obtain⟨b',rfl,Fe⟩:=dO.1 Fe;exact Fe.add _
  .have hn0:=hnil e1 e2
   subst hn0
   exact .inr ⟨rfl,rfl,by rw[if_pos rfl,if_pos rfl];exact e3⟩
 .refine au.bind (au.asAddr hv1) λE2 a a' dH ha=>?_
  refine au.bind (au.underlying _) λE3 d d' fH e=>?_
  obtain⟨rfl,_⟩:=e
  split
  .refine au.bind (au.sliceBounds _ _ _ ((hl1.up dH).up fH) ((N_.up dH).up fH) ((hm1.up dH).up fH)) λE4 n n' qL e=>?_
   obtain⟨rfl,_⟩:=e
   dsimp only
   refine au.bind (au.sizeOf _) λE5 n n' wV e=>?_
   subst e
   refine au.pure (aO.2 ⟨_,rfl,.inl ?_⟩)
   have Fe:=(((ha.up fH).up qL).up wV).as
   split
   .exact Fe
   .exact Fe.add _
  .exact au.stuck
 .exact au.stuck
theorem au.sliceAt(t:TypeId){v:Value}(hv:VR fns E v v'){l:Option Value}(hl:oQ fns E l l')(hh:oQ fns E h h')(hm:oQ fns E m m'):au P fns Z E (Instr.sliceAt t v l h m) (Instr.sliceAt t v' l' h' m') (λE' v v'=>VR fns E' v v'):=by
 unfold Instr.sliceAt
 refine au.bind (au.underlying t) λE1 d d' dh e=>?_
 obtain⟨rfl,_⟩:=e
 have hv1:=hv.up dh
 have hl1:=hl.up dh
 have N_:=hh.up dh
 have hm1:=hm.up dh
 split
 .refine au.bind (au.sureAddr hv1) λE2 a a' dH ha=>?_
  refine au.bind (au.sliceBounds _ _ _ (hl1.up dH) (N_.up dH) (hm1.up dH)) λE4 n n' qL e=>?_
  obtain⟨rfl,_⟩:=e
  dsimp only
  refine au.bind (au.sizeOf _) λE5 n n' wV e=>?_
  subst e
  refine au.pure (aO.2 ⟨_,rfl,.inl ?_⟩)
  have Fe:=((ha.up qL).up wV).as
  split
  .exact Fe
  .exact Fe.add _
 .exact au.slice t hv1 hl1 N_ hm1
theorem au.indexAt(t:TypeId){v x x':Value}(hv:VR fns E v v')(hx:VR fns E x x'):au P fns Z E (Instr.indexAt t v x) (Instr.indexAt t v' x') (λE' v v'=>VZ fns E' v v'):=by
 unfold Instr.indexAt
 refine au.bind (au.asIntOf hx) λE1 n n' dh e=>?_
 subst e
 dsimp only
 refine au.bind (au.underlying t) λE2 d d' dH e=>?_
 obtain⟨rfl,_⟩:=e
 have hv2:=(hv.up dh).up dH
 split
 .refine au.bind (au.sureAddr hv2) λE3 a a' fH ha=>?_
  refine au.bind (Φ:=λE' (y y':Option Addr × Nat × TypeId)=>OA fns E' y.1 y'.1/\y.2=y'.2) (au.pure ⟨ha,rfl⟩) λE3 y y' fH e=>?_
  obtain⟨base,len,elem⟩:=y
  obtain⟨base',len',elem'⟩:=y'
  obtain⟨e1,e2⟩:=e
  simp only[Prod.mk.injEq] at e2
  obtain⟨rfl,rfl⟩:=e2
  dsimp only at e1 ⊢
  refine au.bind (au.underlying t) λE4 d d' qL e=>?_
  obtain⟨rfl,_⟩:=e
  have e4:=e1.up qL
  cases base with
  |none =>
   rw[jq] at e4;subst e4
   exact au.dies (aK.boundsPanic _ _ _ _)
  |some a =>
   obtain⟨b',rfl,ha⟩:=cB.1 e4
   dsimp only
   split
   .refine au.bind (au.sizeOf _) λE5 n n' wV e=>?_
    subst e
    exact au.pure (.inl (aN.2 ⟨_,rfl,(ha.up wV).add _⟩))
   .refine au.dies ?_
    split<;>split<;>first|exact aK.halt rfl|exact aK.boundsPanic _ _ _ _
 .obtain⟨b,rfl,ha⟩:=aO.1 hv2
  refine au.bind (Φ:=λE' (y y':Option Addr × Nat × TypeId)=>(OS fns E' y.1 y'.1\/(y.2.1=0/\y.1=y'.1))/\y.2=y'.2) (au.pure ⟨ha.imp id λx=>⟨x.1,x.2.2⟩,rfl⟩) λE3 y y' fH e=>?_
  obtain⟨base,len,elem⟩:=y
  obtain⟨base',len',elem'⟩:=y'
  obtain⟨e1,e2⟩:=e
  simp only[Prod.mk.injEq] at e2
  obtain⟨rfl,rfl⟩:=e2
  dsimp only at e1 ⊢
  refine au.bind (au.underlying t) λE4 d d' qL e=>?_
  obtain⟨rfl,_⟩:=e
  rcases e1 with e1|⟨e5,e6⟩
  rotate_left
  .subst e5 e6
   cases base with
   |none=>exact au.dies (aK.boundsPanic _ _ _ _)
   |some a =>
    dsimp only
    split
    .rename_i hcc
     have:=hcc.1
     have:=hcc.2
     omega
    .refine au.dies ?_
     split<;>split<;>first|exact aK.halt rfl|exact aK.boundsPanic _ _ _ _
  have e4:=e1.up qL
  cases base with
  |none =>
   rw[gU] at e4;subst e4
   exact au.dies (aK.boundsPanic _ _ _ _)
  |some a =>
   obtain⟨b',rfl,ha⟩:=dO.1 e4
   dsimp only
   split
   .refine au.bind (au.sizeOf _) λE5 n n' wV e=>?_
    subst e
    exact au.pure (.inr ⟨_,_,rfl,rfl,(ha.up wV).add _⟩)
   .refine au.dies ?_
    split<;>split<;>first|exact aK.halt rfl|exact aK.boundsPanic _ _ _ _
 .exact au.dies (aK.bind aK.stuck)
theorem au.extract{v:Value}(hv:VR fns E v v')(i:Nat):au P fns Z E (Instr.extract v i) (Instr.extract v' i) (λE' v v'=>VR fns E' v v'):=by
 cases v with
 |tuple x =>
  obtain⟨x',rfl,h⟩:=bq.1 hv
  unfold Instr.extract
  dsimp only
  cases hx:x[i]? with
  |none=>exact au.stuck
  |some u=>obtain⟨u',h1,h2⟩:=h.get? i hx;rw[h1];exact au.pure h2
 |_=>exact au.dies (aK.halt rfl)
variable {x':Array Value} {v':Value}
variable {P:Program} {fns:Fx} {E E' BK:Nat->Nat->Prop} {Z:Nat->Prop}
theorem au.Jt(z:Array Value)(hzz:∀ i (hi:i<z.size),VR fns E z[i] z[i])(el:TypeId)(k u v:Nat) :
 au P fns Z E (Go.newRow el ((Array.range k).map (z[·%z.size]!)) >>= λa=>Pure.pure (Value.slice (some a) u v)) (Go.newRow el ((Array.range k).map (z[·%z.size]!)) >>= λa=>Pure.pure (Value.slice (some a) u v)) (λE' v v'=>VR fns E' v v') :=
 au.bind (au.newRow (sG hzz k)) λ_ _ _ _ h=>au.pure (aO.2 ⟨_,rfl,.inl h.as⟩)
theorem au.makeSlice(hz:zeros P fns)(t:TypeId)(ht:∀ e,P.underlying t=some (.slice e)->fns.tys e=true){l l' c c':Value}(hl:VR fns E l l')(hc:VR fns E c c'):au P fns Z E (Instr.makeSlice t l c) (Instr.makeSlice t l' c') (λE' v v'=>VR fns E' v v'):=by
 unfold Instr.makeSlice
 refine au.bind (au.underlying t) λE1 d d' dh e=>?_
 obtain⟨rfl,hu⟩:=e
 split
 .refine au.bind (au.asInt (hl.up dh)) λE2 n n' dH e=>?_
  subst e
  refine au.bind (au.asInt ((hc.up dh).up dH)) λE3 m m' fH e=>?_
  subst e
  refine au.bind (au.typeInfo _) λE4 i i' qL e=>?_
  obtain⟨rfl,_⟩:=e
  dsimp only
  split
  .refine au.dies ?_
   split
   .exact aK.bind (aK.runtimePanic _)
   .split
    .exact aK.bind (aK.runtimePanic _)
    .refine aK.nD (λgh=>.inl ?_) λ_=>aK.bind (aK.runtimePanic _)
     rw[run_choose];split<;>exact⟨_,_,rfl,λ_ _ e=>.inr e⟩
  .refine au.bind (au.askRoom _) λE5 _ _ wV _=>?_
   refine au.bind (au.sizeOf _) λE6 s s' MC e=>?_
   subst e
   split
   .exact au.Jt #[] (λi hi=>by simp at hi) _ _ _ _
   .refine au.bind (au.zeroValue hz _ (ht _ hu)) λE7 v v' up7 h=>?_
    obtain⟨rfl,hcl⟩:=h
    exact au.Jt v'.cells (λi hi=>iP hcl i hi) _ _ _ _
 .exact au.stuck
theorem au.len(ts:Array TypeId)(t:TypeId){x:Array Value}(hx:aV fns E x x'):au P fns Z E (Builtin.len_ ts t x) (Builtin.len_ ts t x') (λE' v v'=>VR fns E' v v'):=by
 unfold Builtin.len_
 cases h0:x[0]? with
 |none =>
  cases ts[0]?<;>exact au.dies aK.stuck
 |some v =>
  obtain⟨v',h1,hv⟩:=hx.get? 0 h0
  rw[h1]
  cases ts[0]? with
  |none=>exact au.dies aK.stuck
  |some ty =>
   refine au.bind (au.underlying ty) λE1 d d' dh e=>?_
   obtain⟨rfl,_⟩:=e
   have hv1:=hv.up dh
   split
   .rw[dL] at hv1;subst hv1;exact au.pure (aH rfl)
   .exact au.pure (aH rfl)
   .refine au.bind (au.underlying _) λE2 d d' dH e=>?_
    obtain⟨rfl,_⟩:=e
    split
    .exact au.pure (aH rfl)
    .exact au.stuck
   .obtain⟨b,rfl,_⟩:=aO.1 hv1;exact au.pure (aH rfl)
   .obtain⟨_,rfl⟩:=dZ.1 hv1;exact au.pure (aH rfl)
   .obtain⟨_,rfl⟩:=cZ.1 hv1;exact au.pure (aH rfl)
   .have:=dZ.1 hv1;cases this.1
   .have:=cZ.1 hv1;cases this.1
   .exact au.stuck
theorem au.cap(ts:Array TypeId)(t:TypeId){x:Array Value}(hx:aV fns E x x'):au P fns Z E (Builtin.cap_ ts t x) (Builtin.cap_ ts t x') (λE' v v'=>VR fns E' v v'):=by
 unfold Builtin.cap_
 cases h0:x[0]? with
 |none =>
  cases ts[0]?<;>exact au.dies aK.stuck
 |some v =>
  obtain⟨v',h1,hv⟩:=hx.get? 0 h0
  rw[h1]
  cases ts[0]? with
  |none=>exact au.dies aK.stuck
  |some ty =>
   refine au.bind (au.underlying ty) λE1 d d' dh e=>?_
   obtain⟨rfl,_⟩:=e
   have hv1:=hv.up dh
   split
   .exact au.pure (aH rfl)
   .refine au.bind (au.underlying _) λE2 d d' dH e=>?_
    obtain⟨rfl,_⟩:=e
    split
    .exact au.pure (aH rfl)
    .exact au.stuck
   .obtain⟨b,rfl,_⟩:=aO.1 hv1;exact au.pure (aH rfl)
   .obtain⟨_,rfl⟩:=cZ.1 hv1;exact au.pure (aH rfl)
   .obtain⟨h,_⟩:=cZ.1 hv1;cases h
   .exact au.stuck
theorem au.lenOf{v:Value}(hv:VR fns E v v'):au P fns Z E (Builtin.lenOf v) (Builtin.lenOf v') (λ_ n n'=>n'=n/\∀ a l c,v=.slice a l c->n=l):=by
 cases v with
 |slice a l c=>obtain⟨b,rfl,_⟩:=aO.1 hv;exact au.pure ⟨rfl,λ_ _ _ e=>by cases e;rfl⟩
 |string s=>rw[dL] at hv;subst hv;exact au.pure ⟨rfl,λ_ _ _ e=>by cases e⟩
 |_=>exact au.dies (aK.halt rfl)
theorem G6(l:Array UInt8):aV fns E (l.map λb=>.int .u8 b.toNat) (l.map λb=>.int .u8 b.toNat):=⟨rfl,λi a b=>by simpa using aH rfl⟩
theorem au.kL(size:Nat){v:Value}(hv:VR fns E v v'):au P fns Z E (Builtin.firstCells size 0 v) (Builtin.firstCells size 0 v') (λ_ x x'=>x=#[]/\x'=#[]):=by
 have h0:∀ a:Addr,Go.loadCells a (0*size)=Pure.pure #[]:=λa=>by rw[Nat.zero_mul];rfl
 cases v with
 |slice a l c =>
  obtain⟨b,rfl,h⟩:=aO.1 hv
  cases a with
  |none=>rw[u_] at h;subst h;exact au.pure ⟨rfl,rfl⟩
  |some a =>
   obtain⟨b',rfl⟩:=Jr h
   show au P fns Z E (Go.loadCells a (0*size)) (Go.loadCells b' (0*size)) _
   rw[h0,h0]
   exact au.pure ⟨rfl,rfl⟩
 |string s =>
  rw[dL] at hv;subst hv
  have e:(s.extract 0 0).data.map (λb:UInt8=>Value.int .u8 b.toNat)=#[]:=by simp
  exact au.pure ⟨e,e⟩
 |_=>exact au.dies (aK.halt rfl)
theorem au.firstCells(size n:Nat){v:Value}(hv:VR fns E v v')(hn:∀ a l c,v=.slice a l c->n<=l):au P fns Z E (Builtin.firstCells size n v) (Builtin.firstCells size n v') (λE' x x'=>aV fns E' x x'):=by
 cases v with
 |slice a l c =>
  obtain⟨b,rfl,h⟩:=aO.1 hv
  rcases h with h|⟨e1,e2,e3⟩
  .cases a with
   |none=>rw[gU] at h;subst h;exact au.pure eX
   |some a=>obtain⟨b',rfl,h⟩:=dO.1 h;exact au.loadCells _ h
  .obtain rfl:n=0:=by have:=hn _ _ _ rfl;omega
   exact(au.kL size hv).mono λ_ x x' _ e=>by rw[e.1,e.2];exact eX
 |string s=>rw[dL] at hv;subst hv;exact au.pure (G6 _)
 |_=>exact au.dies (aK.halt rfl)
theorem jU{z:Array Value}(hz:∀ i (hi:i<z.size),VR fns E z[i] z[i])(n:Nat):aV fns E (Builtin.zeroCells z n) (Builtin.zeroCells z n):=sG hz _
theorem au.copy(ts:Array TypeId)(t:TypeId){x:Array Value}(hx:aV fns E x x'):au P fns Z E (Builtin.copy_ ts t x) (Builtin.copy_ ts t x') (λE' v v'=>VR fns E' v v'):=by
 unfold Builtin.copy_
 cases h0:x[0]? with
 |none=>cases ts[0]?<;>exact au.dies aK.stuck
 |some v =>
 cases h1:x[1]? with
 |none=>cases ts[0]?<;>exact au.dies aK.stuck
 |some u =>
  obtain⟨v',g0,hv⟩:=hx.get? 0 h0
  obtain⟨u',g1,hu⟩:=hx.get? 1 h1
  rw[g0,g1]
  cases ts[0]? with
  |none=>exact au.dies aK.stuck
  |some ty =>
   refine au.bind (au.underlying ty) λE1 d d' dh e=>?_
   obtain⟨rfl,_⟩:=e
   have hv1:=hv.up dh
   have hu1:=hu.up dh
   split
   .cases v with
    |slice a dl dc =>
     obtain⟨b,rfl,ha⟩:=aO.1 hv1
     dsimp only
     refine au.bind (au.lenOf hu1) λE2 n n' dH e=>?_
     obtain⟨rfl,hlen⟩:=e
     refine au.bind (au.sizeOf _) λE3 s s' fH e=>?_
     subst e
     rcases ha with ha|⟨e1,e2,e3⟩
     rotate_left
     .subst e1 e2 e3
      rw[show Nat.min n' 0=0 from Nat.min_zero _]
      refine au.bind (au.kL _ ((hu1.up dH).up fH)) λE4 y y' qL hy=>?_
      obtain⟨rfl,rfl⟩:=hy
      cases a with
      |none=>exact au.pure (aH rfl)
      |some a=>exact au.bind (Φ:=λ_ _ _=>True) (au.pure trivial) λE5 _ _ _ _=>au.pure (aH rfl)
     refine au.bind (au.firstCells _ _ ((hu1.up dH).up fH) (λa l c e=>by rw[<-hlen a l c e];exact Nat.min_le_left _ _)) λE4 y y' qL hy=>?_
     have LA:=((ha.up dH).up fH).up qL
     cases a with
     |none=>rw[gU] at LA;subst LA;exact au.pure (aH rfl)
     |some a =>
      obtain⟨b',rfl,TG⟩:=dO.1 LA
      exact au.bind (au.storeCells _ _ 0 TG (fC hy)) λE5 _ _ _ _=>au.pure (aH rfl)
    |_=>exact au.dies aK.stuck
   .exact au.stuck
theorem nG(size sLen n:Nat)(base:Option Addr)(x:Value)(gh:World):∃ a w,(Builtin.mayShare size sLen n base x).run P gh=.ok a w/\Calm gh w:=by
 have hold:∀ (a:Addr) (c:Nat) (gh:World),∃ r,(Builtin.holdsCells a c).run P gh=.ok r gh:=λa c gh=>by
  unfold Builtin.holdsCells
  rw[Sem.run_bind,run_shape]
  cases h:gh.shape? a.block with
  |none=>exact⟨_,by rw[Result.andThen_ok];rfl⟩
  |some s=>exact⟨_,by rw[Result.andThen_ok];rfl⟩
 have last:∀ (b:Addr) (f:Bool->Bool) (gh:World),∃ a w,(Builtin.holdsCells b (n*size) >>= λr=>Pure.pure (f r)).run P gh=.ok a w/\Calm gh w:=λb f gh=>by
  obtain⟨r,hr⟩:=hold b (n*size) gh
  exact⟨_,gh,by rw[Sem.run_bind,hr,Result.andThen_ok];rfl,Calm.refl _⟩
 unfold Builtin.mayShare
 cases base with
 |none =>
  dsimp only
  split
  .exact last _ (λr=>!r||_) gh
  .exact⟨_,_,rfl,Calm.refl _⟩
 |some a =>
  obtain⟨r,hr⟩:=hold a (sLen*size) gh
  simp only[Sem.run_bind,hr,Result.andThen_ok,run_frozen,Sem.run_pure]
  split
  .exact⟨_,_,rfl,Calm.refl _⟩
  .split
   .exact last _ (λr=>!r||_) gh
   .exact⟨_,_,rfl,Calm.refl _⟩
theorem au.append(hz:zeros P fns)(ts:Array TypeId)(t:TypeId)(ht:∀ t e,ts[0]?=some t->P.underlying t=some (.slice e)->fns.tys e=true)(hi:∀ xt d,ts[1]?=some xt->P.underlying xt=some d->isInt d=false){x:Array Value}(hx:aV fns E x x'):au P fns Z E (Builtin.append_ ts t x) (Builtin.append_ ts t x') (λE' v v'=>VR fns E' v v'):=by
 unfold Builtin.append_
 cases h0:x[0]? with
 |none=>cases ts[0]?<;>exact au.dies aK.stuck
 |some v =>
 cases h1:x[1]? with
 |none=>cases ts[0]?<;>exact au.dies aK.stuck
 |some u =>
  obtain⟨v',g0,hv⟩:=hx.get? 0 h0
  obtain⟨u',g1,hu⟩:=hx.get? 1 h1
  rw[g0,g1]
  cases hty:ts[0]? with
  |none=>exact au.dies aK.stuck
  |some ty =>
   refine au.bind (au.underlying ty) λE1 d d' dh e=>?_
   obtain⟨rfl,hun⟩:=e
   split
   .cases v with
    |slice a dl dc =>
     obtain⟨b,rfl,ha⟩:=aO.1 (hv.up dh)
     dsimp only
     refine au.bind (au.sizeOf _) λE2 s s' dH e=>?_
     subst e
     cases hxt:ts[1]? with
     |none =>
      dsimp only
      refine au.bind (Φ:=λ_ z z'=>z=false/\z'=false) (au.pure ⟨rfl,rfl⟩) λE3 z z' fH e=>?_
      obtain⟨rfl,rfl⟩:=e
      simp only[Bool.false_eq_true,if_false,Bool.not_false,if_true,false_or]
      have hu3:=((hu.up dh).up dH).up fH
      have Fe:=(ha.up dH).up fH
      refine au.bind (au.lenOf hu3) λE4 n n' qL e=>?_
      obtain⟨rfl,hlen⟩:=e
      have X7:=hu3.up qL
      have LA:=Fe.up qL
      split
      .rename_i hfit
       rcases LA with LA|⟨e1,e2,e3⟩
       rotate_left
       .subst e1 e2 e3
        obtain rfl:n'=0:=by omega
        refine au.bind (au.kL _ X7) λE5 y y' wV hy=>?_
        obtain⟨rfl,rfl⟩:=hy
        cases a with
        |none=>exact au.pure (aO.2 ⟨_,rfl,.inr ⟨rfl,rfl,rfl⟩⟩)
        |some a=>exact au.bind (Φ:=λ_ _ _=>True) (au.pure trivial) λE6 _ _ MC _=>au.pure (aO.2 ⟨_,rfl,.inr ⟨rfl,rfl,rfl⟩⟩)
       refine au.bind (au.firstCells _ _ X7 (λa l c e=>by rw[<-hlen a l c e];exact Nat.le_refl _)) λE5 y y' wV hy=>?_
       have TG:=LA.up wV
       cases a with
       |none=>rw[gU] at TG;subst TG;exact au.pure (aO.2 ⟨_,rfl,.inl trivial⟩)
       |some a =>
        obtain⟨b',rfl,ha6⟩:=dO.1 TG
        exact au.bind (au.storeCells _ _ 0 (ha6.add _) (fC hy)) λE6 _ _ MC _=>au.pure (aO.2 ⟨_,rfl,.inl (ha6.up MC)⟩)
      .refine au.bind (au.typeInfo _) λE5 i i' wV e=>?_
       obtain⟨rfl,_⟩:=e
       split
       .exact au.dies (aK.bind (aK.runtimePanic _))
       .refine au.bind (au.typeInfo _) λE6 i i' MC e=>?_
        obtain⟨rfl,_⟩:=e
        split
        .refine au.dies (aK.bind (aK.nD (λgh=>.inl (nG _ _ _ _ _ gh)) λr=>?_))
         split
         .exact aK.nD (λgh=>.inl ⟨_,_,rfl,λ_ _ e=>.inr e⟩) λ_=>aK.halt rfl
         .exact aK.halt rfl
        .refine au.bind au.choose λE7 c c' up7 e=>?_
         subst e
         refine au.bind (au.typeInfo _) λE8 i i' up8 e=>?_
         obtain⟨rfl,_⟩:=e
         refine au.bind (au.askRoom _) λE9 _ _ up9 _=>?_
         have up:∀ a b,E4 a b->E9 a b:=λa b q=>up9 _ _ (up8 _ _ (up7 _ _ (MC _ _ (wV _ _ q))))
         refine au.bind (au.firstCells _ _ (aO.2 ⟨_,rfl,LA.up up⟩) (λ_ _ _ e=>by cases e;exact Nat.le_refl _)) λF1 y y' uq1 hy=>?_
         refine au.bind (au.firstCells _ _ ((X7.up up).up uq1) (λa l c e=>by rw[<-hlen a l c e];exact Nat.le_refl _)) λF2 k k' uq2 hk=>?_
         refine au.bind (au.zeroValue hz _ (ht ty _ hty hun)) λF3 v v' uq3 h=>?_
         obtain⟨rfl,hcl⟩:=h
         have hall:=(((hy.up uq2).append hk).up uq3).append (jU (E:=F3) (λi hi=>iP hcl i hi) (c'-(dl+n')))
         exact au.bind (au.newRow hall) λF4 a a' uq4 h=>au.pure (aO.2 ⟨_,rfl,.inl h.as⟩)
     |some xt =>
      dsimp only
      refine au.bind (au.underlying xt) λE2' d d' afi e=>?_
      obtain⟨rfl,hd⟩:=e
      have hno:=hi xt d' hxt hd
      have dH:∀ a b,E1 a b->E2' a b:=λa b q=>afi _ _ (dH _ _ q)
      refine au.bind (Φ:=λ_ z z'=>z=false/\z'=false) (au.pure ⟨hno,hno⟩) λE3 z z' fH e=>?_
      obtain⟨rfl,rfl⟩:=e
      simp only[Bool.false_eq_true,if_false,Bool.not_false,if_true,false_or]
      have hu3:=((hu.up dh).up dH).up fH
      have Fe:=(ha.up dH).up fH
      refine au.bind (au.lenOf hu3) λE4 n n' qL e=>?_
      obtain⟨rfl,hlen⟩:=e
      have X7:=hu3.up qL
      have LA:=Fe.up qL
      split
      .rename_i hfit
       rcases LA with LA|⟨e1,e2,e3⟩
       rotate_left
       .subst e1 e2 e3
        obtain rfl:n'=0:=by omega
        refine au.bind (au.kL _ X7) λE5 y y' wV hy=>?_
        obtain⟨rfl,rfl⟩:=hy
        cases a with
        |none=>exact au.pure (aO.2 ⟨_,rfl,.inr ⟨rfl,rfl,rfl⟩⟩)
        |some a=>exact au.bind (Φ:=λ_ _ _=>True) (au.pure trivial) λE6 _ _ MC _=>au.pure (aO.2 ⟨_,rfl,.inr ⟨rfl,rfl,rfl⟩⟩)
       refine au.bind (au.firstCells _ _ X7 (λa l c e=>by rw[<-hlen a l c e];exact Nat.le_refl _)) λE5 y y' wV hy=>?_
       have TG:=LA.up wV
       cases a with
       |none=>rw[gU] at TG;subst TG;exact au.pure (aO.2 ⟨_,rfl,.inl trivial⟩)
       |some a =>
        obtain⟨b',rfl,ha6⟩:=dO.1 TG
        exact au.bind (au.storeCells _ _ 0 (ha6.add _) (fC hy)) λE6 _ _ MC _=>au.pure (aO.2 ⟨_,rfl,.inl (ha6.up MC)⟩)
      .refine au.bind (au.typeInfo _) λE5 i i' wV e=>?_
       obtain⟨rfl,_⟩:=e
       split
       .exact au.dies (aK.bind (aK.runtimePanic _))
       .refine au.bind (au.typeInfo _) λE6 i i' MC e=>?_
        obtain⟨rfl,_⟩:=e
        split
        .refine au.dies (aK.bind (aK.nD (λgh=>.inl (nG _ _ _ _ _ gh)) λr=>?_))
         split
         .exact aK.nD (λgh=>.inl ⟨_,_,rfl,λ_ _ e=>.inr e⟩) λ_=>aK.halt rfl
         .exact aK.halt rfl
        .refine au.bind au.choose λE7 c c' up7 e=>?_
         subst e
         refine au.bind (au.typeInfo _) λE8 i i' up8 e=>?_
         obtain⟨rfl,_⟩:=e
         refine au.bind (au.askRoom _) λE9 _ _ up9 _=>?_
         have up:∀ a b,E4 a b->E9 a b:=λa b q=>up9 _ _ (up8 _ _ (up7 _ _ (MC _ _ (wV _ _ q))))
         refine au.bind (au.firstCells _ _ (aO.2 ⟨_,rfl,LA.up up⟩) (λ_ _ _ e=>by cases e;exact Nat.le_refl _)) λF1 y y' uq1 hy=>?_
         refine au.bind (au.firstCells _ _ ((X7.up up).up uq1) (λa l c e=>by rw[<-hlen a l c e];exact Nat.le_refl _)) λF2 k k' uq2 hk=>?_
         refine au.bind (au.zeroValue hz _ (ht ty _ hty hun)) λF3 v v' uq3 h=>?_
         obtain⟨rfl,hcl⟩:=h
         have hall:=(((hy.up uq2).append hk).up uq3).append (jU (E:=F3) (λi hi=>iP hcl i hi) (c'-(dl+n')))
         exact au.bind (au.newRow hall) λF4 a a' uq4 h=>au.pure (aO.2 ⟨_,rfl,.inl h.as⟩)
    |_=>exact au.dies aK.stuck
   .exact au.stuck
