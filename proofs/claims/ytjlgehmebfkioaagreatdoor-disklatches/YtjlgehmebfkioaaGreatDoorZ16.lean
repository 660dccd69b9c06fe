/- Part of the proof. -/
import Derived.Test.YtjlgehmebfkioaaGreatDoorZ15
namespace Go.Proofs.YtjlgehmebfkioaaGreatDoor
open Go
variable {P:Program} {fns:Fx} {E E' D_:Nat->Nat->Prop} {Z:Nat->Prop} {gh re jo re' MH IV:World}
theorem ak.getObj{a b:Nat}(x:E a b):ak P fns Z E (Go.getObj a) (Go.getObj b) (λE' o o'=>∃ y y' lost,o=.number y lost/\o'=.number y' lost/\AR fns E' y y'):=by
 intro gh re hw
 rcases hw.cells _ _ x with ⟨c,c',el,fr,fr',k1,k2,k3,_⟩|⟨y,y',l,k1,k2,k3⟩
 .simp only[Go.getObj,Sem.run,k1];rfl
 .simp only[Go.getObj,Sem.run,k1]
  intro _
  refine⟨E,.number y' l,re,by simp only[k2],Out.refl hw,⟨y,y',l,rfl,rfl,k3⟩,λes e he=>?_⟩
  simp only[Sem.events,Sem.runT,k2,Array.mem_push] at he
  rcases he with he|rfl
  .exact .inl he
  .exact .inr (.inl ⟨b,rfl,rfl,a,x,λh=>by cases h⟩)
theorem ak.viewAt{a b:Nat}(x:E a b):ak P fns Z E (viewAt a) (viewAt b) (λ_ s s'=>s=none/\s'=none):=by
 unfold Go.viewAt
 refine ak.bind (ak.shape x) λE1 s s' up h=>?_
 rw[h.isSome]
 split
 .exact ak.pure ⟨rfl,rfl⟩
 .refine ak.bind (ak.getObj (up _ _ x)) λE2 o o' dW h=>?_
  obtain⟨y,y',l,rfl,rfl,_⟩:=h
  exact ak.pure ⟨rfl,rfl⟩
theorem ak.numberAt{a b:Nat}(x:E a b):ak P fns Z E (numberAt a) (numberAt b) (λE' s s'=>(s=none/\s'=none)\/∃ y y' l,s=some (y,l)/\s'=some (y',l)/\AR fns E' y y'):=by
 unfold Go.numberAt
 refine ak.bind (ak.shape x) λE1 s s' up h=>?_
 rw[h.isSome]
 split
 .exact ak.pure (.inl ⟨rfl,rfl⟩)
 .refine ak.bind (ak.getObj (up _ _ x)) λE2 o o' dW h=>?_
  obtain⟨y,y',l,rfl,rfl,hy⟩:=h
  exact ak.pure (.inr ⟨y,y',l,rfl,rfl,hy⟩)
theorem ak.behindNumber{a a':Addr}(ha:AR fns E a a'):ak P fns Z E (behindNumber a) (behindNumber a') (λE' s s'=>AR fns E' s.1 s'.1/\s.2=s'.2):=by
 unfold Go.behindNumber
 refine ak.bind (ak.numberAt ha.1) λE1 s s' up h=>ak.pure ?_
 rcases h with ⟨rfl,rfl⟩|⟨y,y',l,rfl,rfl,hy⟩
 .exact⟨ha.up up,rfl⟩
 .exact⟨hy,rfl⟩
theorem ak.asNumber{a a':Addr}(ha:AR fns E a a')(lost:Bool):ak P fns Z E (asNumber a lost) (asNumber a' lost) (λE' v v'=>VR fns E' v v'):=by
 unfold Go.asNumber
 exact ak.bind (ak.newObj λmQ up=>.inr ⟨a,a',lost,rfl,rfl,ha.up up⟩) λE1 r r' up h=>ak.pure (aM.2 ⟨_,rfl,h.1,rfl,rfl,fns.Ka h.2 _⟩)
theorem ak.noView{a a':Addr}(ha:AS fns E a a'):ak P fns Z E (noView a) (noView a') (λ_ _ _=>True):=by
 unfold Go.noView
 refine ak.bind (ak.viewAt ha.1) λE1 s s' up h=>?_
 obtain⟨rfl,rfl⟩:=h
 exact ak.pure trivial
theorem pV(P:Program)(fns:Fx)(d:Nat)(t:TypeId)(o:Nat):byteOfCell (fns.re P) d t o=byteOfCell P d t o:=by
 induction d generalizing t o with
 |zero=>rfl
 |succ d ih =>
  unfold byteOfCell
  simp only[ih]
  rfl
theorem ak.byteOf{a a':Addr}(ha:AS fns E a a'):ak P fns Z E (byteOf a) (byteOf a') (λ_ n n'=>n'=n):=by
 unfold Go.byteOf
 rw[<-ha.2.2.1,<-ha.2.1]
 dsimp only
 split
 .exact ak.pure rfl
 .refine ak.bind ak.program λE1 p q up h=>?_
  obtain⟨rfl,rfl⟩:=h
  refine ak.bind (ak.noView (ha.up up)) λE2 _ _ dW _=>?_
  refine ak.bind (ak.shape (dW _ _ (up _ _ ha.1))) λE3 s s' gJ h=>?_
  rcases h with ⟨rfl,rfl⟩|⟨e,n,n',rfl,rfl,_⟩
  .exact ak.stuck
  .dsimp only
   rw[show (fns.re p).cellsOf e=p.cellsOf e from rfl,show (fns.re p).depth=p.depth from rfl,pV,show (fns.re p).bytesOf e=p.bytesOf e from rfl]
   split
   .exact ak.pure rfl
   .split
    .exact ak.pure rfl
    .exact ak.stuck
theorem ak.partAt{a a':Addr}(ha:AR fns E a a')(c b:Nat):ak P fns Z E (partAt a c b) (partAt a' c b) (λE' x x'=>AR fns E' x x'):=by
 unfold Go.partAt
 refine ak.bind (ak.byteOf ha.as) λE1 n n' up h=>?_
 subst h
 have hp:AR fns E1 { block:=a.block,off:=a.off+c } { block:=a'.block,off:=a'.off+c }:=⟨up _ _ ha.1,by simp[ha.2.1],rfl,ha.2.2.2.1,Nat.le_trans ha.2.2.2.2 (Nat.le_add_right _ _)⟩
 dsimp only
 refine ak.bind (ak.byteOf hp.as) λE2 n n' dW h=>ak.pure ?_
 subst h
 split
 .exact hp.up dW
 .exact⟨dW _ _ hp.1,hp.2.1,rfl,hp.2.2.2⟩
theorem ak.fieldPlace{a a':Addr}(ha:AR fns E a a')(f:Field):ak P fns Z E (fieldPlace a f) (fieldPlace a' f) (λE' x x'=>AR fns E' x x'):=by
 unfold Go.fieldPlace
 refine ak.bind (ak.sizeOf _) λE1 n n' up h=>?_
 subst h
 split
 .exact ak.partAt (ha.up up) _ _
 .exact ak.pure ((ha.up up).add _)
theorem ak.TQ{a a':Addr}(ha:AS fns E a a')(c b:Nat):ak P fns Z E (Go.partAt a c b) (Go.partAt a' c b) (λE' x x'=>AS fns E' x x'):=by
 unfold Go.partAt
 refine ak.bind (ak.byteOf ha) λE1 n n' up h=>?_
 subst h
 have hp:AS fns E1 { block:=a.block,off:=a.off+c } { block:=a'.block,off:=a'.off+c }:=⟨up _ _ ha.1,by simp[ha.2.1],rfl,Nat.le_trans ha.2.2.2 (Nat.le_add_right _ _)⟩
 dsimp only
 refine ak.bind (ak.byteOf hp) λE2 n n' dW h=>ak.pure ?_
 subst h
 split
 .exact hp.up dW
 .exact⟨dW _ _ hp.1,hp.2.1,rfl,hp.2.2.2⟩
theorem ak.F9{a a':Addr}(ha:AS fns E a a')(f:Field):ak P fns Z E (Go.fieldPlace a f) (Go.fieldPlace a' f) (λE' x x'=>AS fns E' x x'):=by
 unfold Go.fieldPlace
 refine ak.bind (ak.sizeOf _) λE1 n n' up h=>?_
 subst h
 split
 .exact ak.TQ (ha.up up) _ _
 .exact ak.pure ((ha.up up).add _)
theorem ak.asIntOf{v v':Value}(hv:VR fns E v v'):ak P fns Z E (asIntOf v) (asIntOf v') (λ_ n n'=>n'=n):=by
 cases v with
 |int k n=>rw[dF] at hv;subst hv;exact ak.pure rfl
 |pointer a=>cases a<;>exact ak.dies (aK.halt rfl)
 |_=>exact ak.dies (aK.halt rfl)
theorem ak.asInt{v v':Value}(hv:VR fns E v v'):ak P fns Z E (asInt v) (asInt v') (λ_ n n'=>n'=n):=by
 unfold Go.asInt
 exact ak.bind (ak.asIntOf hv) λE1 n n' up h=>ak.pure (by rw[h])
theorem ak.asBool{v v':Value}(hv:VR fns E v v'):ak P fns Z E (asBool v) (asBool v') (λ_ n n'=>n'=n):=by
 cases v with
 |bool b=>rw[mD] at hv;subst hv;exact ak.pure rfl
 |_=>exact ak.dies (aK.halt rfl)
theorem ak.asAddr{v v':Value}(hv:VR fns E v v'):ak P fns Z E (asAddr v) (asAddr v') (λE' a a'=>AR fns E' a a'):=by
 cases v with
 |pointer a =>
  obtain⟨b,rfl,h⟩:=aM.1 hv
  cases a with
  |none=>exact ak.dies (show aK P (Go.runtimePanic .nilDeref) from aK.runtimePanic _)
  |some a=>obtain⟨b',rfl,h⟩:=dB.1 h;exact ak.pure h
 |_=>exact ak.dies (aK.halt rfl)
theorem ak.sureAddr{v v':Value}(hv:VR fns E v v'):ak P fns Z E (Instr.sureAddr v) (Instr.sureAddr v') (λE' a a'=>AR fns E' a a'):=by
 cases v with
 |pointer a =>
  obtain⟨b,rfl,h⟩:=aM.1 hv
  cases a with
  |none=>exact ak.dies (aK.halt rfl)
  |some a=>obtain⟨b',rfl,h⟩:=dB.1 h;exact ak.pure h
 |_=>exact ak.dies (aK.halt rfl)
def VZ(fns:Fx)(E:Nat->Nat->Prop)(v v':Value):Prop:=VR fns E v v'\/∃ a b,v=.pointer (some a)/\v'=.pointer (some b)/\AS fns E a b
theorem VZ.full{v v':Value}(h:VZ fns E v v')(hf:fns.full=true):VR fns E v v':=by
 rcases h with h|⟨a,b,rfl,rfl,h⟩
 .exact h
 .exact aM.2 ⟨_,rfl,dB.2 ⟨_,rfl,h.full hf⟩⟩
theorem VZ.up{v v':Value}(h:VZ fns E v v')(hE:∀ a b,E a b->E' a b):VZ fns E' v v':=by
 rcases h with h|⟨a,b,rfl,rfl,h⟩
 .exact .inl (h.up hE)
 .exact .inr ⟨a,b,rfl,rfl,h.up hE⟩
theorem ak.uw{v v':Value}(hv:VZ fns E v v'):ak P fns Z E (Instr.sureAddr v) (Instr.sureAddr v') (λE' a a'=>AS fns E' a a'):=by
 rcases hv with hv|⟨a,b,rfl,rfl,h⟩
 .exact(ak.sureAddr hv).mono λ_ _ _ _ h=>h.as
 .exact ak.pure h
theorem ak.loadAt(t:TypeId){v v':Value}(hv:VZ fns E v v'):ak P fns Z E (Instr.loadAt t v) (Instr.loadAt t v') (λE' v v'=>VR fns E' v v'):=by
 unfold Instr.loadAt
 exact ak.bind (ak.uw hv) λE1 a a' up h=>ak.loadVar t h
theorem ak.storeAt(t:TypeId){v v' x x':Value}(hv:VZ fns E v v')(hx:VR fns E x x'):ak P fns Z E (Instr.storeAt t v x) (Instr.storeAt t v' x') (λ_ _ _=>True):=by
 unfold Instr.storeAt
 exact ak.bind (ak.uw hv) λE1 a a' up h=>ak.storeVar t h (hx.up up)
theorem ak.fieldAt(s:TypeId){v v':Value}(hv:VR fns E v v')(f:Nat):ak P fns Z E (Instr.fieldAt s v f) (Instr.fieldAt s v' f) (λE' v v'=>VR fns E' v v'):=by
 unfold Instr.fieldAt
 refine ak.bind (ak.underlying s) λE1 d d' up h=>?_
 obtain⟨rfl,_⟩:=h
 split
 .split
  .refine ak.bind (ak.sureAddr (hv.up up)) λE2 a a' dW h=>?_
   exact ak.bind (ak.fieldPlace h _) λE3 x x' gJ h=>ak.pure (aM.2 ⟨_,rfl,h⟩)
  .exact ak.stuck
 .exact ak.stuck
theorem ak.PV(s:TypeId){v v':Value}(hv:VZ fns E v v')(f:Nat):ak P fns Z E (Instr.fieldAt s v f) (Instr.fieldAt s v' f) (λE' v v'=>VZ fns E' v v'):=by
 unfold Instr.fieldAt
 refine ak.bind (ak.underlying s) λE1 d d' up h=>?_
 obtain⟨rfl,_⟩:=h
 split
 .split
  .refine ak.bind (ak.uw (hv.up up)) λE2 a a' dW h=>?_
   exact ak.bind (ak.F9 h _) λE3 x x' gJ h=>ak.pure (.inr ⟨_,_,rfl,rfl,h⟩)
  .exact ak.stuck
 .exact ak.stuck
theorem ak.alloc(hz:zeros P fns)(t:TypeId)(ht:fns.tys t=true):ak P fns Z E (Instr.alloc t true (.tuple #[])) (Instr.alloc t true (.tuple #[])) (λE' v v'=>VR fns E' v v'):=by
 unfold Instr.alloc
 refine ak.bind (ak.zeroValue hz t ht) λE1 v v' up h=>?_
 obtain⟨rfl,hc⟩:=h
 exact ak.bind (ak.newVar (jY hc)) λE2 a a' dW h=>ak.pure (aM.2 ⟨_,rfl,h⟩)
theorem ak.box(t:TypeId){v v':Value}(hv:VR fns E v v'):ak P fns Z E (Instr.box t v) (Instr.box t v') (λE' v v'=>VR fns E' v v'):=by
 unfold Instr.box
 exact ak.bind (ak.newVar hv) λE2 a a' dW h=>ak.pure (aM.2 ⟨_,rfl,h⟩)
def uy(fns:Fx)(E:Nat->Nat->Prop)(x x':List (Nat × Value)):Prop:=x.map (·.1)=x'.map (·.1)/\aU fns E (x.map (·.2)).toArray (x'.map (·.2)).toArray
theorem foldl_set(off:Nat):∀ (l l':List Value) (k:Nat) {c c':Array Value},aU fns E l.toArray l'.toArray->aU fns E c c' ->
 aU fns E ((l.zipIdx k).foldl (λcs (x:Value × Nat)=>cs.setIfInBounds (off+x.2) x.1) c) ((l'.zipIdx k).foldl (λcs (x:Value × Nat)=>cs.setIfInBounds (off+x.2) x.1) c')
 | [],[],k,c,c',h,hc=>hc
 | [],v'::vs',k,c,c',h,hc=>by have:=h.1;simp at this
 |v::vs,[],k,c,c',h,hc=>by have:=h.1;simp at this
 |v::vs,v'::vs',k,c,c',h,hc=>by
  have h0:VR fns E v v':=by simpa using h.2 0 (by simp) (by simp)
  have h1:aU fns E vs.toArray vs'.toArray:=⟨by have:=h.1;simpa using this,λj a b=>by
   have:=h.2 (j+1) (by simpa using a) (by simpa using b)
   simpa using this⟩
  simp only[List.zipIdx_cons,List.foldl_cons]
  exact foldl_set off vs vs' (k+1) h1 (hc.set _ h0)
theorem mR(place:Nat->Option (Nat × Nat)):∀ (l l':List (Nat × Value)) {c c':Array Value},uy fns E l l'->aU fns E c c' ->
 (∃ d d',Instr.fill place c l=some d/\Instr.fill place c' l'=some d'/\aU fns E d d')\/(Instr.fill place c l=none)
 | [],[],c,c',h,hc=>.inl ⟨c,c',rfl,rfl,hc⟩
 | [],v'::vs',c,c',h,hc=>by have:=h.1;simp at this
 |v::vs,[],c,c',h,hc=>by have:=h.1;simp at this
 | (i,v)::vs,(i',v')::vs',c,c',h,hc=>by
   obtain⟨g1,g2⟩:=h
   simp only[List.map_cons,List.cons.injEq] at g1
   obtain⟨rfl,g1⟩:=g1
   have h0:VR fns E v v':=by simpa using g2.2 0 (by simp) (by simp)
   have h1:uy fns E vs vs':=⟨g1,⟨by have:=g2.1;simpa using this,λj a b=>by
    have:=g2.2 (j+1) (by simpa using a) (by simpa using b)
    simpa using this⟩⟩
   have hv:=lX h0
   unfold Instr.fill
   cases place i with
   |none=>exact .inr rfl
   |some x =>
    obtain⟨off,size⟩:=x
    dsimp only
    rw[<-hv.1,<-hc.1]
    split
    .exact .inr rfl
    .refine mR place vs vs' h1 ?_
     have:=foldl_set off v.cells.toList v'.cells.toList 0 (by simpa using hv) hc
     rw[<-Array.foldl_toList,<-Array.foldl_toList]
     simpa [Array.toList_zipIdx] using this
variable {P:Program} {fns:Fx} {E E' D_:Nat->Nat->Prop} {Z:Nat->Prop}
theorem ak.Ga{α β γ:Type}{f:α->Sem β}{f':α->Sem β}(hf:∀ E a,ak P fns Z E (f a) (f' a) (λ_ x y=>y=x)):∀ (l:List α) {E:Nat->Nat->Prop},ak P fns Z E (l.mapM f) (l.mapM f') (λ_ x y=>y=x)
 | [],E=>by simp only[List.mapM_nil];exact ak.pure rfl
 |a::l,E=>by
  simp only[List.mapM_cons]
  refine ak.bind (hf E a) λE1 x y up h=>?_
  subst h
  refine ak.bind (ak.Ga (γ:=γ) hf l) λE2 x y up h=>?_
  subst h
  exact ak.pure rfl
theorem ak.mapM{α β:Type}{f:α->Sem β}(hf:∀ E a,ak P fns Z E (f a) (f a) (λ_ x y=>y=x))(x:Array α):ak P fns Z E (x.mapM f) (x.mapM f) (λ_ x y=>y=x):=by
 rw[Array.mapM_eq_mapM_toList]
 refine ak.bind (Φ:=λ_ x y=>y=x) (ak.Ga (γ:=Unit) hf _) λE1 x y up h=>?_
 subst h
 exact ak.pure rfl
theorem ak.build(hz:zeros P fns)(t:TypeId)(ht:fns.tys t=true){x x':Array (Nat × Value)}(hx:uy fns E x.toList x'.toList):ak P fns Z E (Instr.build t x) (Instr.build t x') (λE' v v'=>VR fns E' v v'):=by
 have hup:∀ {E1:Nat->Nat->Prop},(∀ a b,E a b->E1 a b)->uy fns E1 x.toList x'.toList:=λup=>⟨hx.1,hx.2.up up⟩
 unfold Instr.build
 refine ak.bind (ak.zeroValue hz t ht) λE1 v v' up h=>?_
 obtain⟨rfl,hc⟩:=h
 dsimp only
 refine ak.bind (ak.underlying t) λE2 d d' dW h=>?_
 obtain⟨rfl,_⟩:=h
 split
 .refine ak.bind (ak.mapM (λE f=>ak.bind (ak.sizeOf _) λE' n n' up h=>ak.pure (by rw[h])) _) λE3 pl pl' gJ h=>?_
  subst h
  rcases mR (E:=E3) (pl'[·]?) x.toList x'.toList (hup (λa b z=>gJ _ _ (dW _ _ (up _ _ z)))) (lX (jY hc)) with ⟨d,d',h1,h2,h3⟩|h
  .rw[h1,h2];exact ak.pure (bX.2 ⟨_,rfl,h3⟩)
  .rw[h];exact ak.stuck
 .refine ak.bind (ak.sizeOf _) λE3 pl pl' gJ h=>?_
  subst h
  rcases mR (E:=E3) (λi=>some (i*pl',pl')) x.toList x'.toList (hup (λa b z=>gJ _ _ (dW _ _ (up _ _ z)))) (lX (jY hc)) with ⟨d,d',h1,h2,h3⟩|h
  .rw[h1,h2];exact ak.pure (bX.2 ⟨_,rfl,h3⟩)
  .rw[h];exact ak.stuck
 .exact ak.stuck
theorem je{v:Value}(h:mO v=true):∀ i (hi:i<v.cells.size),VR fns E v.cells[i] v.cells[i]:=λi hi=>(lX (jY h)).2 i hi hi
theorem uz{z:Array Value}(hz:∀ i (hi:i<z.size),VR fns E z[i] z[i])(n:Nat):aU fns E ((Array.range n).map (z[·%z.size]!)) ((Array.range n).map (z[·%z.size]!)):=by
 refine⟨rfl,λi a b=>?_⟩
 simp only[Array.getElem_map,Array.getElem_range]
 by_cases hp:i%z.size<z.size
 .rw[getElem!_pos z (i%z.size) hp]
  exact hz _ _
 .rw[getElem!_neg z (i%z.size) hp]
  exact aG rfl
theorem ak.buildSlice(hz:zeros P fns)(t:TypeId)(ht:∀ e,P.underlying t=some (.slice e)->fns.tys e=true)(len:Nat){x x':Array (Nat × Value)}(hx:uy fns E x.toList x'.toList):ak P fns Z E (Instr.buildSlice t len x) (Instr.buildSlice t len x') (λE' v v'=>VR fns E' v v'):=by
 unfold Instr.buildSlice
 refine ak.bind (ak.underlying t) λE1 d d' dG h=>?_
 obtain⟨rfl,hu⟩:=h
 split
 .refine ak.bind (ak.sizeOf _) λE2 n n' dW h=>?_
  subst h
  dsimp only
  have key:∀ {E3:Nat->Nat->Prop} (z:Array Value),(∀ a b,E a b->E3 a b)->(∀ E i (hi:i<z.size),VR fns E z[i] z[i]) ->
   (∃ d d',Instr.fill (λi=>some (i*n',n')) ((Array.range (len*n')).map (z[·%z.size]!)) x.toList=some d/\Instr.fill (λi=>some (i*n',n')) ((Array.range (len*n')).map (z[·%z.size]!)) x'.toList=some d'/\aU fns E3 d d')\/Instr.fill (λi=>some (i*n',n')) ((Array.range (len*n')).map (z[·%z.size]!)) x.toList=none :=
   λ{E3} z up hzz=>mR (E:=E3) (λi=>some (i*n',n')) x.toList x'.toList ⟨hx.1,hx.2.up up⟩ (uz (hzz E3) (len*n'))
  split
  .exact ak.dies (aK.bind (aK.halt rfl))
  .split
   .refine ak.bind (Φ:=λ_ z z'=>z=#[]/\z'=#[]) (ak.pure ⟨rfl,rfl⟩) λE3 z z' gJ h=>?_
    obtain⟨rfl,rfl⟩:=h
    rcases key (E3:=E3) #[] (λa b y=>gJ _ _ (dW _ _ (dG _ _ y))) (λE i hi=>by simp at hi) with ⟨d,d',h1,h2,h3⟩|h
    .rw[h1,h2]
     exact ak.bind (ak.newRow h3) λE4 a a' u7 h=>ak.pure (aJ.2 ⟨_,rfl,.inl h.as⟩)
    .rw[h];exact ak.stuck
   .refine ak.bind (ak.zeroValue hz _ (ht _ hu)) λE3 v v' gJ h=>?_
    obtain⟨rfl,hc⟩:=h
    refine ak.bind (Φ:=λ_ z z'=>z=v'.cells/\z'=v'.cells) (ak.pure ⟨rfl,rfl⟩) λE4 z z' u7 h=>?_
    obtain⟨rfl,rfl⟩:=h
    rcases key (E3:=E4) v'.cells (λa b y=>u7 _ _ (gJ _ _ (dW _ _ (dG _ _ y)))) (λE i hi=>je hc i hi) with ⟨d,d',h1,h2,h3⟩|h
    .rw[h1,h2]
     exact ak.bind (ak.newRow h3) λE4 a a' u7 h=>ak.pure (aJ.2 ⟨_,rfl,.inl h.as⟩)
    .rw[h];exact ak.stuck
 .exact ak.stuck
theorem ak.sliceBound{v v':Value}(hv:VR fns E v v')(y:Nat)(c:BoundsCode):ak P fns Z E (Instr.sliceBound v y c) (Instr.sliceBound v' y c) (λ_ n n'=>n'=n/\n<=y):=by
 unfold Instr.sliceBound
 refine ak.bind (ak.asIntOf hv) λE1 n n' up h=>?_
 subst h
 dsimp only
 split
 .rename_i hc
  exact ak.pure ⟨rfl,by omega⟩
 .exact ak.dies (aK.boundsPanic _ _ _ _)
def uE(fns:Fx)(E:Nat->Nat->Prop):Option Value->Option Value->Prop
 |none,none=>True
 |some v,some v'=>VR fns E v v'
 |_,_=>False
theorem uE.up{v v':Option Value}(h:uE fns E v v')(hE:∀ a b,E a b->E' a b):uE fns E' v v':=by
 cases v<;>cases v'<;>first|exact h|exact VR.up h hE
theorem ak.sliceBounds(b:Bool)(len cap:Nat){l h m l' h' m':Option Value}(hl:uE fns E l l')(hh:uE fns E h h')(hm:uE fns E m m'):ak P fns Z E (Instr.sliceBounds b len cap l h m) (Instr.sliceBounds b len cap l' h' m') (λ_ n n'=>n'=n/\(len=0->cap=0->n=(0,0,0))):=by
 unfold Instr.sliceBounds
 cases m<;>cases m'<;>first|exact hm.elim|skip
 all_goals refine ak.bind (Φ:=λ_ n n'=>n'=n/\n<=cap) (by first|exact ak.pure ⟨rfl,Nat.le_refl _⟩|exact ak.sliceBound hm _ _) λE1 x x' dG e=>?_
 all_goals obtain⟨rfl,ex⟩:=e
 all_goals have OI:=hh.up dG
 all_goals cases h<;>cases h'<;>first|exact hh.elim|exact ak.dies (aK.bind aK.stuck)|skip
 all_goals refine ak.bind (Φ:=λ_ n n'=>n'=n/\(len=0->cap=0->n=0)) (by first|exact ak.pure ⟨rfl,λe _=>e⟩|exact(ak.sliceBound OI _ _).mono λ_ _ _ _ e=>⟨e.1,λ_ _=>by have:=e.2;omega⟩) λE2 y y' dW e=>?_
 all_goals obtain⟨rfl,ey⟩:=e
 all_goals have hl2:=(hl.up dG).up dW
 all_goals cases l<;>cases l'<;>first|exact hl.elim|skip
 all_goals refine ak.bind (Φ:=λ_ n n'=>n'=n/\(len=0->cap=0->n=0)) (by first|exact ak.pure ⟨rfl,λ_ _=>rfl⟩|exact(ak.sliceBound hl2 _ _).mono λ_ _ _ _ e=>⟨e.1,λe1 e2=>by have:=e.2;have:=ey e1 e2;omega⟩) λE3 z z' gJ e=>?_
 all_goals obtain⟨rfl,ez⟩:=e
 all_goals exact ak.pure ⟨rfl,λe1 e2=>by rw[ey e1 e2,ez e1 e2,show x'=0 by omega]⟩
theorem ak.slice(t:TypeId){v v':Value}(hv:VR fns E v v'){l h m l' h' m':Option Value}(hl:uE fns E l l')(hh:uE fns E h h')(hm:uE fns E m m'):ak P fns Z E (Instr.slice t v l h m) (Instr.slice t v' l' h' m') (λE' v v'=>VR fns E' v v'):=by
 unfold Instr.slice
 refine ak.bind (ak.underlying t) λE1 d d' dG e=>?_
 obtain⟨rfl,_⟩:=e
 have hv1:=hv.up dG
 have hl1:=hl.up dG
 have OI:=hh.up dG
 have hm1:=hm.up dG
 have em:m'.isSome=m.isSome:=by cases m<;>cases m'<;>first|rfl|exact hm.elim
 split
 .rename_i s
  rw[dO] at hv1
  subst hv1
  rw[em]
  split
  .exact ak.dies (aK.bind aK.stuck)
  .refine ak.bind (ak.sliceBounds _ _ _ hl1 OI trivial) λE2 n n' dW e=>?_
   obtain⟨rfl,_⟩:=e
   exact ak.pure (aG rfl)
 .rename_i a _ _ _
  obtain⟨b,rfl,ha⟩:=aJ.1 hv1
  dsimp only
  refine ak.bind (ak.sliceBounds _ _ _ hl1 OI hm1) λE2 n n' dW e=>?_
  obtain⟨rfl,hnil⟩:=e
  refine ak.bind (ak.sizeOf _) λE3 sz sz' gJ e=>?_
  subst e
  refine ak.pure (aJ.2 ⟨_,rfl,?_⟩)
  rcases ha with ha|⟨e1,e2,e3⟩
  .have GV:=(ha.up dW).up gJ
   refine .inl ?_
   split
   .exact GV
   .cases a with
    |none=>rw[iL] at GV;subst GV;trivial
    |some a=>obtain⟨b',rfl,GV⟩:=dS.1 GV;exact GV.add _
  .have hn0:=hnil e1 e2
   subst hn0
   exact .inr ⟨rfl,rfl,by rw[if_pos rfl,if_pos rfl];exact e3⟩
 .refine ak.bind (ak.asAddr hv1) λE2 a a' dW ha=>?_
  refine ak.bind (ak.underlying _) λE3 d d' gJ e=>?_
  obtain⟨rfl,_⟩:=e
  split
  .refine ak.bind (ak.sliceBounds _ _ _ ((hl1.up dW).up gJ) ((OI.up dW).up gJ) ((hm1.up dW).up gJ)) λE4 n n' u7 e=>?_
   obtain⟨rfl,_⟩:=e
   dsimp only
   refine ak.bind (ak.sizeOf _) λE5 n n' yO e=>?_
   subst e
   refine ak.pure (aJ.2 ⟨_,rfl,.inl ?_⟩)
   have GV:=(((ha.up gJ).up u7).up yO).as
   split
   .exact GV
   .exact GV.add _
  .exact ak.stuck
 .exact ak.stuck
theorem ak.sliceAt(t:TypeId){v v':Value}(hv:VR fns E v v'){l h m l' h' m':Option Value}(hl:uE fns E l l')(hh:uE fns E h h')(hm:uE fns E m m'):ak P fns Z E (Instr.sliceAt t v l h m) (Instr.sliceAt t v' l' h' m') (λE' v v'=>VR fns E' v v'):=by
 unfold Instr.sliceAt
 refine ak.bind (ak.underlying t) λE1 d d' dG e=>?_
 obtain⟨rfl,_⟩:=e
 have hv1:=hv.up dG
 have hl1:=hl.up dG
 have OI:=hh.up dG
 have hm1:=hm.up dG
 split
 .refine ak.bind (ak.sureAddr hv1) λE2 a a' dW ha=>?_
  refine ak.bind (ak.sliceBounds _ _ _ (hl1.up dW) (OI.up dW) (hm1.up dW)) λE4 n n' u7 e=>?_
  obtain⟨rfl,_⟩:=e
  dsimp only
  refine ak.bind (ak.sizeOf _) λE5 n n' yO e=>?_
  subst e
  refine ak.pure (aJ.2 ⟨_,rfl,.inl ?_⟩)
  have GV:=((ha.up u7).up yO).as
  split
  .exact GV
  .exact GV.add _
 .exact ak.slice t hv1 hl1 OI hm1
theorem ak.indexAt(t:TypeId){v v' x x':Value}(hv:VR fns E v v')(hx:VR fns E x x'):ak P fns Z E (Instr.indexAt t v x) (Instr.indexAt t v' x') (λE' v v'=>VZ fns E' v v'):=by
 unfold Instr.indexAt
 refine ak.bind (ak.asIntOf hx) λE1 n n' dG e=>?_
 subst e
 dsimp only
 refine ak.bind (ak.underlying t) λE2 d d' dW e=>?_
 obtain⟨rfl,_⟩:=e
 have hv2:=(hv.up dG).up dW
 split
 .refine ak.bind (ak.sureAddr hv2) λE3 a a' gJ ha=>?_
  refine ak.bind (Φ:=λE' (y y':Option Addr × Nat × TypeId)=>OA fns E' y.1 y'.1/\y.2=y'.2) (ak.pure ⟨ha,rfl⟩) λE3 y y' gJ e=>?_
  obtain⟨base,len,elem⟩:=y
  obtain⟨base',len',elem'⟩:=y'
  obtain⟨e1,e2⟩:=e
  simp only[Prod.mk.injEq] at e2
  obtain⟨rfl,rfl⟩:=e2
  dsimp only at e1 ⊢
  refine ak.bind (ak.underlying t) λE4 d d' u7 e=>?_
  obtain⟨rfl,_⟩:=e
  have e4:=e1.up u7
  cases base with
  |none =>
   rw[jT] at e4;subst e4
   exact ak.dies (aK.boundsPanic _ _ _ _)
  |some a =>
   obtain⟨b',rfl,ha⟩:=dB.1 e4
   dsimp only
   split
   .refine ak.bind (ak.sizeOf _) λE5 n n' yO e=>?_
    subst e
    exact ak.pure (.inl (aM.2 ⟨_,rfl,(ha.up yO).add _⟩))
   .refine ak.dies ?_
    split<;>split<;>first|exact aK.halt rfl|exact aK.boundsPanic _ _ _ _
 .obtain⟨b,rfl,ha⟩:=aJ.1 hv2
  refine ak.bind (Φ:=λE' (y y':Option Addr × Nat × TypeId)=>(OS fns E' y.1 y'.1\/(y.2.1=0/\y.1=y'.1))/\y.2=y'.2) (ak.pure ⟨ha.imp id λx=>⟨x.1,x.2.2⟩,rfl⟩) λE3 y y' gJ e=>?_
  obtain⟨base,len,elem⟩:=y
  obtain⟨base',len',elem'⟩:=y'
  obtain⟨e1,e2⟩:=e
  simp only[Prod.mk.injEq] at e2
  obtain⟨rfl,rfl⟩:=e2
  dsimp only at e1 ⊢
  refine ak.bind (ak.underlying t) λE4 d d' u7 e=>?_
  obtain⟨rfl,_⟩:=e
  rcases e1 with e1|⟨e5,e6⟩
  rotate_left
  .subst e5 e6
   cases base with
   |none=>exact ak.dies (aK.boundsPanic _ _ _ _)
   |some a =>
    dsimp only
    split
    .rename_i hcc
     have:=hcc.1
     have:=hcc.2
     omega
    .refine ak.dies ?_
     split<;>split<;>first|exact aK.halt rfl|exact aK.boundsPanic _ _ _ _
  have e4:=e1.up u7
  cases base with
  |none =>
   rw[iL] at e4;subst e4
   exact ak.dies (aK.boundsPanic _ _ _ _)
  |some a =>
   obtain⟨b',rfl,ha⟩:=dS.1 e4
   dsimp only
   split
   .refine ak.bind (ak.sizeOf _) λE5 n n' yO e=>?_
    subst e
    exact ak.pure (.inr ⟨_,_,rfl,rfl,(ha.up yO).add _⟩)
   .refine ak.dies ?_
    split<;>split<;>first|exact aK.halt rfl|exact aK.boundsPanic _ _ _ _
 .exact ak.dies (aK.bind aK.stuck)
theorem ak.extract{v v':Value}(hv:VR fns E v v')(i:Nat):ak P fns Z E (Instr.extract v i) (Instr.extract v' i) (λE' v v'=>VR fns E' v v'):=by
 cases v with
 |tuple x =>
  obtain⟨x',rfl,h⟩:=bK.1 hv
  unfold Instr.extract
  dsimp only
  cases hx:x[i]? with
  |none=>exact ak.stuck
  |some u=>obtain⟨u',h1,h2⟩:=h.get? i hx;rw[h1];exact ak.pure h2
 |_=>exact ak.dies (aK.halt rfl)
variable {P:Program} {fns:Fx} {E E' D_:Nat->Nat->Prop} {Z:Nat->Prop}
theorem ak.Kh(z:Array Value)(hzz:∀ i (hi:i<z.size),VR fns E z[i] z[i])(el:TypeId)(k u v:Nat) :
 ak P fns Z E (Go.newRow el ((Array.range k).map (z[·%z.size]!)) >>= λa=>Pure.pure (Value.slice (some a) u v)) (Go.newRow el ((Array.range k).map (z[·%z.size]!)) >>= λa=>Pure.pure (Value.slice (some a) u v)) (λE' v v'=>VR fns E' v v') :=
 ak.bind (ak.newRow (uz hzz k)) λ_ _ _ _ h=>ak.pure (aJ.2 ⟨_,rfl,.inl h.as⟩)
theorem ak.makeSlice(hz:zeros P fns)(t:TypeId)(ht:∀ e,P.underlying t=some (.slice e)->fns.tys e=true){l l' c c':Value}(hl:VR fns E l l')(hc:VR fns E c c'):ak P fns Z E (Instr.makeSlice t l c) (Instr.makeSlice t l' c') (λE' v v'=>VR fns E' v v'):=by
 unfold Instr.makeSlice
 refine ak.bind (ak.underlying t) λE1 d d' dG e=>?_
 obtain⟨rfl,hu⟩:=e
 split
 .refine ak.bind (ak.asInt (hl.up dG)) λE2 n n' dW e=>?_
  subst e
  refine ak.bind (ak.asInt ((hc.up dG).up dW)) λE3 m m' gJ e=>?_
  subst e
  refine ak.bind (ak.typeInfo _) λE4 i i' u7 e=>?_
  obtain⟨rfl,_⟩:=e
  dsimp only
  split
  .refine ak.dies ?_
   split
   .exact aK.bind (aK.runtimePanic _)
   .split
    .exact aK.bind (aK.runtimePanic _)
    .refine aK.nV (λgh=>.inl ?_) λ_=>aK.bind (aK.runtimePanic _)
     rw[run_choose];split<;>exact⟨_,_,rfl⟩
  .refine ak.bind (ak.askRoom _) λE5 _ _ yO _=>?_
   refine ak.bind (ak.sizeOf _) λE6 s s' Nz e=>?_
   subst e
   split
   .exact ak.Kh #[] (λi hi=>by simp at hi) _ _ _ _
   .refine ak.bind (ak.zeroValue hz _ (ht _ hu)) λE7 v v' up7 h=>?_
    obtain⟨rfl,hcl⟩:=h
    exact ak.Kh v'.cells (λi hi=>je hcl i hi) _ _ _ _
 .exact ak.stuck
theorem ak.len(ts:Array TypeId)(t:TypeId){x x':Array Value}(hx:aU fns E x x'):ak P fns Z E (Builtin.len_ ts t x) (Builtin.len_ ts t x') (λE' v v'=>VR fns E' v v'):=by
 unfold Builtin.len_
 cases h0:x[0]? with
 |none =>
  cases ts[0]?<;>exact ak.dies aK.stuck
 |some v =>
  obtain⟨v',h1,hv⟩:=hx.get? 0 h0
  rw[h1]
  cases ts[0]? with
  |none=>exact ak.dies aK.stuck
  |some ty =>
   refine ak.bind (ak.underlying ty) λE1 d d' dG e=>?_
   obtain⟨rfl,_⟩:=e
   have hv1:=hv.up dG
   split
   .rw[dO] at hv1;subst hv1;exact ak.pure (aG rfl)
   .exact ak.pure (aG rfl)
   .refine ak.bind (ak.underlying _) λE2 d d' dW e=>?_
    obtain⟨rfl,_⟩:=e
    split
    .exact ak.pure (aG rfl)
    .exact ak.stuck
   .obtain⟨b,rfl,_⟩:=aJ.1 hv1;exact ak.pure (aG rfl)
   .obtain⟨_,rfl⟩:=fE.1 hv1;exact ak.pure (aG rfl)
   .obtain⟨_,rfl⟩:=dJ.1 hv1;exact ak.pure (aG rfl)
   .have:=fE.1 hv1;cases this.1
   .have:=dJ.1 hv1;cases this.1
   .exact ak.stuck
theorem ak.cap(ts:Array TypeId)(t:TypeId){x x':Array Value}(hx:aU fns E x x'):ak P fns Z E (Builtin.cap_ ts t x) (Builtin.cap_ ts t x') (λE' v v'=>VR fns E' v v'):=by
 unfold Builtin.cap_
 cases h0:x[0]? with
 |none =>
  cases ts[0]?<;>exact ak.dies aK.stuck
 |some v =>
  obtain⟨v',h1,hv⟩:=hx.get? 0 h0
  rw[h1]
  cases ts[0]? with
  |none=>exact ak.dies aK.stuck
  |some ty =>
   refine ak.bind (ak.underlying ty) λE1 d d' dG e=>?_
   obtain⟨rfl,_⟩:=e
   have hv1:=hv.up dG
   split
   .exact ak.pure (aG rfl)
   .refine ak.bind (ak.underlying _) λE2 d d' dW e=>?_
    obtain⟨rfl,_⟩:=e
    split
    .exact ak.pure (aG rfl)
    .exact ak.stuck
   .obtain⟨b,rfl,_⟩:=aJ.1 hv1;exact ak.pure (aG rfl)
   .obtain⟨_,rfl⟩:=dJ.1 hv1;exact ak.pure (aG rfl)
   .obtain⟨h,_⟩:=dJ.1 hv1;cases h
   .exact ak.stuck
theorem ak.lenOf{v v':Value}(hv:VR fns E v v'):ak P fns Z E (Builtin.lenOf v) (Builtin.lenOf v') (λ_ n n'=>n'=n/\∀ a l c,v=.slice a l c->n=l):=by
 cases v with
 |slice a l c=>obtain⟨b,rfl,_⟩:=aJ.1 hv;exact ak.pure ⟨rfl,λ_ _ _ e=>by cases e;rfl⟩
 |string s=>rw[dO] at hv;subst hv;exact ak.pure ⟨rfl,λ_ _ _ e=>by cases e⟩
 |_=>exact ak.dies (aK.halt rfl)
theorem IW(l:Array UInt8):aU fns E (l.map λb=>.int .u8 b.toNat) (l.map λb=>.int .u8 b.toNat):=⟨rfl,λi a b=>by simpa using aG rfl⟩
theorem ak.kU(size:Nat){v v':Value}(hv:VR fns E v v'):ak P fns Z E (Builtin.firstCells size 0 v) (Builtin.firstCells size 0 v') (λ_ x x'=>x=#[]/\x'=#[]):=by
 have h0:∀ a:Addr,Go.loadCells a (0*size)=Pure.pure #[]:=λa=>by rw[Nat.zero_mul];rfl
 cases v with
 |slice a l c =>
  obtain⟨b,rfl,h⟩:=aJ.1 hv
  cases a with
  |none=>rw[vT] at h;subst h;exact ak.pure ⟨rfl,rfl⟩
  |some a =>
   obtain⟨b',rfl⟩:=Kc h
   show ak P fns Z E (Go.loadCells a (0*size)) (Go.loadCells b' (0*size)) _
   rw[h0,h0]
   exact ak.pure ⟨rfl,rfl⟩
 |string s =>
  rw[dO] at hv;subst hv
  have e:(s.extract 0 0).data.map (λb:UInt8=>Value.int .u8 b.toNat)=#[]:=by simp
  exact ak.pure ⟨e,e⟩
 |_=>exact ak.dies (aK.halt rfl)
theorem ak.firstCells(size n:Nat){v v':Value}(hv:VR fns E v v')(hn:∀ a l c,v=.slice a l c->n<=l):ak P fns Z E (Builtin.firstCells size n v) (Builtin.firstCells size n v') (λE' x x'=>aU fns E' x x'):=by
 cases v with
 |slice a l c =>
  obtain⟨b,rfl,h⟩:=aJ.1 hv
  rcases h with h|⟨e1,e2,e3⟩
  .cases a with
   |none=>rw[iL] at h;subst h;exact ak.pure gH
   |some a=>obtain⟨b',rfl,h⟩:=dS.1 h;exact ak.loadCells _ h
  .obtain rfl:n=0:=by have:=hn _ _ _ rfl;omega
   exact(ak.kU size hv).mono λ_ x x' _ e=>by rw[e.1,e.2];exact gH
 |string s=>rw[dO] at hv;subst hv;exact ak.pure (IW _)
 |_=>exact ak.dies (aK.halt rfl)
theorem kM{z:Array Value}(hz:∀ i (hi:i<z.size),VR fns E z[i] z[i])(n:Nat):aU fns E (Builtin.zeroCells z n) (Builtin.zeroCells z n):=uz hz _
theorem ak.copy(ts:Array TypeId)(t:TypeId){x x':Array Value}(hx:aU fns E x x'):ak P fns Z E (Builtin.copy_ ts t x) (Builtin.copy_ ts t x') (λE' v v'=>VR fns E' v v'):=by
 unfold Builtin.copy_
 cases h0:x[0]? with
 |none=>cases ts[0]?<;>exact ak.dies aK.stuck
 |some v =>
 cases h1:x[1]? with
 |none=>cases ts[0]?<;>exact ak.dies aK.stuck
 |some u =>
  obtain⟨v',g0,hv⟩:=hx.get? 0 h0
  obtain⟨u',g1,hu⟩:=hx.get? 1 h1
  rw[g0,g1]
  cases ts[0]? with
  |none=>exact ak.dies aK.stuck
  |some ty =>
   refine ak.bind (ak.underlying ty) λE1 d d' dG e=>?_
   obtain⟨rfl,_⟩:=e
   have hv1:=hv.up dG
   have hu1:=hu.up dG
   split
   .cases v with
    |slice a dl dc =>
     obtain⟨b,rfl,ha⟩:=aJ.1 hv1
     dsimp only
     refine ak.bind (ak.lenOf hu1) λE2 n n' dW e=>?_
     obtain⟨rfl,hlen⟩:=e
     refine ak.bind (ak.sizeOf _) λE3 s s' gJ e=>?_
     subst e
     rcases ha with ha|⟨e1,e2,e3⟩
     rotate_left
     .subst e1 e2 e3
      rw[show Nat.min n' 0=0 from Nat.min_zero _]
      refine ak.bind (ak.kU _ ((hu1.up dW).up gJ)) λE4 y y' u7 hy=>?_
      obtain⟨rfl,rfl⟩:=hy
      cases a with
      |none=>exact ak.pure (aG rfl)
      |some a=>exact ak.bind (Φ:=λ_ _ _=>True) (ak.pure trivial) λE5 _ _ _ _=>ak.pure (aG rfl)
     refine ak.bind (ak.firstCells _ _ ((hu1.up dW).up gJ) (λa l c e=>by rw[<-hlen a l c e];exact Nat.min_le_left _ _)) λE4 y y' u7 hy=>?_
     have MI:=((ha.up dW).up gJ).up u7
     cases a with
     |none=>rw[iL] at MI;subst MI;exact ak.pure (aG rfl)
     |some a =>
      obtain⟨b',rfl,TT⟩:=dS.1 MI
      exact ak.bind (ak.storeCells _ _ 0 TT (gU hy)) λE5 _ _ _ _=>ak.pure (aG rfl)
    |_=>exact ak.dies aK.stuck
   .exact ak.stuck
def isInt(d:TypeDesc):Bool:=d matches .int _
theorem nW(size sLen n:Nat)(base:Option Addr)(x:Value)(gh:World):∃ a w,(Builtin.mayShare size sLen n base x).run P gh=.ok a w:=by
 have hold:∀ (a:Addr) (c:Nat) (gh:World),∃ r,(Builtin.holdsCells a c).run P gh=.ok r gh:=λa c gh=>by
  unfold Builtin.holdsCells
  rw[Sem.run_bind,run_shape]
  cases h:gh.shape? a.block with
  |none=>exact⟨_,by rw[Result.andThen_ok];rfl⟩
  |some s=>exact⟨_,by rw[Result.andThen_ok];rfl⟩
 have last:∀ (b:Addr) (f:Bool->Bool) (gh:World),∃ a w,(Builtin.holdsCells b (n*size) >>= λr=>Pure.pure (f r)).run P gh=.ok a w:=λb f gh=>by
  obtain⟨r,hr⟩:=hold b (n*size) gh
  exact⟨_,_,by rw[Sem.run_bind,hr,Result.andThen_ok];rfl⟩
 unfold Builtin.mayShare
 cases base with
 |none =>
  dsimp only
  split
  .exact last _ (λr=>!r||_) gh
  .exact⟨_,_,rfl⟩
 |some a =>
  obtain⟨r,hr⟩:=hold a (sLen*size) gh
  simp only[Sem.run_bind,hr,Result.andThen_ok,run_frozen,Sem.run_pure]
  split
  .exact⟨_,_,rfl⟩
  .split
   .exact last _ (λr=>!r||_) gh
   .exact⟨_,_,rfl⟩
theorem ak.append(hz:zeros P fns)(ts:Array TypeId)(t:TypeId)(ht:∀ t e,ts[0]?=some t->P.underlying t=some (.slice e)->fns.tys e=true)(hi:∀ xt d,ts[1]?=some xt->P.underlying xt=some d->isInt d=false){x x':Array Value}(hx:aU fns E x x'):ak P fns Z E (Builtin.append_ ts t x) (Builtin.append_ ts t x') (λE' v v'=>VR fns E' v v'):=by
 unfold Builtin.append_
 cases h0:x[0]? with
 |none=>cases ts[0]?<;>exact ak.dies aK.stuck
 |some v =>
 cases h1:x[1]? with
 |none=>cases ts[0]?<;>exact ak.dies aK.stuck
 |some u =>
  obtain⟨v',g0,hv⟩:=hx.get? 0 h0
  obtain⟨u',g1,hu⟩:=hx.get? 1 h1
  rw[g0,g1]
  cases hty:ts[0]? with
  |none=>exact ak.dies aK.stuck
  |some ty =>
   refine ak.bind (ak.underlying ty) λE1 d d' dG e=>?_
   obtain⟨rfl,hun⟩:=e
   split
   .cases v with
    |slice a dl dc =>
     obtain⟨b,rfl,ha⟩:=aJ.1 (hv.up dG)
     dsimp only
     refine ak.bind (ak.sizeOf _) λE2 s s' dW e=>?_
     subst e
     cases hxt:ts[1]? with
     |none =>
      dsimp only
      refine ak.bind (Φ:=λ_ z z'=>z=false/\z'=false) (ak.pure ⟨rfl,rfl⟩) λE3 z z' gJ e=>?_
      obtain⟨rfl,rfl⟩:=e
      simp only[Bool.false_eq_true,if_false,Bool.not_false,if_true,false_or]
      have hu3:=((hu.up dG).up dW).up gJ
      have GV:=(ha.up dW).up gJ
      refine ak.bind (ak.lenOf hu3) λE4 n n' u7 e=>?_
      obtain⟨rfl,hlen⟩:=e
      have X_:=hu3.up u7
      have MI:=GV.up u7
      split
      .rename_i hfit
       rcases MI with MI|⟨e1,e2,e3⟩
       rotate_left
       .subst e1 e2 e3
        obtain rfl:n'=0:=by omega
        refine ak.bind (ak.kU _ X_) λE5 y y' yO hy=>?_
        obtain⟨rfl,rfl⟩:=hy
        cases a with
        |none=>exact ak.pure (aJ.2 ⟨_,rfl,.inr ⟨rfl,rfl,rfl⟩⟩)
        |some a=>exact ak.bind (Φ:=λ_ _ _=>True) (ak.pure trivial) λE6 _ _ Nz _=>ak.pure (aJ.2 ⟨_,rfl,.inr ⟨rfl,rfl,rfl⟩⟩)
       refine ak.bind (ak.firstCells _ _ X_ (λa l c e=>by rw[<-hlen a l c e];exact Nat.le_refl _)) λE5 y y' yO hy=>?_
       have TT:=MI.up yO
       cases a with
       |none=>rw[iL] at TT;subst TT;exact ak.pure (aJ.2 ⟨_,rfl,.inl trivial⟩)
       |some a =>
        obtain⟨b',rfl,ha6⟩:=dS.1 TT
        exact ak.bind (ak.storeCells _ _ 0 (ha6.add _) (gU hy)) λE6 _ _ Nz _=>ak.pure (aJ.2 ⟨_,rfl,.inl (ha6.up Nz)⟩)
      .refine ak.bind (ak.typeInfo _) λE5 i i' yO e=>?_
       obtain⟨rfl,_⟩:=e
       split
       .exact ak.dies (aK.bind (aK.runtimePanic _))
       .refine ak.bind (ak.typeInfo _) λE6 i i' Nz e=>?_
        obtain⟨rfl,_⟩:=e
        split
        .refine ak.dies (aK.bind (aK.nV (λgh=>.inl (nW _ _ _ _ _ gh)) λr=>?_))
         split
         .exact aK.nV (λgh=>.inl ⟨_,_,rfl⟩) λ_=>aK.halt rfl
         .exact aK.halt rfl
        .refine ak.bind ak.choose λE7 c c' up7 e=>?_
         subst e
         refine ak.bind (ak.typeInfo _) λE8 i i' up8 e=>?_
         obtain⟨rfl,_⟩:=e
         refine ak.bind (ak.askRoom _) λE9 _ _ up9 _=>?_
         have up:∀ a b,E4 a b->E9 a b:=λa b q=>up9 _ _ (up8 _ _ (up7 _ _ (Nz _ _ (yO _ _ q))))
         refine ak.bind (ak.firstCells _ _ (aJ.2 ⟨_,rfl,MI.up up⟩) (λ_ _ _ e=>by cases e;exact Nat.le_refl _)) λF1 y y' uq1 hy=>?_
         refine ak.bind (ak.firstCells _ _ ((X_.up up).up uq1) (λa l c e=>by rw[<-hlen a l c e];exact Nat.le_refl _)) λF2 k k' uq2 hk=>?_
         refine ak.bind (ak.zeroValue hz _ (ht ty _ hty hun)) λF3 v v' uq3 h=>?_
         obtain⟨rfl,hcl⟩:=h
         have hall:=(((hy.up uq2).append hk).up uq3).append (kM (E:=F3) (λi hi=>je hcl i hi) (c'-(dl+n')))
         exact ak.bind (ak.newRow hall) λF4 a a' uq4 h=>ak.pure (aJ.2 ⟨_,rfl,.inl h.as⟩)
     |some xt =>
      dsimp only
      refine ak.bind (ak.underlying xt) λE2' d d' ae7 e=>?_
      obtain⟨rfl,hd⟩:=e
      have hno:=hi xt d' hxt hd
      have dW:∀ a b,E1 a b->E2' a b:=λa b q=>ae7 _ _ (dW _ _ q)
      refine ak.bind (Φ:=λ_ z z'=>z=false/\z'=false) (ak.pure ⟨hno,hno⟩) λE3 z z' gJ e=>?_
      obtain⟨rfl,rfl⟩:=e
      simp only[Bool.false_eq_true,if_false,Bool.not_false,if_true,false_or]
      have hu3:=((hu.up dG).up dW).up gJ
      have GV:=(ha.up dW).up gJ
      refine ak.bind (ak.lenOf hu3) λE4 n n' u7 e=>?_
      obtain⟨rfl,hlen⟩:=e
      have X_:=hu3.up u7
      have MI:=GV.up u7
      split
      .rename_i hfit
       rcases MI with MI|⟨e1,e2,e3⟩
       rotate_left
       .subst e1 e2 e3
        obtain rfl:n'=0:=by omega
        refine ak.bind (ak.kU _ X_) λE5 y y' yO hy=>?_
        obtain⟨rfl,rfl⟩:=hy
        cases a with
        |none=>exact ak.pure (aJ.2 ⟨_,rfl,.inr ⟨rfl,rfl,rfl⟩⟩)
        |some a=>exact ak.bind (Φ:=λ_ _ _=>True) (ak.pure trivial) λE6 _ _ Nz _=>ak.pure (aJ.2 ⟨_,rfl,.inr ⟨rfl,rfl,rfl⟩⟩)
       refine ak.bind (ak.firstCells _ _ X_ (λa l c e=>by rw[<-hlen a l c e];exact Nat.le_refl _)) λE5 y y' yO hy=>?_
       have TT:=MI.up yO
       cases a with
       |none=>rw[iL] at TT;subst TT;exact ak.pure (aJ.2 ⟨_,rfl,.inl trivial⟩)
       |some a =>
        obtain⟨b',rfl,ha6⟩:=dS.1 TT
        exact ak.bind (ak.storeCells _ _ 0 (ha6.add _) (gU hy)) λE6 _ _ Nz _=>ak.pure (aJ.2 ⟨_,rfl,.inl (ha6.up Nz)⟩)
      .refine ak.bind (ak.typeInfo _) λE5 i i' yO e=>?_
       obtain⟨rfl,_⟩:=e
       split
       .exact ak.dies (aK.bind (aK.runtimePanic _))
       .refine ak.bind (ak.typeInfo _) λE6 i i' Nz e=>?_
        obtain⟨rfl,_⟩:=e
        split
        .refine ak.dies (aK.bind (aK.nV (λgh=>.inl (nW _ _ _ _ _ gh)) λr=>?_))
         split
         .exact aK.nV (λgh=>.inl ⟨_,_,rfl⟩) λ_=>aK.halt rfl
         .exact aK.halt rfl
        .refine ak.bind ak.choose λE7 c c' up7 e=>?_
         subst e
         refine ak.bind (ak.typeInfo _) λE8 i i' up8 e=>?_
         obtain⟨rfl,_⟩:=e
         refine ak.bind (ak.askRoom _) λE9 _ _ up9 _=>?_
         have up:∀ a b,E4 a b->E9 a b:=λa b q=>up9 _ _ (up8 _ _ (up7 _ _ (Nz _ _ (yO _ _ q))))
         refine ak.bind (ak.firstCells _ _ (aJ.2 ⟨_,rfl,MI.up up⟩) (λ_ _ _ e=>by cases e;exact Nat.le_refl _)) λF1 y y' uq1 hy=>?_
         refine ak.bind (ak.firstCells _ _ ((X_.up up).up uq1) (λa l c e=>by rw[<-hlen a l c e];exact Nat.le_refl _)) λF2 k k' uq2 hk=>?_
         refine ak.bind (ak.zeroValue hz _ (ht ty _ hty hun)) λF3 v v' uq3 h=>?_
         obtain⟨rfl,hcl⟩:=h
         have hall:=(((hy.up uq2).append hk).up uq3).append (kM (E:=F3) (λi hi=>je hcl i hi) (c'-(dl+n')))
         exact ak.bind (ak.newRow hall) λF4 a a' uq4 h=>ak.pure (aJ.2 ⟨_,rfl,.inl h.as⟩)
    |_=>exact ak.dies aK.stuck
   .exact ak.stuck
variable {P:Program} {fns:Fx} {E E' D_:Nat->Nat->Prop} {Z:Nat->Prop}
theorem ak.intArith(op:BinOp)(k:IntKind)(a b:Int):ak P fns Z E (Op.intArith op k a b) (Op.intArith op k a b) (λE' v v'=>VR fns E' v v'):=by
 unfold Op.intArith
 split<;>first|exact ak.pure (aG rfl)|exact ak.stuck
theorem ak.intBits(op:BinOp)(k:IntKind)(a b:Int):ak P fns Z E (Op.intBits op k a b) (Op.intBits op k a b) (λE' v v'=>VR fns E' v v'):=by
 unfold Op.intBits
 dsimp only
 split<;>first|exact ak.pure (aG rfl)|exact ak.stuck
theorem ak.intDiv(op:BinOp)(k:IntKind)(a b:Int):ak P fns Z E (Op.intDiv op k a b) (Op.intDiv op k a b) (λE' v v'=>VR fns E' v v'):=by
 unfold Op.intDiv
 split
 .exact ak.dies (aK.runtimePanic _)
 .split<;>first|exact ak.pure (aG rfl)|exact ak.stuck
theorem ak.intCmp(op:BinOp)(a b:Int):ak P fns Z E (Op.intCmp op a b) (Op.intCmp op a b) (λE' v v'=>VR fns E' v v'):=by
 unfold Op.intCmp
 split<;>first|exact ak.pure (aG rfl)|exact ak.stuck
theorem ak.shift(op:BinOp)(k:IntKind)(a:Int)(yk:IntKind)(b:Int):ak P fns Z E (Op.shift op k a yk b) (Op.shift op k a yk b) (λE' v v'=>VR fns E' v v'):=by
 unfold Op.shift
 split
 .exact ak.dies (aK.runtimePanic _)
 .dsimp only
  split<;>first|exact ak.pure (aG rfl)|exact ak.stuck
theorem ak.stringOp(op:BinOp)(a b:ByteArray):ak P fns Z E (Op.stringOp op a b) (Op.stringOp op a b) (λE' v v'=>VR fns E' v v'):=by
 unfold Op.stringOp
 dsimp only
 split
 .split
  .exact ak.dies (aK.halt rfl)
  .exact ak.pure (aG rfl)
 all_goals first|exact ak.pure (aG rfl)|exact ak.stuck
theorem ak.unary(op:UnOp){v v':Value}(hv:VR fns E v v'):ak P fns Z E (Op.unary op v) (Op.unary op v') (λE' v v'=>VR fns E' v v'):=by
 cases v with
 |int k n =>
  rw[dF] at hv;subst hv
  cases op
  all_goals first
   |exact ak.dies (aK.halt rfl)
   |exact(ak.intArith .sub k 0 n:ak P fns Z E (Op.intArith .sub k 0 n) (Op.intArith .sub k 0 n) _)
   |exact(ak.intBits .xor k (if k.signed then -1 else k.max) n)
 |bool b =>
  rw[mD] at hv;subst hv
  cases op<;>first|exact ak.pure (aG rfl)|exact ak.dies (aK.halt rfl)
 |float=>exact(b_ hv).elim
 |complex=>exact(bO hv).elim
 |pointer a=>cases a<;>cases op<;>exact ak.dies (aK.halt rfl)
 |_=>cases op<;>exact ak.dies (aK.halt rfl)
theorem z8(P:Program)(fns:Fx)(d:Nat)(t:TypeId)(o:Nat):cellOfByte (fns.re P) d t o=cellOfByte P d t o:=by
 induction d generalizing t o with
 |zero=>rfl
 |succ d ih =>
  unfold cellOfByte
  simp only[ih]
  rfl
theorem yQ(P:Program)(fns:Fx)(d:Nat)(e:TypeId)(k off:Nat)(n:Int):cellAtBytes (fns.re P) d e k off n=cellAtBytes P d e k off n:=by
 unfold cellAtBytes
 simp only[pV,z8]
 rfl
theorem PY{p:Program}{d:Nat}{e:TypeId}{k k' off:Nat}{n:Int}{o:Nat}(h:k<=k')(hc:cellAtBytes p d e k off n=some o):cellAtBytes p d e k' off n=some o:=by
 unfold cellAtBytes at hc ⊢
 have hk:∀ w:Nat,Int.ofNat (k*w)<=Int.ofNat (k'*w):=λw=>Int.ofNat_le.2 (Nat.mul_le_mul_right w h)
 have:=hk (p.bytesOf e)
 simp only[bind,Option.bind,Bool.or_eq_true,decide_eq_true_eq] at hc ⊢
 split at hc
 .cases hc
 .rename_i h1
  rw[if_neg h1]
  split at hc
  .cases hc
  .rename_i x hx
   simp only[hx] at hc ⊢
   split at hc
   .cases hc
   .rename_i h2
    rw[if_neg (by omega)]
    exact hc
theorem ak.wrE{α β:Type}{s:Sem α}{s':Sem β}{Φ:(Nat->Nat->Prop)->α->β->Prop}(h:(∃ gh re,WR P fns E Z gh re)->ak P fns Z E s s' Φ):ak P fns Z E s s' Φ:=λgh re hw=>h ⟨gh,re,hw⟩ gh re hw
theorem ak.unsafeAdd(t:TypeId){a a':Option Addr}{y y':Value}(ha:OA fns E a a')(hy:VR fns E y y'):ak P fns Z E (Builtin.unsafeAdd_ #[] t #[.pointer a,y]) (Builtin.unsafeAdd_ #[] t #[.pointer a',y']) (λE' v v'=>VR fns E' v v'):=by
 unfold Builtin.unsafeAdd_
 refine ak.wrE λ⟨gh,re,hw⟩=>?_
 dsimp only
 refine ak.bind (ak.asInt hy) λE1 n n' dG e=>?_
 subst e
 have ha1:=ha.up dG
 split
 .cases a with
  |none=>rw[jT] at ha1;subst ha1;exact ak.dies (aK.halt rfl)
  |some a =>
   obtain⟨b,rfl,hb⟩:=dB.1 ha1
   refine ak.bind (ak.viewAt hb.1) λE2 s s' dW e=>?_
   obtain⟨rfl,rfl⟩:=e
   exact ak.pure (aM.2 ⟨_,rfl,hb.up dW⟩)
 .rename_i hn0
  split
  .exact ak.dies (aK.bind (aK.halt rfl))
  .rename_i hn1
   cases a with
   |none=>rw[jT] at ha1;subst ha1;exact ak.dies (aK.halt rfl)
   |some a =>
    obtain⟨b,rfl,hb⟩:=dB.1 ha1
    refine ak.bind (ak.shape hb.1) λE2 s s' dW e=>?_
    rcases e with ⟨rfl,rfl⟩|⟨el,k,k',rfl,rfl,hk⟩
    .exact ak.dies (aK.halt rfl)
    .dsimp only
     refine ak.bind ak.program λE3 p q gJ e=>?_
     obtain⟨rfl,rfl⟩:=e
     rw[<-hb.2.1,show (fns.re p).depth=p.depth from rfl,show (fns.re p).cellsOf el=p.cellsOf el from rfl,yQ]
     cases hc:cellAtBytes p p.depth el (k/p.cellsOf el) a.off n' with
     |none=>exact ak.dies (aK.halt rfl)
     |some o =>
      rw[PY (Nat.div_le_div_right hk) hc]
      refine ak.pure (aM.2 ⟨_,rfl,gJ _ _ (dW _ _ hb.1),rfl,hb.2.2.1,hb.2.2.2.1,?_⟩)
      rcases hb.2.2.2.1 with hf|hp
      .exact Nat.le_trans hb.2.2.2.2 (hw.jM.2 hf el _ a.off n' o (by omega) hc)
      .exact(fns.Ka hp _).2
theorem ak.movedNumber(t:TypeId){a a':Option Addr}{y y':Value}(ha:OA fns E a a')(hy:VR fns E y y'):ak P fns Z E (Go.movedNumber t (.pointer a) y) (Go.movedNumber t (.pointer a') y') (λE' v v'=>VR fns E' v v'):=by
 unfold Go.movedNumber
 cases a with
 |none =>
  rw[jT] at ha;subst ha
  refine ak.bind (ak.underlying t) λE1 d d' dG e=>?_
  obtain⟨rfl,-⟩:=e
  cases d'<;>first
   |exact ak.unsafeAdd t (a:=none) (a':=none) trivial (hy.up dG)
   |exact ak.dies (show aK P (Go.unsupported _ >>= λ_=>Builtin.unsafeAdd_ #[] t #[.pointer none,y]) from aK.bind (aK.halt rfl))
 |some a =>
  obtain⟨b,rfl,hb⟩:=dB.1 ha
  refine ak.bind (ak.underlying t) λE1 d d' dG e=>?_
  obtain⟨rfl,-⟩:=e
  dsimp only
  split
  .rw[if_pos rfl];exact ak.dies (aK.bind (aK.halt rfl))
  .simp only[Bool.false_eq_true,if_false]
   refine ak.bind (ak.behindNumber (hb.up dG)) λE2 s s' dW e=>?_
   obtain⟨e1,e2⟩:=e
   rw[<-e2]
   refine ak.bind (ak.unsafeAdd t (a:=some s.1) (a':=some s'.1) e1 ((hy.up dG).up dW)) λE3 v v' gJ hv=>?_
   cases v with
   |pointer p =>
    obtain⟨p',rfl,hp⟩:=aM.1 hv
    cases p with
    |none=>rw[jT] at hp;subst hp;exact ak.pure (aG rfl)
    |some p=>obtain⟨q,rfl,hq⟩:=dB.1 hp;exact ak.asNumber hq _
   |float=>exact(b_ hv).elim
   |complex=>exact(bO hv).elim
   |slice a l c=>obtain⟨b,rfl,_⟩:=aJ.1 hv;exact ak.pure hv
   |map r=>obtain⟨rfl,rfl⟩:=fE.1 hv;exact ak.pure hv
   |chan r=>obtain⟨rfl,rfl⟩:=dJ.1 hv;exact ak.pure hv
   |func f x y=>obtain⟨x',y',rfl,_⟩:=dA.1 hv;exact ak.pure hv
   |iface t u=>obtain⟨u',rfl,_⟩:=bE.1 hv;exact ak.pure hv
   |agg x=>obtain⟨x',rfl,_⟩:=bX.1 hv;exact ak.pure hv
   |tuple x=>obtain⟨x',rfl,_⟩:=bK.1 hv;exact ak.pure hv
   |_=>have:=hv;rw[VR] at this;subst this;exact ak.pure hv
theorem ak.movedPointer(t:TypeId){a a':Option Addr}{y y':Value}(ha:OA fns E a a')(hy:VR fns E y y'):ak P fns Z E (Go.movedPointer t (.pointer a) y) (Go.movedPointer t (.pointer a') y') (λE' v v'=>VR fns E' v v'):=by
 unfold Go.movedPointer
 cases a with
 |none=>rw[jT] at ha;subst ha;exact ak.unsafeAdd t (a:=none) (a':=none) trivial hy
 |some a =>
  obtain⟨b,rfl,hb⟩:=dB.1 ha
  dsimp only
  refine ak.bind (ak.numberAt hb.1) λE2 s s' dW e=>?_
  rcases e with ⟨rfl,rfl⟩|⟨y,y',l,rfl,rfl,_⟩
  .exact ak.unsafeAdd t (a:=some a) (a':=some b) (hb.up dW) (hy.up dW)
  .exact ak.dies (aK.bind (aK.halt rfl))
theorem ak.twoPlaces{a a' b b':Addr}(ha:AR fns E a a')(hb:AR fns E b b'):ak P fns Z E (Op.twoPlaces a b) (Op.twoPlaces a' b') (λ_ n n'=>n'=n):=by
 refine ak.wrE λ⟨gh,re,hw⟩=>?_
 unfold Op.twoPlaces
 refine ak.bind ak.program λE1 p q dG e=>?_
 obtain⟨rfl,rfl⟩:=e
 rw[show (fns.re p).globals=p.globals from rfl]
 have e1:(a'.block != b'.block||decide (a'.block≥p.globals.size))=(a.block != b.block||decide (a.block≥p.globals.size)):=by
  have i:=hw.inj _ _ _ _ ha.1 hb.1
  have g:=hw.glob _ _ ha.1
  have g1:(a'.block != b'.block)=(a.block != b.block):=by
   by_cases h:a.block=b.block
   .rw[h,i.1 h,bne_self_eq_false,bne_self_eq_false]
   .rw[bne_iff_ne.2 h,bne_iff_ne.2 λx=>h (i.2 x ha.2.2.2.1)]
  have g2:decide (a'.block≥p.globals.size)=decide (a.block≥p.globals.size):=by
   rw[decide_eq_decide]
   by_cases hh:a.block<=p.globals.size\/a'.block<=p.globals.size
   .rw[g hh]
   .constructor<;>intro _<;>omega
  rw[g1,g2]
 rw[e1]
 dsimp only
 split
 .exact ak.dies (aK.bind (aK.halt rfl))
 .refine ak.bind (ak.byteOf (ha.up dG).as) λE2 n n' dW e=>?_
  subst e
  refine ak.bind (ak.byteOf ((hb.up dG).up dW).as) λE3 n n' gJ e=>?_
  subst e
  exact ak.pure rfl
theorem ak.addrSub(k:IntKind){a a' b b':Addr}(ha:AR fns E a a')(hb:AR fns E b b'):ak P fns Z E (Op.addrSub k a b) (Op.addrSub k a' b') (λE' v v'=>VR fns E' v v'):=by
 unfold Op.addrSub
 refine ak.bind (ak.twoPlaces ha hb) λE2 n n' dW e=>?_
 subst e
 exact ak.pure (aG rfl)
theorem ak.addrCmp(op:BinOp){a a' b b':Addr}(ha:AR fns E a a')(hb:AR fns E b b'):ak P fns Z E (Op.addrCmp op a b) (Op.addrCmp op a' b') (λE' v v'=>VR fns E' v v'):=by
 unfold Op.addrCmp
 refine ak.bind (ak.twoPlaces ha hb) λE2 n n' dW e=>?_
 subst e
 dsimp only
 split<;>first|exact ak.pure (aG rfl)|exact ak.dies (aK.halt rfl)
theorem ak.addrMod(k:IntKind){a a':Addr}(ha:AR fns E a a')(n:Int):ak P fns Z E (Op.addrMod k a n) (Op.addrMod k a' n) (λE' v v'=>VR fns E' v v'):=by
 unfold Op.addrMod
 refine ak.bind (ak.shape ha.1) λE1 s s' dG e=>?_
 rcases e with ⟨rfl,rfl⟩|⟨el,k,k',rfl,rfl,hk⟩
 .exact ak.dies (aK.halt rfl)
 .dsimp only
  refine ak.bind (ak.typeInfo _) λE2 i i' dW e=>?_
  obtain⟨rfl,_⟩:=e
  split
  .exact ak.dies (aK.bind (aK.halt rfl))
  .refine ak.bind (ak.byteOf ((ha.up dG).up dW).as) λE3 n n' gJ e=>?_
   subst e
   exact ak.pure (aG rfl)
