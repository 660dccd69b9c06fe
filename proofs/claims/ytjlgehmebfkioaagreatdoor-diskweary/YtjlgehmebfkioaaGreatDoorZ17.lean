/- Part of the proof. -/
import Derived.Test.YtjlgehmebfkioaaGreatDoorZ16
namespace Go.Proofs.YtjlgehmebfkioaaGreatDoor
open Go
variable {h h' l' m m':Option Value} {v':Value}
variable {P:Program} {fns:Fx} {E E' DJ:Nat->Nat->Prop} {Z:Nat->Prop}
theorem ak.FQ{α β γ:Type}{f:α->Sem β}{f':α->Sem β}(hf:∀ E a,ak P fns Z E (f a) (f' a) (λ_ x y=>y=x)):∀ (l:List α) {E:Nat->Nat->Prop},ak P fns Z E (l.mapM f) (l.mapM f') (λ_ x y=>y=x)
 | [],E=>by simp only[List.mapM_nil];exact ak.pure rfl
 |a::l,E=>by
  simp only[List.mapM_cons]
  refine ak.bind (hf E a) λE1 x y up h=>?_
  subst h
  refine ak.bind (ak.FQ (γ:=γ) hf l) λE2 x y up h=>?_
  subst h
  exact ak.pure rfl
theorem ak.mapM{α β:Type}{f:α->Sem β}(hf:∀ E a,ak P fns Z E (f a) (f a) (λ_ x y=>y=x))(x:Array α):ak P fns Z E (x.mapM f) (x.mapM f) (λ_ x y=>y=x):=by
 rw[Array.mapM_eq_mapM_toList]
 refine ak.bind (Φ:=λ_ x y=>y=x) (ak.FQ (γ:=Unit) hf _) λE1 x y up h=>?_
 subst h
 exact ak.pure rfl
theorem ak.build(hz:zeros P fns)(t:TypeId)(ht:fns.tys t=true){x x':Array (Nat × Value)}(hx:uh fns E x.toList x'.toList):ak P fns Z E (Instr.build t x) (Instr.build t x') (λE' v v'=>VR fns E' v v'):=by
 have hup:∀ {E1:Nat->Nat->Prop},(∀ a b,E a b->E1 a b)->uh fns E1 x.toList x'.toList:=λup=>⟨hx.1,hx.2.up up⟩
 unfold Instr.build
 refine ak.bind (ak.zeroValue hz t ht) λE1 v v' up h=>?_
 obtain⟨rfl,hc⟩:=h
 dsimp only
 refine ak.bind (ak.underlying t) λE2 d d' dV h=>?_
 obtain⟨rfl,_⟩:=h
 split
 .refine ak.bind (ak.mapM (λE f=>ak.bind (ak.sizeOf _) λE' n n' up h=>ak.pure (by rw[h])) _) λE3 pl pl' gy h=>?_
  subst h
  rcases mI (E:=E3) (pl'[·]?) x.toList x'.toList (hup (λa b z=>gy _ _ (dV _ _ (up _ _ z)))) (lK (jU hc)) with ⟨d,d',h1,h2,h3⟩|h
  .rw[h1,h2];exact ak.pure (bW.2 ⟨_,rfl,h3⟩)
  .rw[h];exact ak.stuck
 .refine ak.bind (ak.sizeOf _) λE3 pl pl' gy h=>?_
  subst h
  rcases mI (E:=E3) (λi=>some (i*pl',pl')) x.toList x'.toList (hup (λa b z=>gy _ _ (dV _ _ (up _ _ z)))) (lK (jU hc)) with ⟨d,d',h1,h2,h3⟩|h
  .rw[h1,h2];exact ak.pure (bW.2 ⟨_,rfl,h3⟩)
  .rw[h];exact ak.stuck
 .exact ak.stuck
theorem iX{v:Value}(h:mF v=true):∀ i (hi:i<v.cells.size),VR fns E v.cells[i] v.cells[i]:=λi hi=>(lK (jU h)).2 i hi hi
theorem uj{z:Array Value}(hz:∀ i (hi:i<z.size),VR fns E z[i] z[i])(n:Nat):aV fns E ((Array.range n).map (z[·%z.size]!)) ((Array.range n).map (z[·%z.size]!)):=by
 refine⟨rfl,λi a b=>?_⟩
 simp only[Array.getElem_map,Array.getElem_range]
 by_cases hp:i%z.size<z.size
 .rw[getElem!_pos z (i%z.size) hp]
  exact hz _ _
 .rw[getElem!_neg z (i%z.size) hp]
  exact aG rfl
theorem ak.buildSlice(hz:zeros P fns)(t:TypeId)(ht:∀ e,P.underlying t=some (.slice e)->fns.tys e=true)(len:Nat){x x':Array (Nat × Value)}(hx:uh fns E x.toList x'.toList):ak P fns Z E (Instr.buildSlice t len x) (Instr.buildSlice t len x') (λE' v v'=>VR fns E' v v'):=by
 unfold Instr.buildSlice
 refine ak.bind (ak.underlying t) λE1 d d' dF h=>?_
 obtain⟨rfl,hu⟩:=h
 split
 .refine ak.bind (ak.sizeOf _) λE2 n n' dV h=>?_
  subst h
  dsimp only
  have key:∀ {E3:Nat->Nat->Prop} (z:Array Value),(∀ a b,E a b->E3 a b)->(∀ E i (hi:i<z.size),VR fns E z[i] z[i]) ->
   (∃ d d',Instr.fill (λi=>some (i*n',n')) ((Array.range (len*n')).map (z[·%z.size]!)) x.toList=some d/\Instr.fill (λi=>some (i*n',n')) ((Array.range (len*n')).map (z[·%z.size]!)) x'.toList=some d'/\aV fns E3 d d')\/Instr.fill (λi=>some (i*n',n')) ((Array.range (len*n')).map (z[·%z.size]!)) x.toList=none :=
   λ{E3} z up hzz=>mI (E:=E3) (λi=>some (i*n',n')) x.toList x'.toList ⟨hx.1,hx.2.up up⟩ (uj (hzz E3) (len*n'))
  split
  .exact ak.dies (aK.bind (aK.halt rfl))
  .split
   .refine ak.bind (Φ:=λ_ z z'=>z=#[]/\z'=#[]) (ak.pure ⟨rfl,rfl⟩) λE3 z z' gy h=>?_
    obtain⟨rfl,rfl⟩:=h
    rcases key (E3:=E3) #[] (λa b y=>gy _ _ (dV _ _ (dF _ _ y))) (λE i hi=>by simp at hi) with ⟨d,d',h1,h2,h3⟩|h
    .rw[h1,h2]
     exact ak.bind (ak.newRow h3) λE4 a a' uV h=>ak.pure (aJ.2 ⟨_,rfl,.inl h.as⟩)
    .rw[h];exact ak.stuck
   .refine ak.bind (ak.zeroValue hz _ (ht _ hu)) λE3 v v' gy h=>?_
    obtain⟨rfl,hc⟩:=h
    refine ak.bind (Φ:=λ_ z z'=>z=v'.cells/\z'=v'.cells) (ak.pure ⟨rfl,rfl⟩) λE4 z z' uV h=>?_
    obtain⟨rfl,rfl⟩:=h
    rcases key (E3:=E4) v'.cells (λa b y=>uV _ _ (gy _ _ (dV _ _ (dF _ _ y)))) (λE i hi=>iX hc i hi) with ⟨d,d',h1,h2,h3⟩|h
    .rw[h1,h2]
     exact ak.bind (ak.newRow h3) λE4 a a' uV h=>ak.pure (aJ.2 ⟨_,rfl,.inl h.as⟩)
    .rw[h];exact ak.stuck
 .exact ak.stuck
theorem ak.sliceBound{v:Value}(hv:VR fns E v v')(y:Nat)(c:BoundsCode):ak P fns Z E (Instr.sliceBound v y c) (Instr.sliceBound v' y c) (λ_ n n'=>n'=n/\n<=y):=by
 unfold Instr.sliceBound
 refine ak.bind (ak.asIntOf hv) λE1 n n' up h=>?_
 subst h
 dsimp only
 split
 .rename_i hc
  exact ak.pure ⟨rfl,by omega⟩
 .exact ak.dies (aK.boundsPanic _ _ _ _)
def um(fns:Fx)(E:Nat->Nat->Prop):Option Value->Option Value->Prop
 |none,none=>True
 |some v,some v'=>VR fns E v v'
 |_,_=>False
theorem um.up{v v':Option Value}(h:um fns E v v')(hE:∀ a b,E a b->E' a b):um fns E' v v':=by
 cases v<;>cases v'<;>first|exact h|exact VR.up h hE
theorem ak.sliceBounds(b:Bool)(len cap:Nat){l:Option Value}(hl:um fns E l l')(hh:um fns E h h')(hm:um fns E m m'):ak P fns Z E (Instr.sliceBounds b len cap l h m) (Instr.sliceBounds b len cap l' h' m') (λ_ n n'=>n'=n/\(len=0->cap=0->n=(0,0,0))):=by
 unfold Instr.sliceBounds
 cases m<;>cases m'<;>first|exact hm.elim|skip
 all_goals refine ak.bind (Φ:=λ_ n n'=>n'=n/\n<=cap) (by first|exact ak.pure ⟨rfl,Nat.le_refl _⟩|exact ak.sliceBound hm _ _) λE1 x x' dF e=>?_
 all_goals obtain⟨rfl,ex⟩:=e
 all_goals have OE:=hh.up dF
 all_goals cases h<;>cases h'<;>first|exact hh.elim|exact ak.dies (aK.bind aK.stuck)|skip
 all_goals refine ak.bind (Φ:=λ_ n n'=>n'=n/\(len=0->cap=0->n=0)) (by first|exact ak.pure ⟨rfl,λe _=>e⟩|exact(ak.sliceBound OE _ _).mono λ_ _ _ _ e=>⟨e.1,λ_ _=>by have:=e.2;omega⟩) λE2 y y' dV e=>?_
 all_goals obtain⟨rfl,ey⟩:=e
 all_goals have hl2:=(hl.up dF).up dV
 all_goals cases l<;>cases l'<;>first|exact hl.elim|skip
 all_goals refine ak.bind (Φ:=λ_ n n'=>n'=n/\(len=0->cap=0->n=0)) (by first|exact ak.pure ⟨rfl,λ_ _=>rfl⟩|exact(ak.sliceBound hl2 _ _).mono λ_ _ _ _ e=>⟨e.1,λe1 e2=>by have:=e.2;have:=ey e1 e2;omega⟩) λE3 z z' gy e=>?_
 all_goals obtain⟨rfl,ez⟩:=e
 all_goals exact ak.pure ⟨rfl,λe1 e2=>by rw[ey e1 e2,ez e1 e2,show x'=0 by omega]⟩
theorem ak.slice(t:TypeId){v:Value}(hv:VR fns E v v'){l:Option Value}(hl:um fns E l l')(hh:um fns E h h')(hm:um fns E m m'):ak P fns Z E (Instr.slice t v l h m) (Instr.slice t v' l' h' m') (λE' v v'=>VR fns E' v v'):=by
 unfold Instr.slice
 refine ak.bind (ak.underlying t) λE1 d d' dF e=>?_
 obtain⟨rfl,_⟩:=e
 have hv1:=hv.up dF
 have hl1:=hl.up dF
 have OE:=hh.up dF
 have hm1:=hm.up dF
 have em:m'.isSome=m.isSome:=by cases m<;>cases m'<;>first|rfl|exact hm.elim
 split
 .rename_i s
  rw[dN] at hv1
  subst hv1
  rw[em]
  split
  .exact ak.dies (aK.bind aK.stuck)
  .refine ak.bind (ak.sliceBounds _ _ _ hl1 OE trivial) λE2 n n' dV e=>?_
   obtain⟨rfl,_⟩:=e
   exact ak.pure (aG rfl)
 .rename_i a _ _ _
  obtain⟨b,rfl,ha⟩:=aJ.1 hv1
  dsimp only
  refine ak.bind (ak.sliceBounds _ _ _ hl1 OE hm1) λE2 n n' dV e=>?_
  obtain⟨rfl,hnil⟩:=e
  refine ak.bind (ak.sizeOf _) λE3 sz sz' gy e=>?_
  subst e
  refine ak.pure (aJ.2 ⟨_,rfl,?_⟩)
  rcases ha with ha|⟨e1,e2,e3⟩
  .have Gx:=(ha.up dV).up gy
   refine .inl ?_
   split
   .exact Gx
   .cases a with
    |none=>rw[iJ] at Gx;subst Gx;trivial
    |some a=>obtain⟨b',rfl,Gx⟩:=dR.1 Gx;exact Gx.add _
  .have hn0:=hnil e1 e2
   subst hn0
   exact .inr ⟨rfl,rfl,by rw[if_pos rfl,if_pos rfl];exact e3⟩
 .refine ak.bind (ak.asAddr hv1) λE2 a a' dV ha=>?_
  refine ak.bind (ak.underlying _) λE3 d d' gy e=>?_
  obtain⟨rfl,_⟩:=e
  split
  .refine ak.bind (ak.sliceBounds _ _ _ ((hl1.up dV).up gy) ((OE.up dV).up gy) ((hm1.up dV).up gy)) λE4 n n' uV e=>?_
   obtain⟨rfl,_⟩:=e
   dsimp only
   refine ak.bind (ak.sizeOf _) λE5 n n' yD e=>?_
   subst e
   refine ak.pure (aJ.2 ⟨_,rfl,.inl ?_⟩)
   have Gx:=(((ha.up gy).up uV).up yD).as
   split
   .exact Gx
   .exact Gx.add _
  .exact ak.stuck
 .exact ak.stuck
theorem ak.sliceAt(t:TypeId){v:Value}(hv:VR fns E v v'){l:Option Value}(hl:um fns E l l')(hh:um fns E h h')(hm:um fns E m m'):ak P fns Z E (Instr.sliceAt t v l h m) (Instr.sliceAt t v' l' h' m') (λE' v v'=>VR fns E' v v'):=by
 unfold Instr.sliceAt
 refine ak.bind (ak.underlying t) λE1 d d' dF e=>?_
 obtain⟨rfl,_⟩:=e
 have hv1:=hv.up dF
 have hl1:=hl.up dF
 have OE:=hh.up dF
 have hm1:=hm.up dF
 split
 .refine ak.bind (ak.sureAddr hv1) λE2 a a' dV ha=>?_
  refine ak.bind (ak.sliceBounds _ _ _ (hl1.up dV) (OE.up dV) (hm1.up dV)) λE4 n n' uV e=>?_
  obtain⟨rfl,_⟩:=e
  dsimp only
  refine ak.bind (ak.sizeOf _) λE5 n n' yD e=>?_
  subst e
  refine ak.pure (aJ.2 ⟨_,rfl,.inl ?_⟩)
  have Gx:=((ha.up uV).up yD).as
  split
  .exact Gx
  .exact Gx.add _
 .exact ak.slice t hv1 hl1 OE hm1
theorem ak.indexAt(t:TypeId){v x x':Value}(hv:VR fns E v v')(hx:VR fns E x x'):ak P fns Z E (Instr.indexAt t v x) (Instr.indexAt t v' x') (λE' v v'=>VZ fns E' v v'):=by
 unfold Instr.indexAt
 refine ak.bind (ak.asIntOf hx) λE1 n n' dF e=>?_
 subst e
 dsimp only
 refine ak.bind (ak.underlying t) λE2 d d' dV e=>?_
 obtain⟨rfl,_⟩:=e
 have hv2:=(hv.up dF).up dV
 split
 .refine ak.bind (ak.sureAddr hv2) λE3 a a' gy ha=>?_
  refine ak.bind (Φ:=λE' (y y':Option Addr × Nat × TypeId)=>OA fns E' y.1 y'.1/\y.2=y'.2) (ak.pure ⟨ha,rfl⟩) λE3 y y' gy e=>?_
  obtain⟨base,len,elem⟩:=y
  obtain⟨base',len',elem'⟩:=y'
  obtain⟨e1,e2⟩:=e
  simp only[Prod.mk.injEq] at e2
  obtain⟨rfl,rfl⟩:=e2
  dsimp only at e1 ⊢
  refine ak.bind (ak.underlying t) λE4 d d' uV e=>?_
  obtain⟨rfl,_⟩:=e
  have e4:=e1.up uV
  cases base with
  |none =>
   rw[jQ] at e4;subst e4
   exact ak.dies (aK.boundsPanic _ _ _ _)
  |some a =>
   obtain⟨b',rfl,ha⟩:=dA.1 e4
   dsimp only
   split
   .refine ak.bind (ak.sizeOf _) λE5 n n' yD e=>?_
    subst e
    exact ak.pure (.inl (aM.2 ⟨_,rfl,(ha.up yD).add _⟩))
   .refine ak.dies ?_
    split<;>split<;>first|exact aK.halt rfl|exact aK.boundsPanic _ _ _ _
 .obtain⟨b,rfl,ha⟩:=aJ.1 hv2
  refine ak.bind (Φ:=λE' (y y':Option Addr × Nat × TypeId)=>(OS fns E' y.1 y'.1\/(y.2.1=0/\y.1=y'.1))/\y.2=y'.2) (ak.pure ⟨ha.imp id λx=>⟨x.1,x.2.2⟩,rfl⟩) λE3 y y' gy e=>?_
  obtain⟨base,len,elem⟩:=y
  obtain⟨base',len',elem'⟩:=y'
  obtain⟨e1,e2⟩:=e
  simp only[Prod.mk.injEq] at e2
  obtain⟨rfl,rfl⟩:=e2
  dsimp only at e1 ⊢
  refine ak.bind (ak.underlying t) λE4 d d' uV e=>?_
  obtain⟨rfl,_⟩:=e
  rcases e1 with e1|⟨e5,e6⟩
  rotate_left
  .subst e5 e6
   cases base with
   |none=>exact ak.dies (aK.boundsPanic _ _ _ _)
   |some a =>
    dsimp only
    split
    .rename_i hcc
     have:=hcc.1
     have:=hcc.2
     omega
    .refine ak.dies ?_
     split<;>split<;>first|exact aK.halt rfl|exact aK.boundsPanic _ _ _ _
  have e4:=e1.up uV
  cases base with
  |none =>
   rw[iJ] at e4;subst e4
   exact ak.dies (aK.boundsPanic _ _ _ _)
  |some a =>
   obtain⟨b',rfl,ha⟩:=dR.1 e4
   dsimp only
   split
   .refine ak.bind (ak.sizeOf _) λE5 n n' yD e=>?_
    subst e
    exact ak.pure (.inr ⟨_,_,rfl,rfl,(ha.up yD).add _⟩)
   .refine ak.dies ?_
    split<;>split<;>first|exact aK.halt rfl|exact aK.boundsPanic _ _ _ _
 .exact ak.dies (aK.bind aK.stuck)
theorem ak.extract{v:Value}(hv:VR fns E v v')(i:Nat):ak P fns Z E (Instr.extract v i) (Instr.extract v' i) (λE' v v'=>VR fns E' v v'):=by
 cases v with
 |tuple x =>
  obtain⟨x',rfl,h⟩:=bK.1 hv
  unfold Instr.extract
  dsimp only
  cases hx:x[i]? with
  |none=>exact ak.stuck
  |some u=>obtain⟨u',h1,h2⟩:=h.get? i hx;rw[h1];exact ak.pure h2
 |_=>exact ak.dies (aK.halt rfl)
variable {x':Array Value} {v':Value}
variable {P:Program} {fns:Fx} {E E' DJ:Nat->Nat->Prop} {Z:Nat->Prop}
theorem ak.J3(z:Array Value)(hzz:∀ i (hi:i<z.size),VR fns E z[i] z[i])(el:TypeId)(k u v:Nat) :
 ak P fns Z E (Go.newRow el ((Array.range k).map (z[·%z.size]!)) >>= λa=>Pure.pure (Value.slice (some a) u v)) (Go.newRow el ((Array.range k).map (z[·%z.size]!)) >>= λa=>Pure.pure (Value.slice (some a) u v)) (λE' v v'=>VR fns E' v v') :=
 ak.bind (ak.newRow (uj hzz k)) λ_ _ _ _ h=>ak.pure (aJ.2 ⟨_,rfl,.inl h.as⟩)
theorem ak.makeSlice(hz:zeros P fns)(t:TypeId)(ht:∀ e,P.underlying t=some (.slice e)->fns.tys e=true){l l' c c':Value}(hl:VR fns E l l')(hc:VR fns E c c'):ak P fns Z E (Instr.makeSlice t l c) (Instr.makeSlice t l' c') (λE' v v'=>VR fns E' v v'):=by
 unfold Instr.makeSlice
 refine ak.bind (ak.underlying t) λE1 d d' dF e=>?_
 obtain⟨rfl,hu⟩:=e
 split
 .refine ak.bind (ak.asInt (hl.up dF)) λE2 n n' dV e=>?_
  subst e
  refine ak.bind (ak.asInt ((hc.up dF).up dV)) λE3 m m' gy e=>?_
  subst e
  refine ak.bind (ak.typeInfo _) λE4 i i' uV e=>?_
  obtain⟨rfl,_⟩:=e
  dsimp only
  split
  .refine ak.dies ?_
   split
   .exact aK.bind (aK.runtimePanic _)
   .split
    .exact aK.bind (aK.runtimePanic _)
    .refine aK.nO (λgh=>.inl ?_) λ_=>aK.bind (aK.runtimePanic _)
     rw[run_choose];split<;>exact⟨_,_,rfl⟩
  .refine ak.bind (ak.askRoom _) λE5 _ _ yD _=>?_
   refine ak.bind (ak.sizeOf _) λE6 s s' Nw e=>?_
   subst e
   split
   .exact ak.J3 #[] (λi hi=>by simp at hi) _ _ _ _
   .refine ak.bind (ak.zeroValue hz _ (ht _ hu)) λE7 v v' up7 h=>?_
    obtain⟨rfl,hcl⟩:=h
    exact ak.J3 v'.cells (λi hi=>iX hcl i hi) _ _ _ _
 .exact ak.stuck
theorem ak.len(ts:Array TypeId)(t:TypeId){x:Array Value}(hx:aV fns E x x'):ak P fns Z E (Builtin.len_ ts t x) (Builtin.len_ ts t x') (λE' v v'=>VR fns E' v v'):=by
 unfold Builtin.len_
 cases h0:x[0]? with
 |none =>
  cases ts[0]?<;>exact ak.dies aK.stuck
 |some v =>
  obtain⟨v',h1,hv⟩:=hx.get? 0 h0
  rw[h1]
  cases ts[0]? with
  |none=>exact ak.dies aK.stuck
  |some ty =>
   refine ak.bind (ak.underlying ty) λE1 d d' dF e=>?_
   obtain⟨rfl,_⟩:=e
   have hv1:=hv.up dF
   split
   .rw[dN] at hv1;subst hv1;exact ak.pure (aG rfl)
   .exact ak.pure (aG rfl)
   .refine ak.bind (ak.underlying _) λE2 d d' dV e=>?_
    obtain⟨rfl,_⟩:=e
    split
    .exact ak.pure (aG rfl)
    .exact ak.stuck
   .obtain⟨b,rfl,_⟩:=aJ.1 hv1;exact ak.pure (aG rfl)
   .obtain⟨_,rfl⟩:=fE.1 hv1;exact ak.pure (aG rfl)
   .obtain⟨_,rfl⟩:=dI.1 hv1;exact ak.pure (aG rfl)
   .have:=fE.1 hv1;cases this.1
   .have:=dI.1 hv1;cases this.1
   .exact ak.stuck
theorem ak.cap(ts:Array TypeId)(t:TypeId){x:Array Value}(hx:aV fns E x x'):ak P fns Z E (Builtin.cap_ ts t x) (Builtin.cap_ ts t x') (λE' v v'=>VR fns E' v v'):=by
 unfold Builtin.cap_
 cases h0:x[0]? with
 |none =>
  cases ts[0]?<;>exact ak.dies aK.stuck
 |some v =>
  obtain⟨v',h1,hv⟩:=hx.get? 0 h0
  rw[h1]
  cases ts[0]? with
  |none=>exact ak.dies aK.stuck
  |some ty =>
   refine ak.bind (ak.underlying ty) λE1 d d' dF e=>?_
   obtain⟨rfl,_⟩:=e
   have hv1:=hv.up dF
   split
   .exact ak.pure (aG rfl)
   .refine ak.bind (ak.underlying _) λE2 d d' dV e=>?_
    obtain⟨rfl,_⟩:=e
    split
    .exact ak.pure (aG rfl)
    .exact ak.stuck
   .obtain⟨b,rfl,_⟩:=aJ.1 hv1;exact ak.pure (aG rfl)
   .obtain⟨_,rfl⟩:=dI.1 hv1;exact ak.pure (aG rfl)
   .obtain⟨h,_⟩:=dI.1 hv1;cases h
   .exact ak.stuck
theorem ak.lenOf{v:Value}(hv:VR fns E v v'):ak P fns Z E (Builtin.lenOf v) (Builtin.lenOf v') (λ_ n n'=>n'=n/\∀ a l c,v=.slice a l c->n=l):=by
 cases v with
 |slice a l c=>obtain⟨b,rfl,_⟩:=aJ.1 hv;exact ak.pure ⟨rfl,λ_ _ _ e=>by cases e;rfl⟩
 |string s=>rw[dN] at hv;subst hv;exact ak.pure ⟨rfl,λ_ _ _ e=>by cases e⟩
 |_=>exact ak.dies (aK.halt rfl)
theorem IB(l:Array UInt8):aV fns E (l.map λb=>.int .u8 b.toNat) (l.map λb=>.int .u8 b.toNat):=⟨rfl,λi a b=>by simpa using aG rfl⟩
theorem ak.kQ(size:Nat){v:Value}(hv:VR fns E v v'):ak P fns Z E (Builtin.firstCells size 0 v) (Builtin.firstCells size 0 v') (λ_ x x'=>x=#[]/\x'=#[]):=by
 have h0:∀ a:Addr,Go.loadCells a (0*size)=Pure.pure #[]:=λa=>by rw[Nat.zero_mul];rfl
 cases v with
 |slice a l c =>
  obtain⟨b,rfl,h⟩:=aJ.1 hv
  cases a with
  |none=>rw[vQ] at h;subst h;exact ak.pure ⟨rfl,rfl⟩
  |some a =>
   obtain⟨b',rfl⟩:=JY h
   show ak P fns Z E (Go.loadCells a (0*size)) (Go.loadCells b' (0*size)) _
   rw[h0,h0]
   exact ak.pure ⟨rfl,rfl⟩
 |string s =>
  rw[dN] at hv;subst hv
  have e:(s.extract 0 0).data.map (λb:UInt8=>Value.int .u8 b.toNat)=#[]:=by simp
  exact ak.pure ⟨e,e⟩
 |_=>exact ak.dies (aK.halt rfl)
theorem ak.firstCells(size n:Nat){v:Value}(hv:VR fns E v v')(hn:∀ a l c,v=.slice a l c->n<=l):ak P fns Z E (Builtin.firstCells size n v) (Builtin.firstCells size n v') (λE' x x'=>aV fns E' x x'):=by
 cases v with
 |slice a l c =>
  obtain⟨b,rfl,h⟩:=aJ.1 hv
  rcases h with h|⟨e1,e2,e3⟩
  .cases a with
   |none=>rw[iJ] at h;subst h;exact ak.pure gu
   |some a=>obtain⟨b',rfl,h⟩:=dR.1 h;exact ak.loadCells _ h
  .obtain rfl:n=0:=by have:=hn _ _ _ rfl;omega
   exact(ak.kQ size hv).mono λ_ x x' _ e=>by rw[e.1,e.2];exact gu
 |string s=>rw[dN] at hv;subst hv;exact ak.pure (IB _)
 |_=>exact ak.dies (aK.halt rfl)
theorem j6{z:Array Value}(hz:∀ i (hi:i<z.size),VR fns E z[i] z[i])(n:Nat):aV fns E (Builtin.zeroCells z n) (Builtin.zeroCells z n):=uj hz _
theorem ak.copy(ts:Array TypeId)(t:TypeId){x:Array Value}(hx:aV fns E x x'):ak P fns Z E (Builtin.copy_ ts t x) (Builtin.copy_ ts t x') (λE' v v'=>VR fns E' v v'):=by
 unfold Builtin.copy_
 cases h0:x[0]? with
 |none=>cases ts[0]?<;>exact ak.dies aK.stuck
 |some v =>
 cases h1:x[1]? with
 |none=>cases ts[0]?<;>exact ak.dies aK.stuck
 |some u =>
  obtain⟨v',g0,hv⟩:=hx.get? 0 h0
  obtain⟨u',g1,hu⟩:=hx.get? 1 h1
  rw[g0,g1]
  cases ts[0]? with
  |none=>exact ak.dies aK.stuck
  |some ty =>
   refine ak.bind (ak.underlying ty) λE1 d d' dF e=>?_
   obtain⟨rfl,_⟩:=e
   have hv1:=hv.up dF
   have hu1:=hu.up dF
   split
   .cases v with
    |slice a dl dc =>
     obtain⟨b,rfl,ha⟩:=aJ.1 hv1
     dsimp only
     refine ak.bind (ak.lenOf hu1) λE2 n n' dV e=>?_
     obtain⟨rfl,hlen⟩:=e
     refine ak.bind (ak.sizeOf _) λE3 s s' gy e=>?_
     subst e
     rcases ha with ha|⟨e1,e2,e3⟩
     rotate_left
     .subst e1 e2 e3
      rw[show Nat.min n' 0=0 from Nat.min_zero _]
      refine ak.bind (ak.kQ _ ((hu1.up dV).up gy)) λE4 y y' uV hy=>?_
      obtain⟨rfl,rfl⟩:=hy
      cases a with
      |none=>exact ak.pure (aG rfl)
      |some a=>exact ak.bind (Φ:=λ_ _ _=>True) (ak.pure trivial) λE5 _ _ _ _=>ak.pure (aG rfl)
     refine ak.bind (ak.firstCells _ _ ((hu1.up dV).up gy) (λa l c e=>by rw[<-hlen a l c e];exact Nat.min_le_left _ _)) λE4 y y' uV hy=>?_
     have MG:=((ha.up dV).up gy).up uV
     cases a with
     |none=>rw[iJ] at MG;subst MG;exact ak.pure (aG rfl)
     |some a =>
      obtain⟨b',rfl,TF⟩:=dR.1 MG
      exact ak.bind (ak.storeCells _ _ 0 TF (gQ hy)) λE5 _ _ _ _=>ak.pure (aG rfl)
    |_=>exact ak.dies aK.stuck
   .exact ak.stuck
def isInt(d:TypeDesc):Bool:=d matches .int _
theorem nP(size sLen n:Nat)(base:Option Addr)(x:Value)(gh:World):∃ a w,(Builtin.mayShare size sLen n base x).run P gh=.ok a w:=by
 have hold:∀ (a:Addr) (c:Nat) (gh:World),∃ r,(Builtin.holdsCells a c).run P gh=.ok r gh:=λa c gh=>by
  unfold Builtin.holdsCells
  rw[Sem.run_bind,run_shape]
  cases h:gh.shape? a.block with
  |none=>exact⟨_,by rw[Result.andThen_ok];rfl⟩
  |some s=>exact⟨_,by rw[Result.andThen_ok];rfl⟩
 have last:∀ (b:Addr) (f:Bool->Bool) (gh:World),∃ a w,(Builtin.holdsCells b (n*size) >>= λr=>Pure.pure (f r)).run P gh=.ok a w:=λb f gh=>by
  obtain⟨r,hr⟩:=hold b (n*size) gh
  exact⟨_,_,by rw[Sem.run_bind,hr,Result.andThen_ok];rfl⟩
 unfold Builtin.mayShare
 cases base with
 |none =>
  dsimp only
  split
  .exact last _ (λr=>!r||_) gh
  .exact⟨_,_,rfl⟩
 |some a =>
  obtain⟨r,hr⟩:=hold a (sLen*size) gh
  simp only[Sem.run_bind,hr,Result.andThen_ok,run_frozen,Sem.run_pure]
  split
  .exact⟨_,_,rfl⟩
  .split
   .exact last _ (λr=>!r||_) gh
   .exact⟨_,_,rfl⟩
theorem ak.append(hz:zeros P fns)(ts:Array TypeId)(t:TypeId)(ht:∀ t e,ts[0]?=some t->P.underlying t=some (.slice e)->fns.tys e=true)(hi:∀ xt d,ts[1]?=some xt->P.underlying xt=some d->isInt d=false){x:Array Value}(hx:aV fns E x x'):ak P fns Z E (Builtin.append_ ts t x) (Builtin.append_ ts t x') (λE' v v'=>VR fns E' v v'):=by
 unfold Builtin.append_
 cases h0:x[0]? with
 |none=>cases ts[0]?<;>exact ak.dies aK.stuck
 |some v =>
 cases h1:x[1]? with
 |none=>cases ts[0]?<;>exact ak.dies aK.stuck
 |some u =>
  obtain⟨v',g0,hv⟩:=hx.get? 0 h0
  obtain⟨u',g1,hu⟩:=hx.get? 1 h1
  rw[g0,g1]
  cases hty:ts[0]? with
  |none=>exact ak.dies aK.stuck
  |some ty =>
   refine ak.bind (ak.underlying ty) λE1 d d' dF e=>?_
   obtain⟨rfl,hun⟩:=e
   split
   .cases v with
    |slice a dl dc =>
     obtain⟨b,rfl,ha⟩:=aJ.1 (hv.up dF)
     dsimp only
     refine ak.bind (ak.sizeOf _) λE2 s s' dV e=>?_
     subst e
     cases hxt:ts[1]? with
     |none =>
      dsimp only
      refine ak.bind (Φ:=λ_ z z'=>z=false/\z'=false) (ak.pure ⟨rfl,rfl⟩) λE3 z z' gy e=>?_
      obtain⟨rfl,rfl⟩:=e
      simp only[Bool.false_eq_true,if_false,Bool.not_false,if_true,false_or]
      have hu3:=((hu.up dF).up dV).up gy
      have Gx:=(ha.up dV).up gy
      refine ak.bind (ak.lenOf hu3) λE4 n n' uV e=>?_
      obtain⟨rfl,hlen⟩:=e
      have X5:=hu3.up uV
      have MG:=Gx.up uV
      split
      .rename_i hfit
       rcases MG with MG|⟨e1,e2,e3⟩
       rotate_left
       .subst e1 e2 e3
        obtain rfl:n'=0:=by omega
        refine ak.bind (ak.kQ _ X5) λE5 y y' yD hy=>?_
        obtain⟨rfl,rfl⟩:=hy
        cases a with
        |none=>exact ak.pure (aJ.2 ⟨_,rfl,.inr ⟨rfl,rfl,rfl⟩⟩)
        |some a=>exact ak.bind (Φ:=λ_ _ _=>True) (ak.pure trivial) λE6 _ _ Nw _=>ak.pure (aJ.2 ⟨_,rfl,.inr ⟨rfl,rfl,rfl⟩⟩)
       refine ak.bind (ak.firstCells _ _ X5 (λa l c e=>by rw[<-hlen a l c e];exact Nat.le_refl _)) λE5 y y' yD hy=>?_
       have TF:=MG.up yD
       cases a with
       |none=>rw[iJ] at TF;subst TF;exact ak.pure (aJ.2 ⟨_,rfl,.inl trivial⟩)
       |some a =>
        obtain⟨b',rfl,ha6⟩:=dR.1 TF
        exact ak.bind (ak.storeCells _ _ 0 (ha6.add _) (gQ hy)) λE6 _ _ Nw _=>ak.pure (aJ.2 ⟨_,rfl,.inl (ha6.up Nw)⟩)
      .refine ak.bind (ak.typeInfo _) λE5 i i' yD e=>?_
       obtain⟨rfl,_⟩:=e
       split
       .exact ak.dies (aK.bind (aK.runtimePanic _))
       .refine ak.bind (ak.typeInfo _) λE6 i i' Nw e=>?_
        obtain⟨rfl,_⟩:=e
        split
        .refine ak.dies (aK.bind (aK.nO (λgh=>.inl (nP _ _ _ _ _ gh)) λr=>?_))
         split
         .exact aK.nO (λgh=>.inl ⟨_,_,rfl⟩) λ_=>aK.halt rfl
         .exact aK.halt rfl
        .refine ak.bind ak.choose λE7 c c' up7 e=>?_
         subst e
         refine ak.bind (ak.typeInfo _) λE8 i i' up8 e=>?_
         obtain⟨rfl,_⟩:=e
         refine ak.bind (ak.askRoom _) λE9 _ _ up9 _=>?_
         have up:∀ a b,E4 a b->E9 a b:=λa b q=>up9 _ _ (up8 _ _ (up7 _ _ (Nw _ _ (yD _ _ q))))
         refine ak.bind (ak.firstCells _ _ (aJ.2 ⟨_,rfl,MG.up up⟩) (λ_ _ _ e=>by cases e;exact Nat.le_refl _)) λF1 y y' uq1 hy=>?_
         refine ak.bind (ak.firstCells _ _ ((X5.up up).up uq1) (λa l c e=>by rw[<-hlen a l c e];exact Nat.le_refl _)) λF2 k k' uq2 hk=>?_
         refine ak.bind (ak.zeroValue hz _ (ht ty _ hty hun)) λF3 v v' uq3 h=>?_
         obtain⟨rfl,hcl⟩:=h
         have hall:=(((hy.up uq2).append hk).up uq3).append (j6 (E:=F3) (λi hi=>iX hcl i hi) (c'-(dl+n')))
         exact ak.bind (ak.newRow hall) λF4 a a' uq4 h=>ak.pure (aJ.2 ⟨_,rfl,.inl h.as⟩)
     |some xt =>
      dsimp only
      refine ak.bind (ak.underlying xt) λE2' d d' afb e=>?_
      obtain⟨rfl,hd⟩:=e
      have hno:=hi xt d' hxt hd
      have dV:∀ a b,E1 a b->E2' a b:=λa b q=>afb _ _ (dV _ _ q)
      refine ak.bind (Φ:=λ_ z z'=>z=false/\z'=false) (ak.pure ⟨hno,hno⟩) λE3 z z' gy e=>?_
      obtain⟨rfl,rfl⟩:=e
      simp only[Bool.false_eq_true,if_false,Bool.not_false,if_true,false_or]
      have hu3:=((hu.up dF).up dV).up gy
      have Gx:=(ha.up dV).up gy
      refine ak.bind (ak.lenOf hu3) λE4 n n' uV e=>?_
      obtain⟨rfl,hlen⟩:=e
      have X5:=hu3.up uV
      have MG:=Gx.up uV
      split
      .rename_i hfit
       rcases MG with MG|⟨e1,e2,e3⟩
       rotate_left
       .subst e1 e2 e3
        obtain rfl:n'=0:=by omega
        refine ak.bind (ak.kQ _ X5) λE5 y y' yD hy=>?_
        obtain⟨rfl,rfl⟩:=hy
        cases a with
        |none=>exact ak.pure (aJ.2 ⟨_,rfl,.inr ⟨rfl,rfl,rfl⟩⟩)
        |some a=>exact ak.bind (Φ:=λ_ _ _=>True) (ak.pure trivial) λE6 _ _ Nw _=>ak.pure (aJ.2 ⟨_,rfl,.inr ⟨rfl,rfl,rfl⟩⟩)
       refine ak.bind (ak.firstCells _ _ X5 (λa l c e=>by rw[<-hlen a l c e];exact Nat.le_refl _)) λE5 y y' yD hy=>?_
       have TF:=MG.up yD
       cases a with
       |none=>rw[iJ] at TF;subst TF;exact ak.pure (aJ.2 ⟨_,rfl,.inl trivial⟩)
       |some a =>
        obtain⟨b',rfl,ha6⟩:=dR.1 TF
        exact ak.bind (ak.storeCells _ _ 0 (ha6.add _) (gQ hy)) λE6 _ _ Nw _=>ak.pure (aJ.2 ⟨_,rfl,.inl (ha6.up Nw)⟩)
      .refine ak.bind (ak.typeInfo _) λE5 i i' yD e=>?_
       obtain⟨rfl,_⟩:=e
       split
       .exact ak.dies (aK.bind (aK.runtimePanic _))
       .refine ak.bind (ak.typeInfo _) λE6 i i' Nw e=>?_
        obtain⟨rfl,_⟩:=e
        split
        .refine ak.dies (aK.bind (aK.nO (λgh=>.inl (nP _ _ _ _ _ gh)) λr=>?_))
         split
         .exact aK.nO (λgh=>.inl ⟨_,_,rfl⟩) λ_=>aK.halt rfl
         .exact aK.halt rfl
        .refine ak.bind ak.choose λE7 c c' up7 e=>?_
         subst e
         refine ak.bind (ak.typeInfo _) λE8 i i' up8 e=>?_
         obtain⟨rfl,_⟩:=e
         refine ak.bind (ak.askRoom _) λE9 _ _ up9 _=>?_
         have up:∀ a b,E4 a b->E9 a b:=λa b q=>up9 _ _ (up8 _ _ (up7 _ _ (Nw _ _ (yD _ _ q))))
         refine ak.bind (ak.firstCells _ _ (aJ.2 ⟨_,rfl,MG.up up⟩) (λ_ _ _ e=>by cases e;exact Nat.le_refl _)) λF1 y y' uq1 hy=>?_
         refine ak.bind (ak.firstCells _ _ ((X5.up up).up uq1) (λa l c e=>by rw[<-hlen a l c e];exact Nat.le_refl _)) λF2 k k' uq2 hk=>?_
         refine ak.bind (ak.zeroValue hz _ (ht ty _ hty hun)) λF3 v v' uq3 h=>?_
         obtain⟨rfl,hcl⟩:=h
         have hall:=(((hy.up uq2).append hk).up uq3).append (j6 (E:=F3) (λi hi=>iX hcl i hi) (c'-(dl+n')))
         exact ak.bind (ak.newRow hall) λF4 a a' uq4 h=>ak.pure (aJ.2 ⟨_,rfl,.inl h.as⟩)
    |_=>exact ak.dies aK.stuck
   .exact ak.stuck
variable {a a' b b':Addr} {y y':Value}
variable {P:Program} {fns:Fx} {E E' DJ:Nat->Nat->Prop} {Z:Nat->Prop}
theorem ak.intArith(op:BinOp)(k:IntKind)(a b:Int):ak P fns Z E (Op.intArith op k a b) (Op.intArith op k a b) (λE' v v'=>VR fns E' v v'):=by
 unfold Op.intArith
 split<;>first|exact ak.pure (aG rfl)|exact ak.stuck
theorem ak.intBits(op:BinOp)(k:IntKind)(a b:Int):ak P fns Z E (Op.intBits op k a b) (Op.intBits op k a b) (λE' v v'=>VR fns E' v v'):=by
 unfold Op.intBits
 dsimp only
 split<;>first|exact ak.pure (aG rfl)|exact ak.stuck
theorem ak.intDiv(op:BinOp)(k:IntKind)(a b:Int):ak P fns Z E (Op.intDiv op k a b) (Op.intDiv op k a b) (λE' v v'=>VR fns E' v v'):=by
 unfold Op.intDiv
 split
 .exact ak.dies (aK.runtimePanic _)
 .split<;>first|exact ak.pure (aG rfl)|exact ak.stuck
theorem ak.intCmp(op:BinOp)(a b:Int):ak P fns Z E (Op.intCmp op a b) (Op.intCmp op a b) (λE' v v'=>VR fns E' v v'):=by
 unfold Op.intCmp
 split<;>first|exact ak.pure (aG rfl)|exact ak.stuck
theorem ak.shift(op:BinOp)(k:IntKind)(a:Int)(yk:IntKind)(b:Int):ak P fns Z E (Op.shift op k a yk b) (Op.shift op k a yk b) (λE' v v'=>VR fns E' v v'):=by
 unfold Op.shift
 split
 .exact ak.dies (aK.runtimePanic _)
 .dsimp only
  split<;>first|exact ak.pure (aG rfl)|exact ak.stuck
theorem ak.stringOp(op:BinOp)(a b:ByteArray):ak P fns Z E (Op.stringOp op a b) (Op.stringOp op a b) (λE' v v'=>VR fns E' v v'):=by
 unfold Op.stringOp
 dsimp only
 split
 .split
  .exact ak.dies (aK.halt rfl)
  .exact ak.pure (aG rfl)
 all_goals first|exact ak.pure (aG rfl)|exact ak.stuck
theorem ak.unary(op:UnOp){v v':Value}(hv:VR fns E v v'):ak P fns Z E (Op.unary op v) (Op.unary op v') (λE' v v'=>VR fns E' v v'):=by
 cases v with
 |int k n =>
  rw[dD] at hv;subst hv
  cases op
  all_goals first
   |exact ak.dies (aK.halt rfl)
   |exact(ak.intArith .sub k 0 n:ak P fns Z E (Op.intArith .sub k 0 n) (Op.intArith .sub k 0 n) _)
   |exact(ak.intBits .xor k (if k.signed then -1 else k.max) n)
 |bool b =>
  rw[l5] at hv;subst hv
  cases op<;>first|exact ak.pure (aG rfl)|exact ak.dies (aK.halt rfl)
 |float=>exact(b_ hv).elim
 |complex=>exact(bO hv).elim
 |pointer a=>cases a<;>cases op<;>exact ak.dies (aK.halt rfl)
 |_=>cases op<;>exact ak.dies (aK.halt rfl)
theorem zT(P:Program)(fns:Fx)(d:Nat)(t:TypeId)(o:Nat):cellOfByte (fns.re P) d t o=cellOfByte P d t o:=by
 induction d generalizing t o with
 |zero=>rfl
 |succ d ih =>
  unfold cellOfByte
  simp only[ih]
  rfl
theorem yE(P:Program)(fns:Fx)(d:Nat)(e:TypeId)(k off:Nat)(n:Int):cellAtBytes (fns.re P) d e k off n=cellAtBytes P d e k off n:=by
 unfold cellAtBytes
 simp only[pU,zT]
 rfl
theorem Pv{p:Program}{d:Nat}{e:TypeId}{k k' off:Nat}{n:Int}{o:Nat}(h:k<=k')(hc:cellAtBytes p d e k off n=some o):cellAtBytes p d e k' off n=some o:=by
 unfold cellAtBytes at hc ⊢
 have hk:∀ w:Nat,Int.ofNat (k*w)<=Int.ofNat (k'*w):=λw=>Int.ofNat_le.2 (Nat.mul_le_mul_right w h)
 have:=hk (p.bytesOf e)
 simp only[bind,Option.bind,Bool.or_eq_true,decide_eq_true_eq] at hc ⊢
 split at hc
 .cases hc
 .rename_i h1
  rw[if_neg h1]
  split at hc
  .cases hc
  .rename_i x hx
   simp only[hx] at hc ⊢
   split at hc
   .cases hc
   .rename_i h2
    rw[if_neg (by omega)]
    exact hc
theorem ak.wrE{α β:Type}{s:Sem α}{s':Sem β}{Φ:(Nat->Nat->Prop)->α->β->Prop}(h:(∃ gh re,WR P fns E Z gh re)->ak P fns Z E s s' Φ):ak P fns Z E s s' Φ:=λgh re hw=>h ⟨gh,re,hw⟩ gh re hw
theorem ak.unsafeAdd(t:TypeId){a a':Option Addr}(ha:OA fns E a a')(hy:VR fns E y y'):ak P fns Z E (Builtin.unsafeAdd_ #[] t #[.pointer a,y]) (Builtin.unsafeAdd_ #[] t #[.pointer a',y']) (λE' v v'=>VR fns E' v v'):=by
 unfold Builtin.unsafeAdd_
 refine ak.wrE λ⟨gh,re,hw⟩=>?_
 dsimp only
 refine ak.bind (ak.asInt hy) λE1 n n' dF e=>?_
 subst e
 have ha1:=ha.up dF
 split
 .cases a with
  |none=>rw[jQ] at ha1;subst ha1;exact ak.dies (aK.halt rfl)
  |some a =>
   obtain⟨b,rfl,hb⟩:=dA.1 ha1
   refine ak.bind (ak.viewAt hb.1) λE2 s s' dV e=>?_
   obtain⟨rfl,rfl⟩:=e
   exact ak.pure (aM.2 ⟨_,rfl,hb.up dV⟩)
 .rename_i hn0
  split
  .exact ak.dies (aK.bind (aK.halt rfl))
  .rename_i hn1
   cases a with
   |none=>rw[jQ] at ha1;subst ha1;exact ak.dies (aK.halt rfl)
   |some a =>
    obtain⟨b,rfl,hb⟩:=dA.1 ha1
    refine ak.bind (ak.shape hb.1) λE2 s s' dV e=>?_
    rcases e with ⟨rfl,rfl⟩|⟨el,k,k',rfl,rfl,hk⟩
    .exact ak.dies (aK.halt rfl)
    .dsimp only
     refine ak.bind ak.program λE3 p q gy e=>?_
     obtain⟨rfl,rfl⟩:=e
     rw[<-hb.2.1,show (fns.re p).depth=p.depth from rfl,show (fns.re p).cellsOf el=p.cellsOf el from rfl,yE]
     cases hc:cellAtBytes p p.depth el (k/p.cellsOf el) a.off n' with
     |none=>exact ak.dies (aK.halt rfl)
     |some o =>
      rw[Pv (Nat.div_le_div_right hk) hc]
      refine ak.pure (aM.2 ⟨_,rfl,gy _ _ (dV _ _ hb.1),rfl,hb.2.2.1,hb.2.2.2.1,?_⟩)
      rcases hb.2.2.2.1 with hf|hp
      .exact Nat.le_trans hb.2.2.2.2 (hw.jK.2 hf el _ a.off n' o (by omega) hc)
      .exact(fns.JX hp _).2
theorem ak.movedNumber(t:TypeId){a a':Option Addr}(ha:OA fns E a a')(hy:VR fns E y y'):ak P fns Z E (Go.movedNumber t (.pointer a) y) (Go.movedNumber t (.pointer a') y') (λE' v v'=>VR fns E' v v'):=by
 unfold Go.movedNumber
 cases a with
 |none =>
  rw[jQ] at ha;subst ha
  refine ak.bind (ak.underlying t) λE1 d d' dF e=>?_
  obtain⟨rfl,-⟩:=e
  cases d'<;>first
   |exact ak.unsafeAdd t (a:=none) (a':=none) trivial (hy.up dF)
   |exact ak.dies (show aK P (Go.unsupported _ >>= λ_=>Builtin.unsafeAdd_ #[] t #[.pointer none,y]) from aK.bind (aK.halt rfl))
 |some a =>
  obtain⟨b,rfl,hb⟩:=dA.1 ha
  refine ak.bind (ak.underlying t) λE1 d d' dF e=>?_
  obtain⟨rfl,-⟩:=e
  dsimp only
  split
  .rw[if_pos rfl];exact ak.dies (aK.bind (aK.halt rfl))
  .simp only[Bool.false_eq_true,if_false]
   refine ak.bind (ak.behindNumber (hb.up dF)) λE2 s s' dV e=>?_
   obtain⟨e1,e2⟩:=e
   rw[<-e2]
   refine ak.bind (ak.unsafeAdd t (a:=some s.1) (a':=some s'.1) e1 ((hy.up dF).up dV)) λE3 v v' gy hv=>?_
   cases v with
   |pointer p =>
    obtain⟨p',rfl,hp⟩:=aM.1 hv
    cases p with
    |none=>rw[jQ] at hp;subst hp;exact ak.pure (aG rfl)
    |some p=>obtain⟨q,rfl,hq⟩:=dA.1 hp;exact ak.asNumber hq _
   |float=>exact(b_ hv).elim
   |complex=>exact(bO hv).elim
   |slice a l c=>obtain⟨b,rfl,_⟩:=aJ.1 hv;exact ak.pure hv
   |map r=>obtain⟨rfl,rfl⟩:=fE.1 hv;exact ak.pure hv
   |chan r=>obtain⟨rfl,rfl⟩:=dI.1 hv;exact ak.pure hv
   |func f x y=>obtain⟨x',y',rfl,_⟩:=dz.1 hv;exact ak.pure hv
   |iface t u=>obtain⟨u',rfl,_⟩:=bE.1 hv;exact ak.pure hv
   |agg x=>obtain⟨x',rfl,_⟩:=bW.1 hv;exact ak.pure hv
   |tuple x=>obtain⟨x',rfl,_⟩:=bK.1 hv;exact ak.pure hv
   |_=>have:=hv;rw[VR] at this;subst this;exact ak.pure hv
theorem ak.movedPointer(t:TypeId){a a':Option Addr}(ha:OA fns E a a')(hy:VR fns E y y'):ak P fns Z E (Go.movedPointer t (.pointer a) y) (Go.movedPointer t (.pointer a') y') (λE' v v'=>VR fns E' v v'):=by
 unfold Go.movedPointer
 cases a with
 |none=>rw[jQ] at ha;subst ha;exact ak.unsafeAdd t (a:=none) (a':=none) trivial hy
 |some a =>
  obtain⟨b,rfl,hb⟩:=dA.1 ha
  dsimp only
  refine ak.bind (ak.numberAt hb.1) λE2 s s' dV e=>?_
  rcases e with ⟨rfl,rfl⟩|⟨y,y',l,rfl,rfl,_⟩
  .exact ak.unsafeAdd t (a:=some a) (a':=some b) (hb.up dV) (hy.up dV)
  .exact ak.dies (aK.bind (aK.halt rfl))
theorem ak.twoPlaces(ha:AR fns E a a')(hb:AR fns E b b'):ak P fns Z E (Op.twoPlaces a b) (Op.twoPlaces a' b') (λ_ n n'=>n'=n):=by
 refine ak.wrE λ⟨gh,re,hw⟩=>?_
 unfold Op.twoPlaces
 refine ak.bind ak.program λE1 p q dF e=>?_
 obtain⟨rfl,rfl⟩:=e
 rw[show (fns.re p).globals=p.globals from rfl]
 have e1:(a'.block != b'.block||decide (a'.block≥p.globals.size))=(a.block != b.block||decide (a.block≥p.globals.size)):=by
  have i:=hw.inj _ _ _ _ ha.1 hb.1
  have g:=hw.glob _ _ ha.1
  have g1:(a'.block != b'.block)=(a.block != b.block):=by
   by_cases h:a.block=b.block
   .rw[h,i.1 h,bne_self_eq_false,bne_self_eq_false]
   .rw[bne_iff_ne.2 h,bne_iff_ne.2 λx=>h (i.2 x ha.2.2.2.1)]
  have g2:decide (a'.block≥p.globals.size)=decide (a.block≥p.globals.size):=by
   rw[decide_eq_decide]
   by_cases hh:a.block<=p.globals.size\/a'.block<=p.globals.size
   .rw[g hh]
   .constructor<;>intro _<;>omega
  rw[g1,g2]
 rw[e1]
 dsimp only
 split
 .exact ak.dies (aK.bind (aK.halt rfl))
 .refine ak.bind (ak.byteOf (ha.up dF).as) λE2 n n' dV e=>?_
  subst e
  refine ak.bind (ak.byteOf ((hb.up dF).up dV).as) λE3 n n' gy e=>?_
  subst e
  exact ak.pure rfl
theorem ak.addrSub(k:IntKind)(ha:AR fns E a a')(hb:AR fns E b b'):ak P fns Z E (Op.addrSub k a b) (Op.addrSub k a' b') (λE' v v'=>VR fns E' v v'):=by
 unfold Op.addrSub
 refine ak.bind (ak.twoPlaces ha hb) λE2 n n' dV e=>?_
 subst e
 exact ak.pure (aG rfl)
theorem ak.addrCmp(op:BinOp)(ha:AR fns E a a')(hb:AR fns E b b'):ak P fns Z E (Op.addrCmp op a b) (Op.addrCmp op a' b') (λE' v v'=>VR fns E' v v'):=by
 unfold Op.addrCmp
 refine ak.bind (ak.twoPlaces ha hb) λE2 n n' dV e=>?_
 subst e
 dsimp only
 split<;>first|exact ak.pure (aG rfl)|exact ak.dies (aK.halt rfl)
theorem ak.addrMod(k:IntKind)(ha:AR fns E a a')(n:Int):ak P fns Z E (Op.addrMod k a n) (Op.addrMod k a' n) (λE' v v'=>VR fns E' v v'):=by
 unfold Op.addrMod
 refine ak.bind (ak.shape ha.1) λE1 s s' dF e=>?_
 rcases e with ⟨rfl,rfl⟩|⟨el,k,k',rfl,rfl,hk⟩
 .exact ak.dies (aK.halt rfl)
 .dsimp only
  refine ak.bind (ak.typeInfo _) λE2 i i' dV e=>?_
  obtain⟨rfl,_⟩:=e
  split
  .exact ak.dies (aK.bind (aK.halt rfl))
  .refine ak.bind (ak.byteOf ((ha.up dF).up dV).as) λE3 n n' gy e=>?_
   subst e
   exact ak.pure (aG rfl)
variable {y:Operand} {t:TypeId} {a a' b b':Value}
variable {P:Program} {fns:Fx} {E E' DJ:Nat->Nat->Prop} {Z:Nat->Prop}
def simple:TypeDesc->Bool
 | .int _ | .bool | .string=>true
 |_=>false
theorem ak.uW{t:TypeId}(hs:∀ d,P.underlying t=some d->simple d=true):∀ (n:Nat) {E:Nat->Nat->Prop} {x x' y y':Value},VR fns E x x'->VR fns E y y'->ak P fns Z E (Op.equalIn n t x y) (Op.equalIn n t x' y') (λ_ b b'=>b'=b)
 |0,E,x,x',y,y',hx,hy=>by unfold Op.equalIn;exact ak.dies (aK.halt rfl)
 |n+1,E,x,x',y,y',hx,hy=>by
  unfold Op.equalIn
  refine ak.bind (ak.underlying t) λE1 d d' dF e=>?_
  obtain⟨rfl,hd⟩:=e
  have hsd:=hs _ hd
  have hx1:=hx.up dF
  have hy1:=hy.up dF
  clear hx hy hd
  split
  .rw[l5] at hx1 hy1;subst hx1;subst hy1;exact ak.pure rfl
  .rw[dD] at hx1 hy1;subst hx1;subst hy1
   dsimp only
   split
   .exact ak.pure rfl
   .exact ak.stuck
  .obtain⟨b,rfl,hb⟩:=aM.1 hx1
   obtain⟨b',rfl,hb⟩:=dA.1 hb
   rw[dD] at hy1;subst hy1
   exact ak.pure rfl
  .obtain⟨b,rfl,hb⟩:=aM.1 hy1
   obtain⟨b',rfl,hb⟩:=dA.1 hb
   rw[dD] at hx1;subst hx1
   exact ak.pure rfl
  .obtain⟨b,rfl,hb⟩:=aM.1 hx1
   obtain⟨a',rfl,ha⟩:=dA.1 hb
   obtain⟨b,rfl,hb⟩:=aM.1 hy1
   obtain⟨b',rfl,hb⟩:=dA.1 hb
   dsimp only
   refine ak.bind (ak.behindNumber ha) λE2 s s' dV e1=>?_
   refine ak.bind (ak.behindNumber (hb.up dV)) λE3 u u' gy e2=>?_
   have k1:=e1.1.up gy
   have k2:=e2.1
   refine ak.wrE λ⟨gh,re,hw⟩=>?_
   have i:s.1.block=u.1.block↔s'.1.block=u'.1.block:=⟨(hw.inj _ _ _ _ k1.1 k2.1).1,λx=>(hw.inj _ _ _ _ k1.1 k2.1).2 x k1.2.2.2.1⟩
   have g:=hw.glob _ _ k1.1
   refine ak.bind ak.program λE4 p q uV e=>?_
   obtain⟨rfl,rfl⟩:=e
   rw[show (fns.re p).globals=p.globals from rfl]
   have e3:(s'.1.block==u'.1.block&&decide (s'.1.block<p.globals.size))=(s.1.block==u.1.block&&decide (s.1.block<p.globals.size)):=by
    have g1:(s'.1.block==u'.1.block)=(s.1.block==u.1.block):=by
     by_cases h:s.1.block=u.1.block
     .rw[h,i.1 h,beq_self_eq_true,beq_self_eq_true]
     .rw[beq_eq_false_iff_ne.2 h,beq_eq_false_iff_ne.2 λx=>h (i.2 x)]
    have g2:decide (s'.1.block<p.globals.size)=decide (s.1.block<p.globals.size):=by
     rw[decide_eq_decide]
     by_cases hh:s.1.block<=p.globals.size\/s'.1.block<=p.globals.size
     .rw[g hh]
     .constructor<;>intro _<;>omega
    rw[g1,g2]
   rw[e3]
   split
   .refine ak.bind (ak.byteOf (k1.up uV).as) λE5 n n' yD e=>?_
    subst e
    refine ak.bind (ak.byteOf ((k2.up uV).up yD).as) λE6 n n' Nw e=>?_
    subst e
    exact ak.pure rfl
   .refine ak.bind (ak.typeInfo _) λE5 i i' yD e=>?_
    obtain⟨rfl,_⟩:=e
    have e4:(s'.1==u'.1)=(s.1==u.1):=by
     obtain⟨⟨s1,s2,s3⟩,_⟩:=s
     obtain⟨⟨s1',s2',s3'⟩,_⟩:=s'
     obtain⟨⟨u1,u2,u3⟩,_⟩:=u
     obtain⟨⟨u1',u2',u3'⟩,_⟩:=u'
     obtain⟨_,k12,k13,_⟩:=k1
     obtain⟨_,k22,k23,_⟩:=k2
     simp only at k12 k13 k22 k23 i ⊢
     subst k12 k13 k22 k23
     rw[Bool.eq_iff_iff]
     simp[i]
    split
    .rw[e4]
     split
     .exact ak.pure rfl
     .exact ak.dies (aK.halt rfl)
    .exact ak.dies (aK.halt rfl)
  .exact ak.dies (aK.halt rfl)
  .exact ak.dies (aK.halt rfl)
  all_goals first
   | (cases hsd;done)
   | (rw[dN] at hx1 hy1;subst hx1;subst hy1;exact ak.pure rfl)
   |exact ak.stuck
theorem ak.Pw{t:TypeId}{y:Value}(hy:y=.nilIface\/∃ l c,y=.slice none l c):∀ (n:Nat) {E:Nat->Nat->Prop} {x x':Value},VR fns E x x'->ak P fns Z E (Op.equalIn n t x y) (Op.equalIn n t x' y) (λ_ b b'=>b'=b)
 |0,E,x,x',hx=>by unfold Op.equalIn;exact ak.dies (aK.halt rfl)
 |n+1,E,x,x',hx=>by
  unfold Op.equalIn
  refine ak.bind (ak.underlying t) λE1 d d' dF e=>?_
  obtain⟨rfl,-⟩:=e
  have hx1:=hx.up dF
  clear hx
  rcases hy with rfl|⟨l,c,rfl⟩
  .split
   all_goals first
    |exact ak.stuck
    |exact ak.dies (aK.halt rfl)
    | (rw[dX] at hx1;subst hx1;exact ak.pure rfl)
    | (obtain⟨u',rfl,_⟩:=bE.1 hx1;exact ak.pure rfl)
    | (rename_i h;cases h)
    | (rename_i h _;cases h)
  .split
   all_goals first
    |exact ak.stuck
    |exact ak.dies (aK.halt rfl)
    | (obtain⟨b,rfl,hb⟩:=aJ.1 hx1;rw[vQ] at hb;subst hb;exact ak.pure rfl)
    | (obtain⟨b,rfl,hb⟩:=aJ.1 hx1;cases b<;>exact ak.pure rfl)
    | (rename_i h;cases h;done)
    | (rename_i h _;cases h;done)
    | (rename_i h;cases h;obtain⟨b,rfl,hb⟩:=aJ.1 hx1;rw[vQ] at hb;subst hb;exact ak.pure rfl)
    | (rename_i hne h;cases h;obtain⟨b,rfl,hb⟩:=aJ.1 hx1;cases b with|none=>exact(hne (by rename_i a _ _;cases a<;>first|rfl|(obtain⟨_,e⟩:=JY hb;cases e))).elim|some b=>exact ak.pure rfl)
def qZ(P:Program)(t:TypeId)(y:Operand):Bool :=
 match y with
 | .const .nilIface=>true
 | .const (.slice none _ _)=>true
 |_=>match P.underlying t with
  |some d=>simple d
  |none=>true
theorem iB(h:qZ P t y=true):(y=.const .nilIface\/∃ l c,y=.const (.slice none l c))\/∀ d,P.underlying t=some d->simple d=true:=by
 unfold qZ at h
 split at h
 .exact .inl (.inl rfl)
 .exact .inl (.inr ⟨_,_,rfl⟩)
 .refine .inr λd hd=>?_
  rw[hd] at h;exact h
theorem ak.equal(h:qZ P t y=true){x x':Value}(hx:VR fns E x x')(hb:VR fns E b b')(hy:∀ v,y=.const v->b=v):ak P fns Z E (Op.equal t x b) (Op.equal t x' b') (λ_ r r'=>r'=r):=by
 rcases iB h with h|h
 .have e:b=.nilIface\/∃ l c,b=.slice none l c:=by
   rcases h with h|⟨l,c,h⟩
   .exact .inl (hy _ h)
   .exact .inr ⟨l,c,hy _ h⟩
  have e':b'=b:=by
   rcases e with rfl|⟨l,c,rfl⟩
   .rw[dX] at hb;exact hb
   .obtain⟨q,rfl,hq⟩:=aJ.1 hb;rw[vQ] at hq;rw[hq]
  subst e'
  exact ak.Pw e _ hx
 .exact ak.uW h _ hx hb
theorem ru{t:TypeId}(hs:∀ d,P.underlying t=some d->simple d=true):∀ (n:Nat) {E:Nat->Nat->Prop} {x x' y y':Value},ak P fns Z E (Op.eqGuardIn n t x y) (Op.eqGuardIn n t x' y') (λ_ b b'=>b=false/\b'=false)
 |0,E,x,x',y,y'=>by unfold Op.eqGuardIn;exact ak.dies (aK.halt rfl)
 |n+1,E,x,x',y,y'=>by
  unfold Op.eqGuardIn
  refine ak.bind (ak.underlying t) λE1 d d' dF e=>?_
  obtain⟨rfl,hd⟩:=e
  have:=hs _ hd
  cases d'<;>first|(cases this;done)|exact ak.pure ⟨rfl,rfl⟩
theorem gT(hs:∀ d,P.underlying t=some d->simple d=true)(n:Nat):P.eqGuardType (n+1) t=false:=by
 unfold Program.eqGuardType
 cases h:P.underlying t with
 |none=>rfl
 |some d=>have:=hs _ h;cases d<;>first|(cases this;done)|rfl
theorem gU{v:Value}(h:VR fns E v .nilIface):v=.nilIface:=by
 cases v with
 |nilIface=>rfl
 |pointer a=>obtain⟨b,h,_⟩:=aM.1 h;cases h
 |slice a l c=>obtain⟨b,h,_⟩:=aJ.1 h;cases h
 |map r=>obtain⟨_,h⟩:=fE.1 h;cases h
 |chan r=>obtain⟨_,h⟩:=dI.1 h;cases h
 |func f x y=>obtain⟨x',y',h,_⟩:=dz.1 h;cases h
 |iface t u=>obtain⟨u',h,_⟩:=bE.1 h;cases h
 |agg x=>obtain⟨x',h,_⟩:=bW.1 h;cases h
 |tuple x=>obtain⟨x',h,_⟩:=bK.1 h;cases h
 |float=>exact(b_ h).elim
 |complex=>exact(bO h).elim
 |_=>rw[VR] at h;cases h
theorem oI{v:Value}{x':Array Value}(h:VR fns E v (.agg x')):∃ x,v=.agg x:=by
 cases v with
 |agg x=>exact⟨x,rfl⟩
 |pointer a=>obtain⟨b,h,_⟩:=aM.1 h;cases h
 |slice a l c=>obtain⟨b,h,_⟩:=aJ.1 h;cases h
 |map r=>obtain⟨_,h⟩:=fE.1 h;cases h
 |chan r=>obtain⟨_,h⟩:=dI.1 h;cases h
 |func f x y=>obtain⟨x',y',h,_⟩:=dz.1 h;cases h
 |iface t u=>obtain⟨u',h,_⟩:=bE.1 h;cases h
 |tuple x=>obtain⟨x',h,_⟩:=bK.1 h;cases h
 |float=>exact(b_ h).elim
 |complex=>exact(bO h).elim
 |_=>rw[VR] at h;cases h
theorem ak.eqGuard(fJ:0<P.depth)(op:BinOp)(t:TypeId)(x y:Operand)(h:qZ P t y=true)(ha:VR fns E a a')(hb:VR fns E b b')(hy:∀ v,y=.const v->b=v):ak P fns Z E (Go.eqGuard op t x y a b) (Go.eqGuard op t x y a' b') (λ_ _ _=>True):=by
 unfold Go.eqGuard
 split
 .simp only[Bool.not_true,Bool.false_eq_true,if_false]
  split
  .rw[dX] at ha hb;subst ha;subst hb
   dsimp only
   rcases iB h with hc|hc
   .rcases hc with rfl|⟨l,c,rfl⟩<;>cases x<;>exact ak.pure trivial
   .have tail:ak P fns Z E (Op.eqGuardIn Op.maxDepth t .nilIface .nilIface) (Op.eqGuardIn Op.maxDepth t .nilIface .nilIface) (λ_ b b'=>b=false/\b'=false):=ru hc _
    cases x<;>cases y<;>first
     |exact ak.pure trivial
     |exact ak.bind tail λE1 r r' dF e=>(by obtain⟨rfl,rfl⟩:=e;exact ak.pure trivial)
  .obtain⟨x1,rfl,_⟩:=bW.1 ha
   obtain⟨y1,rfl,_⟩:=bW.1 hb
   dsimp only
   rcases iB h with hc|hc
   .rcases hc with rfl|⟨l,c,rfl⟩
    .cases hy _ rfl
    .cases hy _ rfl
   .refine ak.bind ak.program λE1 p q dF e=>?_
    obtain⟨rfl,rfl⟩:=e
    refine ak.bind ak.program λE1 p q dF e=>?_
    obtain⟨rfl,rfl⟩:=e
    obtain⟨n,hn⟩:∃ n,p.depth=n+1:=⟨p.depth-1,by omega⟩
    rw[show (fns.re p).depth=p.depth from rfl,hn,gT hc,gT (P:=fns.re p) hc]
    exact ak.pure trivial
  .rename_i h1 h2
   split
   .exact(h1 (gU ha) (gU hb)).elim
   .obtain⟨_,e1⟩:=oI ha
    obtain⟨_,e2⟩:=oI hb
    exact(h2 _ _ e1 e2).elim
   .exact ak.pure trivial
 .simp only[Bool.not_true,Bool.false_eq_true,if_false]
  split
  .rw[dX] at ha hb;subst ha;subst hb
   dsimp only
   rcases iB h with hc|hc
   .rcases hc with rfl|⟨l,c,rfl⟩<;>cases x<;>exact ak.pure trivial
   .have tail:ak P fns Z E (Op.eqGuardIn Op.maxDepth t .nilIface .nilIface) (Op.eqGuardIn Op.maxDepth t .nilIface .nilIface) (λ_ b b'=>b=false/\b'=false):=ru hc _
    cases x<;>cases y<;>first
     |exact ak.pure trivial
     |exact ak.bind tail λE1 r r' dF e=>(by obtain⟨rfl,rfl⟩:=e;exact ak.pure trivial)
  .obtain⟨x1,rfl,_⟩:=bW.1 ha
   obtain⟨y1,rfl,_⟩:=bW.1 hb
   dsimp only
   rcases iB h with hc|hc
   .rcases hc with rfl|⟨l,c,rfl⟩
    .cases hy _ rfl
    .cases hy _ rfl
   .refine ak.bind ak.program λE1 p q dF e=>?_
    obtain⟨rfl,rfl⟩:=e
    refine ak.bind ak.program λE1 p q dF e=>?_
    obtain⟨rfl,rfl⟩:=e
    obtain⟨n,hn⟩:∃ n,p.depth=n+1:=⟨p.depth-1,by omega⟩
    rw[show (fns.re p).depth=p.depth from rfl,hn,gT hc,gT (P:=fns.re p) hc]
    exact ak.pure trivial
  .rename_i h1 h2
   split
   .exact(h1 (gU ha) (gU hb)).elim
   .obtain⟨_,e1⟩:=oI ha
    obtain⟨_,e2⟩:=oI hb
    exact(h2 _ _ e1 e2).elim
   .exact ak.pure trivial
 .simp only[Bool.not_false,if_true]
  exact ak.pure trivial
def uo(P:Program)(fns:Fx)(t:TypeId):Bool:=match P.underlying t with
 |some (.struct fs)=>fs.all (λf=>match P.underlying f.type with
  |some d=>simple d
  |none=>true)&&!P.stoodInHeld t&&!(fns.re P).stoodInHeld t&&!P.eqGuardType P.depth t&&!(fns.re P).eqGuardType P.depth t
 |_=>false
def nilPtr(P:Program)(t:TypeId)(y:Operand):Bool:=match y with
 | .const (.pointer none)=>match P.underlying t with
   |some (.pointer _)=>true
   |_=>false
 |_=>false
def MH(P:Program)(fns:Fx)(t:TypeId)(y:Operand):Bool:=qZ P t y||uo P fns t||nilPtr P t y
theorem ak.J4{α σ:Type}{f f':α->σ->Sem (ForInStep σ)}:∀ (l:List α) (s:σ) {E:Nat->Nat->Prop},(∀ E',(∀ a b,E a b->E' a b)->∀ a∈l,∀ r,ak P fns Z E' (f a r) (f' a r) (λ_ x y=>y=x)) ->
 ak P fns Z E (ForIn.forIn l s f) (ForIn.forIn l s f') (λ_ x y=>y=x)
 | [],s,E,_=>by simp only[List.forIn_nil];exact ak.pure rfl
 |v::vs,s,E,hf=>by
  simp only[List.forIn_cons]
  refine ak.bind (hf E (λ_ _ x=>x) v (by simp) s) λE1 x y dF e=>?_
  subst e
  cases y with
  |done r=>exact ak.pure rfl
  |yield r=>exact ak.J4 vs r λE' up a ha r=>hf E' (λa b x=>up a b (dF a b x)) a (by simp[ha]) r
theorem ak.part(t:TypeId){x x':Array Value}(h:aV fns E x x')(o:Nat):ak P fns Z E (Go.part t x o) (Go.part t x' o) (λE' v v'=>VR fns E' v v'):=by
 unfold Go.part
 refine ak.bind (ak.isAgg t) λE1 b b' dF e=>?_
 subst e
 split
 .refine ak.bind (ak.sizeOf t) λE2 n n' dV e=>?_
  subst e
  exact ak.pure (bW.2 ⟨_,rfl,((h.up dF).up dV).extract _ _⟩)
 .cases hx:x[o]? with
  |none=>exact ak.stuck
  |some v =>
   obtain⟨v',e,hv⟩:=h.get? o hx
   rw[e]
   exact ak.pure (hv.up dF)
theorem ak.MI{t:TypeId}(h:uo P fns t=true):∀ (n:Nat) {E:Nat->Nat->Prop} {x x' y y':Value},VR fns E x x'->VR fns E y y'->ak P fns Z E (Op.equalIn n t x y) (Op.equalIn n t x' y') (λ_ b b'=>b'=b)
 |0,E,x,x',y,y',hx,hy=>by unfold Op.equalIn;exact ak.dies (aK.halt rfl)
 |n+1,E,x,x',y,y',hx,hy=>by
  unfold uo at h
  split at h
  .rename_i fs hfs
   simp only[Bool.and_eq_true,Bool.not_eq_true'] at h
   obtain⟨⟨⟨⟨hall,s1⟩,s2⟩,_⟩,_⟩:=h
   unfold Op.equalIn
   refine ak.bind (ak.underlying t) λE1 d d' dF e=>?_
   obtain⟨rfl,hd⟩:=e
   rw[hfs] at hd
   obtain rfl:=Option.some.inj hd
   have hx1:=hx.up dF
   have hy1:=hy.up dF
   cases x with
   |agg xs =>
    obtain⟨xs',rfl,hxs⟩:=bW.1 hx1
    cases y with
    |agg ys =>
     obtain⟨ys',rfl,hys⟩:=bW.1 hy1
     dsimp only
     refine ak.bind ak.program λE2 p q dV e=>?_
     obtain⟨rfl,rfl⟩:=e
     rw[s1,s2]
     simp only[Bool.false_eq_true,if_false]
     simp only[<-Array.forIn_toList]
     refine ak.bind (Φ:=λ_ a b=>b=a) (ak.J4 fs.toList _ λE3 gy f hf r=>?_) λE3 r r' gy e=>?_
     .split
      .refine ak.bind (ak.part _ ((aV.up hxs dV).up gy) _) λE4 u u' uV hu=>?_
       refine ak.bind (ak.part _ (((aV.up hys dV).up gy).up uV) _) λE5 v v' yD hv=>?_
       have TG:∀ d,p.underlying f.type=some d->simple d=true:=λd hd=>by
        rw[Array.all_eq_true'] at hall
        have:=hall f (Array.mem_toList_iff.1 hf)
        rw[hd] at this
        exact this
       refine ak.bind (ak.uW TG n (hu.up yD) hv) λE6 b b' Nw e=>?_
       subst e
       split<;>exact ak.pure rfl
      .exact ak.pure rfl
     .subst e
      split<;>exact ak.pure rfl
    |_=>exact ak.dies (aK.halt rfl)
   |_=>exact ak.dies (aK.halt rfl)
  .cases h
theorem rH(h:nilPtr P t y=true):y=.const (.pointer none)/\∃ e,P.underlying t=some (.pointer e):=by
 unfold nilPtr at h
 split at h
 .refine⟨rfl,?_⟩
  split at h
  .rename_i e he;exact⟨e,he⟩
  .cases h
 .cases h
theorem ak.Px{t e:TypeId}(h:P.underlying t=some (.pointer e)):∀ (n:Nat) {E:Nat->Nat->Prop} {x x':Value},VR fns E x x'->ak P fns Z E (Op.equalIn n t x (.pointer none)) (Op.equalIn n t x' (.pointer none)) (λ_ b b'=>b'=b)
 |0,E,x,x',hx=>by unfold Op.equalIn;exact ak.dies (aK.halt rfl)
 |n+1,E,x,x',hx=>by
  unfold Op.equalIn
  refine ak.bind (ak.underlying t) λE1 d d' dF e=>?_
  obtain⟨rfl,hd⟩:=e
  rw[h] at hd
  obtain rfl:=Option.some.inj hd
  have hx1:=hx.up dF
  cases x with
  |pointer a =>
   obtain⟨b,rfl,hb⟩:=aM.1 hx1
   cases a with
   |none=>rw[jQ] at hb;subst hb;exact ak.pure rfl
   |some a=>obtain⟨b',rfl,_⟩:=dA.1 hb;exact ak.pure rfl
  |_=>exact ak.dies (aK.halt rfl)
theorem ak.J5(h:MH P fns t y=true){x x':Value}(hx:VR fns E x x')(hb:VR fns E b b')(hy:∀ v,y=.const v->b=v):ak P fns Z E (Op.equal t x b) (Op.equal t x' b') (λ_ r r'=>r'=r):=by
 unfold MH at h
 rw[Bool.or_eq_true,Bool.or_eq_true] at h
 rcases h with (h|h)|h
 .exact ak.equal h hx hb hy
 .exact ak.MI h _ hx hb
 .obtain⟨h1,e,h2⟩:=rH h
  obtain rfl:=hy _ h1
  obtain⟨c,rfl,hc⟩:=aM.1 hb
  rw[jQ] at hc
  subst hc
  exact ak.Px h2 _ hx
theorem iY{op:BinOp}{x:Operand}(h1:¬(a=.nilIface/\b=.nilIface))(h2:¬∃ u v,a=.agg u/\b=.agg v):Go.eqGuard op t x y a b=Pure.pure ():=by
 unfold Go.eqGuard
 split
 .simp only[Bool.not_true,Bool.false_eq_true,if_false]
  split
  .exact(h1 ⟨rfl,rfl⟩).elim
  .exact(h2 ⟨_,_,rfl,rfl⟩).elim
  .rfl
 .simp only[Bool.not_true,Bool.false_eq_true,if_false]
  split
  .exact(h1 ⟨rfl,rfl⟩).elim
  .exact(h2 ⟨_,_,rfl,rfl⟩).elim
  .rfl
 .rfl
theorem ak.MJ{op:BinOp}{x:Operand}(h:uo P fns t=true)(ha:VR fns E a a')(hb:VR fns E b b'):ak P fns Z E (Go.eqGuard op t x y a b) (Go.eqGuard op t x y a' b') (λ_ _ _=>True):=by
 by_cases h1:a=.nilIface/\b=.nilIface
 .obtain⟨rfl,rfl⟩:=h1
  rw[dX] at ha hb
  subst ha
  subst hb
  have tail:ak P fns Z E (Op.eqGuardIn Op.maxDepth t .nilIface .nilIface) (Op.eqGuardIn Op.maxDepth t .nilIface .nilIface) (λ_ b b'=>b=false/\b'=false):=by
   show ak P fns Z E (Op.eqGuardIn (9999+1) t .nilIface .nilIface) (Op.eqGuardIn (9999+1) t .nilIface .nilIface) _
   unfold Op.eqGuardIn
   refine ak.bind (ak.underlying t) λE1 d d' dF e=>?_
   obtain⟨rfl,hd⟩:=e
   unfold uo at h
   rw[hd] at h
   cases d'<;>first|(cases h;done)|exact ak.pure ⟨rfl,rfl⟩
  unfold Go.eqGuard
  split
  .simp only[Bool.not_true,Bool.false_eq_true,if_false]
   cases x<;>cases y<;>first
    |exact ak.pure trivial
    |exact ak.bind tail λE1 r r' dF e=>(by obtain⟨rfl,rfl⟩:=e;exact ak.pure trivial)
  .simp only[Bool.not_true,Bool.false_eq_true,if_false]
   cases x<;>cases y<;>first
    |exact ak.pure trivial
    |exact ak.bind tail λE1 r r' dF e=>(by obtain⟨rfl,rfl⟩:=e;exact ak.pure trivial)
  .exact ak.pure trivial
 by_cases h2:∃ u v,a=.agg u/\b=.agg v
 .obtain⟨u,v,rfl,rfl⟩:=h2
  obtain⟨u',rfl,_⟩:=bW.1 ha
  obtain⟨v',rfl,_⟩:=bW.1 hb
  have hg:P.eqGuardType P.depth t=false/\(fns.re P).eqGuardType P.depth t=false:=by
   unfold uo at h
   split at h
   .simp only[Bool.and_eq_true,Bool.not_eq_true'] at h
    exact⟨h.1.2,h.2⟩
   .cases h
  have tail:∀ (k k':Sem Unit),ak P fns Z E (Go.program >>= λp=>Go.program >>= λq=>if (!p.eqGuardType q.depth t)=true then Pure.pure () else k) (Go.program >>= λp=>Go.program >>= λq=>if (!p.eqGuardType q.depth t)=true then Pure.pure () else k') (λ_ _ _=>True):=λk k'=>by
   refine ak.bind ak.program λE1 p q dF e=>?_
   obtain⟨rfl,rfl⟩:=e
   refine ak.bind ak.program λE1 p q dF e=>?_
   obtain⟨rfl,rfl⟩:=e
   rw[show (fns.re p).depth=p.depth from rfl,hg.1,hg.2]
   exact ak.pure trivial
  unfold Go.eqGuard
  split
  .simp only[Bool.not_true,Bool.false_eq_true,if_false]
   exact tail _ _
  .simp only[Bool.not_true,Bool.false_eq_true,if_false]
   exact tail _ _
  .exact ak.pure trivial
 rw[iY h1 h2,iY (λ⟨e1,e2⟩=>h1 ⟨gU (e1▸ha),gU (e2▸hb)⟩) (λ⟨u,v,e1,e2⟩=>by
  obtain⟨p,hp⟩:=oI (e1▸ha)
  obtain⟨q,hq⟩:=oI (e2▸hb)
  exact h2 ⟨p,q,hp,hq⟩)]
 exact ak.pure trivial
theorem ak.TH(fJ:0<P.depth)(op:BinOp)(t:TypeId)(x y:Operand)(h:MH P fns t y=true)(ha:VR fns E a a')(hb:VR fns E b b')(hy:∀ v,y=.const v->b=v):ak P fns Z E (Go.eqGuard op t x y a b) (Go.eqGuard op t x y a' b') (λ_ _ _=>True):=by
 unfold MH at h
 rw[Bool.or_eq_true,Bool.or_eq_true] at h
 rcases h with (h|h)|h
 .exact ak.eqGuard fJ op t x y h ha hb hy
 .exact ak.MJ h ha hb
 .obtain⟨h1,e,h2⟩:=rH h
  obtain rfl:=hy _ h1
  obtain⟨c,rfl,hc⟩:=aM.1 hb
  rw[iY (λ⟨_,e⟩=>by cases e) (λ⟨_,_,_,e⟩=>by cases e),iY (λ⟨_,e⟩=>by cases e) (λ⟨_,_,_,e⟩=>by cases e)]
  exact ak.pure trivial
