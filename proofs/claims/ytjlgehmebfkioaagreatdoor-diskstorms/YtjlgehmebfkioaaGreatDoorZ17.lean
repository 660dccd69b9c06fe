/- Part of the proof. -/
import Derived.Test.YtjlgehmebfkioaaGreatDoorZ16
open Array renaming range->hQ
open Bool renaming false_eq_true->cH,not_false->nz,or_eq_true->fN,not_true->fw,and_eq_true->bz,not_eq_true'->jx
open ForIn renaming forIn->lj
open Go renaming Value->ai,Program->ar,TypeId->cw,Addr->cy,loadCells->pT,movedNumber->oE,movedPointer->nF,Operand->da,eqGuard->fj,program->oy
open Go.Instr renaming build->pL,buildSlice->mf,fill->kj,sliceBound->mi,sliceBounds->mb,slice->k_,sliceAt->oj,indexAt->jz,extract->lA,makeSlice->ed
open Go.Result renaming andThen_ok->cQ
open Go.Sem renaming run_bind->cG
open Go.Value renaming slice->fY
open Nat renaming le_refl->al
open Option.some renaming inj->cd
open Pure renaming pure->cY
namespace Go.Proofs.YtjlgehmebfkioaaGreatDoor
open Go
variable {h h' l' m m':Option ai} {v':ai}
variable {P:ar} {fns:Fx} {E E' Ei:Nat->Nat->Prop} {Z:Nat->Prop}
theorem ak.Gs{α β γ:Type}{f:α->Sem β}{f':α->Sem β}(hf:∀ E a,ak P fns Z E (f a) (f' a) (λ_ x y=>y=x)):∀ (l:List α) {E:Nat->Nat->Prop},ak P fns Z E (l.mapM f) (l.mapM f') (λ_ x y=>y=x)
 | [],E=>by simp only[List.mapM_nil];exact ak.pure rfl
 |a::l,E=>by
  simp only[List.mapM_cons]
  refine ak.bind (hf E a) λE1 x y up h=>?_
  subst h
  refine ak.bind (ak.Gs (γ:=γ) hf l) λE2 x y up h=>?_
  subst h
  exact ak.pure rfl
theorem ak.mapM{α β:Type}{f:α->Sem β}(hf:∀ E a,ak P fns Z E (f a) (f a) (λ_ x y=>y=x))(x:Array α):ak P fns Z E (x.mapM f) (x.mapM f) (λ_ x y=>y=x):=by
 rw[Array.mapM_eq_mapM_toList]
 refine ak.bind (Φ:=λ_ x y=>y=x) (ak.Gs (γ:=Unit) hf _) λE1 x y up h=>?_
 subst h
 exact ak.pure rfl
theorem ak.build(hz:zeros P fns)(t:cw)(ht:fns.tys t=true){x x':Array (Nat × ai)}(hx:uI fns E x.toList x'.toList):ak P fns Z E (pL t x) (pL t x') (λE' v v'=>VR fns E' v v'):=by
 have hup:∀ {E1:Nat->Nat->Prop},(∀ a b,E a b->E1 a b)->uI fns E1 x.toList x'.toList:=λup=>⟨hx.1,hx.2.up up⟩
 unfold pL
 refine ak.bind (ak.zeroValue hz t ht) λE1 v v' up h=>?_
 obtain⟨rfl,hc⟩:=h
 dsimp only
 refine ak.bind (ak.underlying t) λE2 d d' dY h=>?_
 obtain⟨rfl,_⟩:=h
 split
 .refine ak.bind (ak.mapM (λE f=>ak.bind (ak.sizeOf _) λE' n n' up h=>ak.pure (by rw[h])) _) λE3 pl pl' gL h=>?_
  subst h
  rcases mR (E:=E3) (pl'[·]?) x.toList x'.toList (hup (λa b z=>gL _ _ (dY _ _ (up _ _ z)))) (lZ (j4 hc)) with ⟨d,d',h1,h2,h3⟩|h
  .rw[h1,h2];exact ak.pure (bY.2 ⟨_,rfl,h3⟩)
  .rw[h];exact ak.stuck
 .refine ak.bind (ak.sizeOf _) λE3 pl pl' gL h=>?_
  subst h
  rcases mR (E:=E3) (λi=>some (i*pl',pl')) x.toList x'.toList (hup (λa b z=>gL _ _ (dY _ _ (up _ _ z)))) (lZ (j4 hc)) with ⟨d,d',h1,h2,h3⟩|h
  .rw[h1,h2];exact ak.pure (bY.2 ⟨_,rfl,h3⟩)
  .rw[h];exact ak.stuck
 .exact ak.stuck
theorem jg{v:ai}(h:mO v=true):∀ i (hi:i<v.cells.size),VR fns E v.cells[i] v.cells[i]:=λi hi=>(lZ (j4 h)).2 i hi hi
theorem uJ{z:Array ai}(hz:∀ i (hi:i<z.size),VR fns E z[i] z[i])(n:Nat):aW fns E ((hQ n).map (z[·%z.size]!)) ((hQ n).map (z[·%z.size]!)):=by
 refine⟨rfl,λi a b=>?_⟩
 simp only[Array.getElem_map,Array.getElem_range]
 by_cases hp:i%z.size<z.size
 .rw[getElem!_pos z (i%z.size) hp]
  exact hz _ _
 .rw[getElem!_neg z (i%z.size) hp]
  exact aG rfl
theorem ak.buildSlice(hz:zeros P fns)(t:cw)(ht:∀ e,P.underlying t=some (.slice e)->fns.tys e=true)(len:Nat){x x':Array (Nat × ai)}(hx:uI fns E x.toList x'.toList):ak P fns Z E (mf t len x) (mf t len x') (λE' v v'=>VR fns E' v v'):=by
 unfold mf
 refine ak.bind (ak.underlying t) λE1 d d' dI h=>?_
 obtain⟨rfl,hu⟩:=h
 split
 .refine ak.bind (ak.sizeOf _) λE2 n n' dY h=>?_
  subst h
  dsimp only
  have key:∀ {E3:Nat->Nat->Prop} (z:Array ai),(∀ a b,E a b->E3 a b)->(∀ E i (hi:i<z.size),VR fns E z[i] z[i]) ->
   (∃ d d',kj (λi=>some (i*n',n')) ((hQ (len*n')).map (z[·%z.size]!)) x.toList=some d/\kj (λi=>some (i*n',n')) ((hQ (len*n')).map (z[·%z.size]!)) x'.toList=some d'/\aW fns E3 d d')\/kj (λi=>some (i*n',n')) ((hQ (len*n')).map (z[·%z.size]!)) x.toList=none :=
   λ{E3} z up hzz=>mR (E:=E3) (λi=>some (i*n',n')) x.toList x'.toList ⟨hx.1,hx.2.up up⟩ (uJ (hzz E3) (len*n'))
  split
  .exact ak.dies (aK.bind (aK.halt rfl))
  .split
   .refine ak.bind (Φ:=λ_ z z'=>z=#[]/\z'=#[]) (ak.pure ⟨rfl,rfl⟩) λE3 z z' gL h=>?_
    obtain⟨rfl,rfl⟩:=h
    rcases key (E3:=E3) #[] (λa b y=>gL _ _ (dY _ _ (dI _ _ y))) (λE i hi=>by simp at hi) with ⟨d,d',h1,h2,h3⟩|h
    .rw[h1,h2]
     exact ak.bind (ak.newRow h3) λE4 a a' vD h=>ak.pure (aJ.2 ⟨_,rfl,.inl h.as⟩)
    .rw[h];exact ak.stuck
   .refine ak.bind (ak.zeroValue hz _ (ht _ hu)) λE3 v v' gL h=>?_
    obtain⟨rfl,hc⟩:=h
    refine ak.bind (Φ:=λ_ z z'=>z=v'.cells/\z'=v'.cells) (ak.pure ⟨rfl,rfl⟩) λE4 z z' vD h=>?_
    obtain⟨rfl,rfl⟩:=h
    rcases key (E3:=E4) v'.cells (λa b y=>vD _ _ (gL _ _ (dY _ _ (dI _ _ y)))) (λE i hi=>jg hc i hi) with ⟨d,d',h1,h2,h3⟩|h
    .rw[h1,h2]
     exact ak.bind (ak.newRow h3) λE4 a a' vD h=>ak.pure (aJ.2 ⟨_,rfl,.inl h.as⟩)
    .rw[h];exact ak.stuck
 .exact ak.stuck
theorem ak.sliceBound{v:ai}(hv:VR fns E v v')(y:Nat)(c:BoundsCode):ak P fns Z E (mi v y c) (mi v' y c) (λ_ n n'=>n'=n/\n<=y):=by
 unfold mi
 refine ak.bind (ak.asIntOf hv) λE1 n n' up h=>?_
 subst h
 dsimp only
 split
 .rename_i hc
  exact ak.pure ⟨rfl,by omega⟩
 .exact ak.dies (aK.boundsPanic _ _ _ _)
def uL(fns:Fx)(E:Nat->Nat->Prop):Option ai->Option ai->Prop
 |none,none=>True
 |some v,some v'=>VR fns E v v'
 |_,_=>False
theorem uL.up{v v':Option ai}(h:uL fns E v v')(hE:∀ a b,E a b->E' a b):uL fns E' v v':=by
 cases v<;>cases v'<;>first|exact h|exact VR.up h hE
theorem ak.sliceBounds(b:Bool)(len cap:Nat){l:Option ai}(hl:uL fns E l l')(hh:uL fns E h h')(hm:uL fns E m m'):ak P fns Z E (mb b len cap l h m) (mb b len cap l' h' m') (λ_ n n'=>n'=n/\(len=0->cap=0->n=(0,0,0))):=by
 unfold mb
 cases m<;>cases m'<;>first|exact hm.elim|skip
 all_goals refine ak.bind (Φ:=λ_ n n'=>n'=n/\n<=cap) (by first|exact ak.pure ⟨rfl,al _⟩|exact ak.sliceBound hm _ _) λE1 x x' dI e=>?_
 all_goals obtain⟨rfl,ex⟩:=e
 all_goals have Pm:=hh.up dI
 all_goals cases h<;>cases h'<;>first|exact hh.elim|exact ak.dies (aK.bind aK.stuck)|skip
 all_goals refine ak.bind (Φ:=λ_ n n'=>n'=n/\(len=0->cap=0->n=0)) (by first|exact ak.pure ⟨rfl,λe _=>e⟩|exact(ak.sliceBound Pm _ _).mono λ_ _ _ _ e=>⟨e.1,λ_ _=>by have:=e.2;omega⟩) λE2 y y' dY e=>?_
 all_goals obtain⟨rfl,ey⟩:=e
 all_goals have hl2:=(hl.up dI).up dY
 all_goals cases l<;>cases l'<;>first|exact hl.elim|skip
 all_goals refine ak.bind (Φ:=λ_ n n'=>n'=n/\(len=0->cap=0->n=0)) (by first|exact ak.pure ⟨rfl,λ_ _=>rfl⟩|exact(ak.sliceBound hl2 _ _).mono λ_ _ _ _ e=>⟨e.1,λe1 e2=>by have:=e.2;have:=ey e1 e2;omega⟩) λE3 z z' gL e=>?_
 all_goals obtain⟨rfl,ez⟩:=e
 all_goals exact ak.pure ⟨rfl,λe1 e2=>by rw[ey e1 e2,ez e1 e2,show x'=0 by omega]⟩
theorem ak.slice(t:cw){v:ai}(hv:VR fns E v v'){l:Option ai}(hl:uL fns E l l')(hh:uL fns E h h')(hm:uL fns E m m'):ak P fns Z E (k_ t v l h m) (k_ t v' l' h' m') (λE' v v'=>VR fns E' v v'):=by
 unfold k_
 refine ak.bind (ak.underlying t) λE1 d d' dI e=>?_
 obtain⟨rfl,_⟩:=e
 have hv1:=hv.up dI
 have hl1:=hl.up dI
 have Pm:=hh.up dI
 have hm1:=hm.up dI
 have em:m'.isSome=m.isSome:=by cases m<;>cases m'<;>first|rfl|exact hm.elim
 split
 .rename_i s
  rw[dP] at hv1
  subst hv1
  rw[em]
  split
  .exact ak.dies (aK.bind aK.stuck)
  .refine ak.bind (ak.sliceBounds _ _ _ hl1 Pm trivial) λE2 n n' dY e=>?_
   obtain⟨rfl,_⟩:=e
   exact ak.pure (aG rfl)
 .rename_i a _ _ _
  obtain⟨b,rfl,ha⟩:=aJ.1 hv1
  dsimp only
  refine ak.bind (ak.sliceBounds _ _ _ hl1 Pm hm1) λE2 n n' dY e=>?_
  obtain⟨rfl,hnil⟩:=e
  refine ak.bind (ak.sizeOf _) λE3 sz sz' gL e=>?_
  subst e
  refine ak.pure (aJ.2 ⟨_,rfl,?_⟩)
  rcases ha with ha|⟨e1,e2,e3⟩
  .have Hl:=(ha.up dY).up gL
   refine .inl ?_
   split
   .exact Hl
   .cases a with
    |none=>rw[iN] at Hl;subst Hl;trivial
    |some a=>obtain⟨b',rfl,Hl⟩:=dV.1 Hl;exact Hl.add _
  .have hn0:=hnil e1 e2
   subst hn0
   exact .inr ⟨rfl,rfl,by rw[if_pos rfl,if_pos rfl];exact e3⟩
 .refine ak.bind (ak.asAddr hv1) λE2 a a' dY ha=>?_
  refine ak.bind (ak.underlying _) λE3 d d' gL e=>?_
  obtain⟨rfl,_⟩:=e
  split
  .refine ak.bind (ak.sliceBounds _ _ _ ((hl1.up dY).up gL) ((Pm.up dY).up gL) ((hm1.up dY).up gL)) λE4 n n' vD e=>?_
   obtain⟨rfl,_⟩:=e
   dsimp only
   refine ak.bind (ak.sizeOf _) λE5 n n' y9 e=>?_
   subst e
   refine ak.pure (aJ.2 ⟨_,rfl,.inl ?_⟩)
   have Hl:=(((ha.up gL).up vD).up y9).as
   split
   .exact Hl
   .exact Hl.add _
  .exact ak.stuck
 .exact ak.stuck
theorem ak.sliceAt(t:cw){v:ai}(hv:VR fns E v v'){l:Option ai}(hl:uL fns E l l')(hh:uL fns E h h')(hm:uL fns E m m'):ak P fns Z E (oj t v l h m) (oj t v' l' h' m') (λE' v v'=>VR fns E' v v'):=by
 unfold oj
 refine ak.bind (ak.underlying t) λE1 d d' dI e=>?_
 obtain⟨rfl,_⟩:=e
 have hv1:=hv.up dI
 have hl1:=hl.up dI
 have Pm:=hh.up dI
 have hm1:=hm.up dI
 split
 .refine ak.bind (ak.sureAddr hv1) λE2 a a' dY ha=>?_
  refine ak.bind (ak.sliceBounds _ _ _ (hl1.up dY) (Pm.up dY) (hm1.up dY)) λE4 n n' vD e=>?_
  obtain⟨rfl,_⟩:=e
  dsimp only
  refine ak.bind (ak.sizeOf _) λE5 n n' y9 e=>?_
  subst e
  refine ak.pure (aJ.2 ⟨_,rfl,.inl ?_⟩)
  have Hl:=((ha.up vD).up y9).as
  split
  .exact Hl
  .exact Hl.add _
 .exact ak.slice t hv1 hl1 Pm hm1
theorem ak.indexAt(t:cw){v x x':ai}(hv:VR fns E v v')(hx:VR fns E x x'):ak P fns Z E (jz t v x) (jz t v' x') (λE' v v'=>VZ fns E' v v'):=by
 unfold jz
 refine ak.bind (ak.asIntOf hx) λE1 n n' dI e=>?_
 subst e
 dsimp only
 refine ak.bind (ak.underlying t) λE2 d d' dY e=>?_
 obtain⟨rfl,_⟩:=e
 have hv2:=(hv.up dI).up dY
 split
 .refine ak.bind (ak.sureAddr hv2) λE3 a a' gL ha=>?_
  refine ak.bind (Φ:=λE' (y y':Option cy × Nat × cw)=>OA fns E' y.1 y'.1/\y.2=y'.2) (ak.pure ⟨ha,rfl⟩) λE3 y y' gL e=>?_
  obtain⟨base,len,elem⟩:=y
  obtain⟨base',len',elem'⟩:=y'
  obtain⟨e1,e2⟩:=e
  simp only[Prod.mk.injEq] at e2
  obtain⟨rfl,rfl⟩:=e2
  dsimp only at e1 ⊢
  refine ak.bind (ak.underlying t) λE4 d d' vD e=>?_
  obtain⟨rfl,_⟩:=e
  have e4:=e1.up vD
  cases base with
  |none =>
   rw[jV] at e4;subst e4
   exact ak.dies (aK.boundsPanic _ _ _ _)
  |some a =>
   obtain⟨b',rfl,ha⟩:=dF.1 e4
   dsimp only
   split
   .refine ak.bind (ak.sizeOf _) λE5 n n' y9 e=>?_
    subst e
    exact ak.pure (.inl (aM.2 ⟨_,rfl,(ha.up y9).add _⟩))
   .refine ak.dies ?_
    split<;>split<;>first|exact aK.halt rfl|exact aK.boundsPanic _ _ _ _
 .obtain⟨b,rfl,ha⟩:=aJ.1 hv2
  refine ak.bind (Φ:=λE' (y y':Option cy × Nat × cw)=>(OS fns E' y.1 y'.1\/(y.2.1=0/\y.1=y'.1))/\y.2=y'.2) (ak.pure ⟨ha.imp id λx=>⟨x.1,x.2.2⟩,rfl⟩) λE3 y y' gL e=>?_
  obtain⟨base,len,elem⟩:=y
  obtain⟨base',len',elem'⟩:=y'
  obtain⟨e1,e2⟩:=e
  simp only[Prod.mk.injEq] at e2
  obtain⟨rfl,rfl⟩:=e2
  dsimp only at e1 ⊢
  refine ak.bind (ak.underlying t) λE4 d d' vD e=>?_
  obtain⟨rfl,_⟩:=e
  rcases e1 with e1|⟨e5,e6⟩
  rotate_left
  .subst e5 e6
   cases base with
   |none=>exact ak.dies (aK.boundsPanic _ _ _ _)
   |some a =>
    dsimp only
    split
    .rename_i hcc
     have:=hcc.1
     have:=hcc.2
     omega
    .refine ak.dies ?_
     split<;>split<;>first|exact aK.halt rfl|exact aK.boundsPanic _ _ _ _
  have e4:=e1.up vD
  cases base with
  |none =>
   rw[iN] at e4;subst e4
   exact ak.dies (aK.boundsPanic _ _ _ _)
  |some a =>
   obtain⟨b',rfl,ha⟩:=dV.1 e4
   dsimp only
   split
   .refine ak.bind (ak.sizeOf _) λE5 n n' y9 e=>?_
    subst e
    exact ak.pure (.inr ⟨_,_,rfl,rfl,(ha.up y9).add _⟩)
   .refine ak.dies ?_
    split<;>split<;>first|exact aK.halt rfl|exact aK.boundsPanic _ _ _ _
 .exact ak.dies (aK.bind aK.stuck)
theorem ak.extract{v:ai}(hv:VR fns E v v')(i:Nat):ak P fns Z E (lA v i) (lA v' i) (λE' v v'=>VR fns E' v v'):=by
 cases v with
 |tuple x =>
  obtain⟨x',rfl,h⟩:=bL.1 hv
  unfold lA
  dsimp only
  cases hx:x[i]? with
  |none=>exact ak.stuck
  |some u=>obtain⟨u',h1,h2⟩:=h.get? i hx;rw[h1];exact ak.pure h2
 |_=>exact ak.dies (aK.halt rfl)
variable {x':Array ai} {v':ai}
variable {P:ar} {fns:Fx} {E E' Ei:Nat->Nat->Prop} {Z:Nat->Prop}
theorem ak.KJ(z:Array ai)(hzz:∀ i (hi:i<z.size),VR fns E z[i] z[i])(el:cw)(k u v:Nat) :
 ak P fns Z E (Go.newRow el ((hQ k).map (z[·%z.size]!)) >>= λa=>cY (fY (some a) u v)) (Go.newRow el ((hQ k).map (z[·%z.size]!)) >>= λa=>cY (fY (some a) u v)) (λE' v v'=>VR fns E' v v') :=
 ak.bind (ak.newRow (uJ hzz k)) λ_ _ _ _ h=>ak.pure (aJ.2 ⟨_,rfl,.inl h.as⟩)
theorem ak.makeSlice(hz:zeros P fns)(t:cw)(ht:∀ e,P.underlying t=some (.slice e)->fns.tys e=true){l l' c c':ai}(hl:VR fns E l l')(hc:VR fns E c c'):ak P fns Z E (ed t l c) (ed t l' c') (λE' v v'=>VR fns E' v v'):=by
 unfold ed
 refine ak.bind (ak.underlying t) λE1 d d' dI e=>?_
 obtain⟨rfl,hu⟩:=e
 split
 .refine ak.bind (ak.asInt (hl.up dI)) λE2 n n' dY e=>?_
  subst e
  refine ak.bind (ak.asInt ((hc.up dI).up dY)) λE3 m m' gL e=>?_
  subst e
  refine ak.bind (ak.typeInfo _) λE4 i i' vD e=>?_
  obtain⟨rfl,_⟩:=e
  dsimp only
  split
  .refine ak.dies ?_
   split
   .exact aK.bind (aK.runtimePanic _)
   .split
    .exact aK.bind (aK.runtimePanic _)
    .refine aK.nW (λgh=>.inl ?_) λ_=>aK.bind (aK.runtimePanic _)
     rw[run_choose];split<;>exact⟨_,_,rfl⟩
  .refine ak.bind (ak.askRoom _) λE5 _ _ y9 _=>?_
   refine ak.bind (ak.sizeOf _) λE6 s s' Oc e=>?_
   subst e
   split
   .exact ak.KJ #[] (λi hi=>by simp at hi) _ _ _ _
   .refine ak.bind (ak.zeroValue hz _ (ht _ hu)) λE7 v v' up7 h=>?_
    obtain⟨rfl,hcl⟩:=h
    exact ak.KJ v'.cells (λi hi=>jg hcl i hi) _ _ _ _
 .exact ak.stuck
theorem ak.len(ts:Array cw)(t:cw){x:Array ai}(hx:aW fns E x x'):ak P fns Z E (Builtin.len_ ts t x) (Builtin.len_ ts t x') (λE' v v'=>VR fns E' v v'):=by
 unfold Builtin.len_
 cases h0:x[0]? with
 |none =>
  cases ts[0]?<;>exact ak.dies aK.stuck
 |some v =>
  obtain⟨v',h1,hv⟩:=hx.get? 0 h0
  rw[h1]
  cases ts[0]? with
  |none=>exact ak.dies aK.stuck
  |some ty =>
   refine ak.bind (ak.underlying ty) λE1 d d' dI e=>?_
   obtain⟨rfl,_⟩:=e
   have hv1:=hv.up dI
   split
   .rw[dP] at hv1;subst hv1;exact ak.pure (aG rfl)
   .exact ak.pure (aG rfl)
   .refine ak.bind (ak.underlying _) λE2 d d' dY e=>?_
    obtain⟨rfl,_⟩:=e
    split
    .exact ak.pure (aG rfl)
    .exact ak.stuck
   .obtain⟨b,rfl,_⟩:=aJ.1 hv1;exact ak.pure (aG rfl)
   .obtain⟨_,rfl⟩:=fG.1 hv1;exact ak.pure (aG rfl)
   .obtain⟨_,rfl⟩:=dL.1 hv1;exact ak.pure (aG rfl)
   .have:=fG.1 hv1;cases this.1
   .have:=dL.1 hv1;cases this.1
   .exact ak.stuck
theorem ak.cap(ts:Array cw)(t:cw){x:Array ai}(hx:aW fns E x x'):ak P fns Z E (Builtin.cap_ ts t x) (Builtin.cap_ ts t x') (λE' v v'=>VR fns E' v v'):=by
 unfold Builtin.cap_
 cases h0:x[0]? with
 |none =>
  cases ts[0]?<;>exact ak.dies aK.stuck
 |some v =>
  obtain⟨v',h1,hv⟩:=hx.get? 0 h0
  rw[h1]
  cases ts[0]? with
  |none=>exact ak.dies aK.stuck
  |some ty =>
   refine ak.bind (ak.underlying ty) λE1 d d' dI e=>?_
   obtain⟨rfl,_⟩:=e
   have hv1:=hv.up dI
   split
   .exact ak.pure (aG rfl)
   .refine ak.bind (ak.underlying _) λE2 d d' dY e=>?_
    obtain⟨rfl,_⟩:=e
    split
    .exact ak.pure (aG rfl)
    .exact ak.stuck
   .obtain⟨b,rfl,_⟩:=aJ.1 hv1;exact ak.pure (aG rfl)
   .obtain⟨_,rfl⟩:=dL.1 hv1;exact ak.pure (aG rfl)
   .obtain⟨h,_⟩:=dL.1 hv1;cases h
   .exact ak.stuck
theorem ak.lenOf{v:ai}(hv:VR fns E v v'):ak P fns Z E (Builtin.lenOf v) (Builtin.lenOf v') (λ_ n n'=>n'=n/\∀ a l c,v=.slice a l c->n=l):=by
 cases v with
 |slice a l c=>obtain⟨b,rfl,_⟩:=aJ.1 hv;exact ak.pure ⟨rfl,λ_ _ _ e=>by cases e;rfl⟩
 |string s=>rw[dP] at hv;subst hv;exact ak.pure ⟨rfl,λ_ _ _ e=>by cases e⟩
 |_=>exact ak.dies (aK.halt rfl)
theorem Ji(l:Array UInt8):aW fns E (l.map λb=>.int .u8 b.toNat) (l.map λb=>.int .u8 b.toNat):=⟨rfl,λi a b=>by simpa using aG rfl⟩
theorem ak.kW(size:Nat){v:ai}(hv:VR fns E v v'):ak P fns Z E (Builtin.firstCells size 0 v) (Builtin.firstCells size 0 v') (λ_ x x'=>x=#[]/\x'=#[]):=by
 have h0:∀ a:cy,pT a (0*size)=cY #[]:=λa=>by rw[Nat.zero_mul];rfl
 cases v with
 |slice a l c =>
  obtain⟨b,rfl,h⟩:=aJ.1 hv
  cases a with
  |none=>rw[wJ] at h;subst h;exact ak.pure ⟨rfl,rfl⟩
  |some a =>
   obtain⟨b',rfl⟩:=KG h
   show ak P fns Z E (pT a (0*size)) (pT b' (0*size)) _
   rw[h0,h0]
   exact ak.pure ⟨rfl,rfl⟩
 |string s =>
  rw[dP] at hv;subst hv
  have e:(s.extract 0 0).data.map (λb:UInt8=>Value.int .u8 b.toNat)=#[]:=by simp
  exact ak.pure ⟨e,e⟩
 |_=>exact ak.dies (aK.halt rfl)
theorem ak.firstCells(size n:Nat){v:ai}(hv:VR fns E v v')(hn:∀ a l c,v=.slice a l c->n<=l):ak P fns Z E (Builtin.firstCells size n v) (Builtin.firstCells size n v') (λE' x x'=>aW fns E' x x'):=by
 cases v with
 |slice a l c =>
  obtain⟨b,rfl,h⟩:=aJ.1 hv
  rcases h with h|⟨e1,e2,e3⟩
  .cases a with
   |none=>rw[iN] at h;subst h;exact ak.pure gJ
   |some a=>obtain⟨b',rfl,h⟩:=dV.1 h;exact ak.loadCells _ h
  .obtain rfl:n=0:=by have:=hn _ _ _ rfl;omega
   exact(ak.kW size hv).mono λ_ x x' _ e=>by rw[e.1,e.2];exact gJ
 |string s=>rw[dP] at hv;subst hv;exact ak.pure (Ji _)
 |_=>exact ak.dies (aK.halt rfl)
theorem kP{z:Array ai}(hz:∀ i (hi:i<z.size),VR fns E z[i] z[i])(n:Nat):aW fns E (Builtin.zeroCells z n) (Builtin.zeroCells z n):=uJ hz _
theorem ak.copy(ts:Array cw)(t:cw){x:Array ai}(hx:aW fns E x x'):ak P fns Z E (Builtin.copy_ ts t x) (Builtin.copy_ ts t x') (λE' v v'=>VR fns E' v v'):=by
 unfold Builtin.copy_
 cases h0:x[0]? with
 |none=>cases ts[0]?<;>exact ak.dies aK.stuck
 |some v =>
 cases h1:x[1]? with
 |none=>cases ts[0]?<;>exact ak.dies aK.stuck
 |some u =>
  obtain⟨v',g0,hv⟩:=hx.get? 0 h0
  obtain⟨u',g1,hu⟩:=hx.get? 1 h1
  rw[g0,g1]
  cases ts[0]? with
  |none=>exact ak.dies aK.stuck
  |some ty =>
   refine ak.bind (ak.underlying ty) λE1 d d' dI e=>?_
   obtain⟨rfl,_⟩:=e
   have hv1:=hv.up dI
   have hu1:=hu.up dI
   split
   .cases v with
    |slice a dl dc =>
     obtain⟨b,rfl,ha⟩:=aJ.1 hv1
     dsimp only
     refine ak.bind (ak.lenOf hu1) λE2 n n' dY e=>?_
     obtain⟨rfl,hlen⟩:=e
     refine ak.bind (ak.sizeOf _) λE3 s s' gL e=>?_
     subst e
     rcases ha with ha|⟨e1,e2,e3⟩
     rotate_left
     .subst e1 e2 e3
      rw[show Nat.min n' 0=0 from Nat.min_zero _]
      refine ak.bind (ak.kW _ ((hu1.up dY).up gL)) λE4 y y' vD hy=>?_
      obtain⟨rfl,rfl⟩:=hy
      cases a with
      |none=>exact ak.pure (aG rfl)
      |some a=>exact ak.bind (Φ:=λ_ _ _=>True) (ak.pure trivial) λE5 _ _ _ _=>ak.pure (aG rfl)
     refine ak.bind (ak.firstCells _ _ ((hu1.up dY).up gL) (λa l c e=>by rw[<-hlen a l c e];exact Nat.min_le_left _ _)) λE4 y y' vD hy=>?_
     have Nb:=((ha.up dY).up gL).up vD
     cases a with
     |none=>rw[iN] at Nb;subst Nb;exact ak.pure (aG rfl)
     |some a =>
      obtain⟨b',rfl,Uu⟩:=dV.1 Nb
      exact ak.bind (ak.storeCells _ _ 0 Uu (gW hy)) λE5 _ _ _ _=>ak.pure (aG rfl)
    |_=>exact ak.dies aK.stuck
   .exact ak.stuck
def isInt(d:TypeDesc):Bool:=d matches .int _
theorem nX(size sLen n:Nat)(base:Option cy)(x:ai)(gh:World):∃ a w,(Builtin.mayShare size sLen n base x).run P gh=.ok a w:=by
 have hold:∀ (a:cy) (c:Nat) (gh:World),∃ r,(Builtin.holdsCells a c).run P gh=.ok r gh:=λa c gh=>by
  unfold Builtin.holdsCells
  rw[cG,run_shape]
  cases h:gh.shape? a.block with
  |none=>exact⟨_,by rw[cQ];rfl⟩
  |some s=>exact⟨_,by rw[cQ];rfl⟩
 have last:∀ (b:cy) (f:Bool->Bool) (gh:World),∃ a w,(Builtin.holdsCells b (n*size) >>= λr=>cY (f r)).run P gh=.ok a w:=λb f gh=>by
  obtain⟨r,hr⟩:=hold b (n*size) gh
  exact⟨_,_,by rw[cG,hr,cQ];rfl⟩
 unfold Builtin.mayShare
 cases base with
 |none =>
  dsimp only
  split
  .exact last _ (λr=>!r||_) gh
  .exact⟨_,_,rfl⟩
 |some a =>
  obtain⟨r,hr⟩:=hold a (sLen*size) gh
  simp only[cG,hr,cQ,run_frozen,Sem.run_pure]
  split
  .exact⟨_,_,rfl⟩
  .split
   .exact last _ (λr=>!r||_) gh
   .exact⟨_,_,rfl⟩
theorem ak.append(hz:zeros P fns)(ts:Array cw)(t:cw)(ht:∀ t e,ts[0]?=some t->P.underlying t=some (.slice e)->fns.tys e=true)(hi:∀ xt d,ts[1]?=some xt->P.underlying xt=some d->isInt d=false){x:Array ai}(hx:aW fns E x x'):ak P fns Z E (Builtin.append_ ts t x) (Builtin.append_ ts t x') (λE' v v'=>VR fns E' v v'):=by
 unfold Builtin.append_
 cases h0:x[0]? with
 |none=>cases ts[0]?<;>exact ak.dies aK.stuck
 |some v =>
 cases h1:x[1]? with
 |none=>cases ts[0]?<;>exact ak.dies aK.stuck
 |some u =>
  obtain⟨v',g0,hv⟩:=hx.get? 0 h0
  obtain⟨u',g1,hu⟩:=hx.get? 1 h1
  rw[g0,g1]
  cases hty:ts[0]? with
  |none=>exact ak.dies aK.stuck
  |some ty =>
   refine ak.bind (ak.underlying ty) λE1 d d' dI e=>?_
   obtain⟨rfl,hun⟩:=e
   split
   .cases v with
    |slice a dl dc =>
     obtain⟨b,rfl,ha⟩:=aJ.1 (hv.up dI)
     dsimp only
     refine ak.bind (ak.sizeOf _) λE2 s s' dY e=>?_
     subst e
     cases hxt:ts[1]? with
     |none =>
      dsimp only
      refine ak.bind (Φ:=λ_ z z'=>z=false/\z'=false) (ak.pure ⟨rfl,rfl⟩) λE3 z z' gL e=>?_
      obtain⟨rfl,rfl⟩:=e
      simp only[cH,if_false,nz,if_true,false_or]
      have hu3:=((hu.up dI).up dY).up gL
      have Hl:=(ha.up dY).up gL
      refine ak.bind (ak.lenOf hu3) λE4 n n' vD e=>?_
      obtain⟨rfl,hlen⟩:=e
      have YG:=hu3.up vD
      have Nb:=Hl.up vD
      split
      .rename_i hfit
       rcases Nb with Nb|⟨e1,e2,e3⟩
       rotate_left
       .subst e1 e2 e3
        obtain rfl:n'=0:=by omega
        refine ak.bind (ak.kW _ YG) λE5 y y' y9 hy=>?_
        obtain⟨rfl,rfl⟩:=hy
        cases a with
        |none=>exact ak.pure (aJ.2 ⟨_,rfl,.inr ⟨rfl,rfl,rfl⟩⟩)
        |some a=>exact ak.bind (Φ:=λ_ _ _=>True) (ak.pure trivial) λE6 _ _ Oc _=>ak.pure (aJ.2 ⟨_,rfl,.inr ⟨rfl,rfl,rfl⟩⟩)
       refine ak.bind (ak.firstCells _ _ YG (λa l c e=>by rw[<-hlen a l c e];exact al _)) λE5 y y' y9 hy=>?_
       have Uu:=Nb.up y9
       cases a with
       |none=>rw[iN] at Uu;subst Uu;exact ak.pure (aJ.2 ⟨_,rfl,.inl trivial⟩)
       |some a =>
        obtain⟨b',rfl,ha6⟩:=dV.1 Uu
        exact ak.bind (ak.storeCells _ _ 0 (ha6.add _) (gW hy)) λE6 _ _ Oc _=>ak.pure (aJ.2 ⟨_,rfl,.inl (ha6.up Oc)⟩)
      .refine ak.bind (ak.typeInfo _) λE5 i i' y9 e=>?_
       obtain⟨rfl,_⟩:=e
       split
       .exact ak.dies (aK.bind (aK.runtimePanic _))
       .refine ak.bind (ak.typeInfo _) λE6 i i' Oc e=>?_
        obtain⟨rfl,_⟩:=e
        split
        .refine ak.dies (aK.bind (aK.nW (λgh=>.inl (nX _ _ _ _ _ gh)) λr=>?_))
         split
         .exact aK.nW (λgh=>.inl ⟨_,_,rfl⟩) λ_=>aK.halt rfl
         .exact aK.halt rfl
        .refine ak.bind ak.choose λE7 c c' up7 e=>?_
         subst e
         refine ak.bind (ak.typeInfo _) λE8 i i' up8 e=>?_
         obtain⟨rfl,_⟩:=e
         refine ak.bind (ak.askRoom _) λE9 _ _ up9 _=>?_
         have up:∀ a b,E4 a b->E9 a b:=λa b q=>up9 _ _ (up8 _ _ (up7 _ _ (Oc _ _ (y9 _ _ q))))
         refine ak.bind (ak.firstCells _ _ (aJ.2 ⟨_,rfl,Nb.up up⟩) (λ_ _ _ e=>by cases e;exact al _)) λF1 y y' uq1 hy=>?_
         refine ak.bind (ak.firstCells _ _ ((YG.up up).up uq1) (λa l c e=>by rw[<-hlen a l c e];exact al _)) λF2 k k' uq2 hk=>?_
         refine ak.bind (ak.zeroValue hz _ (ht ty _ hty hun)) λF3 v v' uq3 h=>?_
         obtain⟨rfl,hcl⟩:=h
         have hall:=(((hy.up uq2).append hk).up uq3).append (kP (E:=F3) (λi hi=>jg hcl i hi) (c'-(dl+n')))
         exact ak.bind (ak.newRow hall) λF4 a a' uq4 h=>ak.pure (aJ.2 ⟨_,rfl,.inl h.as⟩)
     |some xt =>
      dsimp only
      refine ak.bind (ak.underlying xt) λE2' d d' afP e=>?_
      obtain⟨rfl,hd⟩:=e
      have hno:=hi xt d' hxt hd
      have dY:∀ a b,E1 a b->E2' a b:=λa b q=>afP _ _ (dY _ _ q)
      refine ak.bind (Φ:=λ_ z z'=>z=false/\z'=false) (ak.pure ⟨hno,hno⟩) λE3 z z' gL e=>?_
      obtain⟨rfl,rfl⟩:=e
      simp only[cH,if_false,nz,if_true,false_or]
      have hu3:=((hu.up dI).up dY).up gL
      have Hl:=(ha.up dY).up gL
      refine ak.bind (ak.lenOf hu3) λE4 n n' vD e=>?_
      obtain⟨rfl,hlen⟩:=e
      have YG:=hu3.up vD
      have Nb:=Hl.up vD
      split
      .rename_i hfit
       rcases Nb with Nb|⟨e1,e2,e3⟩
       rotate_left
       .subst e1 e2 e3
        obtain rfl:n'=0:=by omega
        refine ak.bind (ak.kW _ YG) λE5 y y' y9 hy=>?_
        obtain⟨rfl,rfl⟩:=hy
        cases a with
        |none=>exact ak.pure (aJ.2 ⟨_,rfl,.inr ⟨rfl,rfl,rfl⟩⟩)
        |some a=>exact ak.bind (Φ:=λ_ _ _=>True) (ak.pure trivial) λE6 _ _ Oc _=>ak.pure (aJ.2 ⟨_,rfl,.inr ⟨rfl,rfl,rfl⟩⟩)
       refine ak.bind (ak.firstCells _ _ YG (λa l c e=>by rw[<-hlen a l c e];exact al _)) λE5 y y' y9 hy=>?_
       have Uu:=Nb.up y9
       cases a with
       |none=>rw[iN] at Uu;subst Uu;exact ak.pure (aJ.2 ⟨_,rfl,.inl trivial⟩)
       |some a =>
        obtain⟨b',rfl,ha6⟩:=dV.1 Uu
        exact ak.bind (ak.storeCells _ _ 0 (ha6.add _) (gW hy)) λE6 _ _ Oc _=>ak.pure (aJ.2 ⟨_,rfl,.inl (ha6.up Oc)⟩)
      .refine ak.bind (ak.typeInfo _) λE5 i i' y9 e=>?_
       obtain⟨rfl,_⟩:=e
       split
       .exact ak.dies (aK.bind (aK.runtimePanic _))
       .refine ak.bind (ak.typeInfo _) λE6 i i' Oc e=>?_
        obtain⟨rfl,_⟩:=e
        split
        .refine ak.dies (aK.bind (aK.nW (λgh=>.inl (nX _ _ _ _ _ gh)) λr=>?_))
         split
         .exact aK.nW (λgh=>.inl ⟨_,_,rfl⟩) λ_=>aK.halt rfl
         .exact aK.halt rfl
        .refine ak.bind ak.choose λE7 c c' up7 e=>?_
         subst e
         refine ak.bind (ak.typeInfo _) λE8 i i' up8 e=>?_
         obtain⟨rfl,_⟩:=e
         refine ak.bind (ak.askRoom _) λE9 _ _ up9 _=>?_
         have up:∀ a b,E4 a b->E9 a b:=λa b q=>up9 _ _ (up8 _ _ (up7 _ _ (Oc _ _ (y9 _ _ q))))
         refine ak.bind (ak.firstCells _ _ (aJ.2 ⟨_,rfl,Nb.up up⟩) (λ_ _ _ e=>by cases e;exact al _)) λF1 y y' uq1 hy=>?_
         refine ak.bind (ak.firstCells _ _ ((YG.up up).up uq1) (λa l c e=>by rw[<-hlen a l c e];exact al _)) λF2 k k' uq2 hk=>?_
         refine ak.bind (ak.zeroValue hz _ (ht ty _ hty hun)) λF3 v v' uq3 h=>?_
         obtain⟨rfl,hcl⟩:=h
         have hall:=(((hy.up uq2).append hk).up uq3).append (kP (E:=F3) (λi hi=>jg hcl i hi) (c'-(dl+n')))
         exact ak.bind (ak.newRow hall) λF4 a a' uq4 h=>ak.pure (aJ.2 ⟨_,rfl,.inl h.as⟩)
    |_=>exact ak.dies aK.stuck
   .exact ak.stuck
variable {a a' b b':cy} {y y':ai}
variable {P:ar} {fns:Fx} {E E' Ei:Nat->Nat->Prop} {Z:Nat->Prop}
theorem ak.intArith(op:BinOp)(k:IntKind)(a b:Int):ak P fns Z E (Op.intArith op k a b) (Op.intArith op k a b) (λE' v v'=>VR fns E' v v'):=by
 unfold Op.intArith
 split<;>first|exact ak.pure (aG rfl)|exact ak.stuck
theorem ak.intBits(op:BinOp)(k:IntKind)(a b:Int):ak P fns Z E (Op.intBits op k a b) (Op.intBits op k a b) (λE' v v'=>VR fns E' v v'):=by
 unfold Op.intBits
 dsimp only
 split<;>first|exact ak.pure (aG rfl)|exact ak.stuck
theorem ak.intDiv(op:BinOp)(k:IntKind)(a b:Int):ak P fns Z E (Op.intDiv op k a b) (Op.intDiv op k a b) (λE' v v'=>VR fns E' v v'):=by
 unfold Op.intDiv
 split
 .exact ak.dies (aK.runtimePanic _)
 .split<;>first|exact ak.pure (aG rfl)|exact ak.stuck
theorem ak.intCmp(op:BinOp)(a b:Int):ak P fns Z E (Op.intCmp op a b) (Op.intCmp op a b) (λE' v v'=>VR fns E' v v'):=by
 unfold Op.intCmp
 split<;>first|exact ak.pure (aG rfl)|exact ak.stuck
theorem ak.shift(op:BinOp)(k:IntKind)(a:Int)(yk:IntKind)(b:Int):ak P fns Z E (Op.shift op k a yk b) (Op.shift op k a yk b) (λE' v v'=>VR fns E' v v'):=by
 unfold Op.shift
 split
 .exact ak.dies (aK.runtimePanic _)
 .dsimp only
  split<;>first|exact ak.pure (aG rfl)|exact ak.stuck
theorem ak.stringOp(op:BinOp)(a b:ByteArray):ak P fns Z E (Op.stringOp op a b) (Op.stringOp op a b) (λE' v v'=>VR fns E' v v'):=by
 unfold Op.stringOp
 dsimp only
 split
 .split
  .exact ak.dies (aK.halt rfl)
  .exact ak.pure (aG rfl)
 all_goals first|exact ak.pure (aG rfl)|exact ak.stuck
theorem ak.unary(op:UnOp){v v':ai}(hv:VR fns E v v'):ak P fns Z E (Op.unary op v) (Op.unary op v') (λE' v v'=>VR fns E' v v'):=by
 cases v with
 |int k n =>
  rw[dH] at hv;subst hv
  cases op
  all_goals first
   |exact ak.dies (aK.halt rfl)
   |exact(ak.intArith .sub k 0 n:ak P fns Z E (Op.intArith .sub k 0 n) (Op.intArith .sub k 0 n) _)
   |exact(ak.intBits .xor k (if k.signed then -1 else k.max) n)
 |bool b =>
  rw[mF] at hv;subst hv
  cases op<;>first|exact ak.pure (aG rfl)|exact ak.dies (aK.halt rfl)
 |float=>exact(cB hv).elim
 |complex=>exact(bQ hv).elim
 |pointer a=>cases a<;>cases op<;>exact ak.dies (aK.halt rfl)
 |_=>cases op<;>exact ak.dies (aK.halt rfl)
theorem Ah(P:ar)(fns:Fx)(d:Nat)(t:cw)(o:Nat):cellOfByte (fns.re P) d t o=cellOfByte P d t o:=by
 induction d generalizing t o with
 |zero=>rfl
 |succ d ih =>
  unfold cellOfByte
  simp only[ih]
  rfl
theorem za(P:ar)(fns:Fx)(d:Nat)(e:cw)(k off:Nat)(n:Int):cellAtBytes (fns.re P) d e k off n=cellAtBytes P d e k off n:=by
 unfold cellAtBytes
 simp only[p9,Ah]
 rfl
theorem Qq{p:ar}{d:Nat}{e:cw}{k k' off:Nat}{n:Int}{o:Nat}(h:k<=k')(hc:cellAtBytes p d e k off n=some o):cellAtBytes p d e k' off n=some o:=by
 unfold cellAtBytes at hc ⊢
 have hk:∀ w:Nat,Int.ofNat (k*w)<=Int.ofNat (k'*w):=λw=>Int.ofNat_le.2 (Nat.mul_le_mul_right w h)
 have:=hk (p.bytesOf e)
 simp only[bind,Option.bind,fN,decide_eq_true_eq] at hc ⊢
 split at hc
 .cases hc
 .rename_i h1
  rw[if_neg h1]
  split at hc
  .cases hc
  .rename_i x hx
   simp only[hx] at hc ⊢
   split at hc
   .cases hc
   .rename_i h2
    rw[if_neg (by omega)]
    exact hc
theorem ak.wrE{α β:Type}{s:Sem α}{s':Sem β}{Φ:(Nat->Nat->Prop)->α->β->Prop}(h:(∃ gh re,WR P fns E Z gh re)->ak P fns Z E s s' Φ):ak P fns Z E s s' Φ:=λgh re hw=>h ⟨gh,re,hw⟩ gh re hw
theorem ak.unsafeAdd(t:cw){a a':Option cy}(ha:OA fns E a a')(hy:VR fns E y y'):ak P fns Z E (Builtin.unsafeAdd_ #[] t #[.pointer a,y]) (Builtin.unsafeAdd_ #[] t #[.pointer a',y']) (λE' v v'=>VR fns E' v v'):=by
 unfold Builtin.unsafeAdd_
 refine ak.wrE λ⟨gh,re,hw⟩=>?_
 dsimp only
 refine ak.bind (ak.asInt hy) λE1 n n' dI e=>?_
 subst e
 have ha1:=ha.up dI
 split
 .cases a with
  |none=>rw[jV] at ha1;subst ha1;exact ak.dies (aK.halt rfl)
  |some a =>
   obtain⟨b,rfl,hb⟩:=dF.1 ha1
   refine ak.bind (ak.viewAt hb.1) λE2 s s' dY e=>?_
   obtain⟨rfl,rfl⟩:=e
   exact ak.pure (aM.2 ⟨_,rfl,hb.up dY⟩)
 .rename_i hn0
  split
  .exact ak.dies (aK.bind (aK.halt rfl))
  .rename_i hn1
   cases a with
   |none=>rw[jV] at ha1;subst ha1;exact ak.dies (aK.halt rfl)
   |some a =>
    obtain⟨b,rfl,hb⟩:=dF.1 ha1
    refine ak.bind (ak.shape hb.1) λE2 s s' dY e=>?_
    rcases e with ⟨rfl,rfl⟩|⟨el,k,k',rfl,rfl,hk⟩
    .exact ak.dies (aK.halt rfl)
    .dsimp only
     refine ak.bind ak.program λE3 p q gL e=>?_
     obtain⟨rfl,rfl⟩:=e
     rw[<-hb.2.1,show (fns.re p).depth=p.depth from rfl,show (fns.re p).cellsOf el=p.cellsOf el from rfl,za]
     cases hc:cellAtBytes p p.depth el (k/p.cellsOf el) a.off n' with
     |none=>exact ak.dies (aK.halt rfl)
     |some o =>
      rw[Qq (Nat.div_le_div_right hk) hc]
      refine ak.pure (aM.2 ⟨_,rfl,gL _ _ (dY _ _ hb.1),rfl,hb.2.2.1,hb.2.2.2.1,?_⟩)
      rcases hb.2.2.2.1 with hf|hp
      .exact Nat.le_trans hb.2.2.2.2 (hw.jQ.2 hf el _ a.off n' o (by omega) hc)
      .exact(fns.KF hp _).2
theorem ak.movedNumber(t:cw){a a':Option cy}(ha:OA fns E a a')(hy:VR fns E y y'):ak P fns Z E (oE t (.pointer a) y) (oE t (.pointer a') y') (λE' v v'=>VR fns E' v v'):=by
 unfold oE
 cases a with
 |none =>
  rw[jV] at ha;subst ha
  refine ak.bind (ak.underlying t) λE1 d d' dI e=>?_
  obtain⟨rfl,-⟩:=e
  cases d'<;>first
   |exact ak.unsafeAdd t (a:=none) (a':=none) trivial (hy.up dI)
   |exact ak.dies (show aK P (Go.unsupported _ >>= λ_=>Builtin.unsafeAdd_ #[] t #[.pointer none,y]) from aK.bind (aK.halt rfl))
 |some a =>
  obtain⟨b,rfl,hb⟩:=dF.1 ha
  refine ak.bind (ak.underlying t) λE1 d d' dI e=>?_
  obtain⟨rfl,-⟩:=e
  dsimp only
  split
  .rw[if_pos rfl];exact ak.dies (aK.bind (aK.halt rfl))
  .simp only[cH,if_false]
   refine ak.bind (ak.behindNumber (hb.up dI)) λE2 s s' dY e=>?_
   obtain⟨e1,e2⟩:=e
   rw[<-e2]
   refine ak.bind (ak.unsafeAdd t (a:=some s.1) (a':=some s'.1) e1 ((hy.up dI).up dY)) λE3 v v' gL hv=>?_
   cases v with
   |pointer p =>
    obtain⟨p',rfl,hp⟩:=aM.1 hv
    cases p with
    |none=>rw[jV] at hp;subst hp;exact ak.pure (aG rfl)
    |some p=>obtain⟨q,rfl,hq⟩:=dF.1 hp;exact ak.asNumber hq _
   |float=>exact(cB hv).elim
   |complex=>exact(bQ hv).elim
   |slice a l c=>obtain⟨b,rfl,_⟩:=aJ.1 hv;exact ak.pure hv
   |map r=>obtain⟨rfl,rfl⟩:=fG.1 hv;exact ak.pure hv
   |chan r=>obtain⟨rfl,rfl⟩:=dL.1 hv;exact ak.pure hv
   |func f x y=>obtain⟨x',y',rfl,_⟩:=dD.1 hv;exact ak.pure hv
   |iface t u=>obtain⟨u',rfl,_⟩:=bK.1 hv;exact ak.pure hv
   |agg x=>obtain⟨x',rfl,_⟩:=bY.1 hv;exact ak.pure hv
   |tuple x=>obtain⟨x',rfl,_⟩:=bL.1 hv;exact ak.pure hv
   |_=>have:=hv;rw[VR] at this;subst this;exact ak.pure hv
theorem ak.movedPointer(t:cw){a a':Option cy}(ha:OA fns E a a')(hy:VR fns E y y'):ak P fns Z E (nF t (.pointer a) y) (nF t (.pointer a') y') (λE' v v'=>VR fns E' v v'):=by
 unfold nF
 cases a with
 |none=>rw[jV] at ha;subst ha;exact ak.unsafeAdd t (a:=none) (a':=none) trivial hy
 |some a =>
  obtain⟨b,rfl,hb⟩:=dF.1 ha
  dsimp only
  refine ak.bind (ak.numberAt hb.1) λE2 s s' dY e=>?_
  rcases e with ⟨rfl,rfl⟩|⟨y,y',l,rfl,rfl,_⟩
  .exact ak.unsafeAdd t (a:=some a) (a':=some b) (hb.up dY) (hy.up dY)
  .exact ak.dies (aK.bind (aK.halt rfl))
theorem ak.twoPlaces(ha:AR fns E a a')(hb:AR fns E b b'):ak P fns Z E (Op.twoPlaces a b) (Op.twoPlaces a' b') (λ_ n n'=>n'=n):=by
 refine ak.wrE λ⟨gh,re,hw⟩=>?_
 unfold Op.twoPlaces
 refine ak.bind ak.program λE1 p q dI e=>?_
 obtain⟨rfl,rfl⟩:=e
 rw[show (fns.re p).globals=p.globals from rfl]
 have e1:(a'.block != b'.block||decide (a'.block≥p.globals.size))=(a.block != b.block||decide (a.block≥p.globals.size)):=by
  have i:=hw.inj _ _ _ _ ha.1 hb.1
  have g:=hw.glob _ _ ha.1
  have g1:(a'.block != b'.block)=(a.block != b.block):=by
   by_cases h:a.block=b.block
   .rw[h,i.1 h,bne_self_eq_false,bne_self_eq_false]
   .rw[bne_iff_ne.2 h,bne_iff_ne.2 λx=>h (i.2 x ha.2.2.2.1)]
  have g2:decide (a'.block≥p.globals.size)=decide (a.block≥p.globals.size):=by
   rw[decide_eq_decide]
   by_cases hh:a.block<=p.globals.size\/a'.block<=p.globals.size
   .rw[g hh]
   .constructor<;>intro _<;>omega
  rw[g1,g2]
 rw[e1]
 dsimp only
 split
 .exact ak.dies (aK.bind (aK.halt rfl))
 .refine ak.bind (ak.byteOf (ha.up dI).as) λE2 n n' dY e=>?_
  subst e
  refine ak.bind (ak.byteOf ((hb.up dI).up dY).as) λE3 n n' gL e=>?_
  subst e
  exact ak.pure rfl
theorem ak.addrSub(k:IntKind)(ha:AR fns E a a')(hb:AR fns E b b'):ak P fns Z E (Op.addrSub k a b) (Op.addrSub k a' b') (λE' v v'=>VR fns E' v v'):=by
 unfold Op.addrSub
 refine ak.bind (ak.twoPlaces ha hb) λE2 n n' dY e=>?_
 subst e
 exact ak.pure (aG rfl)
theorem ak.addrCmp(op:BinOp)(ha:AR fns E a a')(hb:AR fns E b b'):ak P fns Z E (Op.addrCmp op a b) (Op.addrCmp op a' b') (λE' v v'=>VR fns E' v v'):=by
 unfold Op.addrCmp
 refine ak.bind (ak.twoPlaces ha hb) λE2 n n' dY e=>?_
 subst e
 dsimp only
 split<;>first|exact ak.pure (aG rfl)|exact ak.dies (aK.halt rfl)
theorem ak.addrMod(k:IntKind)(ha:AR fns E a a')(n:Int):ak P fns Z E (Op.addrMod k a n) (Op.addrMod k a' n) (λE' v v'=>VR fns E' v v'):=by
 unfold Op.addrMod
 refine ak.bind (ak.shape ha.1) λE1 s s' dI e=>?_
 rcases e with ⟨rfl,rfl⟩|⟨el,k,k',rfl,rfl,hk⟩
 .exact ak.dies (aK.halt rfl)
 .dsimp only
  refine ak.bind (ak.typeInfo _) λE2 i i' dY e=>?_
  obtain⟨rfl,_⟩:=e
  split
  .exact ak.dies (aK.bind (aK.halt rfl))
  .refine ak.bind (ak.byteOf ((ha.up dI).up dY).as) λE3 n n' gL e=>?_
   subst e
   exact ak.pure (aG rfl)
variable {y:da} {t:cw} {a a' b b':ai}
variable {P:ar} {fns:Fx} {E E' Ei:Nat->Nat->Prop} {Z:Nat->Prop}
def simple:TypeDesc->Bool
 | .int _ | .bool | .string=>true
 |_=>false
theorem ak.vE{t:cw}(hs:∀ d,P.underlying t=some d->simple d=true):∀ (n:Nat) {E:Nat->Nat->Prop} {x x' y y':ai},VR fns E x x'->VR fns E y y'->ak P fns Z E (Op.equalIn n t x y) (Op.equalIn n t x' y') (λ_ b b'=>b'=b)
 |0,E,x,x',y,y',hx,hy=>by unfold Op.equalIn;exact ak.dies (aK.halt rfl)
 |n+1,E,x,x',y,y',hx,hy=>by
  unfold Op.equalIn
  refine ak.bind (ak.underlying t) λE1 d d' dI e=>?_
  obtain⟨rfl,hd⟩:=e
  have hsd:=hs _ hd
  have hx1:=hx.up dI
  have hy1:=hy.up dI
  clear hx hy hd
  split
  .rw[mF] at hx1 hy1;subst hx1;subst hy1;exact ak.pure rfl
  .rw[dH] at hx1 hy1;subst hx1;subst hy1
   dsimp only
   split
   .exact ak.pure rfl
   .exact ak.stuck
  .obtain⟨b,rfl,hb⟩:=aM.1 hx1
   obtain⟨b',rfl,hb⟩:=dF.1 hb
   rw[dH] at hy1;subst hy1
   exact ak.pure rfl
  .obtain⟨b,rfl,hb⟩:=aM.1 hy1
   obtain⟨b',rfl,hb⟩:=dF.1 hb
   rw[dH] at hx1;subst hx1
   exact ak.pure rfl
  .obtain⟨b,rfl,hb⟩:=aM.1 hx1
   obtain⟨a',rfl,ha⟩:=dF.1 hb
   obtain⟨b,rfl,hb⟩:=aM.1 hy1
   obtain⟨b',rfl,hb⟩:=dF.1 hb
   dsimp only
   refine ak.bind (ak.behindNumber ha) λE2 s s' dY e1=>?_
   refine ak.bind (ak.behindNumber (hb.up dY)) λE3 u u' gL e2=>?_
   have k1:=e1.1.up gL
   have k2:=e2.1
   refine ak.wrE λ⟨gh,re,hw⟩=>?_
   have i:s.1.block=u.1.block↔s'.1.block=u'.1.block:=⟨(hw.inj _ _ _ _ k1.1 k2.1).1,λx=>(hw.inj _ _ _ _ k1.1 k2.1).2 x k1.2.2.2.1⟩
   have g:=hw.glob _ _ k1.1
   refine ak.bind ak.program λE4 p q vD e=>?_
   obtain⟨rfl,rfl⟩:=e
   rw[show (fns.re p).globals=p.globals from rfl]
   have e3:(s'.1.block==u'.1.block&&decide (s'.1.block<p.globals.size))=(s.1.block==u.1.block&&decide (s.1.block<p.globals.size)):=by
    have g1:(s'.1.block==u'.1.block)=(s.1.block==u.1.block):=by
     by_cases h:s.1.block=u.1.block
     .rw[h,i.1 h,beq_self_eq_true,beq_self_eq_true]
     .rw[beq_eq_false_iff_ne.2 h,beq_eq_false_iff_ne.2 λx=>h (i.2 x)]
    have g2:decide (s'.1.block<p.globals.size)=decide (s.1.block<p.globals.size):=by
     rw[decide_eq_decide]
     by_cases hh:s.1.block<=p.globals.size\/s'.1.block<=p.globals.size
     .rw[g hh]
     .constructor<;>intro _<;>omega
    rw[g1,g2]
   rw[e3]
   split
   .refine ak.bind (ak.byteOf (k1.up vD).as) λE5 n n' y9 e=>?_
    subst e
    refine ak.bind (ak.byteOf ((k2.up vD).up y9).as) λE6 n n' Oc e=>?_
    subst e
    exact ak.pure rfl
   .refine ak.bind (ak.typeInfo _) λE5 i i' y9 e=>?_
    obtain⟨rfl,_⟩:=e
    have e4:(s'.1==u'.1)=(s.1==u.1):=by
     obtain⟨⟨s1,s2,s3⟩,_⟩:=s
     obtain⟨⟨s1',s2',s3'⟩,_⟩:=s'
     obtain⟨⟨u1,u2,u3⟩,_⟩:=u
     obtain⟨⟨u1',u2',u3'⟩,_⟩:=u'
     obtain⟨_,k12,k13,_⟩:=k1
     obtain⟨_,k22,k23,_⟩:=k2
     simp only at k12 k13 k22 k23 i ⊢
     subst k12 k13 k22 k23
     rw[Bool.eq_iff_iff]
     simp[i]
    split
    .rw[e4]
     split
     .exact ak.pure rfl
     .exact ak.dies (aK.halt rfl)
    .exact ak.dies (aK.halt rfl)
  .exact ak.dies (aK.halt rfl)
  .exact ak.dies (aK.halt rfl)
  all_goals first
   | (cases hsd;done)
   | (rw[dP] at hx1 hy1;subst hx1;subst hy1;exact ak.pure rfl)
   |exact ak.stuck
theorem ak.Qr{t:cw}{y:ai}(hy:y=.nilIface\/∃ l c,y=.slice none l c):∀ (n:Nat) {E:Nat->Nat->Prop} {x x':ai},VR fns E x x'->ak P fns Z E (Op.equalIn n t x y) (Op.equalIn n t x' y) (λ_ b b'=>b'=b)
 |0,E,x,x',hx=>by unfold Op.equalIn;exact ak.dies (aK.halt rfl)
 |n+1,E,x,x',hx=>by
  unfold Op.equalIn
  refine ak.bind (ak.underlying t) λE1 d d' dI e=>?_
  obtain⟨rfl,-⟩:=e
  have hx1:=hx.up dI
  clear hx
  rcases hy with rfl|⟨l,c,rfl⟩
  .split
   all_goals first
    |exact ak.stuck
    |exact ak.dies (aK.halt rfl)
    | (rw[eG] at hx1;subst hx1;exact ak.pure rfl)
    | (obtain⟨u',rfl,_⟩:=bK.1 hx1;exact ak.pure rfl)
    | (rename_i h;cases h)
    | (rename_i h _;cases h)
  .split
   all_goals first
    |exact ak.stuck
    |exact ak.dies (aK.halt rfl)
    | (obtain⟨b,rfl,hb⟩:=aJ.1 hx1;rw[wJ] at hb;subst hb;exact ak.pure rfl)
    | (obtain⟨b,rfl,hb⟩:=aJ.1 hx1;cases b<;>exact ak.pure rfl)
    | (rename_i h;cases h;done)
    | (rename_i h _;cases h;done)
    | (rename_i h;cases h;obtain⟨b,rfl,hb⟩:=aJ.1 hx1;rw[wJ] at hb;subst hb;exact ak.pure rfl)
    | (rename_i hne h;cases h;obtain⟨b,rfl,hb⟩:=aJ.1 hx1;cases b with|none=>exact(hne (by rename_i a _ _;cases a<;>first|rfl|(obtain⟨_,e⟩:=KG hb;cases e))).elim|some b=>exact ak.pure rfl)
def rR(P:ar)(t:cw)(y:da):Bool :=
 match y with
 | .const .nilIface=>true
 | .const (.slice none _ _)=>true
 |_=>match P.underlying t with
  |some d=>simple d
  |none=>true
theorem iK(h:rR P t y=true):(y=.const .nilIface\/∃ l c,y=.const (.slice none l c))\/∀ d,P.underlying t=some d->simple d=true:=by
 unfold rR at h
 split at h
 .exact .inl (.inl rfl)
 .exact .inl (.inr ⟨_,_,rfl⟩)
 .refine .inr λd hd=>?_
  rw[hd] at h;exact h
theorem ak.equal(h:rR P t y=true){x x':ai}(hx:VR fns E x x')(hb:VR fns E b b')(hy:∀ v,y=.const v->b=v):ak P fns Z E (Op.equal t x b) (Op.equal t x' b') (λ_ r r'=>r'=r):=by
 rcases iK h with h|h
 .have e:b=.nilIface\/∃ l c,b=.slice none l c:=by
   rcases h with h|⟨l,c,h⟩
   .exact .inl (hy _ h)
   .exact .inr ⟨l,c,hy _ h⟩
  have e':b'=b:=by
   rcases e with rfl|⟨l,c,rfl⟩
   .rw[eG] at hb;exact hb
   .obtain⟨q,rfl,hq⟩:=aJ.1 hb;rw[wJ] at hq;rw[hq]
  subst e'
  exact ak.Qr e _ hx
 .exact ak.vE h _ hx hb
theorem rT{t:cw}(hs:∀ d,P.underlying t=some d->simple d=true):∀ (n:Nat) {E:Nat->Nat->Prop} {x x' y y':ai},ak P fns Z E (Op.eqGuardIn n t x y) (Op.eqGuardIn n t x' y') (λ_ b b'=>b=false/\b'=false)
 |0,E,x,x',y,y'=>by unfold Op.eqGuardIn;exact ak.dies (aK.halt rfl)
 |n+1,E,x,x',y,y'=>by
  unfold Op.eqGuardIn
  refine ak.bind (ak.underlying t) λE1 d d' dI e=>?_
  obtain⟨rfl,hd⟩:=e
  have:=hs _ hd
  cases d'<;>first|(cases this;done)|exact ak.pure ⟨rfl,rfl⟩
theorem gX(hs:∀ d,P.underlying t=some d->simple d=true)(n:Nat):P.eqGuardType (n+1) t=false:=by
 unfold Program.eqGuardType
 cases h:P.underlying t with
 |none=>rfl
 |some d=>have:=hs _ h;cases d<;>first|(cases this;done)|rfl
theorem gY{v:ai}(h:VR fns E v .nilIface):v=.nilIface:=by
 cases v with
 |nilIface=>rfl
 |pointer a=>obtain⟨b,h,_⟩:=aM.1 h;cases h
 |slice a l c=>obtain⟨b,h,_⟩:=aJ.1 h;cases h
 |map r=>obtain⟨_,h⟩:=fG.1 h;cases h
 |chan r=>obtain⟨_,h⟩:=dL.1 h;cases h
 |func f x y=>obtain⟨x',y',h,_⟩:=dD.1 h;cases h
 |iface t u=>obtain⟨u',h,_⟩:=bK.1 h;cases h
 |agg x=>obtain⟨x',h,_⟩:=bY.1 h;cases h
 |tuple x=>obtain⟨x',h,_⟩:=bL.1 h;cases h
 |float=>exact(cB h).elim
 |complex=>exact(bQ h).elim
 |_=>rw[VR] at h;cases h
theorem oU{v:ai}{x':Array ai}(h:VR fns E v (.agg x')):∃ x,v=.agg x:=by
 cases v with
 |agg x=>exact⟨x,rfl⟩
 |pointer a=>obtain⟨b,h,_⟩:=aM.1 h;cases h
 |slice a l c=>obtain⟨b,h,_⟩:=aJ.1 h;cases h
 |map r=>obtain⟨_,h⟩:=fG.1 h;cases h
 |chan r=>obtain⟨_,h⟩:=dL.1 h;cases h
 |func f x y=>obtain⟨x',y',h,_⟩:=dD.1 h;cases h
 |iface t u=>obtain⟨u',h,_⟩:=bK.1 h;cases h
 |tuple x=>obtain⟨x',h,_⟩:=bL.1 h;cases h
 |float=>exact(cB h).elim
 |complex=>exact(bQ h).elim
 |_=>rw[VR] at h;cases h
theorem ak.eqGuard(fQ:0<P.depth)(op:BinOp)(t:cw)(x y:da)(h:rR P t y=true)(ha:VR fns E a a')(hb:VR fns E b b')(hy:∀ v,y=.const v->b=v):ak P fns Z E (fj op t x y a b) (fj op t x y a' b') (λ_ _ _=>True):=by
 unfold fj
 split
 .simp only[fw,cH,if_false]
  split
  .rw[eG] at ha hb;subst ha;subst hb
   dsimp only
   rcases iK h with hc|hc
   .rcases hc with rfl|⟨l,c,rfl⟩<;>cases x<;>exact ak.pure trivial
   .have tail:ak P fns Z E (Op.eqGuardIn Op.maxDepth t .nilIface .nilIface) (Op.eqGuardIn Op.maxDepth t .nilIface .nilIface) (λ_ b b'=>b=false/\b'=false):=rT hc _
    cases x<;>cases y<;>first
     |exact ak.pure trivial
     |exact ak.bind tail λE1 r r' dI e=>(by obtain⟨rfl,rfl⟩:=e;exact ak.pure trivial)
  .obtain⟨x1,rfl,_⟩:=bY.1 ha
   obtain⟨y1,rfl,_⟩:=bY.1 hb
   dsimp only
   rcases iK h with hc|hc
   .rcases hc with rfl|⟨l,c,rfl⟩
    .cases hy _ rfl
    .cases hy _ rfl
   .refine ak.bind ak.program λE1 p q dI e=>?_
    obtain⟨rfl,rfl⟩:=e
    refine ak.bind ak.program λE1 p q dI e=>?_
    obtain⟨rfl,rfl⟩:=e
    obtain⟨n,hn⟩:∃ n,p.depth=n+1:=⟨p.depth-1,by omega⟩
    rw[show (fns.re p).depth=p.depth from rfl,hn,gX hc,gX (P:=fns.re p) hc]
    exact ak.pure trivial
  .rename_i h1 h2
   split
   .exact(h1 (gY ha) (gY hb)).elim
   .obtain⟨_,e1⟩:=oU ha
    obtain⟨_,e2⟩:=oU hb
    exact(h2 _ _ e1 e2).elim
   .exact ak.pure trivial
 .simp only[fw,cH,if_false]
  split
  .rw[eG] at ha hb;subst ha;subst hb
   dsimp only
   rcases iK h with hc|hc
   .rcases hc with rfl|⟨l,c,rfl⟩<;>cases x<;>exact ak.pure trivial
   .have tail:ak P fns Z E (Op.eqGuardIn Op.maxDepth t .nilIface .nilIface) (Op.eqGuardIn Op.maxDepth t .nilIface .nilIface) (λ_ b b'=>b=false/\b'=false):=rT hc _
    cases x<;>cases y<;>first
     |exact ak.pure trivial
     |exact ak.bind tail λE1 r r' dI e=>(by obtain⟨rfl,rfl⟩:=e;exact ak.pure trivial)
  .obtain⟨x1,rfl,_⟩:=bY.1 ha
   obtain⟨y1,rfl,_⟩:=bY.1 hb
   dsimp only
   rcases iK h with hc|hc
   .rcases hc with rfl|⟨l,c,rfl⟩
    .cases hy _ rfl
    .cases hy _ rfl
   .refine ak.bind ak.program λE1 p q dI e=>?_
    obtain⟨rfl,rfl⟩:=e
    refine ak.bind ak.program λE1 p q dI e=>?_
    obtain⟨rfl,rfl⟩:=e
    obtain⟨n,hn⟩:∃ n,p.depth=n+1:=⟨p.depth-1,by omega⟩
    rw[show (fns.re p).depth=p.depth from rfl,hn,gX hc,gX (P:=fns.re p) hc]
    exact ak.pure trivial
  .rename_i h1 h2
   split
   .exact(h1 (gY ha) (gY hb)).elim
   .obtain⟨_,e1⟩:=oU ha
    obtain⟨_,e2⟩:=oU hb
    exact(h2 _ _ e1 e2).elim
   .exact ak.pure trivial
 .simp only[nz,if_true]
  exact ak.pure trivial
def uM(P:ar)(fns:Fx)(t:cw):Bool:=match P.underlying t with
 |some (.struct fs)=>fs.all (λf=>match P.underlying f.type with
  |some d=>simple d
  |none=>true)&&!P.stoodInHeld t&&!(fns.re P).stoodInHeld t&&!P.eqGuardType P.depth t&&!(fns.re P).eqGuardType P.depth t
 |_=>false
def nilPtr(P:ar)(t:cw)(y:da):Bool:=match y with
 | .const (.pointer none)=>match P.underlying t with
   |some (.pointer _)=>true
   |_=>false
 |_=>false
def Nc(P:ar)(fns:Fx)(t:cw)(y:da):Bool:=rR P t y||uM P fns t||nilPtr P t y
theorem ak.KL{α σ:Type}{f f':α->σ->Sem (ForInStep σ)}:∀ (l:List α) (s:σ) {E:Nat->Nat->Prop},(∀ E',(∀ a b,E a b->E' a b)->∀ a∈l,∀ r,ak P fns Z E' (f a r) (f' a r) (λ_ x y=>y=x)) ->
 ak P fns Z E (lj l s f) (lj l s f') (λ_ x y=>y=x)
 | [],s,E,_=>by simp only[List.forIn_nil];exact ak.pure rfl
 |v::vs,s,E,hf=>by
  simp only[List.forIn_cons]
  refine ak.bind (hf E (λ_ _ x=>x) v (by simp) s) λE1 x y dI e=>?_
  subst e
  cases y with
  |done r=>exact ak.pure rfl
  |yield r=>exact ak.KL vs r λE' up a ha r=>hf E' (λa b x=>up a b (dI a b x)) a (by simp[ha]) r
theorem ak.part(t:cw){x x':Array ai}(h:aW fns E x x')(o:Nat):ak P fns Z E (Go.part t x o) (Go.part t x' o) (λE' v v'=>VR fns E' v v'):=by
 unfold Go.part
 refine ak.bind (ak.isAgg t) λE1 b b' dI e=>?_
 subst e
 split
 .refine ak.bind (ak.sizeOf t) λE2 n n' dY e=>?_
  subst e
  exact ak.pure (bY.2 ⟨_,rfl,((h.up dI).up dY).extract _ _⟩)
 .cases hx:x[o]? with
  |none=>exact ak.stuck
  |some v =>
   obtain⟨v',e,hv⟩:=h.get? o hx
   rw[e]
   exact ak.pure (hv.up dI)
theorem ak.Nf{t:cw}(h:uM P fns t=true):∀ (n:Nat) {E:Nat->Nat->Prop} {x x' y y':ai},VR fns E x x'->VR fns E y y'->ak P fns Z E (Op.equalIn n t x y) (Op.equalIn n t x' y') (λ_ b b'=>b'=b)
 |0,E,x,x',y,y',hx,hy=>by unfold Op.equalIn;exact ak.dies (aK.halt rfl)
 |n+1,E,x,x',y,y',hx,hy=>by
  unfold uM at h
  split at h
  .rename_i fs hfs
   simp only[bz,jx] at h
   obtain⟨⟨⟨⟨hall,s1⟩,s2⟩,_⟩,_⟩:=h
   unfold Op.equalIn
   refine ak.bind (ak.underlying t) λE1 d d' dI e=>?_
   obtain⟨rfl,hd⟩:=e
   rw[hfs] at hd
   obtain rfl:=cd hd
   have hx1:=hx.up dI
   have hy1:=hy.up dI
   cases x with
   |agg xs =>
    obtain⟨xs',rfl,hxs⟩:=bY.1 hx1
    cases y with
    |agg ys =>
     obtain⟨ys',rfl,hys⟩:=bY.1 hy1
     dsimp only
     refine ak.bind ak.program λE2 p q dY e=>?_
     obtain⟨rfl,rfl⟩:=e
     rw[s1,s2]
     simp only[cH,if_false]
     simp only[<-Array.forIn_toList]
     refine ak.bind (Φ:=λ_ a b=>b=a) (ak.KL fs.toList _ λE3 gL f hf r=>?_) λE3 r r' gL e=>?_
     .split
      .refine ak.bind (ak.part _ ((aW.up hxs dY).up gL) _) λE4 u u' vD hu=>?_
       refine ak.bind (ak.part _ (((aW.up hys dY).up gL).up vD) _) λE5 v v' y9 hv=>?_
       have Uv:∀ d,p.underlying f.type=some d->simple d=true:=λd hd=>by
        rw[Array.all_eq_true'] at hall
        have:=hall f (Array.mem_toList_iff.1 hf)
        rw[hd] at this
        exact this
       refine ak.bind (ak.vE Uv n (hu.up y9) hv) λE6 b b' Oc e=>?_
       subst e
       split<;>exact ak.pure rfl
      .exact ak.pure rfl
     .subst e
      split<;>exact ak.pure rfl
    |_=>exact ak.dies (aK.halt rfl)
   |_=>exact ak.dies (aK.halt rfl)
  .cases h
theorem rU(h:nilPtr P t y=true):y=.const (.pointer none)/\∃ e,P.underlying t=some (.pointer e):=by
 unfold nilPtr at h
 split at h
 .refine⟨rfl,?_⟩
  split at h
  .rename_i e he;exact⟨e,he⟩
  .cases h
 .cases h
theorem ak.Qs{t e:cw}(h:P.underlying t=some (.pointer e)):∀ (n:Nat) {E:Nat->Nat->Prop} {x x':ai},VR fns E x x'->ak P fns Z E (Op.equalIn n t x (.pointer none)) (Op.equalIn n t x' (.pointer none)) (λ_ b b'=>b'=b)
 |0,E,x,x',hx=>by unfold Op.equalIn;exact ak.dies (aK.halt rfl)
 |n+1,E,x,x',hx=>by
  unfold Op.equalIn
  refine ak.bind (ak.underlying t) λE1 d d' dI e=>?_
  obtain⟨rfl,hd⟩:=e
  rw[h] at hd
  obtain rfl:=cd hd
  have hx1:=hx.up dI
  cases x with
  |pointer a =>
   obtain⟨b,rfl,hb⟩:=aM.1 hx1
   cases a with
   |none=>rw[jV] at hb;subst hb;exact ak.pure rfl
   |some a=>obtain⟨b',rfl,_⟩:=dF.1 hb;exact ak.pure rfl
  |_=>exact ak.dies (aK.halt rfl)
theorem ak.KM(h:Nc P fns t y=true){x x':ai}(hx:VR fns E x x')(hb:VR fns E b b')(hy:∀ v,y=.const v->b=v):ak P fns Z E (Op.equal t x b) (Op.equal t x' b') (λ_ r r'=>r'=r):=by
 unfold Nc at h
 rw[fN,fN] at h
 rcases h with (h|h)|h
 .exact ak.equal h hx hb hy
 .exact ak.Nf h _ hx hb
 .obtain⟨h1,e,h2⟩:=rU h
  obtain rfl:=hy _ h1
  obtain⟨c,rfl,hc⟩:=aM.1 hb
  rw[jV] at hc
  subst hc
  exact ak.Qs h2 _ hx
theorem jh{op:BinOp}{x:da}(h1:¬(a=.nilIface/\b=.nilIface))(h2:¬∃ u v,a=.agg u/\b=.agg v):fj op t x y a b=cY ():=by
 unfold fj
 split
 .simp only[fw,cH,if_false]
  split
  .exact(h1 ⟨rfl,rfl⟩).elim
  .exact(h2 ⟨_,_,rfl,rfl⟩).elim
  .rfl
 .simp only[fw,cH,if_false]
  split
  .exact(h1 ⟨rfl,rfl⟩).elim
  .exact(h2 ⟨_,_,rfl,rfl⟩).elim
  .rfl
 .rfl
theorem ak.Ng{op:BinOp}{x:da}(h:uM P fns t=true)(ha:VR fns E a a')(hb:VR fns E b b'):ak P fns Z E (fj op t x y a b) (fj op t x y a' b') (λ_ _ _=>True):=by
 by_cases h1:a=.nilIface/\b=.nilIface
 .obtain⟨rfl,rfl⟩:=h1
  rw[eG] at ha hb
  subst ha
  subst hb
  have tail:ak P fns Z E (Op.eqGuardIn Op.maxDepth t .nilIface .nilIface) (Op.eqGuardIn Op.maxDepth t .nilIface .nilIface) (λ_ b b'=>b=false/\b'=false):=by
   show ak P fns Z E (Op.eqGuardIn (9999+1) t .nilIface .nilIface) (Op.eqGuardIn (9999+1) t .nilIface .nilIface) _
   unfold Op.eqGuardIn
   refine ak.bind (ak.underlying t) λE1 d d' dI e=>?_
   obtain⟨rfl,hd⟩:=e
   unfold uM at h
   rw[hd] at h
   cases d'<;>first|(cases h;done)|exact ak.pure ⟨rfl,rfl⟩
  unfold fj
  split
  .simp only[fw,cH,if_false]
   cases x<;>cases y<;>first
    |exact ak.pure trivial
    |exact ak.bind tail λE1 r r' dI e=>(by obtain⟨rfl,rfl⟩:=e;exact ak.pure trivial)
  .simp only[fw,cH,if_false]
   cases x<;>cases y<;>first
    |exact ak.pure trivial
    |exact ak.bind tail λE1 r r' dI e=>(by obtain⟨rfl,rfl⟩:=e;exact ak.pure trivial)
  .exact ak.pure trivial
 by_cases h2:∃ u v,a=.agg u/\b=.agg v
 .obtain⟨u,v,rfl,rfl⟩:=h2
  obtain⟨u',rfl,_⟩:=bY.1 ha
  obtain⟨v',rfl,_⟩:=bY.1 hb
  have hg:P.eqGuardType P.depth t=false/\(fns.re P).eqGuardType P.depth t=false:=by
   unfold uM at h
   split at h
   .simp only[bz,jx] at h
    exact⟨h.1.2,h.2⟩
   .cases h
  have tail:∀ (k k':Sem Unit),ak P fns Z E (oy >>= λp=>oy >>= λq=>if (!p.eqGuardType q.depth t)=true then cY () else k) (oy >>= λp=>oy >>= λq=>if (!p.eqGuardType q.depth t)=true then cY () else k') (λ_ _ _=>True):=λk k'=>by
   refine ak.bind ak.program λE1 p q dI e=>?_
   obtain⟨rfl,rfl⟩:=e
   refine ak.bind ak.program λE1 p q dI e=>?_
   obtain⟨rfl,rfl⟩:=e
   rw[show (fns.re p).depth=p.depth from rfl,hg.1,hg.2]
   exact ak.pure trivial
  unfold fj
  split
  .simp only[fw,cH,if_false]
   exact tail _ _
  .simp only[fw,cH,if_false]
   exact tail _ _
  .exact ak.pure trivial
 rw[jh h1 h2,jh (λ⟨e1,e2⟩=>h1 ⟨gY (e1▸ha),gY (e2▸hb)⟩) (λ⟨u,v,e1,e2⟩=>by
  obtain⟨p,hp⟩:=oU (e1▸ha)
  obtain⟨q,hq⟩:=oU (e2▸hb)
  exact h2 ⟨p,q,hp,hq⟩)]
 exact ak.pure trivial
theorem ak.Uw(fQ:0<P.depth)(op:BinOp)(t:cw)(x y:da)(h:Nc P fns t y=true)(ha:VR fns E a a')(hb:VR fns E b b')(hy:∀ v,y=.const v->b=v):ak P fns Z E (fj op t x y a b) (fj op t x y a' b') (λ_ _ _=>True):=by
 unfold Nc at h
 rw[fN,fN] at h
 rcases h with (h|h)|h
 .exact ak.eqGuard fQ op t x y h ha hb hy
 .exact ak.Ng h ha hb
 .obtain⟨h1,e,h2⟩:=rU h
  obtain rfl:=hy _ h1
  obtain⟨c,rfl,hc⟩:=aM.1 hb
  rw[jh (λ⟨_,e⟩=>by cases e) (λ⟨_,_,_,e⟩=>by cases e),jh (λ⟨_,e⟩=>by cases e) (λ⟨_,_,_,e⟩=>by cases e)]
  exact ak.pure trivial
