/- Part of the proof. -/
import Derived.Test.YtjlgehmebfkioaaGreatDoorZ17
open Array renaming range->gR
open Bool renaming false_eq_true->cH,not_false->ns,or_eq_true->fy,not_true->fj,and_eq_true->bu,not_eq_true'->j7
open ForIn renaming forIn->ll
open Go renaming Program->ar,TypeId->b9,Value->ai,Addr->cr,loadCells->pT,movedNumber->oy,movedPointer->nt,Operand->c_,eqGuard->fh,program->ox
open Go.Instr renaming build->py,buildSlice->mi,fill->km,sliceBound->mj,sliceBounds->mb,slice->lj,sliceAt->oi,indexAt->j8,extract->lA,makeSlice->d_
open Go.Result renaming andThen_ok->cQ
open Go.Sem renaming run_bind->cE
open Go.Value renaming slice->gj
open Nat renaming le_refl->al
open Option.some renaming inj->cd
open Pure renaming pure->cX
namespace Go.Proofs.YtjlgehmebfkioaaGreatDoor
open Go
variable {P:ar} {fns:Fx} {E E' D7:Nat->Nat->Prop} {Z:Nat->Prop}
theorem ak.F6{α β γ:Type}{f:α->Sem β}{f':α->Sem β}(hf:∀ E a,ak P fns Z E (f a) (f' a) (λ_ x y=>y=x)):∀ (l:List α) {E:Nat->Nat->Prop},ak P fns Z E (l.mapM f) (l.mapM f') (λ_ x y=>y=x)
 | [],E=>by simp only[List.mapM_nil];exact ak.pure rfl
 |a::l,E=>by
  simp only[List.mapM_cons]
  refine ak.bind (hf E a) λE1 x y up h=>?_
  subst h
  refine ak.bind (ak.F6 (γ:=γ) hf l) λE2 x y up h=>?_
  subst h
  exact ak.pure rfl
theorem ak.mapM{α β:Type}{f:α->Sem β}(hf:∀ E a,ak P fns Z E (f a) (f a) (λ_ x y=>y=x))(x:Array α):ak P fns Z E (x.mapM f) (x.mapM f) (λ_ x y=>y=x):=by
 rw[Array.mapM_eq_mapM_toList]
 refine ak.bind (Φ:=λ_ x y=>y=x) (ak.F6 (γ:=Unit) hf _) λE1 x y up h=>?_
 subst h
 exact ak.pure rfl
theorem ak.build(hz:zeros P fns)(t:b9)(ht:fns.tys t=true){x x':Array (Nat × ai)}(hx:uz fns E x.toList x'.toList):ak P fns Z E (py t x) (py t x') (λE' v v'=>VR fns E' v v'):=by
 have hup:∀ {E1:Nat->Nat->Prop},(∀ a b,E a b->E1 a b)->uz fns E1 x.toList x'.toList:=λup=>⟨hx.1,hx.2.up up⟩
 unfold py
 refine ak.bind (ak.zeroValue hz t ht) λE1 v v' up h=>?_
 obtain⟨rfl,hc⟩:=h
 dsimp only
 refine ak.bind (ak.underlying t) λE2 d d' dW h=>?_
 obtain⟨rfl,_⟩:=h
 split
 .refine ak.bind (ak.mapM (λE f=>ak.bind (ak.sizeOf _) λE' n n' up h=>ak.pure (by rw[h])) _) λE3 pl pl' gG h=>?_
  subst h
  rcases mU (E:=E3) (pl'[·]?) x.toList x'.toList (hup (λa b z=>gG _ _ (dW _ _ (up _ _ z)))) (lY (jY hc)) with ⟨d,d',h1,h2,h3⟩|h
  .rw[h1,h2];exact ak.pure (bY.2 ⟨_,rfl,h3⟩)
  .rw[h];exact ak.stuck
 .refine ak.bind (ak.sizeOf _) λE3 pl pl' gG h=>?_
  subst h
  rcases mU (E:=E3) (λi=>some (i*pl',pl')) x.toList x'.toList (hup (λa b z=>gG _ _ (dW _ _ (up _ _ z)))) (lY (jY hc)) with ⟨d,d',h1,h2,h3⟩|h
  .rw[h1,h2];exact ak.pure (bY.2 ⟨_,rfl,h3⟩)
  .rw[h];exact ak.stuck
 .exact ak.stuck
theorem jg{v:ai}(h:mP v=true):∀ i (hi:i<v.cells.size),VR fns E v.cells[i] v.cells[i]:=λi hi=>(lY (jY h)).2 i hi hi
theorem uE{z:Array ai}(hz:∀ i (hi:i<z.size),VR fns E z[i] z[i])(n:Nat):aU fns E ((gR n).map (z[·%z.size]!)) ((gR n).map (z[·%z.size]!)):=by
 refine⟨rfl,λi a b=>?_⟩
 simp only[Array.getElem_map,Array.getElem_range]
 by_cases hp:i%z.size<z.size
 .rw[getElem!_pos z (i%z.size) hp]
  exact hz _ _
 .rw[getElem!_neg z (i%z.size) hp]
  exact aG rfl
theorem ak.buildSlice(hz:zeros P fns)(t:b9)(ht:∀ e,P.underlying t=some (.slice e)->fns.tys e=true)(len:Nat){x x':Array (Nat × ai)}(hx:uz fns E x.toList x'.toList):ak P fns Z E (mi t len x) (mi t len x') (λE' v v'=>VR fns E' v v'):=by
 unfold mi
 refine ak.bind (ak.underlying t) λE1 d d' dG h=>?_
 obtain⟨rfl,hu⟩:=h
 split
 .refine ak.bind (ak.sizeOf _) λE2 n n' dW h=>?_
  subst h
  dsimp only
  have key:∀ {E3:Nat->Nat->Prop} (z:Array ai),(∀ a b,E a b->E3 a b)->(∀ E i (hi:i<z.size),VR fns E z[i] z[i]) ->
   (∃ d d',km (λi=>some (i*n',n')) ((gR (len*n')).map (z[·%z.size]!)) x.toList=some d/\km (λi=>some (i*n',n')) ((gR (len*n')).map (z[·%z.size]!)) x'.toList=some d'/\aU fns E3 d d')\/km (λi=>some (i*n',n')) ((gR (len*n')).map (z[·%z.size]!)) x.toList=none :=
   λ{E3} z up hzz=>mU (E:=E3) (λi=>some (i*n',n')) x.toList x'.toList ⟨hx.1,hx.2.up up⟩ (uE (hzz E3) (len*n'))
  split
  .exact ak.dies (aK.bind (aK.halt rfl))
  .split
   .refine ak.bind (Φ:=λ_ z z'=>z=#[]/\z'=#[]) (ak.pure ⟨rfl,rfl⟩) λE3 z z' gG h=>?_
    obtain⟨rfl,rfl⟩:=h
    rcases key (E3:=E3) #[] (λa b y=>gG _ _ (dW _ _ (dG _ _ y))) (λE i hi=>by simp at hi) with ⟨d,d',h1,h2,h3⟩|h
    .rw[h1,h2]
     exact ak.bind (ak.newRow h3) λE4 a a' u_ h=>ak.pure (aJ.2 ⟨_,rfl,.inl h.as⟩)
    .rw[h];exact ak.stuck
   .refine ak.bind (ak.zeroValue hz _ (ht _ hu)) λE3 v v' gG h=>?_
    obtain⟨rfl,hc⟩:=h
    refine ak.bind (Φ:=λ_ z z'=>z=v'.cells/\z'=v'.cells) (ak.pure ⟨rfl,rfl⟩) λE4 z z' u_ h=>?_
    obtain⟨rfl,rfl⟩:=h
    rcases key (E3:=E4) v'.cells (λa b y=>u_ _ _ (gG _ _ (dW _ _ (dG _ _ y)))) (λE i hi=>jg hc i hi) with ⟨d,d',h1,h2,h3⟩|h
    .rw[h1,h2]
     exact ak.bind (ak.newRow h3) λE4 a a' u_ h=>ak.pure (aJ.2 ⟨_,rfl,.inl h.as⟩)
    .rw[h];exact ak.stuck
 .exact ak.stuck
theorem ak.sliceBound{v v':ai}(hv:VR fns E v v')(y:Nat)(c:BoundsCode):ak P fns Z E (mj v y c) (mj v' y c) (λ_ n n'=>n'=n/\n<=y):=by
 unfold mj
 refine ak.bind (ak.asIntOf hv) λE1 n n' up h=>?_
 subst h
 dsimp only
 split
 .rename_i hc
  exact ak.pure ⟨rfl,by omega⟩
 .exact ak.dies (aK.boundsPanic _ _ _ _)
def uF(fns:Fx)(E:Nat->Nat->Prop):Option ai->Option ai->Prop
 |none,none=>True
 |some v,some v'=>VR fns E v v'
 |_,_=>False
theorem uF.up{v v':Option ai}(h:uF fns E v v')(hE:∀ a b,E a b->E' a b):uF fns E' v v':=by
 cases v<;>cases v'<;>first|exact h|exact VR.up h hE
theorem ak.sliceBounds(b:Bool)(len cap:Nat){l h m l' h' m':Option ai}(hl:uF fns E l l')(hh:uF fns E h h')(hm:uF fns E m m'):ak P fns Z E (mb b len cap l h m) (mb b len cap l' h' m') (λ_ n n'=>n'=n/\(len=0->cap=0->n=(0,0,0))):=by
 unfold mb
 cases m<;>cases m'<;>first|exact hm.elim|skip
 all_goals refine ak.bind (Φ:=λ_ n n'=>n'=n/\n<=cap) (by first|exact ak.pure ⟨rfl,al _⟩|exact ak.sliceBound hm _ _) λE1 x x' dG e=>?_
 all_goals obtain⟨rfl,ex⟩:=e
 all_goals have OL:=hh.up dG
 all_goals cases h<;>cases h'<;>first|exact hh.elim|exact ak.dies (aK.bind aK.stuck)|skip
 all_goals refine ak.bind (Φ:=λ_ n n'=>n'=n/\(len=0->cap=0->n=0)) (by first|exact ak.pure ⟨rfl,λe _=>e⟩|exact(ak.sliceBound OL _ _).mono λ_ _ _ _ e=>⟨e.1,λ_ _=>by have:=e.2;omega⟩) λE2 y y' dW e=>?_
 all_goals obtain⟨rfl,ey⟩:=e
 all_goals have hl2:=(hl.up dG).up dW
 all_goals cases l<;>cases l'<;>first|exact hl.elim|skip
 all_goals refine ak.bind (Φ:=λ_ n n'=>n'=n/\(len=0->cap=0->n=0)) (by first|exact ak.pure ⟨rfl,λ_ _=>rfl⟩|exact(ak.sliceBound hl2 _ _).mono λ_ _ _ _ e=>⟨e.1,λe1 e2=>by have:=e.2;have:=ey e1 e2;omega⟩) λE3 z z' gG e=>?_
 all_goals obtain⟨rfl,ez⟩:=e
 all_goals exact ak.pure ⟨rfl,λe1 e2=>by rw[ey e1 e2,ez e1 e2,show x'=0 by omega]⟩
theorem ak.slice(t:b9){v v':ai}(hv:VR fns E v v'){l h m l' h' m':Option ai}(hl:uF fns E l l')(hh:uF fns E h h')(hm:uF fns E m m'):ak P fns Z E (lj t v l h m) (lj t v' l' h' m') (λE' v v'=>VR fns E' v v'):=by
 unfold lj
 refine ak.bind (ak.underlying t) λE1 d d' dG e=>?_
 obtain⟨rfl,_⟩:=e
 have hv1:=hv.up dG
 have hl1:=hl.up dG
 have OL:=hh.up dG
 have hm1:=hm.up dG
 have em:m'.isSome=m.isSome:=by cases m<;>cases m'<;>first|rfl|exact hm.elim
 split
 .rename_i s
  rw[dO] at hv1
  subst hv1
  rw[em]
  split
  .exact ak.dies (aK.bind aK.stuck)
  .refine ak.bind (ak.sliceBounds _ _ _ hl1 OL trivial) λE2 n n' dW e=>?_
   obtain⟨rfl,_⟩:=e
   exact ak.pure (aG rfl)
 .rename_i a _ _ _
  obtain⟨b,rfl,ha⟩:=aJ.1 hv1
  dsimp only
  refine ak.bind (ak.sliceBounds _ _ _ hl1 OL hm1) λE2 n n' dW e=>?_
  obtain⟨rfl,hnil⟩:=e
  refine ak.bind (ak.sizeOf _) λE3 sz sz' gG e=>?_
  subst e
  refine ak.pure (aJ.2 ⟨_,rfl,?_⟩)
  rcases ha with ha|⟨e1,e2,e3⟩
  .have GL:=(ha.up dW).up gG
   refine .inl ?_
   split
   .exact GL
   .cases a with
    |none=>rw[iL] at GL;subst GL;trivial
    |some a=>obtain⟨b',rfl,GL⟩:=dS.1 GL;exact GL.add _
  .have hn0:=hnil e1 e2
   subst hn0
   exact .inr ⟨rfl,rfl,by rw[if_pos rfl,if_pos rfl];exact e3⟩
 .refine ak.bind (ak.asAddr hv1) λE2 a a' dW ha=>?_
  refine ak.bind (ak.underlying _) λE3 d d' gG e=>?_
  obtain⟨rfl,_⟩:=e
  split
  .refine ak.bind (ak.sliceBounds _ _ _ ((hl1.up dW).up gG) ((OL.up dW).up gG) ((hm1.up dW).up gG)) λE4 n n' u_ e=>?_
   obtain⟨rfl,_⟩:=e
   dsimp only
   refine ak.bind (ak.sizeOf _) λE5 n n' yO e=>?_
   subst e
   refine ak.pure (aJ.2 ⟨_,rfl,.inl ?_⟩)
   have GL:=(((ha.up gG).up u_).up yO).as
   split
   .exact GL
   .exact GL.add _
  .exact ak.stuck
 .exact ak.stuck
theorem ak.sliceAt(t:b9){v v':ai}(hv:VR fns E v v'){l h m l' h' m':Option ai}(hl:uF fns E l l')(hh:uF fns E h h')(hm:uF fns E m m'):ak P fns Z E (oi t v l h m) (oi t v' l' h' m') (λE' v v'=>VR fns E' v v'):=by
 unfold oi
 refine ak.bind (ak.underlying t) λE1 d d' dG e=>?_
 obtain⟨rfl,_⟩:=e
 have hv1:=hv.up dG
 have hl1:=hl.up dG
 have OL:=hh.up dG
 have hm1:=hm.up dG
 split
 .refine ak.bind (ak.sureAddr hv1) λE2 a a' dW ha=>?_
  refine ak.bind (ak.sliceBounds _ _ _ (hl1.up dW) (OL.up dW) (hm1.up dW)) λE4 n n' u_ e=>?_
  obtain⟨rfl,_⟩:=e
  dsimp only
  refine ak.bind (ak.sizeOf _) λE5 n n' yO e=>?_
  subst e
  refine ak.pure (aJ.2 ⟨_,rfl,.inl ?_⟩)
  have GL:=((ha.up u_).up yO).as
  split
  .exact GL
  .exact GL.add _
 .exact ak.slice t hv1 hl1 OL hm1
theorem ak.indexAt(t:b9){v v' x x':ai}(hv:VR fns E v v')(hx:VR fns E x x'):ak P fns Z E (j8 t v x) (j8 t v' x') (λE' v v'=>VZ fns E' v v'):=by
 unfold j8
 refine ak.bind (ak.asIntOf hx) λE1 n n' dG e=>?_
 subst e
 dsimp only
 refine ak.bind (ak.underlying t) λE2 d d' dW e=>?_
 obtain⟨rfl,_⟩:=e
 have hv2:=(hv.up dG).up dW
 split
 .refine ak.bind (ak.sureAddr hv2) λE3 a a' gG ha=>?_
  refine ak.bind (Φ:=λE' (y y':Option cr × Nat × b9)=>OA fns E' y.1 y'.1/\y.2=y'.2) (ak.pure ⟨ha,rfl⟩) λE3 y y' gG e=>?_
  obtain⟨base,len,elem⟩:=y
  obtain⟨base',len',elem'⟩:=y'
  obtain⟨e1,e2⟩:=e
  simp only[Prod.mk.injEq] at e2
  obtain⟨rfl,rfl⟩:=e2
  dsimp only at e1 ⊢
  refine ak.bind (ak.underlying t) λE4 d d' u_ e=>?_
  obtain⟨rfl,_⟩:=e
  have e4:=e1.up u_
  cases base with
  |none =>
   rw[jT] at e4;subst e4
   exact ak.dies (aK.boundsPanic _ _ _ _)
  |some a =>
   obtain⟨b',rfl,ha⟩:=dB.1 e4
   dsimp only
   split
   .refine ak.bind (ak.sizeOf _) λE5 n n' yO e=>?_
    subst e
    exact ak.pure (.inl (aM.2 ⟨_,rfl,(ha.up yO).add _⟩))
   .refine ak.dies ?_
    split<;>split<;>first|exact aK.halt rfl|exact aK.boundsPanic _ _ _ _
 .obtain⟨b,rfl,ha⟩:=aJ.1 hv2
  refine ak.bind (Φ:=λE' (y y':Option cr × Nat × b9)=>(OS fns E' y.1 y'.1\/(y.2.1=0/\y.1=y'.1))/\y.2=y'.2) (ak.pure ⟨ha.imp id λx=>⟨x.1,x.2.2⟩,rfl⟩) λE3 y y' gG e=>?_
  obtain⟨base,len,elem⟩:=y
  obtain⟨base',len',elem'⟩:=y'
  obtain⟨e1,e2⟩:=e
  simp only[Prod.mk.injEq] at e2
  obtain⟨rfl,rfl⟩:=e2
  dsimp only at e1 ⊢
  refine ak.bind (ak.underlying t) λE4 d d' u_ e=>?_
  obtain⟨rfl,_⟩:=e
  rcases e1 with e1|⟨e5,e6⟩
  rotate_left
  .subst e5 e6
   cases base with
   |none=>exact ak.dies (aK.boundsPanic _ _ _ _)
   |some a =>
    dsimp only
    split
    .rename_i hcc
     have:=hcc.1
     have:=hcc.2
     omega
    .refine ak.dies ?_
     split<;>split<;>first|exact aK.halt rfl|exact aK.boundsPanic _ _ _ _
  have e4:=e1.up u_
  cases base with
  |none =>
   rw[iL] at e4;subst e4
   exact ak.dies (aK.boundsPanic _ _ _ _)
  |some a =>
   obtain⟨b',rfl,ha⟩:=dS.1 e4
   dsimp only
   split
   .refine ak.bind (ak.sizeOf _) λE5 n n' yO e=>?_
    subst e
    exact ak.pure (.inr ⟨_,_,rfl,rfl,(ha.up yO).add _⟩)
   .refine ak.dies ?_
    split<;>split<;>first|exact aK.halt rfl|exact aK.boundsPanic _ _ _ _
 .exact ak.dies (aK.bind aK.stuck)
theorem ak.extract{v v':ai}(hv:VR fns E v v')(i:Nat):ak P fns Z E (lA v i) (lA v' i) (λE' v v'=>VR fns E' v v'):=by
 cases v with
 |tuple x =>
  obtain⟨x',rfl,h⟩:=bL.1 hv
  unfold lA
  dsimp only
  cases hx:x[i]? with
  |none=>exact ak.stuck
  |some u=>obtain⟨u',h1,h2⟩:=h.get? i hx;rw[h1];exact ak.pure h2
 |_=>exact ak.dies (aK.halt rfl)
variable {P:ar} {fns:Fx} {E E' D7:Nat->Nat->Prop} {Z:Nat->Prop}
theorem ak.Kc(z:Array ai)(hzz:∀ i (hi:i<z.size),VR fns E z[i] z[i])(el:b9)(k u v:Nat) :
 ak P fns Z E (Go.newRow el ((gR k).map (z[·%z.size]!)) >>= λa=>cX (gj (some a) u v)) (Go.newRow el ((gR k).map (z[·%z.size]!)) >>= λa=>cX (gj (some a) u v)) (λE' v v'=>VR fns E' v v') :=
 ak.bind (ak.newRow (uE hzz k)) λ_ _ _ _ h=>ak.pure (aJ.2 ⟨_,rfl,.inl h.as⟩)
theorem ak.makeSlice(hz:zeros P fns)(t:b9)(ht:∀ e,P.underlying t=some (.slice e)->fns.tys e=true){l l' c c':ai}(hl:VR fns E l l')(hc:VR fns E c c'):ak P fns Z E (d_ t l c) (d_ t l' c') (λE' v v'=>VR fns E' v v'):=by
 unfold d_
 refine ak.bind (ak.underlying t) λE1 d d' dG e=>?_
 obtain⟨rfl,hu⟩:=e
 split
 .refine ak.bind (ak.asInt (hl.up dG)) λE2 n n' dW e=>?_
  subst e
  refine ak.bind (ak.asInt ((hc.up dG).up dW)) λE3 m m' gG e=>?_
  subst e
  refine ak.bind (ak.typeInfo _) λE4 i i' u_ e=>?_
  obtain⟨rfl,_⟩:=e
  dsimp only
  split
  .refine ak.dies ?_
   split
   .exact aK.bind (aK.runtimePanic _)
   .split
    .exact aK.bind (aK.runtimePanic _)
    .refine aK.nW (λgh=>.inl ?_) λ_=>aK.bind (aK.runtimePanic _)
     rw[run_choose];split<;>exact⟨_,_,rfl⟩
  .refine ak.bind (ak.askRoom _) λE5 _ _ yO _=>?_
   refine ak.bind (ak.sizeOf _) λE6 s s' NA e=>?_
   subst e
   split
   .exact ak.Kc #[] (λi hi=>by simp at hi) _ _ _ _
   .refine ak.bind (ak.zeroValue hz _ (ht _ hu)) λE7 v v' up7 h=>?_
    obtain⟨rfl,hcl⟩:=h
    exact ak.Kc v'.cells (λi hi=>jg hcl i hi) _ _ _ _
 .exact ak.stuck
theorem ak.len(ts:Array b9)(t:b9){x x':Array ai}(hx:aU fns E x x'):ak P fns Z E (Builtin.len_ ts t x) (Builtin.len_ ts t x') (λE' v v'=>VR fns E' v v'):=by
 unfold Builtin.len_
 cases h0:x[0]? with
 |none =>
  cases ts[0]?<;>exact ak.dies aK.stuck
 |some v =>
  obtain⟨v',h1,hv⟩:=hx.get? 0 h0
  rw[h1]
  cases ts[0]? with
  |none=>exact ak.dies aK.stuck
  |some ty =>
   refine ak.bind (ak.underlying ty) λE1 d d' dG e=>?_
   obtain⟨rfl,_⟩:=e
   have hv1:=hv.up dG
   split
   .rw[dO] at hv1;subst hv1;exact ak.pure (aG rfl)
   .exact ak.pure (aG rfl)
   .refine ak.bind (ak.underlying _) λE2 d d' dW e=>?_
    obtain⟨rfl,_⟩:=e
    split
    .exact ak.pure (aG rfl)
    .exact ak.stuck
   .obtain⟨b,rfl,_⟩:=aJ.1 hv1;exact ak.pure (aG rfl)
   .obtain⟨_,rfl⟩:=fE.1 hv1;exact ak.pure (aG rfl)
   .obtain⟨_,rfl⟩:=dJ.1 hv1;exact ak.pure (aG rfl)
   .have:=fE.1 hv1;cases this.1
   .have:=dJ.1 hv1;cases this.1
   .exact ak.stuck
theorem ak.cap(ts:Array b9)(t:b9){x x':Array ai}(hx:aU fns E x x'):ak P fns Z E (Builtin.cap_ ts t x) (Builtin.cap_ ts t x') (λE' v v'=>VR fns E' v v'):=by
 unfold Builtin.cap_
 cases h0:x[0]? with
 |none =>
  cases ts[0]?<;>exact ak.dies aK.stuck
 |some v =>
  obtain⟨v',h1,hv⟩:=hx.get? 0 h0
  rw[h1]
  cases ts[0]? with
  |none=>exact ak.dies aK.stuck
  |some ty =>
   refine ak.bind (ak.underlying ty) λE1 d d' dG e=>?_
   obtain⟨rfl,_⟩:=e
   have hv1:=hv.up dG
   split
   .exact ak.pure (aG rfl)
   .refine ak.bind (ak.underlying _) λE2 d d' dW e=>?_
    obtain⟨rfl,_⟩:=e
    split
    .exact ak.pure (aG rfl)
    .exact ak.stuck
   .obtain⟨b,rfl,_⟩:=aJ.1 hv1;exact ak.pure (aG rfl)
   .obtain⟨_,rfl⟩:=dJ.1 hv1;exact ak.pure (aG rfl)
   .obtain⟨h,_⟩:=dJ.1 hv1;cases h
   .exact ak.stuck
theorem ak.lenOf{v v':ai}(hv:VR fns E v v'):ak P fns Z E (Builtin.lenOf v) (Builtin.lenOf v') (λ_ n n'=>n'=n/\∀ a l c,v=.slice a l c->n=l):=by
 cases v with
 |slice a l c=>obtain⟨b,rfl,_⟩:=aJ.1 hv;exact ak.pure ⟨rfl,λ_ _ _ e=>by cases e;rfl⟩
 |string s=>rw[dO] at hv;subst hv;exact ak.pure ⟨rfl,λ_ _ _ e=>by cases e⟩
 |_=>exact ak.dies (aK.halt rfl)
theorem IQ(l:Array UInt8):aU fns E (l.map λb=>.int .u8 b.toNat) (l.map λb=>.int .u8 b.toNat):=⟨rfl,λi a b=>by simpa using aG rfl⟩
theorem ak.kU(size:Nat){v v':ai}(hv:VR fns E v v'):ak P fns Z E (Builtin.firstCells size 0 v) (Builtin.firstCells size 0 v') (λ_ x x'=>x=#[]/\x'=#[]):=by
 have h0:∀ a:cr,pT a (0*size)=cX #[]:=λa=>by rw[Nat.zero_mul];rfl
 cases v with
 |slice a l c =>
  obtain⟨b,rfl,h⟩:=aJ.1 hv
  cases a with
  |none=>rw[vU] at h;subst h;exact ak.pure ⟨rfl,rfl⟩
  |some a =>
   obtain⟨b',rfl⟩:=J9 h
   show ak P fns Z E (pT a (0*size)) (pT b' (0*size)) _
   rw[h0,h0]
   exact ak.pure ⟨rfl,rfl⟩
 |string s =>
  rw[dO] at hv;subst hv
  have e:(s.extract 0 0).data.map (λb:UInt8=>Value.int .u8 b.toNat)=#[]:=by simp
  exact ak.pure ⟨e,e⟩
 |_=>exact ak.dies (aK.halt rfl)
theorem ak.firstCells(size n:Nat){v v':ai}(hv:VR fns E v v')(hn:∀ a l c,v=.slice a l c->n<=l):ak P fns Z E (Builtin.firstCells size n v) (Builtin.firstCells size n v') (λE' x x'=>aU fns E' x x'):=by
 cases v with
 |slice a l c =>
  obtain⟨b,rfl,h⟩:=aJ.1 hv
  rcases h with h|⟨e1,e2,e3⟩
  .cases a with
   |none=>rw[iL] at h;subst h;exact ak.pure gy
   |some a=>obtain⟨b',rfl,h⟩:=dS.1 h;exact ak.loadCells _ h
  .obtain rfl:n=0:=by have:=hn _ _ _ rfl;omega
   exact(ak.kU size hv).mono λ_ x x' _ e=>by rw[e.1,e.2];exact gy
 |string s=>rw[dO] at hv;subst hv;exact ak.pure (IQ _)
 |_=>exact ak.dies (aK.halt rfl)
theorem kM{z:Array ai}(hz:∀ i (hi:i<z.size),VR fns E z[i] z[i])(n:Nat):aU fns E (Builtin.zeroCells z n) (Builtin.zeroCells z n):=uE hz _
theorem ak.copy(ts:Array b9)(t:b9){x x':Array ai}(hx:aU fns E x x'):ak P fns Z E (Builtin.copy_ ts t x) (Builtin.copy_ ts t x') (λE' v v'=>VR fns E' v v'):=by
 unfold Builtin.copy_
 cases h0:x[0]? with
 |none=>cases ts[0]?<;>exact ak.dies aK.stuck
 |some v =>
 cases h1:x[1]? with
 |none=>cases ts[0]?<;>exact ak.dies aK.stuck
 |some u =>
  obtain⟨v',g0,hv⟩:=hx.get? 0 h0
  obtain⟨u',g1,hu⟩:=hx.get? 1 h1
  rw[g0,g1]
  cases ts[0]? with
  |none=>exact ak.dies aK.stuck
  |some ty =>
   refine ak.bind (ak.underlying ty) λE1 d d' dG e=>?_
   obtain⟨rfl,_⟩:=e
   have hv1:=hv.up dG
   have hu1:=hu.up dG
   split
   .cases v with
    |slice a dl dc =>
     obtain⟨b,rfl,ha⟩:=aJ.1 hv1
     dsimp only
     refine ak.bind (ak.lenOf hu1) λE2 n n' dW e=>?_
     obtain⟨rfl,hlen⟩:=e
     refine ak.bind (ak.sizeOf _) λE3 s s' gG e=>?_
     subst e
     rcases ha with ha|⟨e1,e2,e3⟩
     rotate_left
     .subst e1 e2 e3
      rw[show Nat.min n' 0=0 from Nat.min_zero _]
      refine ak.bind (ak.kU _ ((hu1.up dW).up gG)) λE4 y y' u_ hy=>?_
      obtain⟨rfl,rfl⟩:=hy
      cases a with
      |none=>exact ak.pure (aG rfl)
      |some a=>exact ak.bind (Φ:=λ_ _ _=>True) (ak.pure trivial) λE5 _ _ _ _=>ak.pure (aG rfl)
     refine ak.bind (ak.firstCells _ _ ((hu1.up dW).up gG) (λa l c e=>by rw[<-hlen a l c e];exact Nat.min_le_left _ _)) λE4 y y' u_ hy=>?_
     have MJ:=((ha.up dW).up gG).up u_
     cases a with
     |none=>rw[iL] at MJ;subst MJ;exact ak.pure (aG rfl)
     |some a =>
      obtain⟨b',rfl,TW⟩:=dS.1 MJ
      exact ak.bind (ak.storeCells _ _ 0 TW (gT hy)) λE5 _ _ _ _=>ak.pure (aG rfl)
    |_=>exact ak.dies aK.stuck
   .exact ak.stuck
def isInt(d:TypeDesc):Bool:=d matches .int _
theorem nX(size sLen n:Nat)(base:Option cr)(x:ai)(gh:World):∃ a w,(Builtin.mayShare size sLen n base x).run P gh=.ok a w:=by
 have hold:∀ (a:cr) (c:Nat) (gh:World),∃ r,(Builtin.holdsCells a c).run P gh=.ok r gh:=λa c gh=>by
  unfold Builtin.holdsCells
  rw[cE,run_shape]
  cases h:gh.shape? a.block with
  |none=>exact⟨_,by rw[cQ];rfl⟩
  |some s=>exact⟨_,by rw[cQ];rfl⟩
 have last:∀ (b:cr) (f:Bool->Bool) (gh:World),∃ a w,(Builtin.holdsCells b (n*size) >>= λr=>cX (f r)).run P gh=.ok a w:=λb f gh=>by
  obtain⟨r,hr⟩:=hold b (n*size) gh
  exact⟨_,_,by rw[cE,hr,cQ];rfl⟩
 unfold Builtin.mayShare
 cases base with
 |none =>
  dsimp only
  split
  .exact last _ (λr=>!r||_) gh
  .exact⟨_,_,rfl⟩
 |some a =>
  obtain⟨r,hr⟩:=hold a (sLen*size) gh
  simp only[cE,hr,cQ,run_frozen,Sem.run_pure]
  split
  .exact⟨_,_,rfl⟩
  .split
   .exact last _ (λr=>!r||_) gh
   .exact⟨_,_,rfl⟩
theorem ak.append(hz:zeros P fns)(ts:Array b9)(t:b9)(ht:∀ t e,ts[0]?=some t->P.underlying t=some (.slice e)->fns.tys e=true)(hi:∀ xt d,ts[1]?=some xt->P.underlying xt=some d->isInt d=false){x x':Array ai}(hx:aU fns E x x'):ak P fns Z E (Builtin.append_ ts t x) (Builtin.append_ ts t x') (λE' v v'=>VR fns E' v v'):=by
 unfold Builtin.append_
 cases h0:x[0]? with
 |none=>cases ts[0]?<;>exact ak.dies aK.stuck
 |some v =>
 cases h1:x[1]? with
 |none=>cases ts[0]?<;>exact ak.dies aK.stuck
 |some u =>
  obtain⟨v',g0,hv⟩:=hx.get? 0 h0
  obtain⟨u',g1,hu⟩:=hx.get? 1 h1
  rw[g0,g1]
  cases hty:ts[0]? with
  |none=>exact ak.dies aK.stuck
  |some ty =>
   refine ak.bind (ak.underlying ty) λE1 d d' dG e=>?_
   obtain⟨rfl,hun⟩:=e
   split
   .cases v with
    |slice a dl dc =>
     obtain⟨b,rfl,ha⟩:=aJ.1 (hv.up dG)
     dsimp only
     refine ak.bind (ak.sizeOf _) λE2 s s' dW e=>?_
     subst e
     cases hxt:ts[1]? with
     |none =>
      dsimp only
      refine ak.bind (Φ:=λ_ z z'=>z=false/\z'=false) (ak.pure ⟨rfl,rfl⟩) λE3 z z' gG e=>?_
      obtain⟨rfl,rfl⟩:=e
      simp only[cH,if_false,ns,if_true,false_or]
      have hu3:=((hu.up dG).up dW).up gG
      have GL:=(ha.up dW).up gG
      refine ak.bind (ak.lenOf hu3) λE4 n n' u_ e=>?_
      obtain⟨rfl,hlen⟩:=e
      have Yc:=hu3.up u_
      have MJ:=GL.up u_
      split
      .rename_i hfit
       rcases MJ with MJ|⟨e1,e2,e3⟩
       rotate_left
       .subst e1 e2 e3
        obtain rfl:n'=0:=by omega
        refine ak.bind (ak.kU _ Yc) λE5 y y' yO hy=>?_
        obtain⟨rfl,rfl⟩:=hy
        cases a with
        |none=>exact ak.pure (aJ.2 ⟨_,rfl,.inr ⟨rfl,rfl,rfl⟩⟩)
        |some a=>exact ak.bind (Φ:=λ_ _ _=>True) (ak.pure trivial) λE6 _ _ NA _=>ak.pure (aJ.2 ⟨_,rfl,.inr ⟨rfl,rfl,rfl⟩⟩)
       refine ak.bind (ak.firstCells _ _ Yc (λa l c e=>by rw[<-hlen a l c e];exact al _)) λE5 y y' yO hy=>?_
       have TW:=MJ.up yO
       cases a with
       |none=>rw[iL] at TW;subst TW;exact ak.pure (aJ.2 ⟨_,rfl,.inl trivial⟩)
       |some a =>
        obtain⟨b',rfl,ha6⟩:=dS.1 TW
        exact ak.bind (ak.storeCells _ _ 0 (ha6.add _) (gT hy)) λE6 _ _ NA _=>ak.pure (aJ.2 ⟨_,rfl,.inl (ha6.up NA)⟩)
      .refine ak.bind (ak.typeInfo _) λE5 i i' yO e=>?_
       obtain⟨rfl,_⟩:=e
       split
       .exact ak.dies (aK.bind (aK.runtimePanic _))
       .refine ak.bind (ak.typeInfo _) λE6 i i' NA e=>?_
        obtain⟨rfl,_⟩:=e
        split
        .refine ak.dies (aK.bind (aK.nW (λgh=>.inl (nX _ _ _ _ _ gh)) λr=>?_))
         split
         .exact aK.nW (λgh=>.inl ⟨_,_,rfl⟩) λ_=>aK.halt rfl
         .exact aK.halt rfl
        .refine ak.bind ak.choose λE7 c c' up7 e=>?_
         subst e
         refine ak.bind (ak.typeInfo _) λE8 i i' up8 e=>?_
         obtain⟨rfl,_⟩:=e
         refine ak.bind (ak.askRoom _) λE9 _ _ up9 _=>?_
         have up:∀ a b,E4 a b->E9 a b:=λa b q=>up9 _ _ (up8 _ _ (up7 _ _ (NA _ _ (yO _ _ q))))
         refine ak.bind (ak.firstCells _ _ (aJ.2 ⟨_,rfl,MJ.up up⟩) (λ_ _ _ e=>by cases e;exact al _)) λF1 y y' uq1 hy=>?_
         refine ak.bind (ak.firstCells _ _ ((Yc.up up).up uq1) (λa l c e=>by rw[<-hlen a l c e];exact al _)) λF2 k k' uq2 hk=>?_
         refine ak.bind (ak.zeroValue hz _ (ht ty _ hty hun)) λF3 v v' uq3 h=>?_
         obtain⟨rfl,hcl⟩:=h
         have hall:=(((hy.up uq2).append hk).up uq3).append (kM (E:=F3) (λi hi=>jg hcl i hi) (c'-(dl+n')))
         exact ak.bind (ak.newRow hall) λF4 a a' uq4 h=>ak.pure (aJ.2 ⟨_,rfl,.inl h.as⟩)
     |some xt =>
      dsimp only
      refine ak.bind (ak.underlying xt) λE2' d d' afe e=>?_
      obtain⟨rfl,hd⟩:=e
      have hno:=hi xt d' hxt hd
      have dW:∀ a b,E1 a b->E2' a b:=λa b q=>afe _ _ (dW _ _ q)
      refine ak.bind (Φ:=λ_ z z'=>z=false/\z'=false) (ak.pure ⟨hno,hno⟩) λE3 z z' gG e=>?_
      obtain⟨rfl,rfl⟩:=e
      simp only[cH,if_false,ns,if_true,false_or]
      have hu3:=((hu.up dG).up dW).up gG
      have GL:=(ha.up dW).up gG
      refine ak.bind (ak.lenOf hu3) λE4 n n' u_ e=>?_
      obtain⟨rfl,hlen⟩:=e
      have Yc:=hu3.up u_
      have MJ:=GL.up u_
      split
      .rename_i hfit
       rcases MJ with MJ|⟨e1,e2,e3⟩
       rotate_left
       .subst e1 e2 e3
        obtain rfl:n'=0:=by omega
        refine ak.bind (ak.kU _ Yc) λE5 y y' yO hy=>?_
        obtain⟨rfl,rfl⟩:=hy
        cases a with
        |none=>exact ak.pure (aJ.2 ⟨_,rfl,.inr ⟨rfl,rfl,rfl⟩⟩)
        |some a=>exact ak.bind (Φ:=λ_ _ _=>True) (ak.pure trivial) λE6 _ _ NA _=>ak.pure (aJ.2 ⟨_,rfl,.inr ⟨rfl,rfl,rfl⟩⟩)
       refine ak.bind (ak.firstCells _ _ Yc (λa l c e=>by rw[<-hlen a l c e];exact al _)) λE5 y y' yO hy=>?_
       have TW:=MJ.up yO
       cases a with
       |none=>rw[iL] at TW;subst TW;exact ak.pure (aJ.2 ⟨_,rfl,.inl trivial⟩)
       |some a =>
        obtain⟨b',rfl,ha6⟩:=dS.1 TW
        exact ak.bind (ak.storeCells _ _ 0 (ha6.add _) (gT hy)) λE6 _ _ NA _=>ak.pure (aJ.2 ⟨_,rfl,.inl (ha6.up NA)⟩)
      .refine ak.bind (ak.typeInfo _) λE5 i i' yO e=>?_
       obtain⟨rfl,_⟩:=e
       split
       .exact ak.dies (aK.bind (aK.runtimePanic _))
       .refine ak.bind (ak.typeInfo _) λE6 i i' NA e=>?_
        obtain⟨rfl,_⟩:=e
        split
        .refine ak.dies (aK.bind (aK.nW (λgh=>.inl (nX _ _ _ _ _ gh)) λr=>?_))
         split
         .exact aK.nW (λgh=>.inl ⟨_,_,rfl⟩) λ_=>aK.halt rfl
         .exact aK.halt rfl
        .refine ak.bind ak.choose λE7 c c' up7 e=>?_
         subst e
         refine ak.bind (ak.typeInfo _) λE8 i i' up8 e=>?_
         obtain⟨rfl,_⟩:=e
         refine ak.bind (ak.askRoom _) λE9 _ _ up9 _=>?_
         have up:∀ a b,E4 a b->E9 a b:=λa b q=>up9 _ _ (up8 _ _ (up7 _ _ (NA _ _ (yO _ _ q))))
         refine ak.bind (ak.firstCells _ _ (aJ.2 ⟨_,rfl,MJ.up up⟩) (λ_ _ _ e=>by cases e;exact al _)) λF1 y y' uq1 hy=>?_
         refine ak.bind (ak.firstCells _ _ ((Yc.up up).up uq1) (λa l c e=>by rw[<-hlen a l c e];exact al _)) λF2 k k' uq2 hk=>?_
         refine ak.bind (ak.zeroValue hz _ (ht ty _ hty hun)) λF3 v v' uq3 h=>?_
         obtain⟨rfl,hcl⟩:=h
         have hall:=(((hy.up uq2).append hk).up uq3).append (kM (E:=F3) (λi hi=>jg hcl i hi) (c'-(dl+n')))
         exact ak.bind (ak.newRow hall) λF4 a a' uq4 h=>ak.pure (aJ.2 ⟨_,rfl,.inl h.as⟩)
    |_=>exact ak.dies aK.stuck
   .exact ak.stuck
variable {P:ar} {fns:Fx} {E E' D7:Nat->Nat->Prop} {Z:Nat->Prop}
theorem ak.intArith(op:BinOp)(k:IntKind)(a b:Int):ak P fns Z E (Op.intArith op k a b) (Op.intArith op k a b) (λE' v v'=>VR fns E' v v'):=by
 unfold Op.intArith
 split<;>first|exact ak.pure (aG rfl)|exact ak.stuck
theorem ak.intBits(op:BinOp)(k:IntKind)(a b:Int):ak P fns Z E (Op.intBits op k a b) (Op.intBits op k a b) (λE' v v'=>VR fns E' v v'):=by
 unfold Op.intBits
 dsimp only
 split<;>first|exact ak.pure (aG rfl)|exact ak.stuck
theorem ak.intDiv(op:BinOp)(k:IntKind)(a b:Int):ak P fns Z E (Op.intDiv op k a b) (Op.intDiv op k a b) (λE' v v'=>VR fns E' v v'):=by
 unfold Op.intDiv
 split
 .exact ak.dies (aK.runtimePanic _)
 .split<;>first|exact ak.pure (aG rfl)|exact ak.stuck
theorem ak.intCmp(op:BinOp)(a b:Int):ak P fns Z E (Op.intCmp op a b) (Op.intCmp op a b) (λE' v v'=>VR fns E' v v'):=by
 unfold Op.intCmp
 split<;>first|exact ak.pure (aG rfl)|exact ak.stuck
theorem ak.shift(op:BinOp)(k:IntKind)(a:Int)(yk:IntKind)(b:Int):ak P fns Z E (Op.shift op k a yk b) (Op.shift op k a yk b) (λE' v v'=>VR fns E' v v'):=by
 unfold Op.shift
 split
 .exact ak.dies (aK.runtimePanic _)
 .dsimp only
  split<;>first|exact ak.pure (aG rfl)|exact ak.stuck
theorem ak.stringOp(op:BinOp)(a b:ByteArray):ak P fns Z E (Op.stringOp op a b) (Op.stringOp op a b) (λE' v v'=>VR fns E' v v'):=by
 unfold Op.stringOp
 dsimp only
 split
 .split
  .exact ak.dies (aK.halt rfl)
  .exact ak.pure (aG rfl)
 all_goals first|exact ak.pure (aG rfl)|exact ak.stuck
theorem ak.unary(op:UnOp){v v':ai}(hv:VR fns E v v'):ak P fns Z E (Op.unary op v) (Op.unary op v') (λE' v v'=>VR fns E' v v'):=by
 cases v with
 |int k n =>
  rw[dF] at hv;subst hv
  cases op
  all_goals first
   |exact ak.dies (aK.halt rfl)
   |exact(ak.intArith .sub k 0 n:ak P fns Z E (Op.intArith .sub k 0 n) (Op.intArith .sub k 0 n) _)
   |exact(ak.intBits .xor k (if k.signed then -1 else k.max) n)
 |bool b =>
  rw[mE] at hv;subst hv
  cases op<;>first|exact ak.pure (aG rfl)|exact ak.dies (aK.halt rfl)
 |float=>exact(cu hv).elim
 |complex=>exact(bP hv).elim
 |pointer a=>cases a<;>cases op<;>exact ak.dies (aK.halt rfl)
 |_=>cases op<;>exact ak.dies (aK.halt rfl)
theorem zX(P:ar)(fns:Fx)(d:Nat)(t:b9)(o:Nat):cellOfByte (fns.re P) d t o=cellOfByte P d t o:=by
 induction d generalizing t o with
 |zero=>rfl
 |succ d ih =>
  unfold cellOfByte
  simp only[ih]
  rfl
theorem yQ(P:ar)(fns:Fx)(d:Nat)(e:b9)(k off:Nat)(n:Int):cellAtBytes (fns.re P) d e k off n=cellAtBytes P d e k off n:=by
 unfold cellAtBytes
 simp only[pW,zX]
 rfl
theorem PZ{p:ar}{d:Nat}{e:b9}{k k' off:Nat}{n:Int}{o:Nat}(h:k<=k')(hc:cellAtBytes p d e k off n=some o):cellAtBytes p d e k' off n=some o:=by
 unfold cellAtBytes at hc ⊢
 have hk:∀ w:Nat,Int.ofNat (k*w)<=Int.ofNat (k'*w):=λw=>Int.ofNat_le.2 (Nat.mul_le_mul_right w h)
 have:=hk (p.bytesOf e)
 simp only[bind,Option.bind,fy,decide_eq_true_eq] at hc ⊢
 split at hc
 .cases hc
 .rename_i h1
  rw[if_neg h1]
  split at hc
  .cases hc
  .rename_i x hx
   simp only[hx] at hc ⊢
   split at hc
   .cases hc
   .rename_i h2
    rw[if_neg (by omega)]
    exact hc
theorem ak.wrE{α β:Type}{s:Sem α}{s':Sem β}{Φ:(Nat->Nat->Prop)->α->β->Prop}(h:(∃ gh re,WR P fns E Z gh re)->ak P fns Z E s s' Φ):ak P fns Z E s s' Φ:=λgh re hw=>h ⟨gh,re,hw⟩ gh re hw
theorem ak.unsafeAdd(t:b9){a a':Option cr}{y y':ai}(ha:OA fns E a a')(hy:VR fns E y y'):ak P fns Z E (Builtin.unsafeAdd_ #[] t #[.pointer a,y]) (Builtin.unsafeAdd_ #[] t #[.pointer a',y']) (λE' v v'=>VR fns E' v v'):=by
 unfold Builtin.unsafeAdd_
 refine ak.wrE λ⟨gh,re,hw⟩=>?_
 dsimp only
 refine ak.bind (ak.asInt hy) λE1 n n' dG e=>?_
 subst e
 have ha1:=ha.up dG
 split
 .cases a with
  |none=>rw[jT] at ha1;subst ha1;exact ak.dies (aK.halt rfl)
  |some a =>
   obtain⟨b,rfl,hb⟩:=dB.1 ha1
   refine ak.bind (ak.viewAt hb.1) λE2 s s' dW e=>?_
   obtain⟨rfl,rfl⟩:=e
   exact ak.pure (aM.2 ⟨_,rfl,hb.up dW⟩)
 .rename_i hn0
  split
  .exact ak.dies (aK.bind (aK.halt rfl))
  .rename_i hn1
   cases a with
   |none=>rw[jT] at ha1;subst ha1;exact ak.dies (aK.halt rfl)
   |some a =>
    obtain⟨b,rfl,hb⟩:=dB.1 ha1
    refine ak.bind (ak.shape hb.1) λE2 s s' dW e=>?_
    rcases e with ⟨rfl,rfl⟩|⟨el,k,k',rfl,rfl,hk⟩
    .exact ak.dies (aK.halt rfl)
    .dsimp only
     refine ak.bind ak.program λE3 p q gG e=>?_
     obtain⟨rfl,rfl⟩:=e
     rw[<-hb.2.1,show (fns.re p).depth=p.depth from rfl,show (fns.re p).cellsOf el=p.cellsOf el from rfl,yQ]
     cases hc:cellAtBytes p p.depth el (k/p.cellsOf el) a.off n' with
     |none=>exact ak.dies (aK.halt rfl)
     |some o =>
      rw[PZ (Nat.div_le_div_right hk) hc]
      refine ak.pure (aM.2 ⟨_,rfl,gG _ _ (dW _ _ hb.1),rfl,hb.2.2.1,hb.2.2.2.1,?_⟩)
      rcases hb.2.2.2.1 with hf|hp
      .exact Nat.le_trans hb.2.2.2.2 (hw.jM.2 hf el _ a.off n' o (by omega) hc)
      .exact(fns.J8 hp _).2
theorem ak.movedNumber(t:b9){a a':Option cr}{y y':ai}(ha:OA fns E a a')(hy:VR fns E y y'):ak P fns Z E (oy t (.pointer a) y) (oy t (.pointer a') y') (λE' v v'=>VR fns E' v v'):=by
 unfold oy
 cases a with
 |none =>
  rw[jT] at ha;subst ha
  refine ak.bind (ak.underlying t) λE1 d d' dG e=>?_
  obtain⟨rfl,-⟩:=e
  cases d'<;>first
   |exact ak.unsafeAdd t (a:=none) (a':=none) trivial (hy.up dG)
   |exact ak.dies (show aK P (Go.unsupported _ >>= λ_=>Builtin.unsafeAdd_ #[] t #[.pointer none,y]) from aK.bind (aK.halt rfl))
 |some a =>
  obtain⟨b,rfl,hb⟩:=dB.1 ha
  refine ak.bind (ak.underlying t) λE1 d d' dG e=>?_
  obtain⟨rfl,-⟩:=e
  dsimp only
  split
  .rw[if_pos rfl];exact ak.dies (aK.bind (aK.halt rfl))
  .simp only[cH,if_false]
   refine ak.bind (ak.behindNumber (hb.up dG)) λE2 s s' dW e=>?_
   obtain⟨e1,e2⟩:=e
   rw[<-e2]
   refine ak.bind (ak.unsafeAdd t (a:=some s.1) (a':=some s'.1) e1 ((hy.up dG).up dW)) λE3 v v' gG hv=>?_
   cases v with
   |pointer p =>
    obtain⟨p',rfl,hp⟩:=aM.1 hv
    cases p with
    |none=>rw[jT] at hp;subst hp;exact ak.pure (aG rfl)
    |some p=>obtain⟨q,rfl,hq⟩:=dB.1 hp;exact ak.asNumber hq _
   |float=>exact(cu hv).elim
   |complex=>exact(bP hv).elim
   |slice a l c=>obtain⟨b,rfl,_⟩:=aJ.1 hv;exact ak.pure hv
   |map r=>obtain⟨rfl,rfl⟩:=fE.1 hv;exact ak.pure hv
   |chan r=>obtain⟨rfl,rfl⟩:=dJ.1 hv;exact ak.pure hv
   |func f x y=>obtain⟨x',y',rfl,_⟩:=dA.1 hv;exact ak.pure hv
   |iface t u=>obtain⟨u',rfl,_⟩:=bK.1 hv;exact ak.pure hv
   |agg x=>obtain⟨x',rfl,_⟩:=bY.1 hv;exact ak.pure hv
   |tuple x=>obtain⟨x',rfl,_⟩:=bL.1 hv;exact ak.pure hv
   |_=>have:=hv;rw[VR] at this;subst this;exact ak.pure hv
theorem ak.movedPointer(t:b9){a a':Option cr}{y y':ai}(ha:OA fns E a a')(hy:VR fns E y y'):ak P fns Z E (nt t (.pointer a) y) (nt t (.pointer a') y') (λE' v v'=>VR fns E' v v'):=by
 unfold nt
 cases a with
 |none=>rw[jT] at ha;subst ha;exact ak.unsafeAdd t (a:=none) (a':=none) trivial hy
 |some a =>
  obtain⟨b,rfl,hb⟩:=dB.1 ha
  dsimp only
  refine ak.bind (ak.numberAt hb.1) λE2 s s' dW e=>?_
  rcases e with ⟨rfl,rfl⟩|⟨y,y',l,rfl,rfl,_⟩
  .exact ak.unsafeAdd t (a:=some a) (a':=some b) (hb.up dW) (hy.up dW)
  .exact ak.dies (aK.bind (aK.halt rfl))
theorem ak.twoPlaces{a a' b b':cr}(ha:AR fns E a a')(hb:AR fns E b b'):ak P fns Z E (Op.twoPlaces a b) (Op.twoPlaces a' b') (λ_ n n'=>n'=n):=by
 refine ak.wrE λ⟨gh,re,hw⟩=>?_
 unfold Op.twoPlaces
 refine ak.bind ak.program λE1 p q dG e=>?_
 obtain⟨rfl,rfl⟩:=e
 rw[show (fns.re p).globals=p.globals from rfl]
 have e1:(a'.block != b'.block||decide (a'.block≥p.globals.size))=(a.block != b.block||decide (a.block≥p.globals.size)):=by
  have i:=hw.inj _ _ _ _ ha.1 hb.1
  have g:=hw.glob _ _ ha.1
  have g1:(a'.block != b'.block)=(a.block != b.block):=by
   by_cases h:a.block=b.block
   .rw[h,i.1 h,bne_self_eq_false,bne_self_eq_false]
   .rw[bne_iff_ne.2 h,bne_iff_ne.2 λx=>h (i.2 x ha.2.2.2.1)]
  have g2:decide (a'.block≥p.globals.size)=decide (a.block≥p.globals.size):=by
   rw[decide_eq_decide]
   by_cases hh:a.block<=p.globals.size\/a'.block<=p.globals.size
   .rw[g hh]
   .constructor<;>intro _<;>omega
  rw[g1,g2]
 rw[e1]
 dsimp only
 split
 .exact ak.dies (aK.bind (aK.halt rfl))
 .refine ak.bind (ak.byteOf (ha.up dG).as) λE2 n n' dW e=>?_
  subst e
  refine ak.bind (ak.byteOf ((hb.up dG).up dW).as) λE3 n n' gG e=>?_
  subst e
  exact ak.pure rfl
theorem ak.addrSub(k:IntKind){a a' b b':cr}(ha:AR fns E a a')(hb:AR fns E b b'):ak P fns Z E (Op.addrSub k a b) (Op.addrSub k a' b') (λE' v v'=>VR fns E' v v'):=by
 unfold Op.addrSub
 refine ak.bind (ak.twoPlaces ha hb) λE2 n n' dW e=>?_
 subst e
 exact ak.pure (aG rfl)
theorem ak.addrCmp(op:BinOp){a a' b b':cr}(ha:AR fns E a a')(hb:AR fns E b b'):ak P fns Z E (Op.addrCmp op a b) (Op.addrCmp op a' b') (λE' v v'=>VR fns E' v v'):=by
 unfold Op.addrCmp
 refine ak.bind (ak.twoPlaces ha hb) λE2 n n' dW e=>?_
 subst e
 dsimp only
 split<;>first|exact ak.pure (aG rfl)|exact ak.dies (aK.halt rfl)
theorem ak.addrMod(k:IntKind){a a':cr}(ha:AR fns E a a')(n:Int):ak P fns Z E (Op.addrMod k a n) (Op.addrMod k a' n) (λE' v v'=>VR fns E' v v'):=by
 unfold Op.addrMod
 refine ak.bind (ak.shape ha.1) λE1 s s' dG e=>?_
 rcases e with ⟨rfl,rfl⟩|⟨el,k,k',rfl,rfl,hk⟩
 .exact ak.dies (aK.halt rfl)
 .dsimp only
  refine ak.bind (ak.typeInfo _) λE2 i i' dW e=>?_
  obtain⟨rfl,_⟩:=e
  split
  .exact ak.dies (aK.bind (aK.halt rfl))
  .refine ak.bind (ak.byteOf ((ha.up dG).up dW).as) λE3 n n' gG e=>?_
   subst e
   exact ak.pure (aG rfl)
variable {P:ar} {fns:Fx} {E E' D7:Nat->Nat->Prop} {Z:Nat->Prop}
def simple:TypeDesc->Bool
 | .int _ | .bool | .string=>true
 |_=>false
theorem ak.vg{t:b9}(hs:∀ d,P.underlying t=some d->simple d=true):∀ (n:Nat) {E:Nat->Nat->Prop} {x x' y y':ai},VR fns E x x'->VR fns E y y'->ak P fns Z E (Op.equalIn n t x y) (Op.equalIn n t x' y') (λ_ b b'=>b'=b)
 |0,E,x,x',y,y',hx,hy=>by unfold Op.equalIn;exact ak.dies (aK.halt rfl)
 |n+1,E,x,x',y,y',hx,hy=>by
  unfold Op.equalIn
  refine ak.bind (ak.underlying t) λE1 d d' dG e=>?_
  obtain⟨rfl,hd⟩:=e
  have hsd:=hs _ hd
  have hx1:=hx.up dG
  have hy1:=hy.up dG
  clear hx hy hd
  split
  .rw[mE] at hx1 hy1;subst hx1;subst hy1;exact ak.pure rfl
  .rw[dF] at hx1 hy1;subst hx1;subst hy1
   dsimp only
   split
   .exact ak.pure rfl
   .exact ak.stuck
  .obtain⟨b,rfl,hb⟩:=aM.1 hx1
   obtain⟨b',rfl,hb⟩:=dB.1 hb
   rw[dF] at hy1;subst hy1
   exact ak.pure rfl
  .obtain⟨b,rfl,hb⟩:=aM.1 hy1
   obtain⟨b',rfl,hb⟩:=dB.1 hb
   rw[dF] at hx1;subst hx1
   exact ak.pure rfl
  .obtain⟨b,rfl,hb⟩:=aM.1 hx1
   obtain⟨a',rfl,ha⟩:=dB.1 hb
   obtain⟨b,rfl,hb⟩:=aM.1 hy1
   obtain⟨b',rfl,hb⟩:=dB.1 hb
   dsimp only
   refine ak.bind (ak.behindNumber ha) λE2 s s' dW e1=>?_
   refine ak.bind (ak.behindNumber (hb.up dW)) λE3 u u' gG e2=>?_
   have k1:=e1.1.up gG
   have k2:=e2.1
   refine ak.wrE λ⟨gh,re,hw⟩=>?_
   have i:s.1.block=u.1.block↔s'.1.block=u'.1.block:=⟨(hw.inj _ _ _ _ k1.1 k2.1).1,λx=>(hw.inj _ _ _ _ k1.1 k2.1).2 x k1.2.2.2.1⟩
   have g:=hw.glob _ _ k1.1
   refine ak.bind ak.program λE4 p q u_ e=>?_
   obtain⟨rfl,rfl⟩:=e
   rw[show (fns.re p).globals=p.globals from rfl]
   have e3:(s'.1.block==u'.1.block&&decide (s'.1.block<p.globals.size))=(s.1.block==u.1.block&&decide (s.1.block<p.globals.size)):=by
    have g1:(s'.1.block==u'.1.block)=(s.1.block==u.1.block):=by
     by_cases h:s.1.block=u.1.block
     .rw[h,i.1 h,beq_self_eq_true,beq_self_eq_true]
     .rw[beq_eq_false_iff_ne.2 h,beq_eq_false_iff_ne.2 λx=>h (i.2 x)]
    have g2:decide (s'.1.block<p.globals.size)=decide (s.1.block<p.globals.size):=by
     rw[decide_eq_decide]
     by_cases hh:s.1.block<=p.globals.size\/s'.1.block<=p.globals.size
     .rw[g hh]
     .constructor<;>intro _<;>omega
    rw[g1,g2]
   rw[e3]
   split
   .refine ak.bind (ak.byteOf (k1.up u_).as) λE5 n n' yO e=>?_
    subst e
    refine ak.bind (ak.byteOf ((k2.up u_).up yO).as) λE6 n n' NA e=>?_
    subst e
    exact ak.pure rfl
   .refine ak.bind (ak.typeInfo _) λE5 i i' yO e=>?_
    obtain⟨rfl,_⟩:=e
    have e4:(s'.1==u'.1)=(s.1==u.1):=by
     obtain⟨⟨s1,s2,s3⟩,_⟩:=s
     obtain⟨⟨s1',s2',s3'⟩,_⟩:=s'
     obtain⟨⟨u1,u2,u3⟩,_⟩:=u
     obtain⟨⟨u1',u2',u3'⟩,_⟩:=u'
     obtain⟨_,k12,k13,_⟩:=k1
     obtain⟨_,k22,k23,_⟩:=k2
     simp only at k12 k13 k22 k23 i ⊢
     subst k12 k13 k22 k23
     rw[Bool.eq_iff_iff]
     simp[i]
    split
    .rw[e4]
     split
     .exact ak.pure rfl
     .exact ak.dies (aK.halt rfl)
    .exact ak.dies (aK.halt rfl)
  .exact ak.dies (aK.halt rfl)
  .exact ak.dies (aK.halt rfl)
  all_goals first
   | (cases hsd;done)
   | (rw[dO] at hx1 hy1;subst hx1;subst hy1;exact ak.pure rfl)
   |exact ak.stuck
theorem ak.P5{t:b9}{y:ai}(hy:y=.nilIface\/∃ l c,y=.slice none l c):∀ (n:Nat) {E:Nat->Nat->Prop} {x x':ai},VR fns E x x'->ak P fns Z E (Op.equalIn n t x y) (Op.equalIn n t x' y) (λ_ b b'=>b'=b)
 |0,E,x,x',hx=>by unfold Op.equalIn;exact ak.dies (aK.halt rfl)
 |n+1,E,x,x',hx=>by
  unfold Op.equalIn
  refine ak.bind (ak.underlying t) λE1 d d' dG e=>?_
  obtain⟨rfl,-⟩:=e
  have hx1:=hx.up dG
  clear hx
  rcases hy with rfl|⟨l,c,rfl⟩
  .split
   all_goals first
    |exact ak.stuck
    |exact ak.dies (aK.halt rfl)
    | (rw[dZ] at hx1;subst hx1;exact ak.pure rfl)
    | (obtain⟨u',rfl,_⟩:=bK.1 hx1;exact ak.pure rfl)
    | (rename_i h;cases h)
    | (rename_i h _;cases h)
  .split
   all_goals first
    |exact ak.stuck
    |exact ak.dies (aK.halt rfl)
    | (obtain⟨b,rfl,hb⟩:=aJ.1 hx1;rw[vU] at hb;subst hb;exact ak.pure rfl)
    | (obtain⟨b,rfl,hb⟩:=aJ.1 hx1;cases b<;>exact ak.pure rfl)
    | (rename_i h;cases h;done)
    | (rename_i h _;cases h;done)
    | (rename_i h;cases h;obtain⟨b,rfl,hb⟩:=aJ.1 hx1;rw[vU] at hb;subst hb;exact ak.pure rfl)
    | (rename_i hne h;cases h;obtain⟨b,rfl,hb⟩:=aJ.1 hx1;cases b with|none=>exact(hne (by rename_i a _ _;cases a<;>first|rfl|(obtain⟨_,e⟩:=J9 hb;cases e))).elim|some b=>exact ak.pure rfl)
def rM(P:ar)(t:b9)(y:c_):Bool :=
 match y with
 | .const .nilIface=>true
 | .const (.slice none _ _)=>true
 |_=>match P.underlying t with
  |some d=>simple d
  |none=>true
theorem iD{t:b9}{y:c_}(h:rM P t y=true):(y=.const .nilIface\/∃ l c,y=.const (.slice none l c))\/∀ d,P.underlying t=some d->simple d=true:=by
 unfold rM at h
 split at h
 .exact .inl (.inl rfl)
 .exact .inl (.inr ⟨_,_,rfl⟩)
 .refine .inr λd hd=>?_
  rw[hd] at h;exact h
theorem ak.equal{t:b9}{y:c_}(h:rM P t y=true){x x' b b':ai}(hx:VR fns E x x')(hb:VR fns E b b')(hy:∀ v,y=.const v->b=v):ak P fns Z E (Op.equal t x b) (Op.equal t x' b') (λ_ r r'=>r'=r):=by
 rcases iD h with h|h
 .have e:b=.nilIface\/∃ l c,b=.slice none l c:=by
   rcases h with h|⟨l,c,h⟩
   .exact .inl (hy _ h)
   .exact .inr ⟨l,c,hy _ h⟩
  have e':b'=b:=by
   rcases e with rfl|⟨l,c,rfl⟩
   .rw[dZ] at hb;exact hb
   .obtain⟨q,rfl,hq⟩:=aJ.1 hb;rw[vU] at hq;rw[hq]
  subst e'
  exact ak.P5 e _ hx
 .exact ak.vg h _ hx hb
theorem rO{t:b9}(hs:∀ d,P.underlying t=some d->simple d=true):∀ (n:Nat) {E:Nat->Nat->Prop} {x x' y y':ai},ak P fns Z E (Op.eqGuardIn n t x y) (Op.eqGuardIn n t x' y') (λ_ b b'=>b=false/\b'=false)
 |0,E,x,x',y,y'=>by unfold Op.eqGuardIn;exact ak.dies (aK.halt rfl)
 |n+1,E,x,x',y,y'=>by
  unfold Op.eqGuardIn
  refine ak.bind (ak.underlying t) λE1 d d' dG e=>?_
  obtain⟨rfl,hd⟩:=e
  have:=hs _ hd
  cases d'<;>first|(cases this;done)|exact ak.pure ⟨rfl,rfl⟩
theorem gU{t:b9}(hs:∀ d,P.underlying t=some d->simple d=true)(n:Nat):P.eqGuardType (n+1) t=false:=by
 unfold Program.eqGuardType
 cases h:P.underlying t with
 |none=>rfl
 |some d=>have:=hs _ h;cases d<;>first|(cases this;done)|rfl
theorem gV{v:ai}(h:VR fns E v .nilIface):v=.nilIface:=by
 cases v with
 |nilIface=>rfl
 |pointer a=>obtain⟨b,h,_⟩:=aM.1 h;cases h
 |slice a l c=>obtain⟨b,h,_⟩:=aJ.1 h;cases h
 |map r=>obtain⟨_,h⟩:=fE.1 h;cases h
 |chan r=>obtain⟨_,h⟩:=dJ.1 h;cases h
 |func f x y=>obtain⟨x',y',h,_⟩:=dA.1 h;cases h
 |iface t u=>obtain⟨u',h,_⟩:=bK.1 h;cases h
 |agg x=>obtain⟨x',h,_⟩:=bY.1 h;cases h
 |tuple x=>obtain⟨x',h,_⟩:=bL.1 h;cases h
 |float=>exact(cu h).elim
 |complex=>exact(bP h).elim
 |_=>rw[VR] at h;cases h
theorem oQ{v:ai}{x':Array ai}(h:VR fns E v (.agg x')):∃ x,v=.agg x:=by
 cases v with
 |agg x=>exact⟨x,rfl⟩
 |pointer a=>obtain⟨b,h,_⟩:=aM.1 h;cases h
 |slice a l c=>obtain⟨b,h,_⟩:=aJ.1 h;cases h
 |map r=>obtain⟨_,h⟩:=fE.1 h;cases h
 |chan r=>obtain⟨_,h⟩:=dJ.1 h;cases h
 |func f x y=>obtain⟨x',y',h,_⟩:=dA.1 h;cases h
 |iface t u=>obtain⟨u',h,_⟩:=bK.1 h;cases h
 |tuple x=>obtain⟨x',h,_⟩:=bL.1 h;cases h
 |float=>exact(cu h).elim
 |complex=>exact(bP h).elim
 |_=>rw[VR] at h;cases h
theorem ak.eqGuard(fO:0<P.depth)(op:BinOp)(t:b9)(x y:c_)(h:rM P t y=true){a a' b b':ai}(ha:VR fns E a a')(hb:VR fns E b b')(hy:∀ v,y=.const v->b=v):ak P fns Z E (fh op t x y a b) (fh op t x y a' b') (λ_ _ _=>True):=by
 unfold fh
 split
 .simp only[fj,cH,if_false]
  split
  .rw[dZ] at ha hb;subst ha;subst hb
   dsimp only
   rcases iD h with hc|hc
   .rcases hc with rfl|⟨l,c,rfl⟩<;>cases x<;>exact ak.pure trivial
   .have tail:ak P fns Z E (Op.eqGuardIn Op.maxDepth t .nilIface .nilIface) (Op.eqGuardIn Op.maxDepth t .nilIface .nilIface) (λ_ b b'=>b=false/\b'=false):=rO hc _
    cases x<;>cases y<;>first
     |exact ak.pure trivial
     |exact ak.bind tail λE1 r r' dG e=>(by obtain⟨rfl,rfl⟩:=e;exact ak.pure trivial)
  .obtain⟨x1,rfl,_⟩:=bY.1 ha
   obtain⟨y1,rfl,_⟩:=bY.1 hb
   dsimp only
   rcases iD h with hc|hc
   .rcases hc with rfl|⟨l,c,rfl⟩
    .cases hy _ rfl
    .cases hy _ rfl
   .refine ak.bind ak.program λE1 p q dG e=>?_
    obtain⟨rfl,rfl⟩:=e
    refine ak.bind ak.program λE1 p q dG e=>?_
    obtain⟨rfl,rfl⟩:=e
    obtain⟨n,hn⟩:∃ n,p.depth=n+1:=⟨p.depth-1,by omega⟩
    rw[show (fns.re p).depth=p.depth from rfl,hn,gU hc,gU (P:=fns.re p) hc]
    exact ak.pure trivial
  .rename_i h1 h2
   split
   .exact(h1 (gV ha) (gV hb)).elim
   .obtain⟨_,e1⟩:=oQ ha
    obtain⟨_,e2⟩:=oQ hb
    exact(h2 _ _ e1 e2).elim
   .exact ak.pure trivial
 .simp only[fj,cH,if_false]
  split
  .rw[dZ] at ha hb;subst ha;subst hb
   dsimp only
   rcases iD h with hc|hc
   .rcases hc with rfl|⟨l,c,rfl⟩<;>cases x<;>exact ak.pure trivial
   .have tail:ak P fns Z E (Op.eqGuardIn Op.maxDepth t .nilIface .nilIface) (Op.eqGuardIn Op.maxDepth t .nilIface .nilIface) (λ_ b b'=>b=false/\b'=false):=rO hc _
    cases x<;>cases y<;>first
     |exact ak.pure trivial
     |exact ak.bind tail λE1 r r' dG e=>(by obtain⟨rfl,rfl⟩:=e;exact ak.pure trivial)
  .obtain⟨x1,rfl,_⟩:=bY.1 ha
   obtain⟨y1,rfl,_⟩:=bY.1 hb
   dsimp only
   rcases iD h with hc|hc
   .rcases hc with rfl|⟨l,c,rfl⟩
    .cases hy _ rfl
    .cases hy _ rfl
   .refine ak.bind ak.program λE1 p q dG e=>?_
    obtain⟨rfl,rfl⟩:=e
    refine ak.bind ak.program λE1 p q dG e=>?_
    obtain⟨rfl,rfl⟩:=e
    obtain⟨n,hn⟩:∃ n,p.depth=n+1:=⟨p.depth-1,by omega⟩
    rw[show (fns.re p).depth=p.depth from rfl,hn,gU hc,gU (P:=fns.re p) hc]
    exact ak.pure trivial
  .rename_i h1 h2
   split
   .exact(h1 (gV ha) (gV hb)).elim
   .obtain⟨_,e1⟩:=oQ ha
    obtain⟨_,e2⟩:=oQ hb
    exact(h2 _ _ e1 e2).elim
   .exact ak.pure trivial
 .simp only[ns,if_true]
  exact ak.pure trivial
def uG(P:ar)(fns:Fx)(t:b9):Bool:=match P.underlying t with
 |some (.struct fs)=>fs.all (λf=>match P.underlying f.type with
  |some d=>simple d
  |none=>true)&&!P.stoodInHeld t&&!(fns.re P).stoodInHeld t&&!P.eqGuardType P.depth t&&!(fns.re P).eqGuardType P.depth t
 |_=>false
def nilPtr(P:ar)(t:b9)(y:c_):Bool:=match y with
 | .const (.pointer none)=>match P.underlying t with
   |some (.pointer _)=>true
   |_=>false
 |_=>false
def MK(P:ar)(fns:Fx)(t:b9)(y:c_):Bool:=rM P t y||uG P fns t||nilPtr P t y
theorem ak.Ke{α σ:Type}{f f':α->σ->Sem (ForInStep σ)}:∀ (l:List α) (s:σ) {E:Nat->Nat->Prop},(∀ E',(∀ a b,E a b->E' a b)->∀ a∈l,∀ r,ak P fns Z E' (f a r) (f' a r) (λ_ x y=>y=x)) ->
 ak P fns Z E (ll l s f) (ll l s f') (λ_ x y=>y=x)
 | [],s,E,_=>by simp only[List.forIn_nil];exact ak.pure rfl
 |v::vs,s,E,hf=>by
  simp only[List.forIn_cons]
  refine ak.bind (hf E (λ_ _ x=>x) v (by simp) s) λE1 x y dG e=>?_
  subst e
  cases y with
  |done r=>exact ak.pure rfl
  |yield r=>exact ak.Ke vs r λE' up a ha r=>hf E' (λa b x=>up a b (dG a b x)) a (by simp[ha]) r
theorem ak.part(t:b9){x x':Array ai}(h:aU fns E x x')(o:Nat):ak P fns Z E (Go.part t x o) (Go.part t x' o) (λE' v v'=>VR fns E' v v'):=by
 unfold Go.part
 refine ak.bind (ak.isAgg t) λE1 b b' dG e=>?_
 subst e
 split
 .refine ak.bind (ak.sizeOf t) λE2 n n' dW e=>?_
  subst e
  exact ak.pure (bY.2 ⟨_,rfl,((h.up dG).up dW).extract _ _⟩)
 .cases hx:x[o]? with
  |none=>exact ak.stuck
  |some v =>
   obtain⟨v',e,hv⟩:=h.get? o hx
   rw[e]
   exact ak.pure (hv.up dG)
theorem ak.ML{t:b9}(h:uG P fns t=true):∀ (n:Nat) {E:Nat->Nat->Prop} {x x' y y':ai},VR fns E x x'->VR fns E y y'->ak P fns Z E (Op.equalIn n t x y) (Op.equalIn n t x' y') (λ_ b b'=>b'=b)
 |0,E,x,x',y,y',hx,hy=>by unfold Op.equalIn;exact ak.dies (aK.halt rfl)
 |n+1,E,x,x',y,y',hx,hy=>by
  unfold uG at h
  split at h
  .rename_i fs hfs
   simp only[bu,j7] at h
   obtain⟨⟨⟨⟨hall,s1⟩,s2⟩,_⟩,_⟩:=h
   unfold Op.equalIn
   refine ak.bind (ak.underlying t) λE1 d d' dG e=>?_
   obtain⟨rfl,hd⟩:=e
   rw[hfs] at hd
   obtain rfl:=cd hd
   have hx1:=hx.up dG
   have hy1:=hy.up dG
   cases x with
   |agg xs =>
    obtain⟨xs',rfl,hxs⟩:=bY.1 hx1
    cases y with
    |agg ys =>
     obtain⟨ys',rfl,hys⟩:=bY.1 hy1
     dsimp only
     refine ak.bind ak.program λE2 p q dW e=>?_
     obtain⟨rfl,rfl⟩:=e
     rw[s1,s2]
     simp only[cH,if_false]
     simp only[<-Array.forIn_toList]
     refine ak.bind (Φ:=λ_ a b=>b=a) (ak.Ke fs.toList _ λE3 gG f hf r=>?_) λE3 r r' gG e=>?_
     .split
      .refine ak.bind (ak.part _ ((aU.up hxs dW).up gG) _) λE4 u u' u_ hu=>?_
       refine ak.bind (ak.part _ (((aU.up hys dW).up gG).up u_) _) λE5 v v' yO hv=>?_
       have TY:∀ d,p.underlying f.type=some d->simple d=true:=λd hd=>by
        rw[Array.all_eq_true'] at hall
        have:=hall f (Array.mem_toList_iff.1 hf)
        rw[hd] at this
        exact this
       refine ak.bind (ak.vg TY n (hu.up yO) hv) λE6 b b' NA e=>?_
       subst e
       split<;>exact ak.pure rfl
      .exact ak.pure rfl
     .subst e
      split<;>exact ak.pure rfl
    |_=>exact ak.dies (aK.halt rfl)
   |_=>exact ak.dies (aK.halt rfl)
  .cases h
theorem rP{t:b9}{y:c_}(h:nilPtr P t y=true):y=.const (.pointer none)/\∃ e,P.underlying t=some (.pointer e):=by
 unfold nilPtr at h
 split at h
 .refine⟨rfl,?_⟩
  split at h
  .rename_i e he;exact⟨e,he⟩
  .cases h
 .cases h
theorem ak.P6{t e:b9}(h:P.underlying t=some (.pointer e)):∀ (n:Nat) {E:Nat->Nat->Prop} {x x':ai},VR fns E x x'->ak P fns Z E (Op.equalIn n t x (.pointer none)) (Op.equalIn n t x' (.pointer none)) (λ_ b b'=>b'=b)
 |0,E,x,x',hx=>by unfold Op.equalIn;exact ak.dies (aK.halt rfl)
 |n+1,E,x,x',hx=>by
  unfold Op.equalIn
  refine ak.bind (ak.underlying t) λE1 d d' dG e=>?_
  obtain⟨rfl,hd⟩:=e
  rw[h] at hd
  obtain rfl:=cd hd
  have hx1:=hx.up dG
  cases x with
  |pointer a =>
   obtain⟨b,rfl,hb⟩:=aM.1 hx1
   cases a with
   |none=>rw[jT] at hb;subst hb;exact ak.pure rfl
   |some a=>obtain⟨b',rfl,_⟩:=dB.1 hb;exact ak.pure rfl
  |_=>exact ak.dies (aK.halt rfl)
theorem ak.Kg{t:b9}{y:c_}(h:MK P fns t y=true){x x' b b':ai}(hx:VR fns E x x')(hb:VR fns E b b')(hy:∀ v,y=.const v->b=v):ak P fns Z E (Op.equal t x b) (Op.equal t x' b') (λ_ r r'=>r'=r):=by
 unfold MK at h
 rw[fy,fy] at h
 rcases h with (h|h)|h
 .exact ak.equal h hx hb hy
 .exact ak.ML h _ hx hb
 .obtain⟨h1,e,h2⟩:=rP h
  obtain rfl:=hy _ h1
  obtain⟨c,rfl,hc⟩:=aM.1 hb
  rw[jT] at hc
  subst hc
  exact ak.P6 h2 _ hx
theorem jh{op:BinOp}{t:b9}{x y:c_}{a b:ai}(h1:¬(a=.nilIface/\b=.nilIface))(h2:¬∃ u v,a=.agg u/\b=.agg v):fh op t x y a b=cX ():=by
 unfold fh
 split
 .simp only[fj,cH,if_false]
  split
  .exact(h1 ⟨rfl,rfl⟩).elim
  .exact(h2 ⟨_,_,rfl,rfl⟩).elim
  .rfl
 .simp only[fj,cH,if_false]
  split
  .exact(h1 ⟨rfl,rfl⟩).elim
  .exact(h2 ⟨_,_,rfl,rfl⟩).elim
  .rfl
 .rfl
theorem ak.MN{op:BinOp}{t:b9}{x y:c_}(h:uG P fns t=true){a a' b b':ai}(ha:VR fns E a a')(hb:VR fns E b b'):ak P fns Z E (fh op t x y a b) (fh op t x y a' b') (λ_ _ _=>True):=by
 by_cases h1:a=.nilIface/\b=.nilIface
 .obtain⟨rfl,rfl⟩:=h1
  rw[dZ] at ha hb
  subst ha
  subst hb
  have tail:ak P fns Z E (Op.eqGuardIn Op.maxDepth t .nilIface .nilIface) (Op.eqGuardIn Op.maxDepth t .nilIface .nilIface) (λ_ b b'=>b=false/\b'=false):=by
   show ak P fns Z E (Op.eqGuardIn (9999+1) t .nilIface .nilIface) (Op.eqGuardIn (9999+1) t .nilIface .nilIface) _
   unfold Op.eqGuardIn
   refine ak.bind (ak.underlying t) λE1 d d' dG e=>?_
   obtain⟨rfl,hd⟩:=e
   unfold uG at h
   rw[hd] at h
   cases d'<;>first|(cases h;done)|exact ak.pure ⟨rfl,rfl⟩
  unfold fh
  split
  .simp only[fj,cH,if_false]
   cases x<;>cases y<;>first
    |exact ak.pure trivial
    |exact ak.bind tail λE1 r r' dG e=>(by obtain⟨rfl,rfl⟩:=e;exact ak.pure trivial)
  .simp only[fj,cH,if_false]
   cases x<;>cases y<;>first
    |exact ak.pure trivial
    |exact ak.bind tail λE1 r r' dG e=>(by obtain⟨rfl,rfl⟩:=e;exact ak.pure trivial)
  .exact ak.pure trivial
 by_cases h2:∃ u v,a=.agg u/\b=.agg v
 .obtain⟨u,v,rfl,rfl⟩:=h2
  obtain⟨u',rfl,_⟩:=bY.1 ha
  obtain⟨v',rfl,_⟩:=bY.1 hb
  have hg:P.eqGuardType P.depth t=false/\(fns.re P).eqGuardType P.depth t=false:=by
   unfold uG at h
   split at h
   .simp only[bu,j7] at h
    exact⟨h.1.2,h.2⟩
   .cases h
  have tail:∀ (k k':Sem Unit),ak P fns Z E (ox >>= λp=>ox >>= λq=>if (!p.eqGuardType q.depth t)=true then cX () else k) (ox >>= λp=>ox >>= λq=>if (!p.eqGuardType q.depth t)=true then cX () else k') (λ_ _ _=>True):=λk k'=>by
   refine ak.bind ak.program λE1 p q dG e=>?_
   obtain⟨rfl,rfl⟩:=e
   refine ak.bind ak.program λE1 p q dG e=>?_
   obtain⟨rfl,rfl⟩:=e
   rw[show (fns.re p).depth=p.depth from rfl,hg.1,hg.2]
   exact ak.pure trivial
  unfold fh
  split
  .simp only[fj,cH,if_false]
   exact tail _ _
  .simp only[fj,cH,if_false]
   exact tail _ _
  .exact ak.pure trivial
 rw[jh h1 h2,jh (λ⟨e1,e2⟩=>h1 ⟨gV (e1▸ha),gV (e2▸hb)⟩) (λ⟨u,v,e1,e2⟩=>by
  obtain⟨p,hp⟩:=oQ (e1▸ha)
  obtain⟨q,hq⟩:=oQ (e2▸hb)
  exact h2 ⟨p,q,hp,hq⟩)]
 exact ak.pure trivial
theorem ak.T9(fO:0<P.depth)(op:BinOp)(t:b9)(x y:c_)(h:MK P fns t y=true){a a' b b':ai}(ha:VR fns E a a')(hb:VR fns E b b')(hy:∀ v,y=.const v->b=v):ak P fns Z E (fh op t x y a b) (fh op t x y a' b') (λ_ _ _=>True):=by
 unfold MK at h
 rw[fy,fy] at h
 rcases h with (h|h)|h
 .exact ak.eqGuard fO op t x y h ha hb hy
 .exact ak.MN h ha hb
 .obtain⟨h1,e,h2⟩:=rP h
  obtain rfl:=hy _ h1
  obtain⟨c,rfl,hc⟩:=aM.1 hb
  rw[jh (λ⟨_,e⟩=>by cases e) (λ⟨_,_,_,e⟩=>by cases e),jh (λ⟨_,e⟩=>by cases e) (λ⟨_,_,_,e⟩=>by cases e)]
  exact ak.pure trivial
