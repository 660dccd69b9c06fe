/- Part of the proof. -/
import Derived.Test.YtjlgehmebfkioaaGreatDoorZ19
import Derived.Conc.CrowdSpec
namespace Go.Proofs.YtjlgehmebfkioaaGreatDoor
open Go Go.Conc
open Go.ConcN (sumTo upd sumTo_upd upd_ne upd_same sumTo_congr)
theorem Ku{α:Type}(R:Nat->α->α->Prop):∀ (N:Nat) (a:Nat->α),(∀ i,i<N->Acc (R i) (a i))->Acc (λa' a:Nat->α=>∃ i,i<N/\R i (a' i) (a i)/\∀ k,k≠i->a' k=a k) a
 |0,_,_=>Acc.intro _ λ_ ⟨_,h,_⟩=>absurd h (Nat.not_lt_zero _)
 |N+1,a,h=>by
  have outer:∀ x,Acc (R N) x->∀ a:Nat->α,a N=x->(∀ i,i<N->Acc (R i) (a i))->Acc (λa' a:Nat->α=>∃ i,i<N+1/\R i (a' i) (a i)/\∀ k,k≠i->a' k=a k) a:=by
   intro x hx
   induction hx with
   |intro x _ ihx =>
    intro a ha hacc
    have inner:∀ a:Nat->α,Acc (λa' a:Nat->α=>∃ i,i<N/\R i (a' i) (a i)/\∀ k,k≠i->a' k=a k) a->a N=x->(∀ i,i<N->Acc (R i) (a i))->Acc (λa' a:Nat->α=>∃ i,i<N+1/\R i (a' i) (a i)/\∀ k,k≠i->a' k=a k) a:=by
     intro a hA
     induction hA with
     |intro a _ ihA =>
      intro ha hacc
      refine Acc.intro _ λa' ⟨i,hi,hR,hk⟩=>?_
      have hacc':∀ k,k<N->Acc (R k) (a' k):=λk hkN=>by
       by_cases hki:k=i
       .subst hki;exact(hacc k hkN).inv hR
       .rw[hk k hki];exact hacc k hkN
      by_cases hiN:i=N
      .subst hiN
       exact ihx (a' i) (ha▸hR) a' rfl hacc'
      .exact ihA a' ⟨i,by omega,hR,hk⟩ (by rw[hk N (Ne.symm hiN)];exact ha) hacc'
    exact inner a (Ku R N a hacc) ha hacc
  exact outer (a N) (h N (by omega)) a rfl λi hi=>h i (by omega)
structure Pro(σ:Type) where
 Φ:σ->Nat
 J:σ->Nat
 S:σ->Nat->(Nat->Prop)->Goroutine->World->Prop
 g_:σ->Nat->Bool
 qu:σ->Nat->Prop
 d:σ->Nat->Nat
 W:σ->World->Prop
 rel:σ->Nat->Prop
 Uf:σ->Prop
structure PI{σ:Type}(pr:Pro σ)(Wg m0:Nat)(s:σ)(j:Nat)(T:Nat->Th)(w:World)(t:Trace):Prop where
 cnt:pr.J s=j
 tag:∀ i,bn m0 j i->(T i).S=pr.S s i/\(T i).g_=pr.g_ s i/\((T i).kind=1↔pr.qu s i)/\((T i).kind=2->i=0/\pr.Uf s)/\((T i).kind≠1->(T i).d=pr.d s i)
 zJ:pr.W s w
 rel:∀ i,bn m0 j i->pr.rel s i->∃ r,jl Wg i r t
 nor:NoRelease (sA Wg) t
section
variable {σ:Type} {pr:Pro σ} {Wg m0:Nat} {s:σ} {j:Nat} {T:Nat->Th} {w w':World} {t:Trace} {Fz Sh:Nat->Prop}
theorem kV(b:Bool)(th:Th):((dQ b th).kind=1↔th.kind=1)/\((dQ b th).kind=2->th.kind=2):=by
 unfold dQ
 constructor
 .constructor
  .intro h;simp only at h;split at h
   .cases h
   .exact h
  .intro h;simp[h]
 .intro h;simp only at h;split at h
  .cases h
  .exact h
theorem PI.wake(h:PI pr Wg m0 s j T w t)(b:Bool):PI pr Wg m0 s j (λk=>dQ b (T k)) w t:=by
 refine⟨h.cnt,λi hi=>?_,h.zJ,h.rel,h.nor⟩
 obtain⟨h1,h2,h3,h4,h5⟩:=h.tag i hi
 have hk:=kV b (T i)
 exact⟨h1,h2,hk.1.trans h3,λx=>h4 (hk.2 x),λx=>h5 λy=>x (hk.1.2 y)⟩
theorem PI.world(hW:∀ s w w',(∀ b,Sh b->w'.heap[b]?=w.heap[b]?)->pr.W s w->pr.W s w')(h:PI pr Wg m0 s j T w t)(hs:∀ b,Sh b->w'.heap[b]?=w.heap[b]?):PI pr Wg m0 s j T w' t :=
 { h with zJ:=hW s w w' hs h.zJ }
theorem PI.own(h:PI pr Wg m0 s j T w t){i:Nat}{dX:Th}(h1:dX.S=(T i).S)(h2:dX.g_=(T i).g_)(h3:dX.kind=1↔(T i).kind=1)(h4:dX.kind=2->i=0/\pr.Uf s)(h5:dX.kind≠1->dX.d=(T i).d):PI pr Wg m0 s j (upd T i dX) w t:=by
 refine⟨h.cnt,λk hk=>?_,h.zJ,h.rel,h.nor⟩
 obtain⟨a1,a2,a3,a4,a5⟩:=h.tag k hk
 by_cases hki:k=i
 .subst hki
  rw[upd_same]
  exact⟨h1.trans a1,h2.trans a2,h3.trans a3,h4,λx=>(h5 x).trans (a5 λy=>x (h3.2 y))⟩
 .rw[upd_ne _ _ hki];exact⟨a1,a2,a3,a4,a5⟩
theorem PI.turn(h:PI pr Wg m0 s j T w t)(b:Bool){i:Nat}{dX:Th}(h1:dX.S=(T i).S)(h2:dX.g_=(T i).g_)(h3:dX.kind=1↔(T i).kind=1)(h4:dX.kind=2->i=0/\pr.Uf s)(h5:dX.kind≠1->dX.d=(T i).d):PI pr Wg m0 s j (upd (λk=>dQ b (T k)) i dX) w t :=
 (h.wake b).own h1 h2 (h3.trans (kV b _).1.symm) h4 h5
theorem Dn{O:Nat->Prop}{e:Event}(h:EvC Fz O e)(a:Addr):MemAct.ofEvent e≠.mark (.release a):=by
 obtain⟨loc,wr,sy⟩:=e
 rcases h with ⟨b,h,hs,_⟩|⟨m,h,hb⟩
 .simp only at h hs
  subst hs
  cases loc with
  |cell a=>simp[MemAct.ofEvent]
  |obj r=>cases wr<;>simp[MemAct.ofEvent]
  |_=>simp[blk] at h
 .simp only at h
  subst h
  cases m<;>first|(cases hb;done)|simp[MemAct.ofEvent]
theorem yZ{e:Event}(h:e.mute=true)(a:Addr):MemAct.ofEvent e≠.mark (.release a):=by
 obtain⟨loc,wr,sy⟩:=e
 cases loc with
 |mark m=>cases m<;>first|(simp[Event.mute] at h;done)|simp[MemAct.ofEvent]
 |_=>simp[Event.mute] at h
theorem PI.walk{O:Nat->Prop}(h:PI pr Wg m0 s j T w t){i:Nat}{fn:FuncId}{pos:String}{es:Array Event}(he:∀ e∈es,EvC Fz O e)(hs:pr.rel s i->es=#[]):PI pr Wg m0 s j T w (t++MemOp.ofEvents i fn pos es) :=
 { h with
   rel:=λk hk hr=>by
    obtain⟨r,x⟩:=h.rel k hk hr
    by_cases hki:k=i
    .subst hki
     exact⟨r,x.still λop hop=>by rw[hs hr] at hop;simp[ofEvents_eq] at hop⟩
    .exact⟨r,x.other λop hop=>by obtain⟨e,_,rfl⟩:=Go.Conc.mem_ofEvents hop;exact λz=>hki z.symm⟩
   nor:=h.nor.app λop hop=>by obtain⟨e,x,rfl⟩:=Go.Conc.mem_ofEvents hop;exact Dn (he e x) _ }
theorem PI.mute(h:PI pr Wg m0 s j T w t){i:Nat}{fn:FuncId}{pos:String}{es:Array Event}(he:∀ e∈es,e.mute=true):PI pr Wg m0 s j T w (t++MemOp.ofEvents i fn pos es) :=
 { h with
   rel:=λk hk hr=>let ⟨r,x⟩:=h.rel k hk hr;⟨r,x.still λop hop=>by obtain⟨e,x,rfl⟩:=Go.Conc.mem_ofEvents hop;exact touch_mute (he e x)⟩
   nor:=h.nor.app λop hop=>by obtain⟨e,x,rfl⟩:=Go.Conc.mem_ofEvents hop;exact yZ (he e x) _ }
def R7(dc:∀ p:Prop,Decidable p)(pr:Pro σ)(m0:Nat)(s:σ)(j:Nat)(T:Nat->Th)(gs:Array Goroutine)(i:Nat):(Nat->Prop) × Goroutine × World :=
 @ite _ (bn m0 j i/\¬pr.qu s i) (dc _) ((T i).O,{ (gs[i]?.getD default) with status:=.running },(T i).wa) (λ_=>False,default,default)
theorem MV(w:World)(x:Goroutine):{ x.again w with status:=.running }={ x with status:=.running }:=by
 unfold Goroutine.again
 split
 .dsimp only;split<;>rfl
 .rfl
 .rfl
 .rfl
theorem MX(P:Program)(g g':Goroutine)(w:World)(x:Goroutine):{ woken P g g' w x with status:=.running }={ x with status:=.running }:=by
 rw[Gh]
 split
 .exact MV w x
 .rfl
theorem Dp{P:Program}{T':Nat->Th}{gs:Array Goroutine}{g g':Goroutine}{i k:Nat}(hk:k≠i)(hO:(T' k).O=(T k).O)(hw:(T' k).wa=(T k).wa):R7 Classical.propDecidable pr m0 s j T' ((gs.map (woken P g g' w)).setIfInBounds i g') k=R7 Classical.propDecidable pr m0 s j T gs k:=by
 unfold R7
 rw[Array.getElem?_setIfInBounds_ne (λe=>hk e.symm),Array.getElem?_map,hO,hw]
 split
 .cases gs[k]? with
  |none=>rfl
  |some x=>simp only[Option.map_some,Option.getD_some,MX]
 .rfl
theorem Ky{g:Goroutine}(h:g.status=.running):({ g with status:=.running }:Goroutine)=g:=by
 obtain⟨f,c,st,d,o⟩:=g
 simp only at h
 subst h
 rfl
theorem afc{b:Bool}{i:Nat}{dX:Th}(hq:dX.q=(T i).q):sumTo j (λk=>(upd (λk=>dQ b (T k)) i dX (m0+k)).q)=sumTo j (λk=>(T (m0+k)).q):=sumTo_congr λk _=>by
 by_cases hk:m0+k=i
 .rw[hk,upd_same,hq]
 .rw[upd_ne _ _ hk];rfl
theorem Kz{T':Nat->Th}{gs' gs:Array Goroutine}{k:Nat}(hk:bn m0 j k->pr.qu s k):R7 Classical.propDecidable pr m0 s j T' gs' k=R7 Classical.propDecidable pr m0 s j T gs k:=by
 unfold R7
 rw[if_neg λx=>x.2 (hk x.1),if_neg λx=>x.2 (hk x.1)]
theorem y7{gs:Array Goroutine}{g:Goroutine}{k:Nat}(hc:bn m0 j k)(hq:¬pr.qu s k)(hg:gs[k]?=some g):R7 Classical.propDecidable pr m0 s j T gs k=((T k).O,{ g with status:=.running },(T k).wa):=by
 unfold R7
 rw[if_pos ⟨hc,hq⟩,hg]
 rfl
end
section
variable {P:Program} {σ:Type} {pr:Pro σ} {Wg m0 tz:Nat} {Sx dP Fz Sh:Nat->Prop} {Ex:World->World->Prop}
theorem engine(hE:∀ a b c,Ex a b->Ex b c->Ex a c)(hX:∀ w w':World,(∀ b,Sh b->w'.heap[b]?=w.heap[b]?)->Ex w w')
 (hW:∀ s w w',(∀ b,Sh b->w'.heap[b]?=w.heap[b]?)->pr.W s w->pr.W s w') (hrel:∀ s i,pr.rel s i->pr.g_ s i=true) (hmain:∀ s,¬pr.qu s 0) (Fin:Array Goroutine->World->Trace->Prop)
 (hlive:∀ s j T q gs w t,GI P m0 tz Sx dP Fz Sh Ex j T q gs w t->PI pr Wg m0 s j T w t->(T 0).kind=2->∃ i,bn m0 j i/\(T i).kind=0)
 (hstop:∀ s j T q gs w t sl i g,GI P m0 tz Sx dP Fz Sh Ex j T q gs w t->PI pr Wg m0 s j T w t->bn m0 j i->gs[i]?=some g->(T i).kind=0->Co P (i==0) (T i).g_ Fz Ex (T i).S (T i).O g w->(T i).S (T i).O g w ->
  (i=0/\stepG P true g w=.go { g with status:=.blocked } w #[]/\g.offers=none/\pr.Uf s) \/
  ∃ gs' w' u,runT P (crowd gs w sl) i=(.next (crowd gs' w' sl),u)/\(Fin gs' w' (t++u)\/∃ s' j' T' q',pr.Φ s'<pr.Φ s/\GI P m0 tz Sx dP Fz Sh Ex j' T' q' gs' w' (t++u)/\PI pr Wg m0 s' j' T' w' (t++u))) :
 ∀ (F:Nat) (s:σ),pr.Φ s=F->∀ j T q gs w t sl,GI P m0 tz Sx dP Fz Sh Ex j T q gs w t->PI pr Wg m0 s j T w t ->
   ∃ N gs' w' sl' t',runNT P N (crowd gs w sl) t=(.next (crowd gs' w' sl'),t')/\Fin gs' w' t':=by
 intro F
 induction F using Nat.strongRecOn with
 |_ F ihF =>
 intro s hF j Ug afd WM w₀ t₀ sl₀ WO WQ
 have hXr:∀ a:World,Ex a a:=λa=>hX a a λ_ _=>rfl
 have inner:∀ A,Acc (λa' a:Nat->(Nat->Prop) × Goroutine × World=>∃ i,i<m0+j/\((bn m0 j i/\¬pr.qu s i)/\Cf P (i==0) Fz Ex (pr.S s i) (a' i) (a i))/\∀ k,k≠i->a' k=a k) A ->
  ∀ (M b:Nat) T q gs w t sl,R7 Classical.propDecidable pr m0 s j T gs=A->sumTo m0 q+sumTo j (λk=>(T (m0+k)).q)=M->(if (T 0).kind=2 then 0 else 1)=b->GI P m0 tz Sx dP Fz Sh Ex j T q gs w t->PI pr Wg m0 s j T w t ->
    ∃ N gs' w' sl' t',runNT P N (crowd gs w sl) t=(.next (crowd gs' w' sl'),t')/\Fin gs' w' t':=by
  intro A hA
  induction hA with
  |intro A _ ihA =>
  intro M
  induction M using Nat.strongRecOn with
  |_ M WT =>
  intro b
  induction b using Nat.strongRecOn with
  |_ b ihb =>
  intro T q gs w t sl Qi hM hb hG hP
  have hm0:=hG.pos
  have h0c:bn m0 j 0:=.inl rfl
  have haw:∀ g∈gs,awake g:=by
   intro g hg
   obtain⟨i,hi,rfl⟩:=Array.mem_iff_getElem.1 hg
   by_cases hc:bn m0 j i
   .obtain⟨y,hy,hI,_⟩:=hG.th i hc
    have:gs[i]=y:=by simpa [Array.getElem?_eq_getElem hi] using hy
    rw[this];exact awake_of hI.status
   .have hsz:=hG.sz
    have h1:0<i:=Nat.pos_of_ne_zero λe=>hc (.inl e)
    have h2:i<m0:=Nat.lt_of_not_le λhle=>hc (.inr ⟨hle,by omega⟩)
    exact awake_of ((hG.lv i _ h1 h2 (Array.getElem?_eq_getElem hi)).status.elim .inl λx=>.inr (.inr x))
  have hsome:∃ (i:Nat) (g:Goroutine),gs[i]?=some g/\g.status=.running:=by
   have one:∀ i,bn m0 j i->(T i).kind=0->∃ (i:Nat) (g:Goroutine),gs[i]?=some g/\g.status=.running:=λi hc hk=>by
    obtain⟨g,hg,hI,_⟩:=hG.th i hc
    refine⟨i,g,hg,?_⟩
    rcases hI with ⟨_,h,_⟩|⟨x,_⟩|⟨x,_⟩
    .exact h.cases.1
    .rw[hk] at x;cases x
    .rw[hk] at x;cases x
   obtain⟨_,_,a3,_⟩:=hP.tag 0 h0c
   obtain⟨g,hg,hI,_⟩:=hG.th 0 h0c
   rcases hI with ⟨hk,_⟩|⟨hk,_⟩|⟨hk,_⟩
   .exact one 0 h0c hk
   .exact(hmain s (a3.1 hk)).elim
   .obtain⟨i,hc,hk⟩:=hlive s j T q gs w t hG hP hk
    exact one i hc hk
  obtain⟨i,g,d,sl',hi,hr,hst⟩:=crowd_pick (P:=P) (w:=w) (sl:=sl) haw hsome
  have hG1:=hG.at hE (λw d=>hX w (w.at d) λ_ _=>rfl) d
  have hP1:PI pr Wg m0 s j T (w.at d) t:=hP.world hW λ_ _=>rfl
  have fin:∀ {gs' w' u},runT P (crowd gs (w.at d) sl') i=(.next (crowd gs' w' sl'),u)->(∃ N gs'' w'' sl'' t'',runNT P N (crowd gs' w' sl') (t++u)=(.next (crowd gs'' w'' sl''),t'')/\Fin gs'' w'' t'')->∃ N gs' w' sl' t',runNT P N (crowd gs w sl) t=(.next (crowd gs' w' sl'),t')/\Fin gs' w' t':=by
   rintro gs' w' u hrun ⟨N,gs'',w'',sl'',t'',h1,h2⟩
   exact⟨N+1,gs'',w'',sl'',t'',by simp only[runNT,hst,hrun];exact h1,h2⟩
  by_cases hc:bn m0 j i
  .obtain⟨a1,a2,a3,a4,a5⟩:=hP.tag i hc
   obtain⟨g',hg',hI,_⟩:=hG1.th i hc
   rw[hi] at hg'
   cases hg'
   rcases hI with ⟨hk,hco,hrl⟩|⟨hk,hi0,hqd⟩|⟨hk,g0,rfl,_⟩
   .have hnq:¬pr.qu s i:=λx=>by rw[a3.2 x] at hk;cases hk
    by_cases hs:∀ w₁,kN Fz Ex (T i).O (T i).wa w₁->(T i).S (T i).O g w₁
    ·-- at a stop
     rcases hstop s j T q gs (w.at d) t sl' i g hG1 hP1 hc hi hk (hco.rely hE hrl) (hs _ hrl) with ⟨rfl,hsl,hof,afe⟩|⟨gs',w',u,hrun,hfin|⟨s',j',T',q',hΦ,hG',hP'⟩⟩
     .obtain⟨f1,f2⟩:=hG1.go hE hc (w':=w.at d) (es:=#[]) (dX:={ T 0 with kind:=2 }) hi (show stepG P (0==0) g (w.at d)=_ from hsl) (.inr (.inr ⟨rfl,g,rfl,hof,hco,hrl⟩)) rfl (λb x=>x) (λb x=>.inl x) (λ_ _ _ _=>rfl) (Nat.le_refl _) rfl rfl rfl (hXr _) (λe he=>(by simp at he)) sl'
      have hlt:0<gs.size:=(Array.getElem?_eq_some_iff.1 hi).1
      have hb1:b=1:=by rw[<-hb,if_neg (by rw[hk];decide)]
      refine fin f1 (ihb 0 (by omega) _ q _ _ _ sl' (funext λk=>?_) (by rw[afc (T:=T) (i:=0) (dX:={ T 0 with kind:=2 }) rfl];exact hM) (by rw[upd_same];rfl) f2 ((hP1.turn (i:=0) (dX:={ T 0 with kind:=2 }) _ rfl rfl (by simp[hk]) (λ_=>⟨rfl,afe⟩) λ_=>rfl).mute λe he=>(by simp at he)))
      rw[<-Qi]
      by_cases hk0:k=0
      .subst hk0
       rw[y7 h0c (hmain s) (Array.getElem?_setIfInBounds_self_of_lt (by simpa using hlt)),y7 h0c (hmain s) hi,upd_same]
      .exact Dp hk0 (by rw[upd_ne _ _ hk0];rfl) (by rw[upd_ne _ _ hk0];rfl)
     .exact fin hrun ⟨0,gs',w',sl',_,rfl,hfin⟩
     .exact fin hrun (ihF (pr.Φ s') (by omega) s' rfl j' T' q' gs' w' (t++u) sl' hG' hP')
    ·-- on its way
     obtain⟨g',w',es,f1,f2,f3,f4,f5,f6,f7⟩:=hG1.walk hE hX hc hi hk hs sl'
     have hlt:i<gs.size:=(Array.getElem?_eq_some_iff.1 hi).1
     refine fin f1 (ihA _ ⟨i,by have:=hG.sz;omega,⟨⟨hc,hnq⟩,?_⟩,λk hki=>?_⟩ _ _ _ q _ _ _ sl' rfl rfl rfl f2 (((hP1.world hW f5).turn (i:=i) (dX:={ T i with O:=grow (T i).O (w.at d) w',wa:=w' }) _ rfl rfl Iff.rfl a4 λ_=>rfl).walk f6 λx=>f7 (by rw[a2];exact hrel s i x)))
     .rw[y7 hc hnq (Array.getElem?_setIfInBounds_self_of_lt (by simpa using hlt)),<-Qi,y7 hc hnq hi,upd_same,Ky f4,Ky hr,<-a1]
      exact f3
     .rw[<-Qi]
      exact Dp hki (by rw[upd_ne _ _ hki];rfl) (by rw[upd_ne _ _ hki];rfl)
   ·-- it leaves
    obtain⟨g',es,k,f1,f2,f3,f4⟩:=hG1.quit hE hX hc hi hr hk sl'
    have hij:m0<=i/\i<m0+j:=hc.resolve_left λe=>by rw[e] at hi0;cases hi0
    have hsum:sumTo j (λx=>(upd (λk=>dQ (wk P g g') (T k)) i { T i with q:=k,d:=deafBehind (T i).d es } (m0+x)).q)+(k+1)=sumTo j (λx=>(T (m0+x)).q)+k:=by
     have:=sumTo_upd (λx=>(T (m0+x)).q) k id (i:=i-m0) (j:=j) (by omega)
     have ei:m0+(i-m0)=i:=by omega
     simp only[id,ei,f1] at this
     rw[<-this]
     congr 1
     refine sumTo_congr λx _=>?_
     by_cases hx:m0+x=i
     .have hx':x=i-m0:=by omega
      rw[hx,upd_same,hx',upd_same]
     .rw[upd_ne _ _ hx,upd_ne _ _ (by omega)];rfl
    refine fin f3 (WT _ (by omega) _ _ q _ _ _ sl' (funext λx=>?_) rfl rfl f4 ((hP1.turn (i:=i) (dX:={ T i with q:=k,d:=deafBehind (T i).d es }) _ rfl rfl Iff.rfl a4 λx=>(x hk).elim).mute f2))
    rw[<-Qi]
    by_cases hx:x=i
    .subst hx;exact Kz λ_=>a3.1 hk
    .exact Dp hx (by rw[upd_ne _ _ hx];rfl) (by rw[upd_ne _ _ hx];rfl)
   .cases hr
  ·-- an elder one leaves
   have hsz:=hG.sz
   have hlt:i<gs.size:=(Array.getElem?_eq_some_iff.1 hi).1
   have h1:0<i:=Nat.pos_of_ne_zero λe=>hc (.inl e)
   have h2:i<m0:=Nat.lt_of_not_le λhle=>hc (.inr ⟨hle,by omega⟩)
   obtain⟨g',es,k,f1,f2,f3,f4⟩:=hG1.leave h1 h2 hi hr sl'
   have hsum:sumTo m0 (upd q i k)+(k+1)=sumTo m0 q+k:=by
    have:=sumTo_upd q k id h2
    simpa [f1] using this
   have hq:sumTo j (λk=>(dQ (wk P g g') (T (m0+k))).q)=sumTo j (λk=>(T (m0+k)).q):=rfl
   refine fin f3 (WT _ (by omega) _ _ (upd q i k) _ _ _ sl' (funext λx=>?_) rfl rfl f4 ((hP1.wake _).mute f2))
   rw[<-Qi]
   by_cases hx:x=i
   .subst hx;exact Kz λy=>(hc y).elim
   .exact Dp hx rfl rfl
 refine inner _ (Ku (λi x' x=>(bn m0 j i/\¬pr.qu s i)/\Cf P (i==0) Fz Ex (pr.S s i) x' x) (m0+j) (R7 Classical.propDecidable pr m0 s j Ug WM) λi _=>?_) _ _ Ug afd WM w₀ t₀ sl₀ rfl rfl rfl WO WQ
 by_cases hc:bn m0 j i/\¬pr.qu s i
 .obtain⟨g,hg,hI,_⟩:=WO.th i hc.1
  obtain⟨a1,_,a3,_⟩:=WQ.tag i hc.1
  rw[y7 hc.1 hc.2 hg]
  have hacc:Acc (Cf P (i==0) Fz Ex (pr.S s i)) ((Ug i).O,{ g with status:=.running },(Ug i).wa):=by
   rcases hI with ⟨_,h,_⟩|⟨hk,_⟩|⟨_,g0,rfl,ho,h,_⟩
   .have e:({ g with status:=.running }:Goroutine)=g:=by
     have:=h.cases.1
     obtain⟨f,c,st,d,o⟩:=g
     simp only at this
     subst this
     rfl
    rw[e,<-a1]
    exact h.acc
   .exact(hc.2 (a3.1 hk)).elim
   .have e:({ ({ g0 with status:=.blocked }:Goroutine) with status:=.running }:Goroutine)=g0:=by
     have:=h.cases.1
     obtain⟨f,c,st,d,o⟩:=g0
     simp only at this
     subst this
     rfl
    rw[e,<-a1]
    exact h.acc
  have mono:∀ x,Acc (Cf P (i==0) Fz Ex (pr.S s i)) x->Acc (λx' x=>(bn m0 j i/\¬pr.qu s i)/\Cf P (i==0) Fz Ex (pr.S s i) x' x) x:=λx hx=>by
   induction hx with
   |intro x _ ih=>exact Acc.intro _ λy hy=>ih y hy.2
  exact mono _ hacc
 .exact Acc.intro _ λy hy=>(hc hy.1).elim
end
end Go.Proofs.YtjlgehmebfkioaaGreatDoor
namespace Go.Proofs.YtjlgehmebfkioaaGreatDoor
open Go Go.Conc
open Go.ConcN (sumTo upd sumTo_upd upd_ne upd_same sumTo_congr WgLive AtR0 AtK1 AtD1 AtD2 AtD3 AtD4 RW PayAt Has)
open Go.ConcR (KK wgBlock WgAt stA smA rd wr Payload DC0)
theorem Co.bind{P:Program}{main g_:Bool}{Fz:Nat->Prop}{Ex:World->World->Prop}{S1 S2:(Nat->Prop)->Goroutine->World->Prop}(hX:∀ a,Ex a a)(h2:∀ O g w,S1 O g w->Co P main g_ Fz Ex S2 O g w){O:Nat->Prop}{g:Goroutine}{w:World}(h:Co P main g_ Fz Ex S1 O g w):Co P main g_ Fz Ex S2 O g w :=
 h (λO g w=>Co P main g_ Fz Ex S2 O g w) (λO g w _ hs=>h2 O g w (hs w (kN.refl hX w))) (λ_ _ _ hr hs=>Co.step hr hs)
structure Cx where
 P:Program
 ty:TypeId
 tN:TypeId
 Wg:Nat
 Nx:Nat
 Ch:Nat
 C:Nat
 nC:Nat
 val:Value
 len:Nat
 n:Nat
 m0:Nat
 sight:Nat->Value
 Fz:Nat->Prop
 KA:(Nat->Prop)->Goroutine->World->Prop
 AnchW:(Nat->Prop)->Goroutine->World->Prop
 Next:(Nat->Prop)->Goroutine->World->Prop
section
variable [Payload] (x:Cx)
def Cx.Ex(w w':World):Prop:=WgLive x.ty x.Wg w->WgLive x.ty x.Wg w'
def Cx.Sh(b:Nat):Prop:=b=x.Wg\/b=x.Nx\/b=x.Ch
def Cx.dP(b:Nat):Prop:=b=x.Wg\/b=x.Nx
def Cx.zK:Addr:=⟨x.Nx,0,none⟩
abbrev Cx.Uh(g_:Bool)(S:(Nat->Prop)->Goroutine->World->Prop):=Co x.P false g_ x.Fz x.Ex S
abbrev Cx.GX(S:(Nat->Prop)->Goroutine->World->Prop):=Co x.P true false x.Fz x.Ex S
abbrev Cx.R:=kN x.Fz x.Ex
def Cx.AtD4(_:Nat->Prop)(g:Goroutine)(w:World):Prop:=ConcN.AtD4 x.P x.ty x.Wg g w
def Cx.AtD3(_:Nat->Prop)(g:Goroutine)(w:World):Prop:=ConcN.AtD3 x.P x.ty x.Wg x.C x.nC 0 1 g w
def Cx.AtD2(_:Nat->Prop)(g:Goroutine)(w:World):Prop:=ConcN.AtD2 x.P x.ty x.Wg x.C x.nC 0 1 g w
def Cx.AtD1(_:Nat->Prop)(g:Goroutine)(w:World):Prop:=ConcN.AtD1 x.P x.ty x.Wg x.C x.nC 0 1 g w
def Cx.AtK1(_:Nat->Prop)(g:Goroutine)(w:World):Prop:=ConcN.AtK1 x.P x.ty x.Wg x.C x.nC 0 1 g w
def Cx.AtRel(_:Nat->Prop)(g:Goroutine)(w:World):Prop:=ConcN.AtR0 x.P x.ty x.Wg x.C x.nC 0 1 x.val g w
def Cx.AtSend(p:Nat)(O:Nat->Prop)(g:Goroutine)(w:World):Prop :=
 ∃ g₂ z,stepG x.P false g w=.comm g₂ #[scase x.Ch (x.sight p) z] true .send w #[]/\∀ w',x.R O w w'->x.Uh false x.KA O (Conc.served g₂ undef) w'
def Cx.kP(O:Nat->Prop)(g:Goroutine)(w:World):Prop :=
 ∀ c:Nat,c<4611686018427387904->w.cell? x.zK=some (.int .i64 c)->w.frozen? x.zK=false ->
   ∃ g',stepG x.P false g w=.go g' (w.setCell x.zK (.int .i64 (c+1:Nat))) #[rd x.zK,wr x.zK] /\
     ∀ w',x.R O w w'->(c<x.len->x.Uh false (x.AtSend c) O g' w')/\(x.len<=c->x.Uh false x.AtRel O g' w')
def Cx.Gi(m:Mark)(S:(Nat->Prop)->Goroutine->World->Prop)(O:Nat->Prop)(g:Goroutine)(w:World):Prop :=
 ∃ g',stepG x.P true g w=.go g' w #[ConcR.mk m]/\∀ w',x.R O w w'->x.GX S O g' w'
def Cx.AtAcq:=x.Gi (.acquire (stA x.Wg)) x.Next
def Cx.AtKe:=x.Gi .enable x.AtAcq
def Cx.AtW4(O:Nat->Prop)(g:Goroutine)(w:World):Prop :=
 WgAt x.ty x.Wg w 0 0->∃ g',stepG x.P true g w=.go g' w #[rd (stA x.Wg)]/\∀ w',x.R O w w'->x.GX x.AtKe O g' w'
def Cx.AtW3(O:Nat->Prop)(g:Goroutine)(w:World):Prop :=
 g.offers=none/\((∃ st,WgAt x.ty x.Wg w st 0)->stepG x.P true g w=.go { g with status:=.blocked } w #[]) /\
  (WgAt x.ty x.Wg w 0 1->∃ g',stepG x.P true g w=.go g' (w.setCell (smA x.Wg) (.int .u32 0)) (semEvents (smA x.Wg))/\∀ w',x.R O w w'->x.GX x.AtW4 O g' w')
def Cx.Ui:=x.Gi (.write (smA x.Wg)) x.AtW3
def Cx.AtW2(vs:Nat)(O:Nat->Prop)(g:Goroutine)(w:World):Prop :=
 ∀ v:Nat,v<=x.n->WgAt x.ty x.Wg w (v*KK) 0 ->
   (v=vs->∃ g',stepG x.P true g w=.go g' (w.setCell (stA x.Wg) (.int .u64 (v*KK+1))) #[rd (stA x.Wg),wr (stA x.Wg)]/\∀ w',x.R O w w'->x.GX x.Ui O g' w') /\
   (v≠vs->∃ g',stepG x.P true g w=.go g' w #[rd (stA x.Wg)]/\∀ w',x.R O w w'->x.GX x.AnchW O g' w')
def Cx.AtW1(O:Nat->Prop)(g:Goroutine)(w:World):Prop :=
 ∀ v:Nat,v<=x.n->WgAt x.ty x.Wg w (v*KK) 0->∃ g',stepG x.P true g w=.go g' w #[rd (stA x.Wg)]/\∀ w',x.R O w w'->(v=0->x.GX x.AtKe O g' w')/\(v≠0->x.GX (x.AtW2 v) O g' w')
def Cx.AtKd:=x.Gi .disable x.AnchW
def Cx.AtGo:Nat->(Nat->Prop)->Goroutine->World->Prop
 |0=>x.AtKd
 |r+1=>λO g w=>∃ g' child,stepG x.P true g w=.spawn g' child w #[]/\(∀ w',x.R O w w'->x.GX (Cx.AtGo r) O g' w')/\∀ w',x.R (λ_=>False) w w'->x.Uh false x.kP (λ_=>False) child w'
def Cx.Yg:=x.Gi .enable (x.AtGo x.n)
def Cx.Yh:=x.Gi (.read (smA x.Wg)) x.Yg
def Cx.Uj(O:Nat->Prop)(g:Goroutine)(w:World):Prop :=
 WgAt x.ty x.Wg w 0 0->∃ g',stepG x.P true g w=.go g' (w.setCell (stA x.Wg) (.int .u64 (x.n*KK))) #[rd (stA x.Wg),wr (stA x.Wg)]/\∀ w',x.R O w w'->x.GX x.Yh O g' w'
def Cx.Yi:=x.Gi .disable x.Uj
structure Sg where
 j:Nat
 c:Nat
 ph:Nat->Nat
 hd:Nat->Nat
 mp:Nat
 vs:Nat
 lp:Nat
 bl:List Nat
def cnt(s:Sg):Nat:=sumTo s.j λi=>if s.ph i<=4 then 1 else 0
def Cx.v(s:Sg):Nat:=(x.n-s.j)+cnt s
def MZ(p:Nat):Nat:=if p=0 then 10 else if p=1 then 11 else if p<=7 then 11-p else 0
def Cx.mw(s:Sg):Nat:=if s.mp<=4 then 3*x.n+16-s.mp else if s.mp=5 then 3*x.v s+10 else if s.mp=6 then 3*s.vs+9 else 17-s.mp
def Cx.nu(s:Sg):Nat:=2*(x.len-min s.c x.len)+12*(x.n-s.j)+sumTo s.j (λi=>MZ (s.ph i))+x.mw s
def Cx.iN(s:Sg):Int:=if s.mp<=1 then 0 else if s.mp<=6 then x.v s*KK else if s.mp<=8 then(if s.lp=0 then x.v s*KK+1 else if s.lp<=6 then 1 else 0) else 0
def jq(s:Sg):Int:=if (s.mp=7\/s.mp=8)/\s.lp=8 then 1 else 0
def hands(s:Sg):List Nat:=(List.range s.j).filterMap λi=>if s.ph i=1 then some (s.hd i) else none
structure Cx.ok(s:Sg):Prop where
 jn:s.j<=x.n
 j0:s.mp<4->s.j=0
 jN:4<s.mp->s.j=x.n
 mp:s.mp<=11
 Yj:∀ i,i<s.j->s.ph i<=8
 late:∀ i,i<s.j->2<=s.ph i->x.len<=s.c
 last:∀ i,i<s.j->5<=s.ph i->s.ph i<=7->(s.mp=7\/s.mp=8)/\s.lp=s.ph i/\∀ i',i'<s.j->i'≠i->s.ph i'=8
 reg:(s.mp=7\/s.mp=8)->(s.lp=0/\0<x.v s)\/(5<=s.lp/\s.lp<=7/\∃ i,i<s.j/\s.ph i=s.lp)\/(s.lp=8/\∀ i,i<s.j->s.ph i=8)
 fin:9<=s.mp->∀ i,i<s.j->s.ph i=8
 cas:s.mp=6->1<=s.vs/\x.v s<=s.vs
 perm:(s.bl++hands s).Perm (List.range (min s.c x.len))
 big:s.c+x.nu s<4611686018427387904
def Cx.I7(w:World)(c:Nat):Prop:=w.heap[x.Nx]?=some (.cells #[.int .i64 c] x.tN)
def Cx.Sm(s:Sg):(Nat->Prop)->Goroutine->World->Prop:=match s.mp with
 |0=>x.Yi|1=>x.Uj|2=>x.Yh|3=>x.Yg|4=>x.AtGo (x.n-s.j)|5=>x.AtW1|6=>x.AtW2 s.vs|7=>x.Ui|8=>x.AtW3|9=>x.AtW4|10=>x.AtKe|_=>x.AtAcq
def Cx.Sw(s:Sg)(k:Nat):(Nat->Prop)->Goroutine->World->Prop:=match s.ph k with
 |0=>x.kP|1=>x.AtSend (s.hd k)|2=>x.AtRel|3=>x.AtK1|4=>x.AtD1|5=>x.AtD2|6=>x.AtD3|_=>x.AtD4
def Cx.jU:Pro Sg where
 Φ:=x.nu
 J:=(·.j)
 S s i:=if i=0 then x.Sm s else x.Sw s (i-x.m0)
 g_ s i:=i != 0&&decide (3<=s.ph (i-x.m0))
 qu s i:=i≠0/\s.ph (i-x.m0)=8
 d s i:=if i=0 then(if s.mp=0\/s.mp=4\/s.mp=11 then 0 else 1) else(if s.ph (i-x.m0)<=3 then 0 else 1)
 W s w:=x.ok s/\WgAt x.ty x.Wg w (x.iN s) (jq s)/\x.I7 w s.c/\∃ a r tm,w.heap[x.Ch]?=some (.chan x.len (s.bl.map x.sight).toArray false a r tm)
 rel s i:=i≠0/\3<=s.ph (i-x.m0)
 Uf s:=s.mp=8/\s.lp≠8
end
end Go.Proofs.YtjlgehmebfkioaaGreatDoor
namespace Go.Proofs.YtjlgehmebfkioaaGreatDoor
open Go Go.Conc
open Go.ConcN (sumTo upd sumTo_upd upd_ne upd_same sumTo_congr WgLive RW PayAt Has)
open Go.ConcR (KK wgBlock WgAt stA smA rd wr Payload DC0)
section
variable {dP Fz:Nat->Prop} {Own:Nat->Nat->Prop} {g B:Nat}
def M0(dP Fz:Nat->Prop)(Own:Nat->Nat->Prop)(g B:Nat)(e:Event):Prop :=
 (∀ x,(MemAct.ofEvent e).touch?=some x->x.loc.isMemory=true->∃ b,blk x.loc=some b/\MR dP Fz Own g b x)/\(MemAct.ofEvent e).low B
theorem Qj{a:Addr}{b:Bool}(ha:dP a.block)(hb:a.block<B):M0 dP Fz Own g B ⟨.cell a,b,true⟩:=by
 refine⟨λx hx _=>?_,hb⟩
 simp only[MemAct.ofEvent,MemAct.touch?,Option.some.injEq] at hx
 subst hx
 exact⟨a.block,rfl,.inl ⟨ha,by simp,λh=>by simp at h⟩⟩
theorem I8{a:Addr}(ha:dP a.block)(hb:a.block<B):M0 dP Fz Own g B (rd a):=Qj ha hb
theorem I9{a:Addr}(ha:dP a.block)(hb:a.block<B):M0 dP Fz Own g B (wr a):=Qj ha hb
theorem y9{m:Mark}(h1:(MemAct.mark m).touch?=none)(h2:(MemAct.mark m).low B):M0 dP Fz Own g B (ConcR.mk m) :=
 ⟨λx hx _=>(by rw[show MemAct.ofEvent (ConcR.mk m)=.mark m from rfl,h1] at hx;cases hx),h2⟩
theorem Qk{a:Addr}{m:Mark}(hm:m=.read a\/m=.write a)(ha:dP a.block)(hb:a.block<B):M0 dP Fz Own 0 B (ConcR.mk m):=by
 rcases hm with rfl|rfl
 all_goals
  refine⟨λx hx _=>?_,hb⟩
  simp only[ConcR.mk,MemAct.ofEvent,MemAct.touch?,Option.some.injEq] at hx
  subst hx
  exact⟨a.block,rfl,.inl ⟨ha,by simp,λ_=>rfl⟩⟩
theorem KC{a:Addr}(ha:dP a.block)(hb:a.block<B):∀ e∈semEvents a,M0 dP Fz Own g B e:=λe he=>by
 have:e=ConcR.mk .disable\/e=rd a\/e=wr a\/e=ConcR.mk .enable:=by simpa [semEvents,ConcR.mk,rd,wr] using he
 rcases this with rfl|rfl|rfl|rfl
 .exact y9 rfl trivial
 .exact I8 ha hb
 .exact I9 ha hb
 .exact y9 rfl trivial
end
theorem aY(w:World)(a:Addr)(v:Value){b:Nat}(h:b≠a.block):(w.setCell a v).heap[b]?=w.heap[b]?:=(aside_setCell w a v).block b h
theorem bZ(w:World)(a:Addr)(v:Value):(w.setCell a v).heap.size=w.heap.size:=(aside_setCell w a v).size
theorem vV{f f':Nat->Option Nat}{j:Nat}(h:∀ i,i<j->f' i=f i):(List.range j).filterMap f'=(List.range j).filterMap f:=by
 induction j with
 |zero=>rfl
 |succ j ih =>
  rw[List.range_succ,List.filterMap_append,List.filterMap_append,ih λi hi=>h i (by omega)]
  congr 1
  simp only[List.filterMap_cons,List.filterMap_nil,h j (by omega)]
theorem Ql{f f':Nat->Option Nat}{k c:Nat}:∀ {j:Nat},k<j->(∀ i,i<j->i≠k->f' i=f i)->f k=none->f' k=some c->((List.range j).filterMap f').Perm (c::(List.range j).filterMap f)
 |j+1,hk,h,h1,h2=>by
  rw[List.range_succ,List.filterMap_append,List.filterMap_append]
  by_cases hkj:k=j
  .subst hkj
   rw[vV (f:=f) (f':=f') λi hi=>h i (by omega) (by omega)]
   simp only[List.filterMap_cons,List.filterMap_nil,h1,h2,List.append_nil]
   exact List.perm_append_singleton _ _
  .have:=Ql (j:=j) (by omega) (λi hi hne=>h i (by omega) hne) h1 h2
   have e:[j].filterMap f'=[j].filterMap f:=by simp only[List.filterMap_cons,List.filterMap_nil,h j (by omega) (Ne.symm hkj)]
   rw[e]
   exact this.append_right _
theorem za{s s':Sg}(hj:s'.j=s.j)(h:∀ i,i<s.j->(s'.ph i=1↔s.ph i=1)/\(s.ph i=1->s'.hd i=s.hd i)):hands s'=hands s:=by
 unfold hands
 rw[hj]
 refine vV λi hi=>?_
 by_cases hp:s.ph i=1
 .rw[if_pos hp,if_pos ((h i hi).1.2 hp),(h i hi).2 hp]
 .rw[if_neg hp,if_neg λy=>hp ((h i hi).1.1 y)]
theorem Bh{s s':Sg}{k c:Nat}(hk:k<s.j)(hj:s'.j=s.j)(h:∀ i,i<s.j->i≠k->s'.ph i=s.ph i/\s'.hd i=s.hd i)(h0:s.ph k≠1)(h1:s'.ph k=1)(h2:s'.hd k=c):(hands s').Perm (c::hands s):=by
 unfold hands
 rw[hj]
 refine Ql hk (λi hi hne=>?_) (by rw[if_neg h0]) (by rw[if_pos h1,h2])
 rw[(h i hi hne).1,(h i hi hne).2]
theorem Qm{s:Sg}(h:∀ i,i<s.j->s.ph i=8):cnt s=0:=by
 unfold cnt
 have:∀ j,j<=s.j->sumTo j (λi=>if s.ph i<=4 then 1 else 0)=0:=by
  intro j
  induction j with
  |zero=>intro _;rfl
  |succ j ih=>intro hj;rw[sumTo,ih (by omega),h j (by omega)];rfl
 exact this _ (Nat.le_refl _)
theorem Gj{s:Sg}(h:cnt s=0):∀ i,i<s.j->5<=s.ph i:=by
 intro i hi
 have:=ConcN.le_sumTo (f:=λi=>if s.ph i<=4 then 1 else 0) hi
 unfold cnt at h
 rw[h] at this
 split at this<;>omega
theorem Yk(s:Sg):cnt s<=s.j:=by
 unfold cnt
 have:∀ j,sumTo j (λi=>if s.ph i<=4 then 1 else 0)<=j:=by
  intro j
  induction j with
  |zero=>exact Nat.le_refl _
  |succ j ih=>rw[sumTo];split<;>omega
 exact this _
section
variable [Payload] {x:Cx}
theorem acA(hC:x.Fz x.C)(O:Nat->Prop)(w w₁:World)(r:x.R O w w₁):RW x.ty x.Wg x.C x.nC 0 (1-1) w w₁ :=
 ⟨λb hb=>absurd hb (Nat.not_lt_zero _),r.ex,λ⟨cs,h1,h2⟩=>⟨cs,(r.fz _ hC).trans h1,h2⟩,by unfold World.cell?;rw[r.fz _ hC]⟩
theorem ze(hC:x.Fz x.C){S:Goroutine->World->Prop}(hS:∀ g w,S g w->g.status=.running){g_:Bool}{O:Nat->Prop}{m:Nat}{g:Goroutine}{w:World}(h:Goes x.P false (RW x.ty x.Wg x.C x.nC 0 (1-1)) DC0 S m g w):x.Uh g_ (λ_=>S) O g w :=
 Kr (acA hC O) (λg w hs=>⟨hS g w hs,hs⟩) (λ_ h=>h) m h
end
theorem Dq(th:Th):dQ false th=th:=by unfold dQ;simp
theorem PI.next{σ:Type}{pr:Pro σ}{Wg m0 j i:Nat}{s s':σ}{T:Nat->Th}{w w':World}{t u:Trace}{dX:Th}{b:Bool}(h:PI pr Wg m0 s j T w t)(hj:pr.J s'=j)
 (ho:∀ k,bn m0 j k->k≠i->pr.S s' k=pr.S s k/\pr.g_ s' k=pr.g_ s k/\(pr.qu s' k↔pr.qu s k)/\pr.d s' k=pr.d s k/\(pr.rel s' k->pr.rel s k))
 (hsl:i=0\/b=true\/(pr.Uf s->pr.Uf s'))
 (hi:dX.S=pr.S s' i/\dX.g_=pr.g_ s' i/\(dX.kind=1↔pr.qu s' i)/\(dX.kind=2->i=0/\pr.Uf s')/\(dX.kind≠1->dX.d=pr.d s' i))
 (hW:pr.W s' w') (hr:pr.rel s' i->∃ r,jl Wg i r (t++u)) (hu:∀ op∈u,op.g=i/\op.act≠.mark (.release (sA Wg))) :
 PI pr Wg m0 s' j (upd (λk=>dQ b (T k)) i dX) w' (t++u):=by
 refine⟨hj,λk hk=>?_,hW,λk hk hrel=>?_,h.nor.app λop hop=>(hu op hop).2⟩
 .by_cases hki:k=i
  .subst hki;rw[upd_same];exact hi
  .rw[upd_ne _ _ hki]
   obtain⟨a1,a2,a3,a4,a5⟩:=h.tag k hk
   obtain⟨b1,b2,b3,b4,_⟩:=ho k hk hki
   have hw:=kV b (T k)
   refine⟨a1.trans b1.symm,a2.trans b2.symm,(hw.1.trans a3).trans b3.symm,λy=>?_,λy=>(a5 λz=>y (hw.1.2 z)).trans b4.symm⟩
   have:=a4 (hw.2 y)
   refine⟨this.1,?_⟩
   rcases hsl with rfl|rfl|hsl
   .exact(hki this.1).elim
   .exfalso
    unfold dQ at y
    simp[hw.2 y] at y
   .exact hsl this.2
 .by_cases hki:k=i
  .subst hki;exact hr hrel
  .obtain⟨r,y⟩:=h.rel k hk ((ho k hk hki).2.2.2.2 hrel)
   exact⟨r,y.other λop hop=>by rw[(hu op hop).1];exact λe=>hki e.symm⟩
theorem jl.sem{Wg g r:Nat}{t:Trace}(h:jl Wg g r t){fn:FuncId}{pos:String}:jl Wg g r (t++MemOp.ofEvents g fn pos (semEvents (smA Wg))):=by
 have e:MemOp.ofEvents g fn pos (semEvents (smA Wg))=MemOp.ofEvents g fn pos #[ConcR.mk .disable]++(MemOp.ofEvents g fn pos #[rd (smA Wg),wr (smA Wg)]++MemOp.ofEvents g fn pos #[ConcR.mk .enable]):=by
  simp[ofEvents_eq,semEvents,ConcR.mk,rd,wr]
 rw[e,<-Array.append_assoc,<-Array.append_assoc]
 have mute:∀ {t:Trace} (m:Mark),(MemAct.mark m).touch?=none->jl Wg g r t->jl Wg g r (t++MemOp.ofEvents g fn pos #[ConcR.mk m]):=λm hm hr=>hr.still λop hop=>by
  obtain⟨e,he,rfl⟩:=Go.Conc.mem_ofEvents hop
  have:e=ConcR.mk m:=by simpa using he
  subst this
  exact hm
 refine mute .enable rfl ((mute .disable rfl h).deaf ?_ λe he=>?_)
 .rw[Deaf_own]
  show 1<=deafBehind (Deaf t g) #[⟨.mark .disable,false,true⟩]
  simp[deafBehind]
 .have:e=rd (smA Wg)\/e=wr (smA Wg):=by simpa using he
  rcases this with rfl|rfl
  .exact⟨rfl,smA Wg,rfl,rfl⟩
  .exact⟨rfl,smA Wg,rfl,rfl⟩
structure Cx.Fit(x:Cx):Prop where
 wn:x.Wg≠x.Nx
 wc:x.Wg≠x.Ch
 nc:x.Nx≠x.Ch
 C:x.Fz x.C
 n0:0<x.n
 n1:x.n<2147483647
section
variable {x:Cx}
theorem nY(a b c:World)(h:x.Ex a b)(h':x.Ex b c):x.Ex a c:=λy=>h' (h y)
theorem acB(w w':World)(h:∀ b,x.Sh b->w'.heap[b]?=w.heap[b]?):x.Ex w w':=λ⟨st,sm,y⟩=>⟨st,sm,(h _ (.inl rfl)).trans y⟩
theorem aff[Payload](s:Sg)(w w':World)(h:∀ b,x.Sh b->w'.heap[b]?=w.heap[b]?)(hw:x.jU.W s w):x.jU.W s w':=by
 obtain⟨h1,h2,h3,a,r,tm,h4⟩:=hw
 exact⟨h1,(h _ (.inl rfl)).trans h2,(h _ (.inr (.inl rfl))).trans h3,a,r,tm,(h _ (.inr (.inr rfl))).trans h4⟩
variable {tz:Nat} {Sx:Nat->Prop} {s:Sg} {j:Nat} {T:Nat->Th} {q:Nat->Nat} {gs:Array Goroutine} {w:World} {t:Trace}
def Cx.Goes[Payload](x:Cx)(tz:Nat)(Sx:Nat->Prop)(s:Sg)(gs:Array Goroutine)(w:World)(t:Trace)(sl:Option (Nat × Nat))(i:Nat):Prop :=
 ∃ gs' w' u,runT x.P (crowd gs w sl) i=(.next (crowd gs' w' sl),u)/\∃ s' j' T' q',x.nu s'<x.nu s/\GI x.P x.m0 tz Sx x.dP x.Fz x.Sh x.Ex j' T' q' gs' w' (t++u)/\PI x.jU x.Wg x.m0 s' j' T' w' (t++u)
structure Cx.Only(x:Cx)(w w':World):Prop where
 keep:∀ b,¬x.Sh b->w'.heap[b]?=w.heap[b]?
 size:w'.heap.size=w.heap.size
 tape:w'.tape=w.tape
 os:w'.os=w.os
 output:w'.output=w.output
 ex:x.Ex w w'
theorem Cx.Only.refl(w:World):x.Only w w:=⟨λ_ _=>rfl,rfl,rfl,rfl,rfl,λh=>h⟩
theorem Cx.Only.rly(hG:GI x.P x.m0 tz Sx x.dP x.Fz x.Sh x.Ex j T q gs w t){w':World}(h:x.Only w w')(i:Nat):x.R (T i).O w w' :=
 ⟨λb y=>h.keep b (hG.pJ i b y).2.2.1,λb y=>h.keep b (hG.MS b y).2.1,Nat.le_of_eq h.size.symm,h.tape,h.os,h.output,h.ex⟩
theorem pY[Payload](hG:GI x.P x.m0 tz Sx x.dP x.Fz x.Sh x.Ex j T q gs w t)(hP:PI x.jU x.Wg x.m0 s j T w t){k:Nat}(hk:k<s.j){g g':Goroutine}{w':World}{es:Array Event}(hg:gs[x.m0+k]?=some g)
 (hst:stepG x.P false g w=.go g' w' es) (hw:x.Only w w') {s':Sg} {p':Nat} (e1:s'.j=s.j) (e2:s'.mp=s.mp) (e3:s'.vs=s.vs) (e4:s'.ph=upd s.ph k p') (e5:∀ i,i≠k->s'.hd i=s.hd i)
 (hΦ:x.nu s'<x.nu s) (hW:x.jU.W s' w') (hev:∀ e∈es,M0 x.dP x.Fz (λg b=>(T g).O b) (x.m0+k) w'.heap.size e/\MemAct.ofEvent e≠.mark (.release (sA x.Wg)))
 (hsl:wk x.P g g'=true\/(s.lp≠8->s'.lp≠8)) {dX:Th} (hI:Kt x.P x.Fz x.Ex false dX g' w') (hO:dX.O=(T (x.m0+k)).O)
 (hS:dX.S=x.Sw s' k/\dX.g_=decide (3<=p')/\(dX.kind=1↔p'=8)/\dX.kind≠2/\(dX.kind≠1->dX.d=if p'<=3 then 0 else 1))
 (hd:deafBehind (T (x.m0+k)).d es=dX.d) (hr:3<=p'->∃ r,jl x.Wg (x.m0+k) r (t++MemOp.ofEvents (x.m0+k) g.frame.fn g.frame.place es)) (sl:Option (Nat × Nat)):x.Goes tz Sx s gs w t sl (x.m0+k):=by
 have hp:=hG.pos
 have hj:s.j=j:=hP.cnt
 have hi0:x.m0+k≠0:=by omega
 have hb:(x.m0+k==0)=false:=by simp;omega
 have hi:bn x.m0 j (x.m0+k):=.inr ⟨by omega,by omega⟩
 have Ue:(λg b=>(upd T (x.m0+k) dX g).O b)=λg b=>(T g).O b:=by
  funext g
  by_cases hgi:g=x.m0+k
  .subst hgi;rw[upd_same,hO]
  .rw[upd_ne _ _ hgi]
 obtain⟨f1,f2⟩:=hG.go nY hi (dX:=dX) hg (by rw[hb];exact hst) (by rw[hb];exact hI) hd (λb y=>by rw[hO];exact y) (λb y=>.inl (by rw[<-hO];exact y)) (λb _ _ h=>hw.keep b h) (Nat.le_of_eq hw.size.symm) hw.tape hw.os hw.output hw.ex
  (λe he=>by rw[Ue];exact(hev e he).1) sl
 refine⟨_,_,_,f1,s',j,_,q,hΦ,f2,hP.next (i:=x.m0+k) (e1.trans hj) (λi hic hne=>?_) (.inr (hsl.imp id λy z=>⟨e2.trans z.1,y z.2⟩)) ?_ hW (λy=>?_) λop hop=>?_⟩
 .by_cases h0:i=0
  .subst h0
   refine⟨?_,rfl,Iff.rfl.trans (by simp[Cx.jU]),?_,λy=>absurd rfl y.1⟩
   .show x.Sm s'=x.Sm s
    unfold Cx.Sm;rw[e2,e1,e3]
   .show (if s'.mp=0\/_ then 0 else 1)=_
    rw[e2];rfl
  .have hm:x.m0<=i:=by rcases hic with y|y<;>omega
   have hk':i-x.m0≠k:=by omega
   have oW:s'.ph (i-x.m0)=s.ph (i-x.m0):=by rw[e4,upd_ne _ _ hk']
   simp only[Cx.jU,if_neg h0,oW]
   refine⟨?_,trivial,trivial,trivial,λy=>y⟩
   unfold Cx.Sw
   rw[oW,e5 _ hk']
 .have oW:s'.ph (x.m0+k-x.m0)=p':=by rw[e4,show x.m0+k-x.m0=k by omega,upd_same]
  simp only[Cx.jU,if_neg hi0,oW]
  refine⟨by rw[hS.1,show x.m0+k-x.m0=k by omega],by rw[hS.2.1,show (x.m0+k != 0)=true by simp;omega,Bool.true_and],hS.2.2.1.trans ⟨λy=>⟨hi0,y⟩,λy=>y.2⟩,λy=>absurd y hS.2.2.2.1,hS.2.2.2.2⟩
 .refine hr ?_
  have oW:s'.ph (x.m0+k-x.m0)=p':=by rw[e4,show x.m0+k-x.m0=k by omega,upd_same]
  have:=y.2
  rw[oW] at this
  exact this
 .obtain⟨e,he,rfl⟩:=Go.Conc.mem_ofEvents hop
  exact⟨rfl,(hev e he).2⟩
theorem vk[Payload](hG:GI x.P x.m0 tz Sx x.dP x.Fz x.Sh x.Ex j T q gs w t)(hP:PI x.jU x.Wg x.m0 s j T w t){g g':Goroutine}{w':World}{es:Array Event}(hg:gs[0]?=some g)(hk0:(T 0).kind=0)
 (hst:stepG x.P true g w=.go g' w' es) (hw:x.Only w w') {s':Sg} (e1:s'.j=s.j) (e4:s'.ph=s.ph) (e5:s'.hd=s.hd)
 (hΦ:x.nu s'<x.nu s) (hW:x.jU.W s' w') (hev:∀ e∈es,M0 x.dP x.Fz (λg b=>(T g).O b) 0 w'.heap.size e/\MemAct.ofEvent e≠.mark (.release (sA x.Wg)))
 (hco:∀ w',x.R (T 0).O w w'->x.GX (x.Sm s') (T 0).O g' w')
 (hd:deafBehind (if s.mp=0\/s.mp=4\/s.mp=11 then 0 else 1) es=if s'.mp=0\/s'.mp=4\/s'.mp=11 then 0 else 1) (sl:Option (Nat × Nat)):x.Goes tz Sx s gs w t sl 0:=by
 have hj:s.j=j:=hP.cnt
 have hi:bn x.m0 j 0:=.inl rfl
 have hd0:(T 0).d=if s.mp=0\/s.mp=4\/s.mp=11 then 0 else 1:=(hP.tag 0 hi).2.2.2.2 (by rw[hk0];decide)
 have Ue:(λg b=>(upd T 0 ⟨0,false,x.Sm s',(T 0).O,w',0,if s'.mp=0\/s'.mp=4\/s'.mp=11 then 0 else 1⟩ g).O b)=λg b=>(T g).O b:=by
  funext g
  by_cases hgi:g=0
  .subst hgi;rw[upd_same]
  .rw[upd_ne _ _ hgi]
 obtain⟨f1,f2⟩:=hG.go nY hi (w':=w') (dX:=⟨0,false,x.Sm s',(T 0).O,w',0,if s'.mp=0\/s'.mp=4\/s'.mp=11 then 0 else 1⟩) hg hst (.inl ⟨rfl,hco w' (hw.rly hG 0),kN.refl (λ_ h=>h) w'⟩) (by rw[hd0];exact hd) (λb y=>y) (λb y=>.inl y) (λb _ _ h=>hw.keep b h) (Nat.le_of_eq hw.size.symm) hw.tape hw.os hw.output hw.ex
  (λe he=>by rw[Ue];exact(hev e he).1) sl
 refine⟨_,_,_,f1,s',j,_,q,hΦ,f2,?_⟩
 refine hP.next (i:=0) (e1.trans hj) (λi _ hne=>?_) (.inl rfl) ⟨rfl,rfl,?_,λy=>(by cases y),λ_=>rfl⟩ hW (λy=>absurd rfl y.1) λop hop=>?_
 .simp only[Cx.jU,if_neg hne,e4]
  refine⟨?_,trivial,trivial,trivial,λy=>y⟩
  unfold Cx.Sw
  rw[e4,e5]
 .simp[Cx.jU]
 .obtain⟨e,he,rfl⟩:=Go.Conc.mem_ofEvents hop
  exact⟨rfl,(hev e he).2⟩
end
section
variable {x:Cx}
theorem I_{s s':Sg}{k p':Nat}(hk:k<s.j)(e1:s'.j=s.j)(e4:s'.ph=upd s.ph k p'):cnt s'+(if s.ph k<=4 then 1 else 0)=cnt s+(if p'<=4 then 1 else 0):=by
 have:=sumTo_upd s.ph p' (λp=>if p<=4 then 1 else 0) hk
 unfold cnt
 rw[e1,e4]
 exact this
theorem KE{s s':Sg}{k p':Nat}(hk:k<s.j)(e1:s'.j=s.j)(e2:s'.mp=s.mp)(e3:s'.vs=s.vs)(e4:s'.ph=upd s.ph k p')(hp:s.ph k<=4\/4<p')
 (hlt:2*(x.len-min s'.c x.len)+MZ p'<2*(x.len-min s.c x.len)+MZ (s.ph k)):x.nu s'<x.nu s:=by
 have h1:=I_ hk e1 e4
 have h2:=sumTo_upd s.ph p' MZ hk
 have hv:x.v s'<=x.v s:=by
  unfold Cx.v
  rw[e1]
  split at h1<;>split at h1<;>omega
 have hm:x.mw s'<=x.mw s:=by
  unfold Cx.mw
  rw[e2,e3]
  split
  .omega
  .split
   .omega
   .omega
 unfold Cx.nu
 rw[e1,e4]
 omega
theorem Cx.ok.early{s:Sg}(h:x.ok s){k:Nat}(hk:k<s.j)(hp:s.ph k<=4):(∀ i,i<s.j->s.ph i<=4\/s.ph i=8)/\s.mp<=8/\((s.mp=7\/s.mp=8)->s.lp=0/\0<x.v s):=by
 have h1:∀ i,i<s.j->s.ph i<=4\/s.ph i=8:=λi hi=>by
  have h8:=h.Yj i hi
  by_cases hc:5<=s.ph i/\s.ph i<=7
  .have:=(h.last i hi hc.1 hc.2).2.2 k hk (λe=>by subst e;omega)
   omega
  .omega
 refine⟨h1,?_,λhm=>?_⟩
 .apply Classical.byContradiction
  intro hc
  have:=h.fin (by omega) k hk
  omega
 .rcases h.reg hm with y|⟨y1,y2,i,hi,y3⟩|⟨_,y⟩
  .exact y
  .have:=h1 i hi;omega
  .have:=y k hk;omega
theorem Cx.ok.ahead{s s':Sg}(h:x.ok s){k p':Nat}(hk:k<s.j)(hp:s.ph k<=4)(hp':p'<=4)(e1:s'.j=s.j)(e2:s'.mp=s.mp)(e3:s'.vs=s.vs)(e4:s'.ph=upd s.ph k p')(e6:s'.lp=s.lp)
 (hc:s.c<=s'.c/\s'.c<=s.c+1) (acC:2<=p'->x.len<=s'.c) (hperm:(s'.bl++hands s').Perm (List.range (min s'.c x.len))) (hΦ:x.nu s'<x.nu s):x.ok s'/\x.v s'=x.v s/\x.iN s'=x.iN s/\jq s'=jq s:=by
 obtain⟨h1,h2,h3⟩:=h.early hk hp
 have hcn:=I_ hk e1 e4
 have hv:x.v s'=x.v s:=by
  unfold Cx.v
  rw[e1]
  rw[if_pos hp,if_pos hp'] at hcn
  omega
 have oW:∀ i,i<s.j->s'.ph i<=4\/s'.ph i=8:=λi hi=>by
  by_cases hik:i=k
  .subst hik;rw[e4,upd_same];exact .inl hp'
  .rw[e4,upd_ne _ _ hik];exact h1 i hi
 refine⟨⟨by rw[e1];exact h.jn,by rw[e1,e2];exact h.j0,by rw[e1,e2];exact h.jN,by rw[e2];exact h.mp,λi hi=>?_,λi hi y=>?_,λi hi y z=>?_,λy=>?_,λy=>?_,λy=>?_,hperm,?_⟩,hv,?_,?_⟩
 .have:=oW i (by omega);omega
 .by_cases hik:i=k
  .subst hik;rw[e4,upd_same] at y;exact acC y
  .rw[e4,upd_ne _ _ hik] at y;exact Nat.le_trans (h.late i (by omega) y) hc.1
 .have:=oW i (by omega);omega
 .rw[e2] at y
  rw[e6,hv]
  exact .inl (h3 y)
 .rw[e2] at y;omega
 .rw[e2] at y
  rw[e3,hv]
  exact h.cas y
 .have:=h.big;omega
 .unfold Cx.iN;rw[e2,e6,hv]
 .unfold jq;rw[e2,e6]
theorem uM{w:World}{a:Addr}{v:Value}(ha:x.Sh a.block)(hEx:x.Ex w (w.setCell a v)):x.Only w (w.setCell a v) :=
 ⟨λ_ hb=>aY w a v λe=>hb (e▸ha),bZ w a v,(aside_setCell w a v).tape,(aside_setCell w a v).os,(aside_setCell w a v).output,hEx⟩
theorem KF{w:World}{c:Nat}(h:x.I7 w c):w.cell? x.zK=some (.int .i64 c)/\w.frozen? x.zK=false:=by
 unfold Cx.I7 at h
 exact⟨by simp[World.cell?,Cx.zK,h],by simp[World.frozen?,Cx.zK,h]⟩
theorem Qn{w:World}{c:Nat}(h:x.I7 w c)(c':Nat):x.I7 (w.setCell x.zK (.int .i64 c')) c':=by
 unfold Cx.I7 at h ⊢
 rw[Cx.zK,setCell_eq_setRow w x.Nx 0 _ x.tN (0,0) _ h,setRow_heap w x.Nx _ _ x.tN _ h]
 simp
variable {tz:Nat} {Sx:Nat->Prop} {s:Sg} {j:Nat} {T:Nat->Th} {q:Nat->Nat} {gs:Array Goroutine} {w:World} {t:Trace} {k:Nat} {g:Goroutine}
theorem wd[Payload](hG:GI x.P x.m0 tz Sx x.dP x.Fz x.Sh x.Ex j T q gs w t)(hP:PI x.jU x.Wg x.m0 s j T w t)(hk:k<s.j)(hkd:(T (x.m0+k)).kind=0):(T (x.m0+k)).d=(if s.ph k<=3 then 0 else 1)/\Deaf t (x.m0+k)=(T (x.m0+k)).d/\(3<=s.ph k->∃ r,jl x.Wg (x.m0+k) r t):=by
 have hi:bn x.m0 j (x.m0+k):=.inr ⟨by omega,by have:=hP.cnt;simp only[Cx.jU] at this;omega⟩
 have:=(hP.tag (x.m0+k) hi).2.2.2.2 (by rw[hkd];decide)
 have hp:=hG.pos
 refine⟨?_,?_,λy=>hP.rel _ hi ⟨by omega,by rw[show x.m0+k-x.m0=k by omega];exact y⟩⟩
 .rw[this]
  simp only[Cx.jU]
  rw[if_neg (by omega),show x.m0+k-x.m0=k by omega]
 .obtain⟨_,_,_,h⟩:=hG.th _ hi
  exact h
theorem Yl[Payload](F:x.Fit)(hG:GI x.P x.m0 tz Sx x.dP x.Fz x.Sh x.Ex j T q gs w t)(hP:PI x.jU x.Wg x.m0 s j T w t)(hk:k<s.j)(oW:s.ph k=0)(hg:gs[x.m0+k]?=some g)(hkd:(T (x.m0+k)).kind=0)
 (hS:x.kP (T (x.m0+k)).O g w) (sl:Option (Nat × Nat)):x.Goes tz Sx s gs w t sl (x.m0+k):=by
 obtain⟨ok,hwg,hnx,a,r,tm,hch⟩:=hP.zJ
 have hbig:=ok.big
 have hd:(T (x.m0+k)).d=0:=by rw[(wd hG hP hk hkd).1,oW];rfl
 obtain⟨g',hst,hnext⟩:=hS s.c (by omega) (KF hnx).1 (KF hnx).2
 have hNs:x.Sh x.zK.block:=.inr (.inl rfl)
 have hwg':(w.setCell x.zK (.int .i64 (s.c+1:Nat))).heap[x.Wg]?=w.heap[x.Wg]?:=aY w _ _ F.wn
 have hch':(w.setCell x.zK (.int .i64 (s.c+1:Nat))).heap[x.Ch]?=w.heap[x.Ch]?:=aY w _ _ λe=>F.nc e.symm
 have hon:x.Only w (w.setCell x.zK (.int .i64 (s.c+1:Nat))):=uM hNs λ⟨st,sm,y⟩=>⟨st,sm,hwg'.trans y⟩
 have hNb:x.zK.block<(w.setCell x.zK (.int .i64 (s.c+1:Nat))).heap.size:=by rw[bZ];exact(hG.shl _ hNs).1
 have hev:∀ e∈#[rd x.zK,wr x.zK],M0 x.dP x.Fz (λg b=>(T g).O b) (x.m0+k) (w.setCell x.zK (.int .i64 (s.c+1:Nat))).heap.size e/\MemAct.ofEvent e≠.mark (.release (sA x.Wg)):=λe he=>by
  have:e=rd x.zK\/e=wr x.zK:=by simpa using he
  rcases this with rfl|rfl
  .exact⟨I8 (.inr rfl) hNb,by simp[MemAct.ofEvent,rd]⟩
  .exact⟨I9 (.inr rfl) hNb,by simp[MemAct.ofEvent,wr]⟩
 obtain⟨n1,n2⟩:=hnext _ (hon.rly hG _)
 by_cases hc:s.c<x.len
 .have hpt:x.nu { s with c:=s.c+1,ph:=upd s.ph k 1,hd:=upd s.hd k s.c }<x.nu s:=KE hk rfl rfl rfl rfl (.inl (by omega)) (by
   simp only[oW,MZ,if_true];rw[if_neg (by decide)];omega)
  have hpm:(s.bl++hands { s with c:=s.c+1,ph:=upd s.ph k 1,hd:=upd s.hd k s.c }).Perm (List.range (min (s.c+1) x.len)):=by
   have h1:(hands { s with c:=s.c+1,ph:=upd s.ph k 1,hd:=upd s.hd k s.c }).Perm (s.c::hands s):=Bh hk rfl (λi _ hne=>⟨upd_ne _ _ hne,upd_ne _ _ hne⟩) (by omega) (upd_same _ _ _) (upd_same _ _ _)
   have h2:min (s.c+1) x.len=min s.c x.len+1:=by omega
   have h3:min s.c x.len=s.c:=by omega
   rw[h2,List.range_succ]
   refine(h1.append_left s.bl).trans (List.perm_middle.trans ?_)
   rw[h3]
   have:=ok.perm
   rw[h3] at this
   exact(this.cons s.c).trans (List.perm_append_singleton _ _).symm
  obtain⟨ok',hv,hs1,hs2⟩:=ok.ahead (s':={ s with c:=s.c+1,ph:=upd s.ph k 1,hd:=upd s.hd k s.c }) hk (by omega) (p':=1) (by omega) rfl rfl rfl rfl rfl ⟨by simp,Nat.le_refl _⟩ (λy=>by omega) hpm hpt
  refine pY hG hP hk hg hst hon (s':={ s with c:=s.c+1,ph:=upd s.ph k 1,hd:=upd s.hd k s.c }) rfl rfl rfl rfl (λi hi=>upd_ne _ _ hi) hpt ⟨ok',by rw[hs1,hs2];exact hwg'.trans hwg,Qn hnx _,a,r,tm,hch'.trans hch⟩ hev (.inr λy=>y)
   (dX:=⟨0,false,x.AtSend s.c,(T (x.m0+k)).O,_,0,0⟩) (.inl ⟨rfl,n1 hc,kN.refl (λ_ h=>h) _⟩) rfl ⟨?_,rfl,by simp,by simp,λ_=>rfl⟩ (by rw[hd];rfl) (λy=>absurd y (by decide)) sl
  unfold Cx.Sw
  simp only[upd_same]
 .have hpt:x.nu { s with c:=s.c+1,ph:=upd s.ph k 2 }<x.nu s:=KE hk rfl rfl rfl rfl (.inl (by omega)) (by
   simp only[oW,MZ,if_true];rw[if_neg (by decide),if_neg (by decide),if_pos (by decide)];omega)
  have hpm:(s.bl++hands { s with c:=s.c+1,ph:=upd s.ph k 2 }).Perm (List.range (min (s.c+1) x.len)):=by
   have h1:hands { s with c:=s.c+1,ph:=upd s.ph k 2 }=hands s:=za rfl λi _=>⟨by
    by_cases hik:i=k
    .subst hik;simp only[upd_same,oW];decide
    .simp only[upd_ne _ _ hik],λ_=>rfl⟩
   rw[h1,show min (s.c+1) x.len=min s.c x.len by omega]
   exact ok.perm
  obtain⟨ok',hv,hs1,hs2⟩:=ok.ahead (s':={ s with c:=s.c+1,ph:=upd s.ph k 2 }) hk (by omega) (p':=2) (by omega) rfl rfl rfl rfl rfl ⟨by simp,Nat.le_refl _⟩ (λ_=>by simp only;omega) hpm hpt
  refine pY hG hP hk hg hst hon (s':={ s with c:=s.c+1,ph:=upd s.ph k 2 }) rfl rfl rfl rfl (λi hi=>rfl) hpt ⟨ok',by rw[hs1,hs2];exact hwg'.trans hwg,Qn hnx _,a,r,tm,hch'.trans hch⟩ hev (.inr λy=>y)
   (dX:=⟨0,false,x.AtRel,(T (x.m0+k)).O,_,0,0⟩) (.inl ⟨rfl,n2 (by omega),kN.refl (λ_ h=>h) _⟩) rfl ⟨?_,rfl,by simp,by simp,λ_=>rfl⟩ (by rw[hd];rfl) (λy=>absurd y (by decide)) sl
  unfold Cx.Sw
  simp only[upd_same]
theorem Ym[Payload](F:x.Fit)(hAT:∀ O g w,x.KA O g w->x.Uh false x.kP O g w)(hG:GI x.P x.m0 tz Sx x.dP x.Fz x.Sh x.Ex j T q gs w t)(hP:PI x.jU x.Wg x.m0 s j T w t)(hk:k<s.j)(oW:s.ph k=1)(hg:gs[x.m0+k]?=some g)(hkd:(T (x.m0+k)).kind=0)
 (hS:x.AtSend (s.hd k) (T (x.m0+k)).O g w) (sl:Option (Nat × Nat)):x.Goes tz Sx s gs w t sl (x.m0+k):=by
 obtain⟨ok,hwg,hnx,a,r,tm,hch⟩:=hP.zJ
 have hd:(T (x.m0+k)).d=0:=by rw[(wd hG hP hk hkd).1,oW];rfl
 have hp:=hG.pos
 have hj:s.j=j:=hP.cnt
 have hi:bn x.m0 j (x.m0+k):=.inr ⟨by omega,by omega⟩
 have hb:(x.m0+k==0)=false:=by simp;omega
 obtain⟨g₂,z,hst,hnext⟩:=hS
 have hh:(hands s).Perm (s.hd k::hands { s with ph:=upd s.ph k 0,bl:=s.bl++[s.hd k] }):=Bh (s:={ s with ph:=upd s.ph k 0,bl:=s.bl++[s.hd k] }) hk rfl (λi _ hne=>⟨(upd_ne _ _ hne).symm,rfl⟩) (by simp[upd_same]) oW rfl
 have hpm:((s.bl++[s.hd k])++hands { s with ph:=upd s.ph k 0,bl:=s.bl++[s.hd k] }).Perm (List.range (min s.c x.len)):=by
  rw[List.append_assoc]
  exact(hh.symm.append_left s.bl).trans ok.perm
 have hroom:((s.bl.map x.sight).toArray).size<x.len:=by
  have:=hpm.length_eq
  simp at this
  simp
  omega
 have hpt:x.nu { s with ph:=upd s.ph k 0,bl:=s.bl++[s.hd k] }<x.nu s:=KE hk rfl rfl rfl rfl (.inl (by omega)) (by
  simp only[oW,MZ,if_true];rw[if_neg (by decide)];omega)
 obtain⟨ok',hv,hs1,hs2⟩:=ok.ahead (s':={ s with ph:=upd s.ph k 0,bl:=s.bl++[s.hd k] }) hk (by omega) (p':=0) (by omega) rfl rfl rfl rfl rfl ⟨Nat.le_refl _,Nat.le_succ _⟩ (λy=>by omega) hpm hpt
 have hkeep:∀ b,b≠x.Ch->(w.setChan x.Ch x.len (((s.bl.map x.sight).toArray).push (x.sight (s.hd k))) false (a+1) r tm).heap[b]?=w.heap[b]?:=λb hb=>by
  simp only[World.setChan]
  exact Array.getElem?_setIfInBounds_ne (λe=>hb e.symm)
 have hEx:x.Ex w (w.setChan x.Ch x.len (((s.bl.map x.sight).toArray).push (x.sight (s.hd k))) false (a+1) r tm):=λ⟨st,sm,y⟩=>⟨st,sm,(hkeep _ F.wc).trans y⟩
 have hon:x.Only w (w.setChan x.Ch x.len (((s.bl.map x.sight).toArray).push (x.sight (s.hd k))) false (a+1) r tm):=⟨λb hb=>hkeep b λe=>hb (.inr (.inr e)),by simp[World.setChan],rfl,rfl,rfl,hEx⟩
 have hco:=(hnext _ (hon.rly hG _)).bind (λ_ h=>h) hAT
 obtain⟨gs',u,f1,f2,f3,f4⟩:=hG.send nY hi (dX:=⟨0,false,x.kP,(T (x.m0+k)).O,w.setChan x.Ch x.len (((s.bl.map x.sight).toArray).push (x.sight (s.hd k))) false (a+1) r tm,0,0⟩) hg (by rw[hb];exact hst) hch hroom (.inr (.inr rfl)) hEx (.inl ⟨rfl,by rw[hb];exact hco,kN.refl (λ_ h=>h) _⟩) rfl hd.symm sl
 have eT:(λk=>dQ false (T k))=T:=funext λk=>Dq _
 refine⟨gs',_,u,f1,{ s with ph:=upd s.ph k 0,bl:=s.bl++[s.hd k] },j,_,q,hpt,f3,?_⟩
 rw[<-eT]
 refine hP.next (i:=x.m0+k) hj (λi hic hne=>?_) (.inr (.inr λy=>y)) ?_ ⟨ok',?_,?_,a+1,r,tm,?_⟩ (λy=>?_) λop hop=>⟨(f2 op hop).2.1,(f2 op hop).2.2 _⟩
 .by_cases h0:i=0
  .subst h0
   exact⟨rfl,rfl,Iff.rfl.trans (by simp[Cx.jU]),rfl,λy=>absurd rfl y.1⟩
  .have hm:x.m0<=i:=by rcases hic with y|y<;>omega
   have hk':i-x.m0≠k:=by omega
   simp only[Cx.jU,if_neg h0,upd_ne _ _ hk']
   refine⟨?_,trivial,trivial,trivial,λy=>y⟩
   unfold Cx.Sw
   simp only[upd_ne _ _ hk']
 .simp only[Cx.jU,if_neg (show x.m0+k≠0 by omega),show x.m0+k-x.m0=k by omega,upd_same]
  refine⟨?_,by simp,by simp,λy=>(by cases y),λ_=>rfl⟩
  unfold Cx.Sw
  simp only[upd_same]
 .rw[hs1,hs2];exact(hkeep _ F.wc).trans hwg
 .exact(hkeep _ F.nc).trans hnx
 .have hlt:=(hG.shl x.Ch (.inr (.inr rfl))).1
  simp only[World.setChan,List.map_append,List.map_cons,List.map_nil]
  rw[Array.getElem?_setIfInBounds_self_of_lt hlt]
  simp
 .have:=y.2
  rw[show x.m0+k-x.m0=k by omega] at this
  simp[upd_same] at this
end
section
variable {x:Cx} {tz:Nat} {Sx:Nat->Prop} {s:Sg} {j:Nat} {T:Nat->Th} {q:Nat->Nat} {gs:Array Goroutine} {w:World} {t:Trace} {k:Nat} {g:Goroutine}
theorem mV{s:Sg}{k p lp:Nat}(hk1:s.ph k≠1)(hp:p≠1):hands { s with ph:=upd s.ph k p,lp:=lp }=hands s:=za rfl λi _=>⟨by
 by_cases hik:i=k
 .subst hik;simp only[upd_same];exact⟨λy=>absurd y hp,λy=>absurd y hk1⟩
 .simp only[upd_ne _ _ hik],λ_=>rfl⟩
theorem iJ{s:Sg}{k p lp:Nat}(hk:k<s.j)(h2:2<=s.ph k)(h7:s.ph k<=7)(hp:s.ph k<p)(hp8:p<=8):x.nu { s with ph:=upd s.ph k p,lp:=lp }<x.nu s:=by
 refine KE hk rfl rfl rfl rfl (by omega) ?_
 have:MZ p<MZ (s.ph k):=by
  unfold MZ
  repeat' split
  all_goals omega
 simp only
 omega
theorem acD[Payload](F:x.Fit)(hG:GI x.P x.m0 tz Sx x.dP x.Fz x.Sh x.Ex j T q gs w t)(hP:PI x.jU x.Wg x.m0 s j T w t)(hk:k<s.j)(oW:s.ph k=2)(hg:gs[x.m0+k]?=some g)(hkd:(T (x.m0+k)).kind=0)
 (hS:x.AtRel (T (x.m0+k)).O g w) (sl:Option (Nat × Nat)):x.Goes tz Sx s gs w t sl (x.m0+k):=by
 obtain⟨ok,hwg,hnx,hch⟩:=hP.zJ
 obtain⟨hd,hdf,_⟩:=wd hG hP hk hkd
 rw[oW] at hd
 obtain⟨_,_,g',hst,m,hgo⟩:=hS
 have hW:=(hG.shl x.Wg (.inl rfl)).1
 have hpt:x.nu { s with ph:=upd s.ph k 3,lp:=s.lp }<x.nu s:=iJ hk (by omega) (by omega) (by omega) (by omega)
 obtain⟨ok',hv,hs1,hs2⟩:=ok.ahead (s':={ s with ph:=upd s.ph k 3,lp:=s.lp }) hk (by omega) (p':=3) (by omega) rfl rfl rfl rfl rfl ⟨Nat.le_refl _,Nat.le_succ _⟩ (λ_=>ok.late k hk (by omega)) (by rw[mV (by omega) (by omega)];exact ok.perm) hpt
 refine pY hG hP hk hg hst (Cx.Only.refl w) (s':={ s with ph:=upd s.ph k 3,lp:=s.lp }) rfl rfl rfl rfl (λi hi=>rfl) hpt ⟨ok',by rw[hs1,hs2];exact hwg,hnx,hch⟩ (λe he=>?_) (.inr λy=>y)
  (dX:=⟨0,true,x.AtK1,(T (x.m0+k)).O,w,0,0⟩) (.inl ⟨rfl,ze F.C (λ_ _ y=>y.1) hgo,kN.refl (λ_ h=>h) _⟩) rfl ⟨?_,rfl,by simp,by simp,λ_=>rfl⟩ (by rw[hd];rfl) (λ_=>⟨t.size,?_⟩) sl
 .have:e=ConcR.mk (.releaseMerge (stA x.Wg)):=by simpa using he
  subst this
  exact⟨y9 rfl hW,by simp[ConcR.mk,MemAct.ofEvent]⟩
 .unfold Cx.Sw
  simp only[upd_same]
 .have e:MemOp.ofEvents (x.m0+k) g.frame.fn g.frame.place #[ConcR.mk (.releaseMerge (stA x.Wg))]=#[{ g:=x.m0+k,fn:=g.frame.fn,pos:=g.frame.place,act:=.mark (.releaseMerge (stA x.Wg)) }]:=by simp[ofEvents_eq,ConcR.mk,MemAct.ofEvent]
  rw[e]
  exact jl.new rfl rfl (by rw[hdf,hd];rfl)
theorem acE[Payload](F:x.Fit)(hG:GI x.P x.m0 tz Sx x.dP x.Fz x.Sh x.Ex j T q gs w t)(hP:PI x.jU x.Wg x.m0 s j T w t)(hk:k<s.j)(oW:s.ph k=3)(hg:gs[x.m0+k]?=some g)(hkd:(T (x.m0+k)).kind=0)
 (hS:x.AtK1 (T (x.m0+k)).O g w) (sl:Option (Nat × Nat)):x.Goes tz Sx s gs w t sl (x.m0+k):=by
 obtain⟨ok,hwg,hnx,hch⟩:=hP.zJ
 obtain⟨hd,hdf,hrl⟩:=wd hG hP hk hkd
 rw[oW] at hd
 obtain⟨_,g',hst,m,hgo⟩:=hS
 have hpt:x.nu { s with ph:=upd s.ph k 4,lp:=s.lp }<x.nu s:=iJ hk (by omega) (by omega) (by omega) (by omega)
 obtain⟨ok',hv,hs1,hs2⟩:=ok.ahead (s':={ s with ph:=upd s.ph k 4,lp:=s.lp }) hk (by omega) (p':=4) (by omega) rfl rfl rfl rfl rfl ⟨Nat.le_refl _,Nat.le_succ _⟩ (λ_=>ok.late k hk (by omega)) (by rw[mV (by omega) (by omega)];exact ok.perm) hpt
 refine pY hG hP hk hg hst (Cx.Only.refl w) (s':={ s with ph:=upd s.ph k 4,lp:=s.lp }) rfl rfl rfl rfl (λi hi=>rfl) hpt ⟨ok',by rw[hs1,hs2];exact hwg,hnx,hch⟩ (λe he=>?_) (.inr λy=>y)
  (dX:=⟨0,true,x.AtD1,(T (x.m0+k)).O,w,0,1⟩) (.inl ⟨rfl,ze F.C (λ_ _ y=>y.1) hgo,kN.refl (λ_ h=>h) _⟩) rfl ⟨?_,rfl,by simp,by simp,λ_=>rfl⟩ (by rw[hd];rfl) (λ_=>?_) sl
 .have:e=ConcR.mk .disable:=by simpa using he
  subst this
  exact⟨y9 rfl trivial,by simp[ConcR.mk,MemAct.ofEvent]⟩
 .unfold Cx.Sw
  simp only[upd_same]
 .obtain⟨r,hr⟩:=hrl (by omega)
  exact⟨r,hr.still λop hop=>by
   obtain⟨e,he,rfl⟩:=Go.Conc.mem_ofEvents hop
   have:e=ConcR.mk .disable:=by simpa using he
   subst this
   rfl⟩
theorem p8(hG:GI x.P x.m0 tz Sx x.dP x.Fz x.Sh x.Ex j T q gs w t){i:Nat}{w':World}(hsz:w'.heap.size=w.heap.size):∀ e∈#[rd (stA x.Wg),wr (stA x.Wg)],M0 x.dP x.Fz (λg b=>(T g).O b) i w'.heap.size e/\MemAct.ofEvent e≠.mark (.release (sA x.Wg)):=λe he=>by
 have hW:(stA x.Wg).block<w'.heap.size:=by rw[hsz];exact(hG.shl x.Wg (.inl rfl)).1
 have:e=rd (stA x.Wg)\/e=wr (stA x.Wg):=by simpa using he
 rcases this with rfl|rfl
 .exact⟨I8 (.inl rfl) hW,by simp[MemAct.ofEvent,rd]⟩
 .exact⟨I9 (.inl rfl) hW,by simp[MemAct.ofEvent,wr]⟩
theorem oZ{st sm:Int}(h:WgAt x.ty x.Wg w st sm)(v:Int):x.Only w (w.setCell (stA x.Wg) (.int .u64 v)):=uM (.inl rfl) λ_=>⟨_,_,h.setSt v⟩
theorem KG{st sm:Int}(h:WgAt x.ty x.Wg w st sm)(v:Int):x.Only w (w.setCell (smA x.Wg) (.int .u32 v)):=uM (.inl rfl) λ_=>⟨_,_,h.setSm v⟩
end
