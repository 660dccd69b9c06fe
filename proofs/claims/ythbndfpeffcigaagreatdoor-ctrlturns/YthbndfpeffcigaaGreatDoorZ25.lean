/- Part of the proof. -/
import Derived.Test.YthbndfpeffcigaaGreatDoorZ24
import Derived.Conc.CrowdComm
import Derived.Conc.CrowdSpec
namespace Go.Proofs.YthbndfpeffcigaaGreatDoor
open Go Go.Conc
variable {g:Goroutine} {w:World}
structure jX(Fz:Nat->Prop)(Ex:World->World->Prop)(O:Nat->Prop)(w w₁:World):Prop where
 mine:∀ b,O b->w₁.heap[b]?=w.heap[b]?
 fz:∀ b,Fz b->w₁.heap[b]?=w.heap[b]?
 size:w.heap.size<=w₁.heap.size
 tape:w₁.tape=w.tape
 os:w₁.os=w.os
 output:w₁.output=w.output
 ex:Ex w w₁
structure He(O:Nat->Prop)(w w':World):Prop where
 keep:∀ b,b<w.heap.size->¬O b->w'.heap[b]?=w.heap[b]?
 size:w.heap.size<=w'.heap.size
 tape:w'.tape=w.tape
 os:w'.os=w.os
 output:w'.output=w.output
def grow(O:Nat->Prop)(w w':World)(b:Nat):Prop:=O b\/(w.heap.size<=b/\b<w'.heap.size)
def EvC(Fz O:Nat->Prop)(e:Event):Prop :=
 (∃ b,blk e.loc=some b/\e.sync=false/\(O b\/(Fz b/\e.write=false)))\/(∃ m,e.loc=.mark m/\GY m=true)
variable {P:Program} {main gq:Bool} {Fz:Nat->Prop} {Ex:World->World->Prop} {O O':Nat->Prop} {Stop:(Nat->Prop)->Goroutine->World->Prop}
def Co(P:Program)(main gq:Bool)(Fz:Nat->Prop)(Ex:World->World->Prop)(Stop:(Nat->Prop)->Goroutine->World->Prop)(O:Nat->Prop)(g:Goroutine)(w:World):Prop :=
 ∀ M:(Nat->Prop)->Goroutine->World->Prop,
   (∀ O g w,g.status=.running->(∀ w₁,jX Fz Ex O w w₁->Stop O g w₁)->M O g w) ->
   (∀ O g w,g.status=.running->(∀ w₁,jX Fz Ex O w w₁->∃ g' w' es,stepG P main g w₁=.go g' w' es/\He O w₁ w'/\(∀ e∈es,EvC Fz (grow O w₁ w') e)/\(gq=true->es=#[])/\M (grow O w₁ w') g' w')->M O g w)->M O g w
theorem Co.stop(hr:g.status=.running)(h:∀ w₁,jX Fz Ex O w w₁->Stop O g w₁):Co P main gq Fz Ex Stop O g w:=λ_ h1 _=>h1 O g w hr h
theorem Co.step(hr:g.status=.running)(h:∀ w₁,jX Fz Ex O w w₁->∃ g' w' es,stepG P main g w₁=.go g' w' es/\He O w₁ w'/\(∀ e∈es,EvC Fz (grow O w₁ w') e)/\(gq=true->es=#[])/\Co P main gq Fz Ex Stop (grow O w₁ w') g' w'):Co P main gq Fz Ex Stop O g w :=
 λM h1 h2=>h2 O g w hr λw₁ r=>let ⟨g',w',es,a,b,c,s,d⟩:=h w₁ r;⟨g',w',es,a,b,c,s,d M h1 h2⟩
theorem Co.cases(h:Co P main gq Fz Ex Stop O g w):g.status=.running/\((∀ w₁,jX Fz Ex O w w₁->Stop O g w₁)\/∀ w₁,jX Fz Ex O w w₁->∃ g' w' es,stepG P main g w₁=.go g' w' es/\He O w₁ w'/\(∀ e∈es,EvC Fz (grow O w₁ w') e)/\(gq=true->es=#[])/\Co P main gq Fz Ex Stop (grow O w₁ w') g' w') :=
 h (λO g w=>g.status=.running/\((∀ w₁,jX Fz Ex O w w₁->Stop O g w₁)\/∀ w₁,jX Fz Ex O w w₁->∃ g' w' es,stepG P main g w₁=.go g' w' es/\He O w₁ w'/\(∀ e∈es,EvC Fz (grow O w₁ w') e)/\(gq=true->es=#[])/\Co P main gq Fz Ex Stop (grow O w₁ w') g' w'))
   (λ_ _ _ hr hs=>⟨hr,.inl hs⟩)
   (λ_ _ _ hr hs=>⟨hr,.inr λw₁ r=>by
    obtain⟨g',w',es,a,b,c,s,hr',d⟩:=hs w₁ r
    refine⟨g',w',es,a,b,c,s,?_⟩
    rcases d with d|d
    .exact Co.stop hr' d
    .exact Co.step hr' d⟩)
def Cf(P:Program)(main:Bool)(Fz:Nat->Prop)(Ex:World->World->Prop)(Stop:(Nat->Prop)->Goroutine->World->Prop)(c' c:(Nat->Prop) × Goroutine × World):Prop :=
 ¬(∀ w₁,jX Fz Ex c.1 c.2.2 w₁->Stop c.1 c.2.1 w₁)/\∃ w₁ es,jX Fz Ex c.1 c.2.2 w₁/\stepG P main c.2.1 w₁=.go c'.2.1 c'.2.2 es/\c'.1=grow c.1 w₁ c'.2.2
theorem Co.acc(h:Co P main gq Fz Ex Stop O g w):Acc (Cf P main Fz Ex Stop) (O,g,w) :=
 h (λO g w=>Acc (Cf P main Fz Ex Stop) (O,g,w))
   (λ_ _ _ _ hs=>Acc.intro _ λ_ hc=>(hc.1 hs).elim)
   (λO g w _ hs=>Acc.intro _ λc' hc=>by
    obtain⟨_,w₁,es,r,e,eO⟩:=hc
    obtain⟨g',w',es',a,_,_,_,d⟩:=hs w₁ r
    simp only at e
    rw[e] at a
    cases a
    obtain⟨O',g2,w2⟩:=c'
    simp only at eO d ⊢
    rw[eO];exact d)
theorem jX.trans(hE:∀ a b c,Ex a b->Ex b c->Ex a c){w₁ w₂:World}(h:jX Fz Ex O w w₁)(k:jX Fz Ex O w₁ w₂):jX Fz Ex O w w₂ :=
 ⟨λb x=>(k.mine b x).trans (h.mine b x),λb x=>(k.fz b x).trans (h.fz b x),Nat.le_trans h.size k.size,k.tape.trans h.tape,k.os.trans h.os,k.output.trans h.output,hE _ _ _ h.ex k.ex⟩
theorem jX.refl(hE:∀ a,Ex a a)(w:World):jX Fz Ex O w w:=⟨λ_ _=>rfl,λ_ _=>rfl,Nat.le_refl _,rfl,rfl,rfl,hE w⟩
theorem Co.rely(hE:∀ a b c,Ex a b->Ex b c->Ex a c){w₁:World}(h:Co P main gq Fz Ex Stop O g w)(hr:jX Fz Ex O w w₁):Co P main gq Fz Ex Stop O g w₁:=by
 obtain⟨h0,h⟩:=h.cases
 rcases h with h|h
 .exact Co.stop h0 λw₂ h₂=>h w₂ (hr.trans hE h₂)
 .exact Co.step h0 λw₂ h₂=>h w₂ (hr.trans hE h₂)
theorem He.refl:He O w w:=⟨λ_ _ _=>rfl,Nat.le_refl _,rfl,rfl,rfl⟩
theorem lU(w:World):grow O w w=O:=by
 funext b
 refine propext ⟨λh=>h.elim id λx=>?_,.inl⟩
 omega
theorem TT{g':Goroutine}(hr:g.status=.running)(hs:∀ w,stepG P main g w=.go g' w #[])(h:∀ w₁,jX Fz Ex O w w₁->Co P main gq Fz Ex Stop O g' w₁):Co P main gq Fz Ex Stop O g w :=
 Co.step hr λw₁ r=>⟨g',w₁,#[],hs w₁,He.refl,λe he=>by simp at he,λ_=>rfl,by rw[lU];exact h w₁ r⟩
theorem JD{R:World->World->Prop}{Stop':Goroutine->World->Prop}(hR:∀ w w₁,jX Fz Ex O w w₁->R w w₁)(hs:∀ g w,Stop' g w->g.status=.running/\Stop O g w)(hE:∀ a,Ex a a):∀ (n:Nat) {g:Goroutine} {w:World},Goes P main R (λw w' es=>w'=w/\es=#[]) Stop' n g w->Co P main gq Fz Ex Stop O g w
 |0,g,w,h=>Co.stop (hs g w (h w (hR w w (jX.refl hE w)))).1 λw₁ r=>(hs g w₁ (h w₁ (hR w w₁ r))).2
 |n+1,g,w,h=>by
  rcases h with h|⟨hr,h⟩
  .exact Co.stop (hs g w (h w (hR w w (jX.refl hE w)))).1 λw₁ r=>(hs g w₁ (h w₁ (hR w w₁ r))).2
  .refine Co.step hr λw₁ r=>?_
   have h1:=h w₁ (hR w w₁ r)
   cases hst:stepG P main g w₁ with
   |go g' w' es =>
    rw[hst,goes_go] at h1
    obtain⟨⟨rfl,rfl⟩,h2⟩:=h1
    exact⟨g',_,#[],rfl,He.refl,λe he=>(by simp at he),λ_=>rfl,by rw[lU];exact JD hR hs hE n h2⟩
   |_=>rw[hst] at h1;exact h1.elim
end Go.Proofs.YthbndfpeffcigaaGreatDoor
namespace Go.Proofs.YthbndfpeffcigaaGreatDoor
open Go Go.Conc
open Go.ConcN (sumTo upd sumTo_upd upd_ne upd_same)
structure Th where
 kind:Nat
 gq:Bool
 S:(Nat->Prop)->Goroutine->World->Prop
 O:Nat->Prop
 wa:World
 q:Nat
 d:Nat
def JE(P:Program)(Fz:Nat->Prop)(Ex:World->World->Prop)(main:Bool)(th:Th)(g:Goroutine)(w:World):Prop :=
 (th.kind=0/\Co P main th.gq Fz Ex th.S th.O g th.wa/\jX Fz Ex th.O th.wa w) \/
 (th.kind=1/\main=false/\QuitsD P th.q th.d g) \/
 (th.kind=2/\∃ g0,g={ g0 with status:=.blocked }/\g0.offers=none/\Co P main th.gq Fz Ex th.S th.O g0 th.wa/\jX Fz Ex th.O th.wa w)
def dN(b:Bool)(th:Th):Th:={ th with kind:=if b=true/\th.kind=2 then 0 else th.kind }
def wk(P:Program)(g g':Goroutine):Bool:=mayWake P g&&g'.status != .blocked&&g'.status != .waiting
section
variable {P:Program} {Fz:Nat->Prop} {Ex:World->World->Prop} {main:Bool} {th:Th} {g x x':Goroutine} {w w':World}
theorem ED(o:Goroutine):woken P x x' w o=if wk P x x' then o.again w else o:=rfl
theorem JE.status(h:JE P Fz Ex main th g w):g.status=.running\/g.status=.blocked\/g.status=.finished:=by
 rcases h with ⟨_,h,_⟩|⟨_,_,h⟩|⟨_,g0,rfl,_⟩
 .exact .inl h.cases.1
 .exact h.status.imp id .inr
 .exact .inr (.inl rfl)
theorem JE.wake(h:JE P Fz Ex main th g w):JE P Fz Ex main (dN (wk P x x') th) (woken P x x' w' g) w:=by
 rcases h with ⟨hk,h1,h2⟩|⟨hk,hm,h1⟩|⟨hk,g0,rfl,ho,h1,h2⟩
 .rw[woken_run h1.cases.1]
  exact .inl ⟨by simp[dN,hk],h1,h2⟩
 .rw[woken_quitsD h1]
  exact .inr (.inl ⟨by simp[dN,hk],hm,h1⟩)
 .rw[ED]
  cases hb:wk P x x' with
  |true =>
   have:({ g0 with status:=.blocked }:Goroutine).again w'=g0:=by
    have hr:=h1.cases.1
    obtain⟨f,c,s,d,o⟩:=g0
    simp only at hr ho
    subst hr ho
    rfl
   simp only[if_true,this]
   exact .inl ⟨by simp[dN,hk],h1,h2⟩
  |false =>
   simp only[Bool.false_eq_true,if_false]
   exact .inr (.inr ⟨by simp[dN,hk],g0,rfl,ho,h1,h2⟩)
theorem JE.rely(hE:∀ a b c,Ex a b->Ex b c->Ex a c)(h:JE P Fz Ex main th g w)(hr:jX Fz Ex th.O w w'):JE P Fz Ex main th g w':=by
 rcases h with ⟨hk,h1,h2⟩|h|⟨hk,g0,e,ho,h1,h2⟩
 .exact .inl ⟨hk,h1,h2.trans hE hr⟩
 .exact .inr (.inl h)
 .exact .inr (.inr ⟨hk,g0,e,ho,h1,h2.trans hE hr⟩)
end
structure GI(P:Program)(m0 tz:Nat)(Sx dM Fz Sh:Nat->Prop)(Ex:World->World->Prop)(j:Nat)(T:Nat->Th)(q:Nat->Nat)(gs:Array Goroutine)(w:World)(t:Trace):Prop where
 pos:1<=m0
 sz:gs.size=m0+j
 th:∀ i,aY m0 j i->∃ g,gs[i]?=some g/\JE P Fz Ex (i==0) (T i) g w/\Deaf t i=(T i).d
 lv:∀ i g,0<i->i<m0->gs[i]?=some g->QuitsD P (q i) (Deaf t i) g
 above:∀ i,m0+j<=i->Deaf t i=0
 ti:TI m0 j tz Sx dM Fz (λg b=>(T g).O b) w.heap.size t
 own:∀ i i' b,(T i).O b->(T i').O b->i=i'
 oU:∀ i b,(T i).O b->b<w.heap.size/\¬Fz b/\¬Sh b/\¬Sx b
 LK:∀ b,Fz b->b<w.heap.size/\¬Sh b/\¬Sx b
 shl:∀ b,Sh b->b<w.heap.size/\¬Sx b
 sxl:∀ b,Sx b->b<w.heap.size
 Yb:∀ b,dM b->Sh b
 out:∀ i,¬aY m0 j i->∀ b,¬(T i).O b
section
variable {P:Program} {m0 tz:Nat} {Sx dM Fz Sh:Nat->Prop} {Ex:World->World->Prop} {j:Nat} {T:Nat->Th} {q:Nat->Nat} {gs:Array Goroutine} {w:World} {t:Trace}
theorem Yc(hE:∀ (w:World) d,Ex w (w.at d))(O:Nat->Prop)(w:World)(d:Nat):jX Fz Ex O w (w.at d):=⟨λ_ _=>rfl,λ_ _=>rfl,Nat.le_refl _,rfl,rfl,rfl,hE w d⟩
theorem GI.at(h:GI P m0 tz Sx dM Fz Sh Ex j T q gs w t)(hE:∀ a b c,Ex a b->Ex b c->Ex a c)(hA:∀ (w:World) d,Ex w (w.at d))(d:Nat):GI P m0 tz Sx dM Fz Sh Ex j T q gs (w.at d) t :=
 { h with th:=λi hi=>let ⟨g,a,b,c⟩:=h.th i hi;⟨g,a,b.rely hE (Yc hA _ w d),c⟩ }
theorem Ww(h:GI P m0 tz Sx dM Fz Sh Ex j T q gs w t){i:Nat}(hi:aY m0 j i):i<gs.size:=by
 rw[h.sz];have:=h.pos;rcases hi with rfl|hi<;>omega
theorem GI.go(h:GI P m0 tz Sx dM Fz Sh Ex j T q gs w t)(hE:∀ a b c,Ex a b->Ex b c->Ex a c){i:Nat}(hi:aY m0 j i){g g':Goroutine}{w':World}{es:Array Event}{dY:Th}
 (hg:gs[i]?=some g) (hst:stepG P (i==0) g w=.go g' w' es) (hI:JE P Fz Ex (i==0) dY g' w')
 (hd:deafBehind (T i).d es=dY.d) (hO:∀ b,(T i).O b->dY.O b) (hO':∀ b,dY.O b->(T i).O b\/(w.heap.size<=b/\b<w'.heap.size))
 (hkeep:∀ b,b<w.heap.size->¬(T i).O b->¬Sh b->w'.heap[b]?=w.heap[b]?) (hsize:w.heap.size<=w'.heap.size) (htp:w'.tape=w.tape) (hos:w'.os=w.os) (hou:w'.output=w.output) (hEx:Ex w w')
 (hev:∀ e∈es,(∀ x,(MemAct.ofEvent e).touch?=some x->x.loc.isMemory=true->∃ b,blk x.loc=some b/\LJ dM Fz (λg b=>(upd T i dY g).O b) i b x)/\(MemAct.ofEvent e).low w'.heap.size) (sl:Option (Nat × Nat)) :
 runT P (crowd gs w sl) i=(.next (crowd ((gs.map (woken P g g' w')).setIfInBounds i g') w' sl),MemOp.ofEvents i g.frame.fn g.frame.place es) /\
  GI P m0 tz Sx dM Fz Sh Ex j (upd (λk=>dN (wk P g g') (T k)) i dY) q ((gs.map (woken P g g' w')).setIfInBounds i g') w' (t++MemOp.ofEvents i g.frame.fn g.frame.place es):=by
 have hlt:=Ww h hi
 have hlow:∀ b,dY.O b->b<w'.heap.size/\¬Fz b/\¬Sh b/\¬Sx b:=λb x=>by
  rcases hO' b x with y|⟨y1,y2⟩
  .have:=h.oU i b y;exact⟨by omega,this.2⟩
  .refine⟨y2,λz=>?_,λz=>?_,λz=>?_⟩
   .have:=(h.LK b z).1;omega
   .have:=(h.shl b z).1;omega
   .have:=h.sxl b z;omega
 have JF:∀ k,(upd (λk=>dN (wk P g g') (T k)) i dY k).O=(upd T i dY k).O:=λk=>by
  by_cases hk:k=i
  .subst hk;rw[upd_same,upd_same]
  .rw[upd_ne _ _ hk,upd_ne _ _ hk];rfl
 have hup:∀ k b,(T k).O b->(upd T i dY k).O b:=λk b x=>by
  by_cases hk:k=i
  .subst hk;rw[upd_same];exact hO b x
  .rw[upd_ne _ _ hk];exact x
 have hown:∀ k k' b,(upd T i dY k).O b->(upd T i dY k').O b->k=k':=λk k' b x y=>by
  by_cases hk:k=i<;>by_cases hk':k'=i
  .rw[hk,hk']
  .subst hk
   rw[upd_same] at x
   rw[upd_ne _ _ hk'] at y
   rcases hO' b x with z|⟨z,_⟩
   .exact h.own _ _ b z y
   .have:=(h.oU k' b y).1;omega
  .subst hk'
   rw[upd_same] at y
   rw[upd_ne _ _ hk] at x
   rcases hO' b y with z|⟨z,_⟩
   .exact h.own _ _ b x z
   .have:=(h.oU k b x).1;omega
  .rw[upd_ne _ _ hk] at x
   rw[upd_ne _ _ hk'] at y
   exact h.own _ _ b x y
 have rel:∀ k,k≠i->jX Fz Ex (T k).O w w':=λk hk =>
  ⟨λb x=>hkeep b (h.oU k b x).1 (λy=>hk (h.own _ _ b x y)) (h.oU k b x).2.2.1,λb x=>hkeep b (h.LK b x).1 (λy=>(h.oU i b y).2.1 x) (h.LK b x).2.1,hsize,htp,hos,hou,hEx⟩
 have sep':Sep Sx dM Fz (λg b=>(upd T i dY g).O b):=by
  have hl:∀ k b,(upd T i dY k).O b->¬Fz b/\¬Sh b/\¬Sx b:=λk b x=>by
   by_cases hk:k=i
   .subst hk;rw[upd_same] at x;exact(hlow b x).2
   .rw[upd_ne _ _ hk] at x;exact(h.oU k b x).2
  exact⟨hown,λg b x=>(hl g b x).1,λg b x y=>(hl g b x).2.1 (h.Yb b y),λg b x=>(hl g b x).2.2,λb x y=>(h.LK b x).2.1 (h.Yb b y),λb x=>(h.LK b x).2.2,λb x=>(h.shl b (h.Yb b x)).2⟩
 have others:∀ k,k≠i->Deaf (t++MemOp.ofEvents i g.frame.fn g.frame.place es) k=Deaf t k:=λk hk=>Deaf_other t (λe=>hk e.symm) _ (λop hop=>by obtain⟨e,_,rfl⟩:=Go.Conc.mem_ofEvents hop;rfl)
 refine⟨runT_crowd_go (P:=P) (sl:=sl) hg hst,h.pos,by simp[h.sz],λk hk=>?_,λk x hk1 hk2 hx=>?_,λk hk=>?_,?_,?_,?_,?_,?_,?_,h.Yb,λk hk b=>?_⟩
 .by_cases hki:k=i
  .subst hki
   refine⟨g',by rw[Array.getElem?_setIfInBounds_self_of_lt (by simpa using hlt)],by rw[upd_same];exact hI,?_⟩
   obtain⟨_,_,_,hdk⟩:=h.th k hk
   rw[upd_same,Deaf_own,hdk,hd]
  .obtain⟨x,hx,hxI,hdx⟩:=h.th k hk
   refine⟨woken P g g' w' x,by rw[Array.getElem?_setIfInBounds_ne (λe=>hki e.symm),Array.getElem?_map,hx];rfl,?_,?_⟩
   .rw[upd_ne _ _ hki]
    have:=(hxI.rely hE (rel k hki)).wake (x:=g) (x':=g') (w':=w') (P:=P)
    exact this
   .rw[upd_ne _ _ hki,others k hki,hdx];rfl
 .have hki:k≠i:=by rcases hi with rfl|hi<;>omega
  rw[Array.getElem?_setIfInBounds_ne (λe=>hki e.symm),Array.getElem?_map] at hx
  obtain⟨y,hy,rfl⟩:=Option.map_eq_some_iff.1 hx
  have hq:=h.lv k y hk1 hk2 hy
  rw[woken_quitsD hq,others k hki]
  exact hq
 .have hki:k≠i:=by have:=h.pos;rcases hi with rfl|hi<;>omega
  rw[others k hki];exact h.above k hk
 .have e:(λg_1 b=>(upd (λk=>dN (wk P g g') (T k)) i dY g_1).O b)=λg_1 b=>(upd T i dY g_1).O b:=by funext k;rw[JF]
  rw[e]
  refine(h.ti.mono hup (Nat.le_refl _)).app sep' hi hsize λop hop=>?_
  obtain⟨e,he,rfl⟩:=Go.Conc.mem_ofEvents hop
  exact⟨rfl,(hev e he).1,(hev e he).2⟩
 .intro k k' b x y
  rw[JF] at x y
  exact hown k k' b x y
 .intro k b x
  rw[JF] at x
  by_cases hk:k=i
  .subst hk;rw[upd_same] at x;exact hlow b x
  .rw[upd_ne _ _ hk] at x
   have:=h.oU k b x
   exact⟨by omega,this.2⟩
 .intro b x;have:=h.LK b x;exact⟨by omega,this.2⟩
 .intro b x;have:=h.shl b x;exact⟨by omega,this.2⟩
 .intro b x;have:=h.sxl b x;omega
 .have hki:k≠i:=λe=>hk (e▸hi)
  rw[JF,upd_ne _ _ hki]
  exact h.out k hk b
end
variable {g:Goroutine} {i:Nat}
section
variable {P:Program} {m0 tz:Nat} {Sx dM Fz Sh:Nat->Prop} {Ex:World->World->Prop} {j:Nat} {T:Nat->Th} {q:Nat->Nat} {gs:Array Goroutine} {w:World} {t:Trace}
theorem LM{O:Nat->Prop}{e:Event}(h:EvC Fz O e):e.loc≠.mark .disable/\e.loc≠.mark .enable:=by
 rcases h with ⟨b,h,_⟩|⟨m,h,hb⟩
 .exact⟨λe'=>(by rw[e'] at h;simp[blk] at h),λe'=>(by rw[e'] at h;simp[blk] at h)⟩
 .exact⟨λe'=>(by rw[h] at e';cases e';cases hb),λe'=>(by rw[h] at e';cases e';cases hb)⟩
theorem TU{O:Nat->Prop}{Own:Nat->Nat->Prop}{g B:Nat}{e:Event}(h:EvC Fz O e)(hO:∀ b,O b->Own g b)(hB:∀ b,O b\/Fz b->b<B) :
 (∀ x,(MemAct.ofEvent e).touch?=some x->x.loc.isMemory=true->∃ b,blk x.loc=some b/\LJ dM Fz Own g b x)/\(MemAct.ofEvent e).low B:=by
 obtain⟨loc,wr,sy⟩:=e
 rcases h with ⟨b,h1,h2,h3⟩|⟨m,h1,h2⟩
 .simp only at h1 h2 h3
  subst h2
  have hb:b<B:=hB b (h3.imp id (·.1))
  have acc:MemAct.ofEvent ⟨loc,wr,false⟩=.access ⟨loc,wr,false⟩:=by
   cases loc<;>first|rfl|(cases wr<;>rfl)|(simp[blk] at h1)
  rw[acc]
  refine⟨λx hx _=>?_,?_⟩
  .simp only[MemAct.touch?,Option.some.injEq] at hx
   subst hx
   refine⟨b,h1,?_⟩
   rcases h3 with h3|⟨h3,h4⟩
   .exact .inr (.inl ⟨hO b h3,rfl⟩)
   .exact .inr (.inr ⟨h3,h4,rfl⟩)
  .cases loc with
   |cell a=>simp only[blk,Option.some.injEq] at h1;subst h1;exact hb
   |obj r=>simp only[blk,Option.some.injEq] at h1;subst h1;exact hb
   |_=>simp[blk] at h1
 .simp only at h1
  subst h1
  cases m<;>first|(cases h2;done)|exact⟨λx hx=>(by simp[MemAct.ofEvent,MemAct.touch?] at hx),by simp[MemAct.ofEvent,MemAct.low]⟩
theorem GI.walk(h:GI P m0 tz Sx dM Fz Sh Ex j T q gs w t)(hE:∀ a b c,Ex a b->Ex b c->Ex a c)(hX:∀ w w':World,(∀ b,Sh b->w'.heap[b]?=w.heap[b]?)->Ex w w')(hi:aY m0 j i)(hg:gs[i]?=some g)(hk:(T i).kind=0)
 (hns:¬∀ w₁,jX Fz Ex (T i).O (T i).wa w₁->(T i).S (T i).O g w₁) (sl:Option (Nat × Nat)) :
 ∃ g' w' es,runT P (crowd gs w sl) i=(.next (crowd ((gs.map (woken P g g' w')).setIfInBounds i g') w' sl),MemOp.ofEvents i g.frame.fn g.frame.place es) /\
   GI P m0 tz Sx dM Fz Sh Ex j (upd (λk=>dN (wk P g g') (T k)) i { T i with O:=grow (T i).O w w',wa:=w' }) q ((gs.map (woken P g g' w')).setIfInBounds i g') w' (t++MemOp.ofEvents i g.frame.fn g.frame.place es) /\
   Cf P (i==0) Fz Ex (T i).S (grow (T i).O w w',g',w') ((T i).O,g,(T i).wa)/\g'.status=.running/\(∀ b,Sh b->w'.heap[b]?=w.heap[b]?)/\(∀ e∈es,EvC Fz (grow (T i).O w w') e)/\((T i).gq=true->es=#[]):=by
 obtain⟨g0,hg0,hI,hd⟩:=h.th i hi
 rw[hg] at hg0
 cases hg0
 have hco:Co P (i==0) (T i).gq Fz Ex (T i).S (T i).O g (T i).wa/\jX Fz Ex (T i).O (T i).wa w:=by
  rcases hI with ⟨_,x⟩|⟨x,_⟩|⟨x,_⟩
  .exact x
  .rw[hk] at x;cases x
  .rw[hk] at x;cases x
 obtain⟨g',w',es,e1,e2,e3,e4,e5⟩:=(hco.1.cases.2.resolve_left hns) w hco.2
 have hsh:∀ b,Sh b->w'.heap[b]?=w.heap[b]?:=λb x=>e2.keep b (h.shl b x).1 λy=>(h.oU i b y).2.2.1 x
 have hrl:jX Fz Ex (grow (T i).O w w') w' w':=jX.refl (λa=>hX a a λ_ _=>rfl) w'
 obtain⟨f1,f2⟩:=h.go hE hi (dY:={ T i with O:=grow (T i).O w w',wa:=w' }) hg e1 (.inl ⟨hk,e5,hrl⟩) (deafBehind_still (λe he=>LM (e3 e he)) _) (λb x=>.inl x) (λb x=>x) (λb hb hno _=>e2.keep b hb hno) e2.size e2.tape e2.os e2.output (hX w w' hsh)
  (λe he=>TU (e3 e he) (λb x=>by rw[upd_same];exact x) λb x=>by
   rcases x with (x|x)|x
   .have:=(h.oU i b x).1;have:=e2.size;omega
   .exact x.2
   .have:=(h.LK b x).1;have:=e2.size;omega) sl
 exact⟨g',w',es,f1,f2,⟨hns,w,es,hco.2,e1,rfl⟩,e5.cases.1,hsh,e3,e4⟩
theorem GI.quit(h:GI P m0 tz Sx dM Fz Sh Ex j T q gs w t)(hE:∀ a b c,Ex a b->Ex b c->Ex a c)(hX:∀ w w':World,(∀ b,Sh b->w'.heap[b]?=w.heap[b]?)->Ex w w')(hi:aY m0 j i)(hg:gs[i]?=some g)(hr:g.status=.running)(hk:(T i).kind=1)(sl:Option (Nat × Nat)) :
 ∃ g' es k,(T i).q=k+1/\(∀ e∈es,e.mute=true)/\runT P (crowd gs w sl) i=(.next (crowd ((gs.map (woken P g g' w)).setIfInBounds i g') w sl),MemOp.ofEvents i g.frame.fn g.frame.place es) /\
   GI P m0 tz Sx dM Fz Sh Ex j (upd (λk=>dN (wk P g g') (T k)) i { T i with q:=k,d:=deafBehind (T i).d es }) q ((gs.map (woken P g g' w)).setIfInBounds i g') w (t++MemOp.ofEvents i g.frame.fn g.frame.place es):=by
 obtain⟨g0,hg0,hI,hd⟩:=h.th i hi
 rw[hg] at hg0
 cases hg0
 have hq:(i==0)=false/\QuitsD P (T i).q (T i).d g:=by
  rcases hI with ⟨x,_⟩|⟨_,x⟩|⟨x,_⟩
  .rw[hk] at x;cases x
  .exact x
  .rw[hk] at x;cases x
 cases hqi:(T i).q with
 |zero=>rw[hqi] at hq;rw[hq.2.1] at hr;cases hr
 |succ k =>
  rw[hqi] at hq
  rcases hq.2 with ⟨hf,_⟩|⟨_,g',es,hm,hstp,hq'⟩
  .rw[hf] at hr;cases hr
  .obtain⟨f1,f2⟩:=h.go hE hi (dY:={ T i with q:=k,d:=deafBehind (T i).d es }) hg (by rw[hq.1];exact hstp w) (.inr (.inl ⟨hk,hq.1,hq'⟩)) rfl (λb x=>x) (λb x=>.inl x) (λ_ _ _ _=>rfl) (Nat.le_refl _) rfl rfl rfl (hX w w λ_ _=>rfl)
    (λe he=>⟨λx hx=>(by rw[touch_mute (hm e he)] at hx;cases hx),low_mute (hm e he) _⟩) sl
   exact⟨g',es,k,rfl,hm,f1,f2⟩
theorem GI.leave(h:GI P m0 tz Sx dM Fz Sh Ex j T q gs w t)(h0:0<i)(hm0:i<m0)(hg:gs[i]?=some g)(hr:g.status=.running)(sl:Option (Nat × Nat)) :
 ∃ g' es k,q i=k+1/\(∀ e∈es,e.mute=true)/\runT P (crowd gs w sl) i=(.next (crowd ((gs.map (woken P g g' w)).setIfInBounds i g') w sl),MemOp.ofEvents i g.frame.fn g.frame.place es) /\
   GI P m0 tz Sx dM Fz Sh Ex j (λk=>dN (wk P g g') (T k)) (upd q i k) ((gs.map (woken P g g' w)).setIfInBounds i g') w (t++MemOp.ofEvents i g.frame.fn g.frame.place es):=by
 have hq:=h.lv i g h0 hm0 hg
 have hi0:(i==0)=false:=by simp;omega
 have hlt:i<gs.size:=by rw[h.sz];omega
 cases hqi:q i with
 |zero=>rw[hqi] at hq;rw[hq.1] at hr;cases hr
 |succ k =>
  rw[hqi] at hq
  rcases hq with ⟨hf,_⟩|⟨_,g',es,hm,hstp,hq'⟩
  .rw[hf] at hr;cases hr
  .have hnc:∀ x,aY m0 j x->x≠i:=λx hx e=>by subst e;rcases hx with rfl|hx<;>omega
   have others:∀ k,k≠i->Deaf (t++MemOp.ofEvents i g.frame.fn g.frame.place es) k=Deaf t k:=λk hk=>Deaf_other t (λe=>hk e.symm) _ (λop hop=>by obtain⟨e,_,rfl⟩:=Go.Conc.mem_ofEvents hop;rfl)
   refine⟨g',es,k,rfl,hm,runT_crowd_go (P:=P) (sl:=sl) hg (by rw[hi0];exact hstp w),h.pos,by simp[h.sz],λx hx=>?_,λx y hx1 hx2 hy=>?_,λx hx=>?_,?_,h.own,h.oU,h.LK,h.shl,h.sxl,h.Yb,h.out⟩
   .obtain⟨z,hz,TV,hdz⟩:=h.th x hx
    refine⟨woken P g g' w z,by rw[Array.getElem?_setIfInBounds_ne (λe=>hnc x hx e.symm),Array.getElem?_map,hz];rfl,TV.wake,?_⟩
    rw[others x (hnc x hx),hdz];rfl
   .by_cases hxi:x=i
    .subst hxi
     rw[Array.getElem?_setIfInBounds_self_of_lt (by simpa using hlt)] at hy
     obtain rfl:=Option.some.inj hy
     rw[upd_same,Deaf_own]
     exact hq'
    .rw[Array.getElem?_setIfInBounds_ne (λe=>hxi e.symm),Array.getElem?_map] at hy
     obtain⟨z,hz,rfl⟩:=Option.map_eq_some_iff.1 hy
     have hqz:=h.lv x z hx1 hx2 hz
     rw[woken_quitsD hqz,upd_ne _ _ hxi,others x hxi]
     exact hqz
   .rw[others x (by omega)];exact h.above x hx
   .exact h.ti.mute (g:=i) (Nat.le_refl _) λop hop=>by
     obtain⟨e,he,rfl⟩:=Go.Conc.mem_ofEvents hop
     exact⟨rfl,touch_mute (hm e he),low_mute (hm e he) _⟩
end
theorem Aa(t:Trace)(g:Nat)(u:Trace)(hu:∀ op∈u,op.act≠.mark .disable/\op.act≠.mark .enable):Deaf (t++u) g=Deaf t g:=by
 obtain⟨l⟩:=u
 induction l generalizing t with
 |nil=>simp
 |cons y l ih =>
  have e:t++(y::l).toArray=(t++#[y])++l.toArray:=by simp
  have hy:=hu y (by simp)
  rw[e,ih (t++#[y]) (λop hop=>hu op (by simp at hop;simp[hop])),Deaf_push]
  unfold deafStep
  split
  .exact absurd ‹_› hy.1
  .exact absurd ‹_› hy.2
  .rfl
theorem vg{x y op:MemOp}(h:op∈#[x,y]):op=x\/op=y:=by simpa using h
section
variable {P:Program} {m0 tz:Nat} {Sx dM Fz Sh:Nat->Prop} {Ex:World->World->Prop} {j:Nat} {T:Nat->Th} {q:Nat->Nat} {gs:Array Goroutine} {w:World} {t:Trace}
theorem GI.spawn(h:GI P m0 tz Sx dM Fz Sh Ex j T q gs w t){g g' child:Goroutine}{dY c':Th}(hg:gs[0]?=some g)(hst:stepG P true g w=.spawn g' child w #[])
 (hI:JE P Fz Ex true dY g' w) (hO:dY.O=(T 0).O) (h0:(T 0).d=0) (hd:dY.d=0) (hc:JE P Fz Ex false c' child w) (hcO:∀ b,¬c'.O b) (hcd:c'.d=0) (sl:Option (Nat × Nat)) :
 ∃ gs' u,runT P (crowd gs w sl) 0=(.next (crowd gs' w sl),u)/\(∀ op∈u,op.act.touch?=none/\(op.g=0\/op.g=m0+j)/\∀ m,op.act≠.mark m) /\
   GI P m0 tz Sx dM Fz Sh Ex (j+1) (upd (upd T 0 dY) (m0+j) c') q gs' w (t++u)/\gs'[0]?=some g'/\gs'[m0+j]?=some child:=by
 have hp:=h.pos
 have hlt:0<gs.size:=by rw[h.sz];omega
 have hne:m0+j≠0:=by omega
 have JF:∀ k,(upd (upd T 0 dY) (m0+j) c' k).O=(T k).O:=λk=>by
  by_cases hk:k=m0+j
  .subst hk;rw[upd_same];funext b;exact propext ⟨λy=>(hcO b y).elim,λy=>(h.out _ (λz=>by rcases z with z|z<;>omega) b y).elim⟩
  .rw[upd_ne _ _ hk]
   by_cases hk0:k=0
   .subst hk0;rw[upd_same];exact hO
   .rw[upd_ne _ _ hk0]
 have TW:(λg b=>(upd (upd T 0 dY) (m0+j) c' g).O b)=λg b=>(T g).O b:=by funext k;rw[JF]
 obtain⟨g0,hg0,_,hd0⟩:=h.th 0 (.inl rfl)
 rw[h0] at hd0
 have hdj:Deaf t (m0+j)=0:=h.above _ (Nat.le_refl _)
 have hrun:=runT_crowd_spawn (P:=P) (sl:=sl) (i:=0) hg hst
 rw[h.sz] at hrun
 have eu:((MemOp.ofEvents 0 g.frame.fn g.frame.place #[]).push { g:=0,fn:=g.frame.fn,pos:=g.frame.place,act:=.go (m0+j) }).push { g:=m0+j,fn:=child.frame.fn,pos:=g.frame.place,act:=.start }=#[({ g:=0,fn:=g.frame.fn,pos:=g.frame.place,act:=.go (m0+j) }:MemOp),{ g:=m0+j,fn:=child.frame.fn,pos:=g.frame.place,act:=.start }]:=by
  simp[ofEvents_eq]
 rw[eu] at hrun
 have hush:∀ k,Deaf (t++#[({ g:=0,fn:=g.frame.fn,pos:=g.frame.place,act:=.go (m0+j) }:MemOp),{ g:=m0+j,fn:=child.frame.fn,pos:=g.frame.place,act:=.start }]) k=Deaf t k:=λk=>Aa t k _ λop hop=>by
  rcases vg hop with rfl|rfl<;>exact⟨λe=>(by cases e),λe=>(by cases e)⟩
 have pq:((gs.setIfInBounds 0 g').push child)[0]?=some g':=by
  rw[Array.getElem?_push,if_neg (by simp;omega),Array.getElem?_setIfInBounds_self_of_lt hlt]
 have atj:((gs.setIfInBounds 0 g').push child)[m0+j]?=some child:=by
  rw[Array.getElem?_push,if_pos (by simp[h.sz])]
 have atk:∀ k,k≠0->k≠m0+j->((gs.setIfInBounds 0 g').push child)[k]?=gs[k]?:=λk h1 h2=>by
  rw[Array.getElem?_push,if_neg (by simp[h.sz];omega),Array.getElem?_setIfInBounds_ne (by omega)]
 refine⟨_,_,hrun,λop hop=>?_,⟨hp,by simp[h.sz];omega,λi hi=>?_,λi x h1 h2 hx=>?_,λi hi=>?_,?_,λi i' b x y=>?_,λi b x=>?_,h.LK,h.shl,h.sxl,h.Yb,λi hi b=>?_⟩,pq,atj⟩
 .rcases vg hop with rfl|rfl
  .exact⟨rfl,.inl rfl,λ_ e=>(by cases e)⟩
  .exact⟨rfl,.inr rfl,λ_ e=>(by cases e)⟩
 .by_cases hij:i=m0+j
  .subst hij
   refine⟨child,atj,?_,?_⟩
   .rw[upd_same,show (m0+j==0)=false by simp;omega];exact hc
   .rw[upd_same,hush,hdj,hcd]
  .by_cases hi0:i=0
   .subst hi0
    refine⟨g',pq,?_,?_⟩
    .rw[upd_ne _ _ hij,upd_same];exact hI
    .rw[upd_ne _ _ hij,upd_same,hush,hd0,hd]
   .obtain⟨x,hx,hxI,hdx⟩:=h.th i (hi.imp id λz=>⟨z.1,by omega⟩)
    refine⟨x,by rw[atk i hi0 hij];exact hx,?_,?_⟩
    .rw[upd_ne _ _ hij,upd_ne _ _ hi0];exact hxI
    .rw[upd_ne _ _ hij,upd_ne _ _ hi0,hush,hdx]
 .rw[atk i (by omega) (by omega)] at hx
  rw[hush]
  exact h.lv i x h1 h2 hx
 .rw[hush];exact h.above i (by omega)
 .rw[TW];exact h.ti.fork ⟨rfl,rfl⟩ ⟨rfl,rfl⟩ hd0 hdj
 .rw[JF] at x y;exact h.own _ _ b x y
 .rw[JF] at x;exact h.oU i b x
 .rw[JF]
  by_cases hij:i=m0+j
  .exact(hi (.inr ⟨by omega,by omega⟩)).elim
  .exact h.out i (λy=>hi (y.imp id λz=>⟨z.1,by omega⟩)) b
theorem GI.send(h:GI P m0 tz Sx dM Fz Sh Ex j T q gs w t)(hE:∀ a b c,Ex a b->Ex b c->Ex a c){i:Nat}(hi:aY m0 j i){g g₂:Goroutine}{dY:Th}{Ch cap s r:Nat}{buf:Array Value}{v z:Value}{tm:Bool}
 (hg:gs[i]?=some g) (hst:stepG P (i==0) g w=.comm g₂ #[scase Ch v z] true .send w #[]) (hch:w.heap[Ch]?=some (.chan cap buf false s r tm)) (hroom:buf.size<cap) (hS:Sh Ch)
 (hX:Ex w (w.setChan Ch cap (buf.push v) false (s+1) r tm))
 (hI:JE P Fz Ex (i==0) dY (Conc.served g₂ undef) (w.setChan Ch cap (buf.push v) false (s+1) r tm)) (hO:dY.O=(T i).O) (hd:dY.d=(T i).d) (sl:Option (Nat × Nat)) :
 ∃ gs' u,runT P (crowd gs w sl) i=(.next (crowd gs' (w.setChan Ch cap (buf.push v) false (s+1) r tm) sl),u)/\(∀ op∈u,op.act.touch?=none/\op.g=i/\∀ m,op.act≠.mark m) /\
   GI P m0 tz Sx dM Fz Sh Ex j (upd T i dY) q gs' (w.setChan Ch cap (buf.push v) false (s+1) r tm) (t++u)/\gs'[i]?=some (Conc.served g₂ undef):=by
 have hlt:=Ww h hi
 have hp:partners (gs.setIfInBounds i ph) Ch false=[]:=partners_nil λk x hx=>by
  rcases getElem?_stand gs i k x hx with ⟨_,rfl⟩|⟨hk,hx⟩
  .exact offersAt_ph _ _
  .have hks:k<gs.size:=(Array.getElem?_eq_some_iff.1 hx).1
   rw[h.sz] at hks
   by_cases hc:aY m0 j k
   .obtain⟨y,hy,hyI,_⟩:=h.th k hc
    rw[hx] at hy
    cases hy
    rcases hyI with ⟨_,y1,_⟩|⟨_,_,y1⟩|⟨_,g0,rfl,ho,_⟩
    .exact offersAt_of_not_blocked (by rw[y1.cases.1];intro e;cases e) _ _
    .exact offersAt_of_not_blocked (by intro e;rcases y1.status with y|y<;>rw[y] at e<;>cases e) _ _
    .simp[offersAt,ho]
   .have hkm:0<k/\k<m0:=by
     by_cases hk0:k=0
     .exact(hc (.inl hk0)).elim
     .refine⟨by omega,Nat.lt_of_not_le λhle=>hc (.inr ⟨hle,hks⟩)⟩
    have:=h.lv k x hkm.1 hkm.2 hx
    exact offersAt_of_not_blocked (by intro e;rcases this.status with y|y<;>rw[y] at e<;>cases e) _ _
 have hrun:=crowd_send_room (P:=P) (sl:=sl) hg hst hch hroom hp
 rw[finishComm_send,show MemOp.ofEvents i g.frame.fn g.frame.place #[]=#[] by simp[ofEvents_eq],Array.empty_append] at hrun
 have hCh:=h.shl Ch hS
 have hsz:(w.setChan Ch cap (buf.push v) false (s+1) r tm).heap.size=w.heap.size:=by simp[World.setChan]
 have hkeep:∀ b,b≠Ch->(w.setChan Ch cap (buf.push v) false (s+1) r tm).heap[b]?=w.heap[b]?:=λb hb=>by
  simp only[World.setChan]
  exact Array.getElem?_setIfInBounds_ne (λe=>hb e.symm)
 have hush:∀ k,Deaf (t++#[({ g:=i,fn:=g₂.frame.fn,pos:=g₂.frame.place,act:=.send Ch s }:MemOp),{ g:=i,fn:=g₂.frame.fn,pos:=g₂.frame.place,act:=.sendDone Ch s }]) k=Deaf t k:=λk=>Aa t k _ λop hop=>by
  rcases vg hop with rfl|rfl<;>exact⟨λe=>(by cases e),λe=>(by cases e)⟩
 have hops:∀ op∈#[({ g:=i,fn:=g₂.frame.fn,pos:=g₂.frame.place,act:=.send Ch s }:MemOp),{ g:=i,fn:=g₂.frame.fn,pos:=g₂.frame.place,act:=.sendDone Ch s }],op.act.touch?=none/\op.g=i/\op.act.low w.heap.size/\∀ m,op.act≠.mark m:=λop hop=>by
  rcases vg hop with rfl|rfl
  .exact⟨rfl,rfl,hCh.1,λ_ e=>(by cases e)⟩
  .exact⟨rfl,rfl,hCh.1,λ_ e=>(by cases e)⟩
 have JF:∀ k,(upd T i dY k).O=(T k).O:=λk=>by
  by_cases hk:k=i
  .subst hk;rw[upd_same];exact hO
  .rw[upd_ne _ _ hk]
 have TW:(λg b=>(upd T i dY g).O b)=λg b=>(T g).O b:=by funext k;rw[JF]
 refine⟨_,_,hrun,λop hop=>⟨(hops op hop).1,(hops op hop).2.1,(hops op hop).2.2.2⟩,⟨h.pos,by simp[h.sz],λk hk=>?_,λk x h1 h2 hx=>?_,λk hk=>?_,?_,λk k' b x y=>?_,λk b x=>?_,λb x=>?_,λb x=>?_,λb x=>?_,h.Yb,λk hk b=>?_⟩,?_⟩
 .by_cases hki:k=i
  .subst hki
   refine⟨_,Array.getElem?_setIfInBounds_self_of_lt hlt,by rw[upd_same];exact hI,?_⟩
   obtain⟨_,_,_,hdk⟩:=h.th k hk
   rw[upd_same,hush,hdk,hd]
  .obtain⟨x,hx,hxI,hdx⟩:=h.th k hk
   refine⟨x,by rw[Array.getElem?_setIfInBounds_ne (λe=>hki e.symm)];exact hx,?_,?_⟩
   .rw[upd_ne _ _ hki]
    refine hxI.rely hE ⟨λb x=>hkeep b λe=>?_,λb x=>hkeep b λe=>?_,Nat.le_of_eq hsz.symm,rfl,rfl,rfl,hX⟩
    .subst e;exact(h.oU k b x).2.2.1 hS
    .subst e;exact(h.LK b x).2.1 hS
   .rw[upd_ne _ _ hki,hush,hdx]
 .have hki:k≠i:=by rcases hi with rfl|hi<;>omega
  rw[Array.getElem?_setIfInBounds_ne (λe=>hki e.symm)] at hx
  rw[hush]
  exact h.lv k x h1 h2 hx
 .rw[hush];exact h.above k hk
 .rw[TW,hsz]
  exact h.ti.mute (g:=i) (Nat.le_refl _) λop hop=>⟨(hops op hop).2.1,(hops op hop).1,(hops op hop).2.2.1⟩
 .rw[JF] at x y;exact h.own _ _ b x y
 .rw[JF] at x;rw[hsz];exact h.oU k b x
 .rw[hsz];exact h.LK b x
 .rw[hsz];exact h.shl b x
 .rw[hsz];exact h.sxl b x
 .rw[JF];exact h.out k hk b
 .exact Array.getElem?_setIfInBounds_self_of_lt hlt
end
end Go.Proofs.YthbndfpeffcigaaGreatDoor
namespace Go.Proofs.YthbndfpeffcigaaGreatDoor
open Go Go.Conc
open Go.ConcN (sumTo upd sumTo_upd upd_ne upd_same sumTo_congr)
variable {gs:Array Goroutine} {g:Goroutine} {i k:Nat} {dY:Th}
theorem JG{α:Type}(R:Nat->α->α->Prop):∀ (N:Nat) (a:Nat->α),(∀ i,i<N->Acc (R i) (a i))->Acc (λa' a:Nat->α=>∃ i,i<N/\R i (a' i) (a i)/\∀ k,k≠i->a' k=a k) a
 |0,_,_=>Acc.intro _ λ_ ⟨_,h,_⟩=>absurd h (Nat.not_lt_zero _)
 |N+1,a,h=>by
  have outer:∀ x,Acc (R N) x->∀ a:Nat->α,a N=x->(∀ i,i<N->Acc (R i) (a i))->Acc (λa' a:Nat->α=>∃ i,i<N+1/\R i (a' i) (a i)/\∀ k,k≠i->a' k=a k) a:=by
   intro x hx
   induction hx with
   |intro x _ ihx =>
    intro a ha hacc
    have inner:∀ a:Nat->α,Acc (λa' a:Nat->α=>∃ i,i<N/\R i (a' i) (a i)/\∀ k,k≠i->a' k=a k) a->a N=x->(∀ i,i<N->Acc (R i) (a i))->Acc (λa' a:Nat->α=>∃ i,i<N+1/\R i (a' i) (a i)/\∀ k,k≠i->a' k=a k) a:=by
     intro a hA
     induction hA with
     |intro a _ ihA =>
      intro ha hacc
      refine Acc.intro _ λa' ⟨i,hi,hR,hk⟩=>?_
      have hacc':∀ k,k<N->Acc (R k) (a' k):=λk hkN=>by
       by_cases hki:k=i
       .subst hki;exact(hacc k hkN).inv hR
       .rw[hk k hki];exact hacc k hkN
      by_cases hiN:i=N
      .subst hiN
       exact ihx (a' i) (ha▸hR) a' rfl hacc'
      .exact ihA a' ⟨i,by omega,hR,hk⟩ (by rw[hk N (Ne.symm hiN)];exact ha) hacc'
    exact inner a (JG R N a hacc) ha hacc
  exact outer (a N) (h N (by omega)) a rfl λi hi=>h i (by omega)
structure Pro(σ:Type) where
 Φ:σ->Nat
 J:σ->Nat
 S:σ->Nat->(Nat->Prop)->Goroutine->World->Prop
 gq:σ->Nat->Bool
 qu:σ->Nat->Prop
 d:σ->Nat->Nat
 W:σ->World->Prop
 rel:σ->Nat->Prop
 TY:σ->Prop
structure PI{σ:Type}(pr:Pro σ)(Wg m0:Nat)(s:σ)(j:Nat)(T:Nat->Th)(w:World)(t:Trace):Prop where
 cnt:pr.J s=j
 tag:∀ i,aY m0 j i->(T i).S=pr.S s i/\(T i).gq=pr.gq s i/\((T i).kind=1↔pr.qu s i)/\((T i).kind=2->i=0/\pr.TY s)/\((T i).kind≠1->(T i).d=pr.d s i)
 yM:pr.W s w
 rel:∀ i,aY m0 j i->pr.rel s i->∃ r,iU Wg i r t
 nor:NoRelease (sA Wg) t
section
variable {σ:Type} {pr:Pro σ} {Wg m0:Nat} {s:σ} {j:Nat} {T:Nat->Th} {w w':World} {t:Trace} {Fz Sh:Nat->Prop}
theorem kM(b:Bool)(th:Th):((dN b th).kind=1↔th.kind=1)/\((dN b th).kind=2->th.kind=2):=by
 unfold dN
 constructor
 .constructor
  .intro h;simp only at h;split at h
   .cases h
   .exact h
  .intro h;simp[h]
 .intro h;simp only at h;split at h
  .cases h
  .exact h
theorem PI.wake(h:PI pr Wg m0 s j T w t)(b:Bool):PI pr Wg m0 s j (λk=>dN b (T k)) w t:=by
 refine⟨h.cnt,λi hi=>?_,h.yM,h.rel,h.nor⟩
 obtain⟨h1,h2,h3,h4,h5⟩:=h.tag i hi
 have hk:=kM b (T i)
 exact⟨h1,h2,hk.1.trans h3,λx=>h4 (hk.2 x),λx=>h5 λy=>x (hk.1.2 y)⟩
theorem PI.world(hW:∀ s w w',(∀ b,Sh b->w'.heap[b]?=w.heap[b]?)->pr.W s w->pr.W s w')(h:PI pr Wg m0 s j T w t)(hs:∀ b,Sh b->w'.heap[b]?=w.heap[b]?):PI pr Wg m0 s j T w' t :=
 { h with yM:=hW s w w' hs h.yM }
theorem PI.own(h:PI pr Wg m0 s j T w t)(h1:dY.S=(T i).S)(h2:dY.gq=(T i).gq)(h3:dY.kind=1↔(T i).kind=1)(h4:dY.kind=2->i=0/\pr.TY s)(h5:dY.kind≠1->dY.d=(T i).d):PI pr Wg m0 s j (upd T i dY) w t:=by
 refine⟨h.cnt,λk hk=>?_,h.yM,h.rel,h.nor⟩
 obtain⟨a1,a2,a3,a4,a5⟩:=h.tag k hk
 by_cases hki:k=i
 .subst hki
  rw[upd_same]
  exact⟨h1.trans a1,h2.trans a2,h3.trans a3,h4,λx=>(h5 x).trans (a5 λy=>x (h3.2 y))⟩
 .rw[upd_ne _ _ hki];exact⟨a1,a2,a3,a4,a5⟩
theorem PI.turn(h:PI pr Wg m0 s j T w t)(b:Bool)(h1:dY.S=(T i).S)(h2:dY.gq=(T i).gq)(h3:dY.kind=1↔(T i).kind=1)(h4:dY.kind=2->i=0/\pr.TY s)(h5:dY.kind≠1->dY.d=(T i).d):PI pr Wg m0 s j (upd (λk=>dN b (T k)) i dY) w t :=
 (h.wake b).own h1 h2 (h3.trans (kM b _).1.symm) h4 h5
theorem BZ{O:Nat->Prop}{e:Event}(h:EvC Fz O e)(a:Addr):MemAct.ofEvent e≠.mark (.release a):=by
 obtain⟨loc,wr,sy⟩:=e
 rcases h with ⟨b,h,hs,_⟩|⟨m,h,hb⟩
 .simp only at h hs
  subst hs
  cases loc with
  |cell a=>simp[MemAct.ofEvent]
  |obj r=>cases wr<;>simp[MemAct.ofEvent]
  |_=>simp[blk] at h
 .simp only at h
  subst h
  cases m<;>first|(cases hb;done)|simp[MemAct.ofEvent]
theorem xk{e:Event}(h:e.mute=true)(a:Addr):MemAct.ofEvent e≠.mark (.release a):=by
 obtain⟨loc,wr,sy⟩:=e
 cases loc with
 |mark m=>cases m<;>first|(simp[Event.mute] at h;done)|simp[MemAct.ofEvent]
 |_=>simp[Event.mute] at h
theorem PI.walk{O:Nat->Prop}(h:PI pr Wg m0 s j T w t){fn:FuncId}{pos:String}{es:Array Event}(he:∀ e∈es,EvC Fz O e)(hs:pr.rel s i->es=#[]):PI pr Wg m0 s j T w (t++MemOp.ofEvents i fn pos es) :=
 { h with
   rel:=λk hk hr=>by
    obtain⟨r,x⟩:=h.rel k hk hr
    by_cases hki:k=i
    .subst hki
     exact⟨r,x.still λop hop=>by rw[hs hr] at hop;simp[ofEvents_eq] at hop⟩
    .exact⟨r,x.other λop hop=>by obtain⟨e,_,rfl⟩:=Go.Conc.mem_ofEvents hop;exact λz=>hki z.symm⟩
   nor:=h.nor.app λop hop=>by obtain⟨e,x,rfl⟩:=Go.Conc.mem_ofEvents hop;exact BZ (he e x) _ }
theorem PI.mute(h:PI pr Wg m0 s j T w t){fn:FuncId}{pos:String}{es:Array Event}(he:∀ e∈es,e.mute=true):PI pr Wg m0 s j T w (t++MemOp.ofEvents i fn pos es) :=
 { h with
   rel:=λk hk hr=>let ⟨r,x⟩:=h.rel k hk hr;⟨r,x.still λop hop=>by obtain⟨e,x,rfl⟩:=Go.Conc.mem_ofEvents hop;exact touch_mute (he e x)⟩
   nor:=h.nor.app λop hop=>by obtain⟨e,x,rfl⟩:=Go.Conc.mem_ofEvents hop;exact xk (he e x) _ }
def RH(dc:∀ p:Prop,Decidable p)(pr:Pro σ)(m0:Nat)(s:σ)(j:Nat)(T:Nat->Th)(gs:Array Goroutine)(i:Nat):(Nat->Prop) × Goroutine × World :=
 @ite _ (aY m0 j i/\¬pr.qu s i) (dc _) ((T i).O,{ (gs[i]?.getD default) with status:=.running },(T i).wa) (λ_=>False,default,default)
theorem LP(w:World)(x:Goroutine):{ x.again w with status:=.running }={ x with status:=.running }:=by
 unfold Goroutine.again
 split
 .dsimp only;split<;>rfl
 .rfl
 .rfl
 .rfl
theorem LQ(P:Program)(g g':Goroutine)(w:World)(x:Goroutine):{ woken P g g' w x with status:=.running }={ x with status:=.running }:=by
 rw[ED]
 split
 .exact LP w x
 .rfl
theorem B_{P:Program}{T':Nat->Th}{g':Goroutine}(hk:k≠i)(hO:(T' k).O=(T k).O)(hw:(T' k).wa=(T k).wa):RH Classical.propDecidable pr m0 s j T' ((gs.map (woken P g g' w)).setIfInBounds i g') k=RH Classical.propDecidable pr m0 s j T gs k:=by
 unfold RH
 rw[Array.getElem?_setIfInBounds_ne (λe=>hk e.symm),Array.getElem?_map,hO,hw]
 split
 .cases gs[k]? with
  |none=>rfl
  |some x=>simp only[Option.map_some,Option.getD_some,LQ]
 .rfl
theorem JH(h:g.status=.running):({ g with status:=.running }:Goroutine)=g:=by
 obtain⟨f,c,st,d,o⟩:=g
 simp only at h
 subst h
 rfl
theorem afq{b:Bool}(hq:dY.q=(T i).q):sumTo j (λk=>(upd (λk=>dN b (T k)) i dY (m0+k)).q)=sumTo j (λk=>(T (m0+k)).q):=sumTo_congr λk _=>by
 by_cases hk:m0+k=i
 .rw[hk,upd_same,hq]
 .rw[upd_ne _ _ hk];rfl
theorem JI{T':Nat->Th}{gs':Array Goroutine}(hk:aY m0 j k->pr.qu s k):RH Classical.propDecidable pr m0 s j T' gs' k=RH Classical.propDecidable pr m0 s j T gs k:=by
 unfold RH
 rw[if_neg λx=>x.2 (hk x.1),if_neg λx=>x.2 (hk x.1)]
theorem xq(hc:aY m0 j k)(hq:¬pr.qu s k)(hg:gs[k]?=some g):RH Classical.propDecidable pr m0 s j T gs k=((T k).O,{ g with status:=.running },(T k).wa):=by
 unfold RH
 rw[if_pos ⟨hc,hq⟩,hg]
 rfl
end
section
variable {P:Program} {σ:Type} {pr:Pro σ} {Wg m0 tz:Nat} {Sx dM Fz Sh:Nat->Prop} {Ex:World->World->Prop}
theorem engine(hE:∀ a b c,Ex a b->Ex b c->Ex a c)(hX:∀ w w':World,(∀ b,Sh b->w'.heap[b]?=w.heap[b]?)->Ex w w')
 (hW:∀ s w w',(∀ b,Sh b->w'.heap[b]?=w.heap[b]?)->pr.W s w->pr.W s w') (hrel:∀ s i,pr.rel s i->pr.gq s i=true) (hmain:∀ s,¬pr.qu s 0) (Fin:Array Goroutine->World->Trace->Prop)
 (hlive:∀ s j T q gs w t,GI P m0 tz Sx dM Fz Sh Ex j T q gs w t->PI pr Wg m0 s j T w t->(T 0).kind=2->∃ i,aY m0 j i/\(T i).kind=0)
 (hstop:∀ s j T q gs w t sl i g,GI P m0 tz Sx dM Fz Sh Ex j T q gs w t->PI pr Wg m0 s j T w t->aY m0 j i->gs[i]?=some g->(T i).kind=0->Co P (i==0) (T i).gq Fz Ex (T i).S (T i).O g w->(T i).S (T i).O g w ->
  (i=0/\stepG P true g w=.go { g with status:=.blocked } w #[]/\g.offers=none/\pr.TY s) \/
  ∃ gs' w' u,runT P (crowd gs w sl) i=(.next (crowd gs' w' sl),u)/\(Fin gs' w' (t++u)\/∃ s' j' T' q',pr.Φ s'<pr.Φ s/\GI P m0 tz Sx dM Fz Sh Ex j' T' q' gs' w' (t++u)/\PI pr Wg m0 s' j' T' w' (t++u))) :
 ∀ (F:Nat) (s:σ),pr.Φ s=F->∀ j T q gs w t sl,GI P m0 tz Sx dM Fz Sh Ex j T q gs w t->PI pr Wg m0 s j T w t ->
   ∃ N gs' w' sl' t',runNT P N (crowd gs w sl) t=(.next (crowd gs' w' sl'),t')/\Fin gs' w' t':=by
 intro F
 induction F using Nat.strongRecOn with
 |_ F ihF =>
 intro s hF j T9 afr Wx w₀ t₀ sl₀ Wy Wz
 have hXr:∀ a:World,Ex a a:=λa=>hX a a λ_ _=>rfl
 have inner:∀ A,Acc (λa' a:Nat->(Nat->Prop) × Goroutine × World=>∃ i,i<m0+j/\((aY m0 j i/\¬pr.qu s i)/\Cf P (i==0) Fz Ex (pr.S s i) (a' i) (a i))/\∀ k,k≠i->a' k=a k) A ->
  ∀ (M b:Nat) T q gs w t sl,RH Classical.propDecidable pr m0 s j T gs=A->sumTo m0 q+sumTo j (λk=>(T (m0+k)).q)=M->(if (T 0).kind=2 then 0 else 1)=b->GI P m0 tz Sx dM Fz Sh Ex j T q gs w t->PI pr Wg m0 s j T w t ->
    ∃ N gs' w' sl' t',runNT P N (crowd gs w sl) t=(.next (crowd gs' w' sl'),t')/\Fin gs' w' t':=by
  intro A hA
  induction hA with
  |intro A _ ihA =>
  intro M
  induction M using Nat.strongRecOn with
  |_ M WA =>
  intro b
  induction b using Nat.strongRecOn with
  |_ b ihb =>
  intro T q gs w t sl PN hM hb hG hP
  have hm0:=hG.pos
  have h0c:aY m0 j 0:=.inl rfl
  have haw:∀ g∈gs,awake g:=by
   intro g hg
   obtain⟨i,hi,rfl⟩:=Array.mem_iff_getElem.1 hg
   by_cases hc:aY m0 j i
   .obtain⟨y,hy,hI,_⟩:=hG.th i hc
    have:gs[i]=y:=by simpa [Array.getElem?_eq_getElem hi] using hy
    rw[this];exact awake_of hI.status
   .have hsz:=hG.sz
    have h1:0<i:=Nat.pos_of_ne_zero λe=>hc (.inl e)
    have h2:i<m0:=Nat.lt_of_not_le λhle=>hc (.inr ⟨hle,by omega⟩)
    exact awake_of ((hG.lv i _ h1 h2 (Array.getElem?_eq_getElem hi)).status.elim .inl λx=>.inr (.inr x))
  have hsome:∃ (i:Nat) (g:Goroutine),gs[i]?=some g/\g.status=.running:=by
   have one:∀ i,aY m0 j i->(T i).kind=0->∃ (i:Nat) (g:Goroutine),gs[i]?=some g/\g.status=.running:=λi hc hk=>by
    obtain⟨g,hg,hI,_⟩:=hG.th i hc
    refine⟨i,g,hg,?_⟩
    rcases hI with ⟨_,h,_⟩|⟨x,_⟩|⟨x,_⟩
    .exact h.cases.1
    .rw[hk] at x;cases x
    .rw[hk] at x;cases x
   obtain⟨_,_,a3,_⟩:=hP.tag 0 h0c
   obtain⟨g,hg,hI,_⟩:=hG.th 0 h0c
   rcases hI with ⟨hk,_⟩|⟨hk,_⟩|⟨hk,_⟩
   .exact one 0 h0c hk
   .exact(hmain s (a3.1 hk)).elim
   .obtain⟨i,hc,hk⟩:=hlive s j T q gs w t hG hP hk
    exact one i hc hk
  obtain⟨i,g,d,sl',hi,hr,hst⟩:=crowd_pick (P:=P) (w:=w) (sl:=sl) haw hsome
  have hG1:=hG.at hE (λw d=>hX w (w.at d) λ_ _=>rfl) d
  have hP1:PI pr Wg m0 s j T (w.at d) t:=hP.world hW λ_ _=>rfl
  have fin:∀ {gs' w' u},runT P (crowd gs (w.at d) sl') i=(.next (crowd gs' w' sl'),u)->(∃ N gs'' w'' sl'' t'',runNT P N (crowd gs' w' sl') (t++u)=(.next (crowd gs'' w'' sl''),t'')/\Fin gs'' w'' t'')->∃ N gs' w' sl' t',runNT P N (crowd gs w sl) t=(.next (crowd gs' w' sl'),t')/\Fin gs' w' t':=by
   rintro gs' w' u hrun ⟨N,gs'',w'',sl'',t'',h1,h2⟩
   exact⟨N+1,gs'',w'',sl'',t'',by simp only[runNT,hst,hrun];exact h1,h2⟩
  by_cases hc:aY m0 j i
  .obtain⟨a1,a2,a3,a4,a5⟩:=hP.tag i hc
   obtain⟨g',hg',hI,_⟩:=hG1.th i hc
   rw[hi] at hg'
   cases hg'
   rcases hI with ⟨hk,hco,hrl⟩|⟨hk,hi0,hqd⟩|⟨hk,g0,rfl,_⟩
   .have hnq:¬pr.qu s i:=λx=>by rw[a3.2 x] at hk;cases hk
    by_cases hs:∀ w₁,jX Fz Ex (T i).O (T i).wa w₁->(T i).S (T i).O g w₁
    ·-- at a stop
     rcases hstop s j T q gs (w.at d) t sl' i g hG1 hP1 hc hi hk (hco.rely hE hrl) (hs _ hrl) with ⟨rfl,hsl,hof,afs⟩|⟨gs',w',u,hrun,hfin|⟨s',j',T',q',hΦ,hG',hP'⟩⟩
     .obtain⟨f1,f2⟩:=hG1.go hE hc (w':=w.at d) (es:=#[]) (dY:={ T 0 with kind:=2 }) hi (show stepG P (0==0) g (w.at d)=_ from hsl) (.inr (.inr ⟨rfl,g,rfl,hof,hco,hrl⟩)) rfl (λb x=>x) (λb x=>.inl x) (λ_ _ _ _=>rfl) (Nat.le_refl _) rfl rfl rfl (hXr _) (λe he=>(by simp at he)) sl'
      have hlt:0<gs.size:=(Array.getElem?_eq_some_iff.1 hi).1
      have hb1:b=1:=by rw[<-hb,if_neg (by rw[hk];decide)]
      refine fin f1 (ihb 0 (by omega) _ q _ _ _ sl' (funext λk=>?_) (by rw[afq (T:=T) (i:=0) (dY:={ T 0 with kind:=2 }) rfl];exact hM) (by rw[upd_same];rfl) f2 ((hP1.turn (i:=0) (dY:={ T 0 with kind:=2 }) _ rfl rfl (by simp[hk]) (λ_=>⟨rfl,afs⟩) λ_=>rfl).mute λe he=>(by simp at he)))
      rw[<-PN]
      by_cases hk0:k=0
      .subst hk0
       rw[xq h0c (hmain s) (Array.getElem?_setIfInBounds_self_of_lt (by simpa using hlt)),xq h0c (hmain s) hi,upd_same]
      .exact B_ hk0 (by rw[upd_ne _ _ hk0];rfl) (by rw[upd_ne _ _ hk0];rfl)
     .exact fin hrun ⟨0,gs',w',sl',_,rfl,hfin⟩
     .exact fin hrun (ihF (pr.Φ s') (by omega) s' rfl j' T' q' gs' w' (t++u) sl' hG' hP')
    ·-- on its way
     obtain⟨g',w',es,f1,f2,f3,f4,f5,f6,f7⟩:=hG1.walk hE hX hc hi hk hs sl'
     have hlt:i<gs.size:=(Array.getElem?_eq_some_iff.1 hi).1
     refine fin f1 (ihA _ ⟨i,by have:=hG.sz;omega,⟨⟨hc,hnq⟩,?_⟩,λk hki=>?_⟩ _ _ _ q _ _ _ sl' rfl rfl rfl f2 (((hP1.world hW f5).turn (i:=i) (dY:={ T i with O:=grow (T i).O (w.at d) w',wa:=w' }) _ rfl rfl Iff.rfl a4 λ_=>rfl).walk f6 λx=>f7 (by rw[a2];exact hrel s i x)))
     .rw[xq hc hnq (Array.getElem?_setIfInBounds_self_of_lt (by simpa using hlt)),<-PN,xq hc hnq hi,upd_same,JH f4,JH hr,<-a1]
      exact f3
     .rw[<-PN]
      exact B_ hki (by rw[upd_ne _ _ hki];rfl) (by rw[upd_ne _ _ hki];rfl)
   ·-- it leaves
    obtain⟨g',es,k,f1,f2,f3,f4⟩:=hG1.quit hE hX hc hi hr hk sl'
    have hij:m0<=i/\i<m0+j:=hc.resolve_left λe=>by rw[e] at hi0;cases hi0
    have hsum:sumTo j (λx=>(upd (λk=>dN (wk P g g') (T k)) i { T i with q:=k,d:=deafBehind (T i).d es } (m0+x)).q)+(k+1)=sumTo j (λx=>(T (m0+x)).q)+k:=by
     have:=sumTo_upd (λx=>(T (m0+x)).q) k id (i:=i-m0) (j:=j) (by omega)
     have ei:m0+(i-m0)=i:=by omega
     simp only[id,ei,f1] at this
     rw[<-this]
     congr 1
     refine sumTo_congr λx _=>?_
     by_cases hx:m0+x=i
     .have hx':x=i-m0:=by omega
      rw[hx,upd_same,hx',upd_same]
     .rw[upd_ne _ _ hx,upd_ne _ _ (by omega)];rfl
    refine fin f3 (WA _ (by omega) _ _ q _ _ _ sl' (funext λx=>?_) rfl rfl f4 ((hP1.turn (i:=i) (dY:={ T i with q:=k,d:=deafBehind (T i).d es }) _ rfl rfl Iff.rfl a4 λx=>(x hk).elim).mute f2))
    rw[<-PN]
    by_cases hx:x=i
    .subst hx;exact JI λ_=>a3.1 hk
    .exact B_ hx (by rw[upd_ne _ _ hx];rfl) (by rw[upd_ne _ _ hx];rfl)
   .cases hr
  ·-- an elder one leaves
   have hsz:=hG.sz
   have hlt:i<gs.size:=(Array.getElem?_eq_some_iff.1 hi).1
   have h1:0<i:=Nat.pos_of_ne_zero λe=>hc (.inl e)
   have h2:i<m0:=Nat.lt_of_not_le λhle=>hc (.inr ⟨hle,by omega⟩)
   obtain⟨g',es,k,f1,f2,f3,f4⟩:=hG1.leave h1 h2 hi hr sl'
   have hsum:sumTo m0 (upd q i k)+(k+1)=sumTo m0 q+k:=by
    have:=sumTo_upd q k id h2
    simpa [f1] using this
   have hq:sumTo j (λk=>(dN (wk P g g') (T (m0+k))).q)=sumTo j (λk=>(T (m0+k)).q):=rfl
   refine fin f3 (WA _ (by omega) _ _ (upd q i k) _ _ _ sl' (funext λx=>?_) rfl rfl f4 ((hP1.wake _).mute f2))
   rw[<-PN]
   by_cases hx:x=i
   .subst hx;exact JI λy=>(hc y).elim
   .exact B_ hx rfl rfl
 refine inner _ (JG (λi x' x=>(aY m0 j i/\¬pr.qu s i)/\Cf P (i==0) Fz Ex (pr.S s i) x' x) (m0+j) (RH Classical.propDecidable pr m0 s j T9 Wx) λi _=>?_) _ _ T9 afr Wx w₀ t₀ sl₀ rfl rfl rfl Wy Wz
 by_cases hc:aY m0 j i/\¬pr.qu s i
 .obtain⟨g,hg,hI,_⟩:=Wy.th i hc.1
  obtain⟨a1,_,a3,_⟩:=Wz.tag i hc.1
  rw[xq hc.1 hc.2 hg]
  have hacc:Acc (Cf P (i==0) Fz Ex (pr.S s i)) ((T9 i).O,{ g with status:=.running },(T9 i).wa):=by
   rcases hI with ⟨_,h,_⟩|⟨hk,_⟩|⟨_,g0,rfl,ho,h,_⟩
   .have e:({ g with status:=.running }:Goroutine)=g:=by
     have:=h.cases.1
     obtain⟨f,c,st,d,o⟩:=g
     simp only at this
     subst this
     rfl
    rw[e,<-a1]
    exact h.acc
   .exact(hc.2 (a3.1 hk)).elim
   .have e:({ ({ g0 with status:=.blocked }:Goroutine) with status:=.running }:Goroutine)=g0:=by
     have:=h.cases.1
     obtain⟨f,c,st,d,o⟩:=g0
     simp only at this
     subst this
     rfl
    rw[e,<-a1]
    exact h.acc
  have mono:∀ x,Acc (Cf P (i==0) Fz Ex (pr.S s i)) x->Acc (λx' x=>(aY m0 j i/\¬pr.qu s i)/\Cf P (i==0) Fz Ex (pr.S s i) x' x) x:=λx hx=>by
   induction hx with
   |intro x _ ih=>exact Acc.intro _ λy hy=>ih y hy.2
  exact mono _ hacc
 .exact Acc.intro _ λy hy=>(hc hy.1).elim
end
end Go.Proofs.YthbndfpeffcigaaGreatDoor
namespace Go.Proofs.YthbndfpeffcigaaGreatDoor
open Go Go.Conc
open Go.ConcN (sumTo upd sumTo_upd upd_ne upd_same sumTo_congr WgLive AtR0 AtK1 AtD1 AtD2 AtD3 AtD4 RW PayAt Has)
open Go.ConcR (KK wgBlock WgAt stA smA rd wr Payload DC0)
theorem Co.bind{P:Program}{main gq:Bool}{Fz:Nat->Prop}{Ex:World->World->Prop}{S1 S2:(Nat->Prop)->Goroutine->World->Prop}(hX:∀ a,Ex a a)(h2:∀ O g w,S1 O g w->Co P main gq Fz Ex S2 O g w){O:Nat->Prop}{g:Goroutine}{w:World}(h:Co P main gq Fz Ex S1 O g w):Co P main gq Fz Ex S2 O g w :=
 h (λO g w=>Co P main gq Fz Ex S2 O g w) (λO g w _ hs=>h2 O g w (hs w (jX.refl hX w))) (λ_ _ _ hr hs=>Co.step hr hs)
structure Cx where
 P:Program
 ty:TypeId
 tN:TypeId
 Wg:Nat
 Nx:Nat
 Ch:Nat
 C:Nat
 nC:Nat
 val:Value
 len:Nat
 n:Nat
 m0:Nat
 sight:Nat->Value
 Fz:Nat->Prop
 JK:(Nat->Prop)->Goroutine->World->Prop
 AnchW:(Nat->Prop)->Goroutine->World->Prop
 Next:(Nat->Prop)->Goroutine->World->Prop
section
variable [Payload] (x:Cx)
def Cx.Ex(w w':World):Prop:=WgLive x.ty x.Wg w->WgLive x.ty x.Wg w'
def Cx.Sh(b:Nat):Prop:=b=x.Wg\/b=x.Nx\/b=x.Ch
def Cx.dM(b:Nat):Prop:=b=x.Wg\/b=x.Nx
def Cx.yO:Addr:=⟨x.Nx,0,none⟩
abbrev Cx.T_(gq:Bool)(S:(Nat->Prop)->Goroutine->World->Prop):=Co x.P false gq x.Fz x.Ex S
abbrev Cx.Fg(S:(Nat->Prop)->Goroutine->World->Prop):=Co x.P true false x.Fz x.Ex S
abbrev Cx.R:=jX x.Fz x.Ex
def Cx.AtD4(_:Nat->Prop)(g:Goroutine)(w:World):Prop:=ConcN.AtD4 x.P x.ty x.Wg g w
def Cx.AtD3(_:Nat->Prop)(g:Goroutine)(w:World):Prop:=ConcN.AtD3 x.P x.ty x.Wg x.C x.nC 0 1 g w
def Cx.AtD2(_:Nat->Prop)(g:Goroutine)(w:World):Prop:=ConcN.AtD2 x.P x.ty x.Wg x.C x.nC 0 1 g w
def Cx.AtD1(_:Nat->Prop)(g:Goroutine)(w:World):Prop:=ConcN.AtD1 x.P x.ty x.Wg x.C x.nC 0 1 g w
def Cx.AtK1(_:Nat->Prop)(g:Goroutine)(w:World):Prop:=ConcN.AtK1 x.P x.ty x.Wg x.C x.nC 0 1 g w
def Cx.AtRel(_:Nat->Prop)(g:Goroutine)(w:World):Prop:=ConcN.AtR0 x.P x.ty x.Wg x.C x.nC 0 1 x.val g w
def Cx.AtSend(p:Nat)(O:Nat->Prop)(g:Goroutine)(w:World):Prop :=
 ∃ g₂ z,stepG x.P false g w=.comm g₂ #[scase x.Ch (x.sight p) z] true .send w #[]/\∀ w',x.R O w w'->x.T_ false x.JK O (Conc.served g₂ undef) w'
def Cx.jY(O:Nat->Prop)(g:Goroutine)(w:World):Prop :=
 ∀ c:Nat,c<4611686018427387904->w.cell? x.yO=some (.int .i64 c)->w.frozen? x.yO=false ->
   ∃ g',stepG x.P false g w=.go g' (w.setCell x.yO (.int .i64 (c+1:Nat))) #[rd x.yO,wr x.yO] /\
     ∀ w',x.R O w w'->(c<x.len->x.T_ false (x.AtSend c) O g' w')/\(x.len<=c->x.T_ false x.AtRel O g' w')
def Cx.EF(m:Mark)(S:(Nat->Prop)->Goroutine->World->Prop)(O:Nat->Prop)(g:Goroutine)(w:World):Prop :=
 ∃ g',stepG x.P true g w=.go g' w #[ConcR.mk m]/\∀ w',x.R O w w'->x.Fg S O g' w'
def Cx.AtAcq:=x.EF (.acquire (stA x.Wg)) x.Next
def Cx.AtKe:=x.EF .enable x.AtAcq
def Cx.AtW4(O:Nat->Prop)(g:Goroutine)(w:World):Prop :=
 WgAt x.ty x.Wg w 0 0->∃ g',stepG x.P true g w=.go g' w #[rd (stA x.Wg)]/\∀ w',x.R O w w'->x.Fg x.AtKe O g' w'
def Cx.AtW3(O:Nat->Prop)(g:Goroutine)(w:World):Prop :=
 g.offers=none/\((∃ st,WgAt x.ty x.Wg w st 0)->stepG x.P true g w=.go { g with status:=.blocked } w #[]) /\
  (WgAt x.ty x.Wg w 0 1->∃ g',stepG x.P true g w=.go g' (w.setCell (smA x.Wg) (.int .u32 0)) (semEvents (smA x.Wg))/\∀ w',x.R O w w'->x.Fg x.AtW4 O g' w')
def Cx.Ua:=x.EF (.write (smA x.Wg)) x.AtW3
def Cx.AtW2(vs:Nat)(O:Nat->Prop)(g:Goroutine)(w:World):Prop :=
 ∀ v:Nat,v<=x.n->WgAt x.ty x.Wg w (v*KK) 0 ->
   (v=vs->∃ g',stepG x.P true g w=.go g' (w.setCell (stA x.Wg) (.int .u64 (v*KK+1))) #[rd (stA x.Wg),wr (stA x.Wg)]/\∀ w',x.R O w w'->x.Fg x.Ua O g' w') /\
   (v≠vs->∃ g',stepG x.P true g w=.go g' w #[rd (stA x.Wg)]/\∀ w',x.R O w w'->x.Fg x.AnchW O g' w')
def Cx.AtW1(O:Nat->Prop)(g:Goroutine)(w:World):Prop :=
 ∀ v:Nat,v<=x.n->WgAt x.ty x.Wg w (v*KK) 0->∃ g',stepG x.P true g w=.go g' w #[rd (stA x.Wg)]/\∀ w',x.R O w w'->(v=0->x.Fg x.AtKe O g' w')/\(v≠0->x.Fg (x.AtW2 v) O g' w')
def Cx.AtKd:=x.EF .disable x.AnchW
def Cx.AtGo:Nat->(Nat->Prop)->Goroutine->World->Prop
 |0=>x.AtKd
 |r+1=>λO g w=>∃ g' child,stepG x.P true g w=.spawn g' child w #[]/\(∀ w',x.R O w w'->x.Fg (Cx.AtGo r) O g' w')/\∀ w',x.R (λ_=>False) w w'->x.T_ false x.jY (λ_=>False) child w'
def Cx.Yd:=x.EF .enable (x.AtGo x.n)
def Cx.Ye:=x.EF (.read (smA x.Wg)) x.Yd
def Cx.Ub(O:Nat->Prop)(g:Goroutine)(w:World):Prop :=
 WgAt x.ty x.Wg w 0 0->∃ g',stepG x.P true g w=.go g' (w.setCell (stA x.Wg) (.int .u64 (x.n*KK))) #[rd (stA x.Wg),wr (stA x.Wg)]/\∀ w',x.R O w w'->x.Fg x.Ye O g' w'
def Cx.Yf:=x.EF .disable x.Ub
structure Sg where
 j:Nat
 c:Nat
 ph:Nat->Nat
 hd:Nat->Nat
 mp:Nat
 vs:Nat
 lp:Nat
 bl:List Nat
def cnt(s:Sg):Nat:=sumTo s.j λi=>if s.ph i<=4 then 1 else 0
def Cx.v(s:Sg):Nat:=(x.n-s.j)+cnt s
def LU(p:Nat):Nat:=if p=0 then 10 else if p=1 then 11 else if p<=7 then 11-p else 0
def Cx.mw(s:Sg):Nat:=if s.mp<=4 then 3*x.n+16-s.mp else if s.mp=5 then 3*x.v s+10 else if s.mp=6 then 3*s.vs+9 else 17-s.mp
def Cx.mV(s:Sg):Nat:=2*(x.len-min s.c x.len)+12*(x.n-s.j)+sumTo s.j (λi=>LU (s.ph i))+x.mw s
def Cx.gZ(s:Sg):Int:=if s.mp<=1 then 0 else if s.mp<=6 then x.v s*KK else if s.mp<=8 then(if s.lp=0 then x.v s*KK+1 else if s.lp<=6 then 1 else 0) else 0
def iW(s:Sg):Int:=if (s.mp=7\/s.mp=8)/\s.lp=8 then 1 else 0
def hands(s:Sg):List Nat:=(List.range s.j).filterMap λi=>if s.ph i=1 then some (s.hd i) else none
structure Cx.ok(s:Sg):Prop where
 jn:s.j<=x.n
 j0:s.mp<4->s.j=0
 jN:4<s.mp->s.j=x.n
 mp:s.mp<=11
 Yg:∀ i,i<s.j->s.ph i<=8
 late:∀ i,i<s.j->2<=s.ph i->x.len<=s.c
 last:∀ i,i<s.j->5<=s.ph i->s.ph i<=7->(s.mp=7\/s.mp=8)/\s.lp=s.ph i/\∀ i',i'<s.j->i'≠i->s.ph i'=8
 reg:(s.mp=7\/s.mp=8)->(s.lp=0/\0<x.v s)\/(5<=s.lp/\s.lp<=7/\∃ i,i<s.j/\s.ph i=s.lp)\/(s.lp=8/\∀ i,i<s.j->s.ph i=8)
 fin:9<=s.mp->∀ i,i<s.j->s.ph i=8
 cas:s.mp=6->1<=s.vs/\x.v s<=s.vs
 perm:(s.bl++hands s).Perm (List.range (min s.c x.len))
 big:s.c+x.mV s<4611686018427387904
def Cx.Hf(w:World)(c:Nat):Prop:=w.heap[x.Nx]?=some (.cells #[.int .i64 c] x.tN)
def Cx.Sm(s:Sg):(Nat->Prop)->Goroutine->World->Prop:=match s.mp with
 |0=>x.Yf|1=>x.Ub|2=>x.Ye|3=>x.Yd|4=>x.AtGo (x.n-s.j)|5=>x.AtW1|6=>x.AtW2 s.vs|7=>x.Ua|8=>x.AtW3|9=>x.AtW4|10=>x.AtKe|_=>x.AtAcq
def Cx.Sw(s:Sg)(k:Nat):(Nat->Prop)->Goroutine->World->Prop:=match s.ph k with
 |0=>x.jY|1=>x.AtSend (s.hd k)|2=>x.AtRel|3=>x.AtK1|4=>x.AtD1|5=>x.AtD2|6=>x.AtD3|_=>x.AtD4
def Cx.jJ:Pro Sg where
 Φ:=x.mV
 J:=(·.j)
 S s i:=if i=0 then x.Sm s else x.Sw s (i-x.m0)
 gq s i:=i != 0&&decide (3<=s.ph (i-x.m0))
 qu s i:=i≠0/\s.ph (i-x.m0)=8
 d s i:=if i=0 then(if s.mp=0\/s.mp=4\/s.mp=11 then 0 else 1) else(if s.ph (i-x.m0)<=3 then 0 else 1)
 W s w:=x.ok s/\WgAt x.ty x.Wg w (x.gZ s) (iW s)/\x.Hf w s.c/\∃ a r tm,w.heap[x.Ch]?=some (.chan x.len (s.bl.map x.sight).toArray false a r tm)
 rel s i:=i≠0/\3<=s.ph (i-x.m0)
 TY s:=s.mp=8/\s.lp≠8
end
