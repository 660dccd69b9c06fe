/- Part of the proof. -/
import Derived.Test.YthbndfpeffcigaaGreatDoorZ25
namespace Go.Proofs.YthbndfpeffcigaaGreatDoor
open Go Go.Conc
open Go.ConcN (sumTo upd sumTo_upd upd_ne upd_same sumTo_congr WgLive RW PayAt Has)
open Go.ConcR (KK wgBlock WgAt stA smA rd wr Payload DC0)
variable {a:Addr} {s:Sg}
section
variable {dM Fz:Nat->Prop} {Own:Nat->Nat->Prop} {g B:Nat}
def LV(dM Fz:Nat->Prop)(Own:Nat->Nat->Prop)(g B:Nat)(e:Event):Prop :=
 (∀ x,(MemAct.ofEvent e).touch?=some x->x.loc.isMemory=true->∃ b,blk x.loc=some b/\LJ dM Fz Own g b x)/\(MemAct.ofEvent e).low B
theorem PS{b:Bool}(ha:dM a.block)(hb:a.block<B):LV dM Fz Own g B ⟨.cell a,b,true⟩:=by
 refine⟨λx hx _=>?_,hb⟩
 simp only[MemAct.ofEvent,MemAct.touch?,Option.some.injEq] at hx
 subst hx
 exact⟨a.block,rfl,.inl ⟨ha,by simp,λh=>by simp at h⟩⟩
theorem Hg(ha:dM a.block)(hb:a.block<B):LV dM Fz Own g B (rd a):=PS ha hb
theorem Ho(ha:dM a.block)(hb:a.block<B):LV dM Fz Own g B (wr a):=PS ha hb
theorem xu{m:Mark}(h1:(MemAct.mark m).touch?=none)(h2:(MemAct.mark m).low B):LV dM Fz Own g B (ConcR.mk m) :=
 ⟨λx hx _=>(by rw[show MemAct.ofEvent (ConcR.mk m)=.mark m from rfl,h1] at hx;cases hx),h2⟩
theorem PU{m:Mark}(hm:m=.read a\/m=.write a)(ha:dM a.block)(hb:a.block<B):LV dM Fz Own 0 B (ConcR.mk m):=by
 rcases hm with rfl|rfl
 all_goals
  refine⟨λx hx _=>?_,hb⟩
  simp only[ConcR.mk,MemAct.ofEvent,MemAct.touch?,Option.some.injEq] at hx
  subst hx
  exact⟨a.block,rfl,.inl ⟨ha,by simp,λ_=>rfl⟩⟩
theorem JL(ha:dM a.block)(hb:a.block<B):∀ e∈semEvents a,LV dM Fz Own g B e:=λe he=>by
 have:e=ConcR.mk .disable\/e=rd a\/e=wr a\/e=ConcR.mk .enable:=by simpa [semEvents,ConcR.mk,rd,wr] using he
 rcases this with rfl|rfl|rfl|rfl
 .exact xu rfl trivial
 .exact Hg ha hb
 .exact Ho ha hb
 .exact xu rfl trivial
end
theorem aX(w:World)(a:Addr)(v:Value){b:Nat}(h:b≠a.block):(w.setCell a v).heap[b]?=w.heap[b]?:=(aside_setCell w a v).block b h
theorem bX(w:World)(a:Addr)(v:Value):(w.setCell a v).heap.size=w.heap.size:=(aside_setCell w a v).size
theorem vk{f f':Nat->Option Nat}{j:Nat}(h:∀ i,i<j->f' i=f i):(List.range j).filterMap f'=(List.range j).filterMap f:=by
 induction j with
 |zero=>rfl
 |succ j ih =>
  rw[List.range_succ,List.filterMap_append,List.filterMap_append,ih λi hi=>h i (by omega)]
  congr 1
  simp only[List.filterMap_cons,List.filterMap_nil,h j (by omega)]
theorem PW{f f':Nat->Option Nat}{k c:Nat}:∀ {j:Nat},k<j->(∀ i,i<j->i≠k->f' i=f i)->f k=none->f' k=some c->((List.range j).filterMap f').Perm (c::(List.range j).filterMap f)
 |j+1,hk,h,h1,h2=>by
  rw[List.range_succ,List.filterMap_append,List.filterMap_append]
  by_cases hkj:k=j
  .subst hkj
   rw[vk (f:=f) (f':=f') λi hi=>h i (by omega) (by omega)]
   simp only[List.filterMap_cons,List.filterMap_nil,h1,h2,List.append_nil]
   exact List.perm_append_singleton _ _
  .have:=PW (j:=j) (by omega) (λi hi hne=>h i (by omega) hne) h1 h2
   have e:[j].filterMap f'=[j].filterMap f:=by simp only[List.filterMap_cons,List.filterMap_nil,h j (by omega) (Ne.symm hkj)]
   rw[e]
   exact this.append_right _
theorem xw{s':Sg}(hj:s'.j=s.j)(h:∀ i,i<s.j->(s'.ph i=1↔s.ph i=1)/\(s.ph i=1->s'.hd i=s.hd i)):hands s'=hands s:=by
 unfold hands
 rw[hj]
 refine vk λi hi=>?_
 by_cases hp:s.ph i=1
 .rw[if_pos hp,if_pos ((h i hi).1.2 hp),(h i hi).2 hp]
 .rw[if_neg hp,if_neg λy=>hp ((h i hi).1.1 y)]
theorem Ab{s':Sg}{k c:Nat}(hk:k<s.j)(hj:s'.j=s.j)(h:∀ i,i<s.j->i≠k->s'.ph i=s.ph i/\s'.hd i=s.hd i)(h0:s.ph k≠1)(h1:s'.ph k=1)(h2:s'.hd k=c):(hands s').Perm (c::hands s):=by
 unfold hands
 rw[hj]
 refine PW hk (λi hi hne=>?_) (by rw[if_neg h0]) (by rw[if_pos h1,h2])
 rw[(h i hi hne).1,(h i hi hne).2]
theorem PX(h:∀ i,i<s.j->s.ph i=8):cnt s=0:=by
 unfold cnt
 have:∀ j,j<=s.j->sumTo j (λi=>if s.ph i<=4 then 1 else 0)=0:=by
  intro j
  induction j with
  |zero=>intro _;rfl
  |succ j ih=>intro hj;rw[sumTo,ih (by omega),h j (by omega)];rfl
 exact this _ (Nat.le_refl _)
theorem EG(h:cnt s=0):∀ i,i<s.j->5<=s.ph i:=by
 intro i hi
 have:=ConcN.le_sumTo (f:=λi=>if s.ph i<=4 then 1 else 0) hi
 unfold cnt at h
 rw[h] at this
 split at this<;>omega
theorem Yh(s:Sg):cnt s<=s.j:=by
 unfold cnt
 have:∀ j,sumTo j (λi=>if s.ph i<=4 then 1 else 0)<=j:=by
  intro j
  induction j with
  |zero=>exact Nat.le_refl _
  |succ j ih=>rw[sumTo];split<;>omega
 exact this _
section
variable [Payload] {x:Cx}
theorem acH(hC:x.Fz x.C)(O:Nat->Prop)(w w₁:World)(r:x.R O w w₁):RW x.ty x.Wg x.C x.nC 0 (1-1) w w₁ :=
 ⟨λb hb=>absurd hb (Nat.not_lt_zero _),r.ex,λ⟨cs,h1,h2⟩=>⟨cs,(r.fz _ hC).trans h1,h2⟩,by unfold World.cell?;rw[r.fz _ hC]⟩
theorem xE(hC:x.Fz x.C){S:Goroutine->World->Prop}(hS:∀ g w,S g w->g.status=.running){gq:Bool}{O:Nat->Prop}{m:Nat}{g:Goroutine}{w:World}(h:Goes x.P false (RW x.ty x.Wg x.C x.nC 0 (1-1)) DC0 S m g w):x.T_ gq (λ_=>S) O g w :=
 JD (acH hC O) (λg w hs=>⟨hS g w hs,hs⟩) (λ_ h=>h) m h
end
theorem Ca(th:Th):dN false th=th:=by unfold dN;simp
theorem PI.next{σ:Type}{pr:Pro σ}{Wg m0 j i:Nat}{s s':σ}{T:Nat->Th}{w w':World}{t u:Trace}{dY:Th}{b:Bool}(h:PI pr Wg m0 s j T w t)(hj:pr.J s'=j)
 (ho:∀ k,aY m0 j k->k≠i->pr.S s' k=pr.S s k/\pr.gq s' k=pr.gq s k/\(pr.qu s' k↔pr.qu s k)/\pr.d s' k=pr.d s k/\(pr.rel s' k->pr.rel s k))
 (hsl:i=0\/b=true\/(pr.TY s->pr.TY s'))
 (hi:dY.S=pr.S s' i/\dY.gq=pr.gq s' i/\(dY.kind=1↔pr.qu s' i)/\(dY.kind=2->i=0/\pr.TY s')/\(dY.kind≠1->dY.d=pr.d s' i))
 (hW:pr.W s' w') (hr:pr.rel s' i->∃ r,iU Wg i r (t++u)) (hu:∀ op∈u,op.g=i/\op.act≠.mark (.release (sA Wg))) :
 PI pr Wg m0 s' j (upd (λk=>dN b (T k)) i dY) w' (t++u):=by
 refine⟨hj,λk hk=>?_,hW,λk hk hrel=>?_,h.nor.app λop hop=>(hu op hop).2⟩
 .by_cases hki:k=i
  .subst hki;rw[upd_same];exact hi
  .rw[upd_ne _ _ hki]
   obtain⟨a1,a2,a3,a4,a5⟩:=h.tag k hk
   obtain⟨b1,b2,b3,b4,_⟩:=ho k hk hki
   have hw:=kM b (T k)
   refine⟨a1.trans b1.symm,a2.trans b2.symm,(hw.1.trans a3).trans b3.symm,λy=>?_,λy=>(a5 λz=>y (hw.1.2 z)).trans b4.symm⟩
   have:=a4 (hw.2 y)
   refine⟨this.1,?_⟩
   rcases hsl with rfl|rfl|hsl
   .exact(hki this.1).elim
   .exfalso
    unfold dN at y
    simp[hw.2 y] at y
   .exact hsl this.2
 .by_cases hki:k=i
  .subst hki;exact hr hrel
  .obtain⟨r,y⟩:=h.rel k hk ((ho k hk hki).2.2.2.2 hrel)
   exact⟨r,y.other λop hop=>by rw[(hu op hop).1];exact λe=>hki e.symm⟩
theorem iU.sem{Wg g r:Nat}{t:Trace}(h:iU Wg g r t){fn:FuncId}{pos:String}:iU Wg g r (t++MemOp.ofEvents g fn pos (semEvents (smA Wg))):=by
 have e:MemOp.ofEvents g fn pos (semEvents (smA Wg))=MemOp.ofEvents g fn pos #[ConcR.mk .disable]++(MemOp.ofEvents g fn pos #[rd (smA Wg),wr (smA Wg)]++MemOp.ofEvents g fn pos #[ConcR.mk .enable]):=by
  simp[ofEvents_eq,semEvents,ConcR.mk,rd,wr]
 rw[e,<-Array.append_assoc,<-Array.append_assoc]
 have mute:∀ {t:Trace} (m:Mark),(MemAct.mark m).touch?=none->iU Wg g r t->iU Wg g r (t++MemOp.ofEvents g fn pos #[ConcR.mk m]):=λm hm hr=>hr.still λop hop=>by
  obtain⟨e,he,rfl⟩:=Go.Conc.mem_ofEvents hop
  have:e=ConcR.mk m:=by simpa using he
  subst this
  exact hm
 refine mute .enable rfl ((mute .disable rfl h).deaf ?_ λe he=>?_)
 .rw[Deaf_own]
  show 1<=deafBehind (Deaf t g) #[⟨.mark .disable,false,true⟩]
  simp[deafBehind]
 .have:e=rd (smA Wg)\/e=wr (smA Wg):=by simpa using he
  rcases this with rfl|rfl
  .exact⟨rfl,smA Wg,rfl,rfl⟩
  .exact⟨rfl,smA Wg,rfl,rfl⟩
variable {w':World}
structure Cx.Fit(x:Cx):Prop where
 wn:x.Wg≠x.Nx
 wc:x.Wg≠x.Ch
 nc:x.Nx≠x.Ch
 C:x.Fz x.C
 n0:0<x.n
 n1:x.n<2147483647
section
variable {x:Cx}
theorem nH(a b c:World)(h:x.Ex a b)(h':x.Ex b c):x.Ex a c:=λy=>h' (h y)
theorem acI(w w':World)(h:∀ b,x.Sh b->w'.heap[b]?=w.heap[b]?):x.Ex w w':=λ⟨st,sm,y⟩=>⟨st,sm,(h _ (.inl rfl)).trans y⟩
theorem aft[Payload](s:Sg)(w w':World)(h:∀ b,x.Sh b->w'.heap[b]?=w.heap[b]?)(hw:x.jJ.W s w):x.jJ.W s w':=by
 obtain⟨h1,h2,h3,a,r,tm,h4⟩:=hw
 exact⟨h1,(h _ (.inl rfl)).trans h2,(h _ (.inr (.inl rfl))).trans h3,a,r,tm,(h _ (.inr (.inr rfl))).trans h4⟩
variable {tz:Nat} {Sx:Nat->Prop} {s:Sg} {j:Nat} {T:Nat->Th} {q:Nat->Nat} {gs:Array Goroutine} {w:World} {t:Trace}
def Cx.Goes[Payload](x:Cx)(tz:Nat)(Sx:Nat->Prop)(s:Sg)(gs:Array Goroutine)(w:World)(t:Trace)(sl:Option (Nat × Nat))(i:Nat):Prop :=
 ∃ gs' w' u,runT x.P (crowd gs w sl) i=(.next (crowd gs' w' sl),u)/\∃ s' j' T' q',x.mV s'<x.mV s/\GI x.P x.m0 tz Sx x.dM x.Fz x.Sh x.Ex j' T' q' gs' w' (t++u)/\PI x.jJ x.Wg x.m0 s' j' T' w' (t++u)
structure Cx.Only(x:Cx)(w w':World):Prop where
 keep:∀ b,¬x.Sh b->w'.heap[b]?=w.heap[b]?
 size:w'.heap.size=w.heap.size
 tape:w'.tape=w.tape
 os:w'.os=w.os
 output:w'.output=w.output
 ex:x.Ex w w'
theorem Cx.Only.refl(w:World):x.Only w w:=⟨λ_ _=>rfl,rfl,rfl,rfl,rfl,λh=>h⟩
theorem Cx.Only.rly(hG:GI x.P x.m0 tz Sx x.dM x.Fz x.Sh x.Ex j T q gs w t)(h:x.Only w w')(i:Nat):x.R (T i).O w w' :=
 ⟨λb y=>h.keep b (hG.oU i b y).2.2.1,λb y=>h.keep b (hG.LK b y).2.1,Nat.le_of_eq h.size.symm,h.tape,h.os,h.output,h.ex⟩
theorem pE[Payload](hG:GI x.P x.m0 tz Sx x.dM x.Fz x.Sh x.Ex j T q gs w t)(hP:PI x.jJ x.Wg x.m0 s j T w t){k:Nat}(hk:k<s.j){g g':Goroutine}{es:Array Event}(hg:gs[x.m0+k]?=some g)
 (hst:stepG x.P false g w=.go g' w' es) (hw:x.Only w w') {s':Sg} {p':Nat} (e1:s'.j=s.j) (e2:s'.mp=s.mp) (e3:s'.vs=s.vs) (e4:s'.ph=upd s.ph k p') (e5:∀ i,i≠k->s'.hd i=s.hd i)
 (hΦ:x.mV s'<x.mV s) (hW:x.jJ.W s' w') (hev:∀ e∈es,LV x.dM x.Fz (λg b=>(T g).O b) (x.m0+k) w'.heap.size e/\MemAct.ofEvent e≠.mark (.release (sA x.Wg)))
 (hsl:wk x.P g g'=true\/(s.lp≠8->s'.lp≠8)) {dY:Th} (hI:JE x.P x.Fz x.Ex false dY g' w') (hO:dY.O=(T (x.m0+k)).O)
 (hS:dY.S=x.Sw s' k/\dY.gq=decide (3<=p')/\(dY.kind=1↔p'=8)/\dY.kind≠2/\(dY.kind≠1->dY.d=if p'<=3 then 0 else 1))
 (hd:deafBehind (T (x.m0+k)).d es=dY.d) (hr:3<=p'->∃ r,iU x.Wg (x.m0+k) r (t++MemOp.ofEvents (x.m0+k) g.frame.fn g.frame.place es)) (sl:Option (Nat × Nat)):x.Goes tz Sx s gs w t sl (x.m0+k):=by
 have hp:=hG.pos
 have hj:s.j=j:=hP.cnt
 have hi0:x.m0+k≠0:=by omega
 have hb:(x.m0+k==0)=false:=by simp;omega
 have hi:aY x.m0 j (x.m0+k):=.inr ⟨by omega,by omega⟩
 have TW:(λg b=>(upd T (x.m0+k) dY g).O b)=λg b=>(T g).O b:=by
  funext g
  by_cases hgi:g=x.m0+k
  .subst hgi;rw[upd_same,hO]
  .rw[upd_ne _ _ hgi]
 obtain⟨f1,f2⟩:=hG.go nH hi (dY:=dY) hg (by rw[hb];exact hst) (by rw[hb];exact hI) hd (λb y=>by rw[hO];exact y) (λb y=>.inl (by rw[<-hO];exact y)) (λb _ _ h=>hw.keep b h) (Nat.le_of_eq hw.size.symm) hw.tape hw.os hw.output hw.ex
  (λe he=>by rw[TW];exact(hev e he).1) sl
 refine⟨_,_,_,f1,s',j,_,q,hΦ,f2,hP.next (i:=x.m0+k) (e1.trans hj) (λi hic hne=>?_) (.inr (hsl.imp id λy z=>⟨e2.trans z.1,y z.2⟩)) ?_ hW (λy=>?_) λop hop=>?_⟩
 .by_cases h0:i=0
  .subst h0
   refine⟨?_,rfl,Iff.rfl.trans (by simp[Cx.jJ]),?_,λy=>absurd rfl y.1⟩
   .show x.Sm s'=x.Sm s
    unfold Cx.Sm;rw[e2,e1,e3]
   .show (if s'.mp=0\/_ then 0 else 1)=_
    rw[e2];rfl
  .have hm:x.m0<=i:=by rcases hic with y|y<;>omega
   have hk':i-x.m0≠k:=by omega
   have mW:s'.ph (i-x.m0)=s.ph (i-x.m0):=by rw[e4,upd_ne _ _ hk']
   simp only[Cx.jJ,if_neg h0,mW]
   refine⟨?_,trivial,trivial,trivial,λy=>y⟩
   unfold Cx.Sw
   rw[mW,e5 _ hk']
 .have mW:s'.ph (x.m0+k-x.m0)=p':=by rw[e4,show x.m0+k-x.m0=k by omega,upd_same]
  simp only[Cx.jJ,if_neg hi0,mW]
  refine⟨by rw[hS.1,show x.m0+k-x.m0=k by omega],by rw[hS.2.1,show (x.m0+k != 0)=true by simp;omega,Bool.true_and],hS.2.2.1.trans ⟨λy=>⟨hi0,y⟩,λy=>y.2⟩,λy=>absurd y hS.2.2.2.1,hS.2.2.2.2⟩
 .refine hr ?_
  have mW:s'.ph (x.m0+k-x.m0)=p':=by rw[e4,show x.m0+k-x.m0=k by omega,upd_same]
  have:=y.2
  rw[mW] at this
  exact this
 .obtain⟨e,he,rfl⟩:=Go.Conc.mem_ofEvents hop
  exact⟨rfl,(hev e he).2⟩
theorem uy[Payload](hG:GI x.P x.m0 tz Sx x.dM x.Fz x.Sh x.Ex j T q gs w t)(hP:PI x.jJ x.Wg x.m0 s j T w t){g g':Goroutine}{es:Array Event}(hg:gs[0]?=some g)(hk0:(T 0).kind=0)
 (hst:stepG x.P true g w=.go g' w' es) (hw:x.Only w w') {s':Sg} (e1:s'.j=s.j) (e4:s'.ph=s.ph) (e5:s'.hd=s.hd)
 (hΦ:x.mV s'<x.mV s) (hW:x.jJ.W s' w') (hev:∀ e∈es,LV x.dM x.Fz (λg b=>(T g).O b) 0 w'.heap.size e/\MemAct.ofEvent e≠.mark (.release (sA x.Wg)))
 (hco:∀ w',x.R (T 0).O w w'->x.Fg (x.Sm s') (T 0).O g' w')
 (hd:deafBehind (if s.mp=0\/s.mp=4\/s.mp=11 then 0 else 1) es=if s'.mp=0\/s'.mp=4\/s'.mp=11 then 0 else 1) (sl:Option (Nat × Nat)):x.Goes tz Sx s gs w t sl 0:=by
 have hj:s.j=j:=hP.cnt
 have hi:aY x.m0 j 0:=.inl rfl
 have hd0:(T 0).d=if s.mp=0\/s.mp=4\/s.mp=11 then 0 else 1:=(hP.tag 0 hi).2.2.2.2 (by rw[hk0];decide)
 have TW:(λg b=>(upd T 0 ⟨0,false,x.Sm s',(T 0).O,w',0,if s'.mp=0\/s'.mp=4\/s'.mp=11 then 0 else 1⟩ g).O b)=λg b=>(T g).O b:=by
  funext g
  by_cases hgi:g=0
  .subst hgi;rw[upd_same]
  .rw[upd_ne _ _ hgi]
 obtain⟨f1,f2⟩:=hG.go nH hi (w':=w') (dY:=⟨0,false,x.Sm s',(T 0).O,w',0,if s'.mp=0\/s'.mp=4\/s'.mp=11 then 0 else 1⟩) hg hst (.inl ⟨rfl,hco w' (hw.rly hG 0),jX.refl (λ_ h=>h) w'⟩) (by rw[hd0];exact hd) (λb y=>y) (λb y=>.inl y) (λb _ _ h=>hw.keep b h) (Nat.le_of_eq hw.size.symm) hw.tape hw.os hw.output hw.ex
  (λe he=>by rw[TW];exact(hev e he).1) sl
 refine⟨_,_,_,f1,s',j,_,q,hΦ,f2,?_⟩
 refine hP.next (i:=0) (e1.trans hj) (λi _ hne=>?_) (.inl rfl) ⟨rfl,rfl,?_,λy=>(by cases y),λ_=>rfl⟩ hW (λy=>absurd rfl y.1) λop hop=>?_
 .simp only[Cx.jJ,if_neg hne,e4]
  refine⟨?_,trivial,trivial,trivial,λy=>y⟩
  unfold Cx.Sw
  rw[e4,e5]
 .simp[Cx.jJ]
 .obtain⟨e,he,rfl⟩:=Go.Conc.mem_ofEvents hop
  exact⟨rfl,(hev e he).2⟩
end
variable {p':Nat} {s':Sg}
section
variable {x:Cx}
theorem Hq{s:Sg}{k:Nat}(hk:k<s.j)(e1:s'.j=s.j)(e4:s'.ph=upd s.ph k p'):cnt s'+(if s.ph k<=4 then 1 else 0)=cnt s+(if p'<=4 then 1 else 0):=by
 have:=sumTo_upd s.ph p' (λp=>if p<=4 then 1 else 0) hk
 unfold cnt
 rw[e1,e4]
 exact this
theorem JM{s:Sg}{k:Nat}(hk:k<s.j)(e1:s'.j=s.j)(e2:s'.mp=s.mp)(e3:s'.vs=s.vs)(e4:s'.ph=upd s.ph k p')(hp:s.ph k<=4\/4<p')
 (hlt:2*(x.len-min s'.c x.len)+LU p'<2*(x.len-min s.c x.len)+LU (s.ph k)):x.mV s'<x.mV s:=by
 have h1:=Hq hk e1 e4
 have h2:=sumTo_upd s.ph p' LU hk
 have hv:x.v s'<=x.v s:=by
  unfold Cx.v
  rw[e1]
  split at h1<;>split at h1<;>omega
 have hm:x.mw s'<=x.mw s:=by
  unfold Cx.mw
  rw[e2,e3]
  split
  .omega
  .split
   .omega
   .omega
 unfold Cx.mV
 rw[e1,e4]
 omega
theorem Cx.ok.early{s:Sg}(h:x.ok s){k:Nat}(hk:k<s.j)(hp:s.ph k<=4):(∀ i,i<s.j->s.ph i<=4\/s.ph i=8)/\s.mp<=8/\((s.mp=7\/s.mp=8)->s.lp=0/\0<x.v s):=by
 have h1:∀ i,i<s.j->s.ph i<=4\/s.ph i=8:=λi hi=>by
  have h8:=h.Yg i hi
  by_cases hc:5<=s.ph i/\s.ph i<=7
  .have:=(h.last i hi hc.1 hc.2).2.2 k hk (λe=>by subst e;omega)
   omega
  .omega
 refine⟨h1,?_,λhm=>?_⟩
 .apply Classical.byContradiction
  intro hc
  have:=h.fin (by omega) k hk
  omega
 .rcases h.reg hm with y|⟨y1,y2,i,hi,y3⟩|⟨_,y⟩
  .exact y
  .have:=h1 i hi;omega
  .have:=y k hk;omega
theorem Cx.ok.ahead{s:Sg}(h:x.ok s){k:Nat}(hk:k<s.j)(hp:s.ph k<=4)(hp':p'<=4)(e1:s'.j=s.j)(e2:s'.mp=s.mp)(e3:s'.vs=s.vs)(e4:s'.ph=upd s.ph k p')(e6:s'.lp=s.lp)
 (hc:s.c<=s'.c/\s'.c<=s.c+1) (acJ:2<=p'->x.len<=s'.c) (hperm:(s'.bl++hands s').Perm (List.range (min s'.c x.len))) (hΦ:x.mV s'<x.mV s):x.ok s'/\x.v s'=x.v s/\x.gZ s'=x.gZ s/\iW s'=iW s:=by
 obtain⟨h1,h2,h3⟩:=h.early hk hp
 have hcn:=Hq hk e1 e4
 have hv:x.v s'=x.v s:=by
  unfold Cx.v
  rw[e1]
  rw[if_pos hp,if_pos hp'] at hcn
  omega
 have mW:∀ i,i<s.j->s'.ph i<=4\/s'.ph i=8:=λi hi=>by
  by_cases hik:i=k
  .subst hik;rw[e4,upd_same];exact .inl hp'
  .rw[e4,upd_ne _ _ hik];exact h1 i hi
 refine⟨⟨by rw[e1];exact h.jn,by rw[e1,e2];exact h.j0,by rw[e1,e2];exact h.jN,by rw[e2];exact h.mp,λi hi=>?_,λi hi y=>?_,λi hi y z=>?_,λy=>?_,λy=>?_,λy=>?_,hperm,?_⟩,hv,?_,?_⟩
 .have:=mW i (by omega);omega
 .by_cases hik:i=k
  .subst hik;rw[e4,upd_same] at y;exact acJ y
  .rw[e4,upd_ne _ _ hik] at y;exact Nat.le_trans (h.late i (by omega) y) hc.1
 .have:=mW i (by omega);omega
 .rw[e2] at y
  rw[e6,hv]
  exact .inl (h3 y)
 .rw[e2] at y;omega
 .rw[e2] at y
  rw[e3,hv]
  exact h.cas y
 .have:=h.big;omega
 .unfold Cx.gZ;rw[e2,e6,hv]
 .unfold iW;rw[e2,e6]
theorem sS{w:World}{a:Addr}{v:Value}(ha:x.Sh a.block)(hEx:x.Ex w (w.setCell a v)):x.Only w (w.setCell a v) :=
 ⟨λ_ hb=>aX w a v λe=>hb (e▸ha),bX w a v,(aside_setCell w a v).tape,(aside_setCell w a v).os,(aside_setCell w a v).output,hEx⟩
theorem JN{w:World}{c:Nat}(h:x.Hf w c):w.cell? x.yO=some (.int .i64 c)/\w.frozen? x.yO=false:=by
 unfold Cx.Hf at h
 exact⟨by simp[World.cell?,Cx.yO,h],by simp[World.frozen?,Cx.yO,h]⟩
theorem PY{w:World}{c:Nat}(h:x.Hf w c)(c':Nat):x.Hf (w.setCell x.yO (.int .i64 c')) c':=by
 unfold Cx.Hf at h ⊢
 rw[Cx.yO,setCell_eq_setRow w x.Nx 0 _ x.tN (0,0) _ h,setRow_heap w x.Nx _ _ x.tN _ h]
 simp
variable {tz:Nat} {Sx:Nat->Prop} {s:Sg} {j:Nat} {T:Nat->Th} {q:Nat->Nat} {gs:Array Goroutine} {w:World} {t:Trace} {k:Nat} {g:Goroutine}
theorem wd[Payload](hG:GI x.P x.m0 tz Sx x.dM x.Fz x.Sh x.Ex j T q gs w t)(hP:PI x.jJ x.Wg x.m0 s j T w t)(hk:k<s.j)(hkd:(T (x.m0+k)).kind=0):(T (x.m0+k)).d=(if s.ph k<=3 then 0 else 1)/\Deaf t (x.m0+k)=(T (x.m0+k)).d/\(3<=s.ph k->∃ r,iU x.Wg (x.m0+k) r t):=by
 have hi:aY x.m0 j (x.m0+k):=.inr ⟨by omega,by have:=hP.cnt;simp only[Cx.jJ] at this;omega⟩
 have:=(hP.tag (x.m0+k) hi).2.2.2.2 (by rw[hkd];decide)
 have hp:=hG.pos
 refine⟨?_,?_,λy=>hP.rel _ hi ⟨by omega,by rw[show x.m0+k-x.m0=k by omega];exact y⟩⟩
 .rw[this]
  simp only[Cx.jJ]
  rw[if_neg (by omega),show x.m0+k-x.m0=k by omega]
 .obtain⟨_,_,_,h⟩:=hG.th _ hi
  exact h
theorem Yi[Payload](F:x.Fit)(hG:GI x.P x.m0 tz Sx x.dM x.Fz x.Sh x.Ex j T q gs w t)(hP:PI x.jJ x.Wg x.m0 s j T w t)(hk:k<s.j)(mW:s.ph k=0)(hg:gs[x.m0+k]?=some g)(hkd:(T (x.m0+k)).kind=0)
 (hS:x.jY (T (x.m0+k)).O g w) (sl:Option (Nat × Nat)):x.Goes tz Sx s gs w t sl (x.m0+k):=by
 obtain⟨ok,hwg,hnx,a,r,tm,hch⟩:=hP.yM
 have hbig:=ok.big
 have hd:(T (x.m0+k)).d=0:=by rw[(wd hG hP hk hkd).1,mW];rfl
 obtain⟨g',hst,hnext⟩:=hS s.c (by omega) (JN hnx).1 (JN hnx).2
 have hNs:x.Sh x.yO.block:=.inr (.inl rfl)
 have hwg':(w.setCell x.yO (.int .i64 (s.c+1:Nat))).heap[x.Wg]?=w.heap[x.Wg]?:=aX w _ _ F.wn
 have hch':(w.setCell x.yO (.int .i64 (s.c+1:Nat))).heap[x.Ch]?=w.heap[x.Ch]?:=aX w _ _ λe=>F.nc e.symm
 have hon:x.Only w (w.setCell x.yO (.int .i64 (s.c+1:Nat))):=sS hNs λ⟨st,sm,y⟩=>⟨st,sm,hwg'.trans y⟩
 have hNb:x.yO.block<(w.setCell x.yO (.int .i64 (s.c+1:Nat))).heap.size:=by rw[bX];exact(hG.shl _ hNs).1
 have hev:∀ e∈#[rd x.yO,wr x.yO],LV x.dM x.Fz (λg b=>(T g).O b) (x.m0+k) (w.setCell x.yO (.int .i64 (s.c+1:Nat))).heap.size e/\MemAct.ofEvent e≠.mark (.release (sA x.Wg)):=λe he=>by
  have:e=rd x.yO\/e=wr x.yO:=by simpa using he
  rcases this with rfl|rfl
  .exact⟨Hg (.inr rfl) hNb,by simp[MemAct.ofEvent,rd]⟩
  .exact⟨Ho (.inr rfl) hNb,by simp[MemAct.ofEvent,wr]⟩
 obtain⟨n1,n2⟩:=hnext _ (hon.rly hG _)
 by_cases hc:s.c<x.len
 .have hpt:x.mV { s with c:=s.c+1,ph:=upd s.ph k 1,hd:=upd s.hd k s.c }<x.mV s:=JM hk rfl rfl rfl rfl (.inl (by omega)) (by
   simp only[mW,LU,if_true];rw[if_neg (by decide)];omega)
  have hpm:(s.bl++hands { s with c:=s.c+1,ph:=upd s.ph k 1,hd:=upd s.hd k s.c }).Perm (List.range (min (s.c+1) x.len)):=by
   have h1:(hands { s with c:=s.c+1,ph:=upd s.ph k 1,hd:=upd s.hd k s.c }).Perm (s.c::hands s):=Ab hk rfl (λi _ hne=>⟨upd_ne _ _ hne,upd_ne _ _ hne⟩) (by omega) (upd_same _ _ _) (upd_same _ _ _)
   have h2:min (s.c+1) x.len=min s.c x.len+1:=by omega
   have h3:min s.c x.len=s.c:=by omega
   rw[h2,List.range_succ]
   refine(h1.append_left s.bl).trans (List.perm_middle.trans ?_)
   rw[h3]
   have:=ok.perm
   rw[h3] at this
   exact(this.cons s.c).trans (List.perm_append_singleton _ _).symm
  obtain⟨ok',hv,hs1,hs2⟩:=ok.ahead (s':={ s with c:=s.c+1,ph:=upd s.ph k 1,hd:=upd s.hd k s.c }) hk (by omega) (p':=1) (by omega) rfl rfl rfl rfl rfl ⟨by simp,Nat.le_refl _⟩ (λy=>by omega) hpm hpt
  refine pE hG hP hk hg hst hon (s':={ s with c:=s.c+1,ph:=upd s.ph k 1,hd:=upd s.hd k s.c }) rfl rfl rfl rfl (λi hi=>upd_ne _ _ hi) hpt ⟨ok',by rw[hs1,hs2];exact hwg'.trans hwg,PY hnx _,a,r,tm,hch'.trans hch⟩ hev (.inr λy=>y)
   (dY:=⟨0,false,x.AtSend s.c,(T (x.m0+k)).O,_,0,0⟩) (.inl ⟨rfl,n1 hc,jX.refl (λ_ h=>h) _⟩) rfl ⟨?_,rfl,by simp,by simp,λ_=>rfl⟩ (by rw[hd];rfl) (λy=>absurd y (by decide)) sl
  unfold Cx.Sw
  simp only[upd_same]
 .have hpt:x.mV { s with c:=s.c+1,ph:=upd s.ph k 2 }<x.mV s:=JM hk rfl rfl rfl rfl (.inl (by omega)) (by
   simp only[mW,LU,if_true];rw[if_neg (by decide),if_neg (by decide),if_pos (by decide)];omega)
  have hpm:(s.bl++hands { s with c:=s.c+1,ph:=upd s.ph k 2 }).Perm (List.range (min (s.c+1) x.len)):=by
   have h1:hands { s with c:=s.c+1,ph:=upd s.ph k 2 }=hands s:=xw rfl λi _=>⟨by
    by_cases hik:i=k
    .subst hik;simp only[upd_same,mW];decide
    .simp only[upd_ne _ _ hik],λ_=>rfl⟩
   rw[h1,show min (s.c+1) x.len=min s.c x.len by omega]
   exact ok.perm
  obtain⟨ok',hv,hs1,hs2⟩:=ok.ahead (s':={ s with c:=s.c+1,ph:=upd s.ph k 2 }) hk (by omega) (p':=2) (by omega) rfl rfl rfl rfl rfl ⟨by simp,Nat.le_refl _⟩ (λ_=>by simp only;omega) hpm hpt
  refine pE hG hP hk hg hst hon (s':={ s with c:=s.c+1,ph:=upd s.ph k 2 }) rfl rfl rfl rfl (λi hi=>rfl) hpt ⟨ok',by rw[hs1,hs2];exact hwg'.trans hwg,PY hnx _,a,r,tm,hch'.trans hch⟩ hev (.inr λy=>y)
   (dY:=⟨0,false,x.AtRel,(T (x.m0+k)).O,_,0,0⟩) (.inl ⟨rfl,n2 (by omega),jX.refl (λ_ h=>h) _⟩) rfl ⟨?_,rfl,by simp,by simp,λ_=>rfl⟩ (by rw[hd];rfl) (λy=>absurd y (by decide)) sl
  unfold Cx.Sw
  simp only[upd_same]
theorem Yj[Payload](F:x.Fit)(hAT:∀ O g w,x.JK O g w->x.T_ false x.jY O g w)(hG:GI x.P x.m0 tz Sx x.dM x.Fz x.Sh x.Ex j T q gs w t)(hP:PI x.jJ x.Wg x.m0 s j T w t)(hk:k<s.j)(mW:s.ph k=1)(hg:gs[x.m0+k]?=some g)(hkd:(T (x.m0+k)).kind=0)
 (hS:x.AtSend (s.hd k) (T (x.m0+k)).O g w) (sl:Option (Nat × Nat)):x.Goes tz Sx s gs w t sl (x.m0+k):=by
 obtain⟨ok,hwg,hnx,a,r,tm,hch⟩:=hP.yM
 have hd:(T (x.m0+k)).d=0:=by rw[(wd hG hP hk hkd).1,mW];rfl
 have hp:=hG.pos
 have hj:s.j=j:=hP.cnt
 have hi:aY x.m0 j (x.m0+k):=.inr ⟨by omega,by omega⟩
 have hb:(x.m0+k==0)=false:=by simp;omega
 obtain⟨g₂,z,hst,hnext⟩:=hS
 have hh:(hands s).Perm (s.hd k::hands { s with ph:=upd s.ph k 0,bl:=s.bl++[s.hd k] }):=Ab (s:={ s with ph:=upd s.ph k 0,bl:=s.bl++[s.hd k] }) hk rfl (λi _ hne=>⟨(upd_ne _ _ hne).symm,rfl⟩) (by simp[upd_same]) mW rfl
 have hpm:((s.bl++[s.hd k])++hands { s with ph:=upd s.ph k 0,bl:=s.bl++[s.hd k] }).Perm (List.range (min s.c x.len)):=by
  rw[List.append_assoc]
  exact(hh.symm.append_left s.bl).trans ok.perm
 have hroom:((s.bl.map x.sight).toArray).size<x.len:=by
  have:=hpm.length_eq
  simp at this
  simp
  omega
 have hpt:x.mV { s with ph:=upd s.ph k 0,bl:=s.bl++[s.hd k] }<x.mV s:=JM hk rfl rfl rfl rfl (.inl (by omega)) (by
  simp only[mW,LU,if_true];rw[if_neg (by decide)];omega)
 obtain⟨ok',hv,hs1,hs2⟩:=ok.ahead (s':={ s with ph:=upd s.ph k 0,bl:=s.bl++[s.hd k] }) hk (by omega) (p':=0) (by omega) rfl rfl rfl rfl rfl ⟨Nat.le_refl _,Nat.le_succ _⟩ (λy=>by omega) hpm hpt
 have hkeep:∀ b,b≠x.Ch->(w.setChan x.Ch x.len (((s.bl.map x.sight).toArray).push (x.sight (s.hd k))) false (a+1) r tm).heap[b]?=w.heap[b]?:=λb hb=>by
  simp only[World.setChan]
  exact Array.getElem?_setIfInBounds_ne (λe=>hb e.symm)
 have hEx:x.Ex w (w.setChan x.Ch x.len (((s.bl.map x.sight).toArray).push (x.sight (s.hd k))) false (a+1) r tm):=λ⟨st,sm,y⟩=>⟨st,sm,(hkeep _ F.wc).trans y⟩
 have hon:x.Only w (w.setChan x.Ch x.len (((s.bl.map x.sight).toArray).push (x.sight (s.hd k))) false (a+1) r tm):=⟨λb hb=>hkeep b λe=>hb (.inr (.inr e)),by simp[World.setChan],rfl,rfl,rfl,hEx⟩
 have hco:=(hnext _ (hon.rly hG _)).bind (λ_ h=>h) hAT
 obtain⟨gs',u,f1,f2,f3,f4⟩:=hG.send nH hi (dY:=⟨0,false,x.jY,(T (x.m0+k)).O,w.setChan x.Ch x.len (((s.bl.map x.sight).toArray).push (x.sight (s.hd k))) false (a+1) r tm,0,0⟩) hg (by rw[hb];exact hst) hch hroom (.inr (.inr rfl)) hEx (.inl ⟨rfl,by rw[hb];exact hco,jX.refl (λ_ h=>h) _⟩) rfl hd.symm sl
 have eT:(λk=>dN false (T k))=T:=funext λk=>Ca _
 refine⟨gs',_,u,f1,{ s with ph:=upd s.ph k 0,bl:=s.bl++[s.hd k] },j,_,q,hpt,f3,?_⟩
 rw[<-eT]
 refine hP.next (i:=x.m0+k) hj (λi hic hne=>?_) (.inr (.inr λy=>y)) ?_ ⟨ok',?_,?_,a+1,r,tm,?_⟩ (λy=>?_) λop hop=>⟨(f2 op hop).2.1,(f2 op hop).2.2 _⟩
 .by_cases h0:i=0
  .subst h0
   exact⟨rfl,rfl,Iff.rfl.trans (by simp[Cx.jJ]),rfl,λy=>absurd rfl y.1⟩
  .have hm:x.m0<=i:=by rcases hic with y|y<;>omega
   have hk':i-x.m0≠k:=by omega
   simp only[Cx.jJ,if_neg h0,upd_ne _ _ hk']
   refine⟨?_,trivial,trivial,trivial,λy=>y⟩
   unfold Cx.Sw
   simp only[upd_ne _ _ hk']
 .simp only[Cx.jJ,if_neg (show x.m0+k≠0 by omega),show x.m0+k-x.m0=k by omega,upd_same]
  refine⟨?_,by simp,by simp,λy=>(by cases y),λ_=>rfl⟩
  unfold Cx.Sw
  simp only[upd_same]
 .rw[hs1,hs2];exact(hkeep _ F.wc).trans hwg
 .exact(hkeep _ F.nc).trans hnx
 .have hlt:=(hG.shl x.Ch (.inr (.inr rfl))).1
  simp only[World.setChan,List.map_append,List.map_cons,List.map_nil]
  rw[Array.getElem?_setIfInBounds_self_of_lt hlt]
  simp
 .have:=y.2
  rw[show x.m0+k-x.m0=k by omega] at this
  simp[upd_same] at this
end
section
variable {x:Cx} {tz:Nat} {Sx:Nat->Prop} {s:Sg} {j:Nat} {T:Nat->Th} {q:Nat->Nat} {gs:Array Goroutine} {w:World} {t:Trace} {k:Nat} {g:Goroutine}
theorem mK{s:Sg}{k p lp:Nat}(hk1:s.ph k≠1)(hp:p≠1):hands { s with ph:=upd s.ph k p,lp:=lp }=hands s:=xw rfl λi _=>⟨by
 by_cases hik:i=k
 .subst hik;simp only[upd_same];exact⟨λy=>absurd y hp,λy=>absurd y hk1⟩
 .simp only[upd_ne _ _ hik],λ_=>rfl⟩
theorem gJ{s:Sg}{k p lp:Nat}(hk:k<s.j)(h2:2<=s.ph k)(h7:s.ph k<=7)(hp:s.ph k<p)(hp8:p<=8):x.mV { s with ph:=upd s.ph k p,lp:=lp }<x.mV s:=by
 refine JM hk rfl rfl rfl rfl (by omega) ?_
 have:LU p<LU (s.ph k):=by
  unfold LU
  repeat' split
  all_goals omega
 simp only
 omega
theorem acK[Payload](F:x.Fit)(hG:GI x.P x.m0 tz Sx x.dM x.Fz x.Sh x.Ex j T q gs w t)(hP:PI x.jJ x.Wg x.m0 s j T w t)(hk:k<s.j)(mW:s.ph k=2)(hg:gs[x.m0+k]?=some g)(hkd:(T (x.m0+k)).kind=0)
 (hS:x.AtRel (T (x.m0+k)).O g w) (sl:Option (Nat × Nat)):x.Goes tz Sx s gs w t sl (x.m0+k):=by
 obtain⟨ok,hwg,hnx,hch⟩:=hP.yM
 obtain⟨hd,hdf,_⟩:=wd hG hP hk hkd
 rw[mW] at hd
 obtain⟨_,_,g',hst,m,hgo⟩:=hS
 have hW:=(hG.shl x.Wg (.inl rfl)).1
 have hpt:x.mV { s with ph:=upd s.ph k 3,lp:=s.lp }<x.mV s:=gJ hk (by omega) (by omega) (by omega) (by omega)
 obtain⟨ok',hv,hs1,hs2⟩:=ok.ahead (s':={ s with ph:=upd s.ph k 3,lp:=s.lp }) hk (by omega) (p':=3) (by omega) rfl rfl rfl rfl rfl ⟨Nat.le_refl _,Nat.le_succ _⟩ (λ_=>ok.late k hk (by omega)) (by rw[mK (by omega) (by omega)];exact ok.perm) hpt
 refine pE hG hP hk hg hst (Cx.Only.refl w) (s':={ s with ph:=upd s.ph k 3,lp:=s.lp }) rfl rfl rfl rfl (λi hi=>rfl) hpt ⟨ok',by rw[hs1,hs2];exact hwg,hnx,hch⟩ (λe he=>?_) (.inr λy=>y)
  (dY:=⟨0,true,x.AtK1,(T (x.m0+k)).O,w,0,0⟩) (.inl ⟨rfl,xE F.C (λ_ _ y=>y.1) hgo,jX.refl (λ_ h=>h) _⟩) rfl ⟨?_,rfl,by simp,by simp,λ_=>rfl⟩ (by rw[hd];rfl) (λ_=>⟨t.size,?_⟩) sl
 .have:e=ConcR.mk (.releaseMerge (stA x.Wg)):=by simpa using he
  subst this
  exact⟨xu rfl hW,by simp[ConcR.mk,MemAct.ofEvent]⟩
 .unfold Cx.Sw
  simp only[upd_same]
 .have e:MemOp.ofEvents (x.m0+k) g.frame.fn g.frame.place #[ConcR.mk (.releaseMerge (stA x.Wg))]=#[{ g:=x.m0+k,fn:=g.frame.fn,pos:=g.frame.place,act:=.mark (.releaseMerge (stA x.Wg)) }]:=by simp[ofEvents_eq,ConcR.mk,MemAct.ofEvent]
  rw[e]
  exact iU.new rfl rfl (by rw[hdf,hd];rfl)
theorem acL[Payload](F:x.Fit)(hG:GI x.P x.m0 tz Sx x.dM x.Fz x.Sh x.Ex j T q gs w t)(hP:PI x.jJ x.Wg x.m0 s j T w t)(hk:k<s.j)(mW:s.ph k=3)(hg:gs[x.m0+k]?=some g)(hkd:(T (x.m0+k)).kind=0)
 (hS:x.AtK1 (T (x.m0+k)).O g w) (sl:Option (Nat × Nat)):x.Goes tz Sx s gs w t sl (x.m0+k):=by
 obtain⟨ok,hwg,hnx,hch⟩:=hP.yM
 obtain⟨hd,hdf,hrl⟩:=wd hG hP hk hkd
 rw[mW] at hd
 obtain⟨_,g',hst,m,hgo⟩:=hS
 have hpt:x.mV { s with ph:=upd s.ph k 4,lp:=s.lp }<x.mV s:=gJ hk (by omega) (by omega) (by omega) (by omega)
 obtain⟨ok',hv,hs1,hs2⟩:=ok.ahead (s':={ s with ph:=upd s.ph k 4,lp:=s.lp }) hk (by omega) (p':=4) (by omega) rfl rfl rfl rfl rfl ⟨Nat.le_refl _,Nat.le_succ _⟩ (λ_=>ok.late k hk (by omega)) (by rw[mK (by omega) (by omega)];exact ok.perm) hpt
 refine pE hG hP hk hg hst (Cx.Only.refl w) (s':={ s with ph:=upd s.ph k 4,lp:=s.lp }) rfl rfl rfl rfl (λi hi=>rfl) hpt ⟨ok',by rw[hs1,hs2];exact hwg,hnx,hch⟩ (λe he=>?_) (.inr λy=>y)
  (dY:=⟨0,true,x.AtD1,(T (x.m0+k)).O,w,0,1⟩) (.inl ⟨rfl,xE F.C (λ_ _ y=>y.1) hgo,jX.refl (λ_ h=>h) _⟩) rfl ⟨?_,rfl,by simp,by simp,λ_=>rfl⟩ (by rw[hd];rfl) (λ_=>?_) sl
 .have:e=ConcR.mk .disable:=by simpa using he
  subst this
  exact⟨xu rfl trivial,by simp[ConcR.mk,MemAct.ofEvent]⟩
 .unfold Cx.Sw
  simp only[upd_same]
 .obtain⟨r,hr⟩:=hrl (by omega)
  exact⟨r,hr.still λop hop=>by
   obtain⟨e,he,rfl⟩:=Go.Conc.mem_ofEvents hop
   have:e=ConcR.mk .disable:=by simpa using he
   subst this
   rfl⟩
theorem pJ(hG:GI x.P x.m0 tz Sx x.dM x.Fz x.Sh x.Ex j T q gs w t){i:Nat}{w':World}(hsz:w'.heap.size=w.heap.size):∀ e∈#[rd (stA x.Wg),wr (stA x.Wg)],LV x.dM x.Fz (λg b=>(T g).O b) i w'.heap.size e/\MemAct.ofEvent e≠.mark (.release (sA x.Wg)):=λe he=>by
 have hW:(stA x.Wg).block<w'.heap.size:=by rw[hsz];exact(hG.shl x.Wg (.inl rfl)).1
 have:e=rd (stA x.Wg)\/e=wr (stA x.Wg):=by simpa using he
 rcases this with rfl|rfl
 .exact⟨Hg (.inl rfl) hW,by simp[MemAct.ofEvent,rd]⟩
 .exact⟨Ho (.inl rfl) hW,by simp[MemAct.ofEvent,wr]⟩
theorem oH{st sm:Int}(h:WgAt x.ty x.Wg w st sm)(v:Int):x.Only w (w.setCell (stA x.Wg) (.int .u64 v)):=sS (.inl rfl) λ_=>⟨_,_,h.setSt v⟩
theorem JO{st sm:Int}(h:WgAt x.ty x.Wg w st sm)(v:Int):x.Only w (w.setCell (smA x.Wg) (.int .u32 v)):=sS (.inl rfl) λ_=>⟨_,_,h.setSm v⟩
end
section
variable {x:Cx} {tz:Nat} {Sx:Nat->Prop} {s:Sg} {j:Nat} {T:Nat->Th} {q:Nat->Nat} {gs:Array Goroutine} {w:World} {t:Trace} {k:Nat} {g:Goroutine}
theorem JQ{p lp:Nat}(hk:k<s.j)(hp:s.ph k<=4)(hp':4<p):x.v { s with ph:=upd s.ph k p,lp:=lp }+1=x.v s:=by
 have:=Hq (s':={ s with ph:=upd s.ph k p,lp:=lp }) hk rfl rfl
 rw[if_pos hp,if_neg (by omega)] at this
 unfold Cx.v
 simp only
 omega
theorem Uc(h:x.ok s):x.v s<=x.n:=by
 have:=Yh s
 have:=h.jn
 unfold Cx.v
 omega
theorem Hr(h:x.ok s)(hk:k<s.j)(mW:s.ph k=4){p lp:Nat}
 (hp:(p=8/\lp=s.lp/\((s.mp=7\/s.mp=8)->0<x.v { s with ph:=upd s.ph k p,lp:=lp }))\/(p=5/\lp=5/\(s.mp=7\/s.mp=8)/\x.v { s with ph:=upd s.ph k p,lp:=lp }=0)):x.ok { s with ph:=upd s.ph k p,lp:=lp }:=by
 obtain⟨h1,h2,h3⟩:=h.early hk (by omega)
 have hv:=JQ (x:=x) (lp:=lp) hk (by omega) (p:=p) (by omega)
 have hpt:x.mV { s with ph:=upd s.ph k p,lp:=lp }<x.mV s:=gJ hk (by omega) (by omega) (by omega) (by omega)
 refine⟨h.jn,h.j0,h.jN,h.mp,λi hi=>?_,λi hi y=>?_,λi hi y z=>?_,λy=>?_,λy=>?_,λy=>?_,?_,?_⟩
 .by_cases hik:i=k
  .subst hik;simp only[upd_same];omega
  .simp only[upd_ne _ _ hik];exact h.Yg i hi
 .by_cases hik:i=k
  .subst hik;exact h.late i hi (by omega)
  .simp only[upd_ne _ _ hik] at y;exact h.late i hi y
 .by_cases hik:i=k
  .subst hik
   simp only[upd_same] at y z ⊢
   rcases hp with ⟨rfl,_⟩|⟨rfl,rfl,hm,hv0⟩
   .omega
   .refine⟨hm,rfl,λi' hi' hne=>?_⟩
    have hc:cnt { s with ph:=upd s.ph i 5,lp:=5 }=0:=by unfold Cx.v at hv0;omega
    have:=EG hc i' hi'
    simp only[upd_ne _ _ hne] at this ⊢
    have:=h1 i' hi'
    omega
  .simp only[upd_ne _ _ hik] at y z
   have:=h1 i hi
   omega
 .rcases hp with ⟨rfl,rfl,hm⟩|⟨rfl,rfl,hm,hv0⟩
  .exact .inl ⟨(h3 y).1,hm y⟩
  .exact .inr (.inl ⟨by simp,by simp,k,hk,by simp[upd_same]⟩)
 .simp only at y;omega
 .have:=h.cas y
  refine⟨this.1,?_⟩
  have h2:=this.2
  simp only at hv ⊢
  omega
 .rw[mK (by omega) (by omega)];exact h.perm
 .have:=h.big
  simp only
  omega
theorem acM[Payload](F:x.Fit)(hG:GI x.P x.m0 tz Sx x.dM x.Fz x.Sh x.Ex j T q gs w t)(hP:PI x.jJ x.Wg x.m0 s j T w t)(hk:k<s.j)(mW:s.ph k=4)(hg:gs[x.m0+k]?=some g)(hkd:(T (x.m0+k)).kind=0)
 (hS:x.AtD1 (T (x.m0+k)).O g w) (sl:Option (Nat × Nat)):x.Goes tz Sx s gs w t sl (x.m0+k):=by
 obtain⟨ok,hwg,hnx,a,r,tm,hch⟩:=hP.yM
 obtain⟨hd,hdf,hrl⟩:=wd hG hP hk hkd
 rw[mW] at hd
 obtain⟨h1,h2,h3⟩:=ok.early hk (by omega)
 have hm4:4<=s.mp:=Nat.le_of_not_lt λy=>by have:=ok.j0 y;omega
 have hvl:=Uc ok
 have hn:=F.n1
 obtain⟨r0,hr0⟩:=hrl (by omega)
 have hr:∀ p,3<=p->∃ r,iU x.Wg (x.m0+k) r (t++MemOp.ofEvents (x.m0+k) g.frame.fn g.frame.place #[rd (stA x.Wg),wr (stA x.Wg)]):=λ_ _=>⟨r0,hr0.deaf (by rw[hdf,hd];decide) λe he=>by
  have:e=rd (stA x.Wg)\/e=wr (stA x.Wg):=by simpa using he
  rcases this with rfl|rfl
  .exact⟨rfl,stA x.Wg,rfl,rfl⟩
  .exact⟨rfl,stA x.Wg,rfl,rfl⟩⟩
 have Yk:∀ v,x.Hf (w.setCell (stA x.Wg) (.int .u64 v)) s.c:=λv=>(aX w _ _ (Ne.symm F.wn)).trans hnx
 have hch':∀ v,(w.setCell (stA x.Wg) (.int .u64 v)).heap[x.Ch]?=some (.chan x.len (s.bl.map x.sight).toArray false a r tm):=λv=>(aX w _ _ (Ne.symm F.wc)).trans hch
 by_cases Yl:s.mp=7\/s.mp=8
 .obtain⟨hl0,hv0⟩:=h3 Yl
  have oL:x.gZ s=x.v s*KK+1:=by unfold Cx.gZ;rw[if_neg (by omega),if_neg (by omega),if_pos (by omega),if_pos hl0]
  have xQ:iW s=0:=by unfold iW;rw[if_neg (by omega)]
  obtain⟨v',hv'⟩:∃ v',x.v s=v'+1:=⟨x.v s-1,by omega⟩
  rw[oL,xQ,hv'] at hwg
  obtain⟨g',hst,hA,hB⟩:=hS.2 v' 1 (Nat.le_refl _) (by omega) (by simpa using hwg)
  by_cases hz:v'=0
  .subst hz
   obtain⟨m,hgo⟩:=hA ⟨rfl,rfl⟩
   have hvd:=JQ (x:=x) (lp:=5) hk (show s.ph k<=4 by omega) (p:=5) (by omega)
   have hok:=Hr ok hk mW (p:=5) (lp:=5) (.inr ⟨rfl,rfl,Yl,by omega⟩)
   refine pE hG hP hk hg hst (oH hwg _) (s':={ s with ph:=upd s.ph k 5,lp:=5 }) rfl rfl rfl rfl (λi hi=>rfl) (gJ hk (by omega) (by omega) (by omega) (by omega)) ⟨hok,?_,Yk _,a,r,tm,hch' _⟩ (pJ hG (bX _ _ _)) (.inr λ_=>(by simp))
    (dY:=⟨0,true,x.AtD2,(T (x.m0+k)).O,_,0,1⟩) (.inl ⟨rfl,xE F.C (λ_ _ y=>y.1) hgo,jX.refl (λ_ h=>h) _⟩) rfl ⟨?_,rfl,by simp,by simp,λ_=>rfl⟩ (by rw[hd];rfl) (hr 5) sl
   .have e1:x.gZ { s with ph:=upd s.ph k 5,lp:=5 }=1:=by unfold Cx.gZ;simp only;rw[if_neg (by omega),if_neg (by omega),if_pos (by omega)];rfl
    have e2:iW { s with ph:=upd s.ph k 5,lp:=5 }=0:=by unfold iW;simp
    rw[e1,e2]
    have:=hwg.setSt (((0:Nat):Int)*KK+((1:Nat):Int))
    simpa using this
   .unfold Cx.Sw
    simp only[upd_same]
  .obtain⟨qn,hq⟩:=hB λy=>hz y.1
   have hvd:=JQ (x:=x) (lp:=s.lp) hk (show s.ph k<=4 by omega) (p:=8) (by omega)
   have hok:=Hr ok hk mW (p:=8) (lp:=s.lp) (.inl ⟨rfl,rfl,λ_=>by omega⟩)
   refine pE hG hP hk hg hst (oH hwg _) (s':={ s with ph:=upd s.ph k 8,lp:=s.lp }) rfl rfl rfl rfl (λi hi=>rfl) (gJ hk (by omega) (by omega) (by omega) (by omega)) ⟨hok,?_,Yk _,a,r,tm,hch' _⟩ (pJ hG (bX _ _ _)) (.inr λy=>y)
    (dY:=⟨1,true,x.AtD4,(T (x.m0+k)).O,w,qn,1⟩) (.inr (.inl ⟨rfl,rfl,hq⟩)) rfl ⟨?_,rfl,by simp,by simp,λy=>absurd rfl y⟩ (by rw[hd];rfl) (hr 8) sl
   .have e1:x.gZ { s with ph:=upd s.ph k 8,lp:=s.lp }=(v':Int)*KK+((1:Nat):Int):=by
     unfold Cx.gZ
     simp only
     rw[if_neg (by omega),if_neg (by omega),if_pos (by omega),if_pos hl0]
     have:x.v { s with ph:=upd s.ph k 8,lp:=s.lp }=v':=by omega
     rw[this]
     rfl
    have e2:iW { s with ph:=upd s.ph k 8,lp:=s.lp }=0:=xQ
    rw[e1,e2]
    exact hwg.setSt _
   .unfold Cx.Sw
    simp only[upd_same]
 .have oL:x.gZ s=x.v s*KK:=by unfold Cx.gZ;rw[if_neg (by omega),if_pos (by omega)]
  have xQ:iW s=0:=by unfold iW;rw[if_neg (by omega)]
  have hvd:=JQ (x:=x) (lp:=s.lp) hk (show s.ph k<=4 by omega) (p:=8) (by omega)
  obtain⟨v',hv'⟩:∃ v',x.v s=v'+1:=⟨x.v s-1,by omega⟩
  rw[oL,xQ,hv'] at hwg
  obtain⟨g',hst,_,hB⟩:=hS.2 v' 0 (by omega) (by omega) (by simpa using hwg)
  obtain⟨qn,hq⟩:=hB λy=>absurd y.2 (by decide)
  have hok:=Hr ok hk mW (p:=8) (lp:=s.lp) (.inl ⟨rfl,rfl,λy=>absurd y Yl⟩)
  refine pE hG hP hk hg hst (oH hwg _) (s':={ s with ph:=upd s.ph k 8,lp:=s.lp }) rfl rfl rfl rfl (λi hi=>rfl) (gJ hk (by omega) (by omega) (by omega) (by omega)) ⟨hok,?_,Yk _,a,r,tm,hch' _⟩ (pJ hG (bX _ _ _)) (.inr λy=>y)
   (dY:=⟨1,true,x.AtD4,(T (x.m0+k)).O,w,qn,1⟩) (.inr (.inl ⟨rfl,rfl,hq⟩)) rfl ⟨?_,rfl,by simp,by simp,λy=>absurd rfl y⟩ (by rw[hd];rfl) (hr 8) sl
  .have e1:x.gZ { s with ph:=upd s.ph k 8,lp:=s.lp }=(v':Int)*KK+((0:Nat):Int):=by
    unfold Cx.gZ
    simp only
    rw[if_neg (by omega),if_pos (by omega)]
    have:x.v { s with ph:=upd s.ph k 8,lp:=s.lp }=v':=by omega
    rw[this]
    simp
   have e2:iW { s with ph:=upd s.ph k 8,lp:=s.lp }=0:=xQ
   rw[e1,e2]
   exact hwg.setSt _
  .unfold Cx.Sw
   simp only[upd_same]
end
section
variable {x:Cx} {tz:Nat} {Sx:Nat->Prop} {s:Sg} {j:Nat} {T:Nat->Th} {q:Nat->Nat} {gs:Array Goroutine} {w:World} {t:Trace} {k:Nat} {g:Goroutine}
theorem xR{a:Addr}{e:Event}(h:e∈#[rd a]):e∈#[rd a,wr a]:=by
 have:e=rd a:=by simpa using h
 simp[this]
theorem Ym{a:Addr}{e:Event}(h:e∈#[wr a]):e∈#[rd a,wr a]:=by
 have:e=wr a:=by simpa using h
 simp[this]
theorem Cb(h:x.ok s)(hk:k<s.j){p:Nat}(h5:5<=s.ph k)(hp:p=s.ph k+1)(hp8:p<=8):x.ok { s with ph:=upd s.ph k p,lp:=p }:=by
 obtain⟨hm,hl,ho⟩:=h.last k hk h5 (by omega)
 have hpt:x.mV { s with ph:=upd s.ph k p,lp:=p }<x.mV s:=gJ hk (by omega) (by omega) (by omega) (by omega)
 refine⟨h.jn,h.j0,h.jN,h.mp,λi hi=>?_,λi hi y=>?_,λi hi y z=>?_,λy=>?_,λy=>?_,λy=>?_,?_,?_⟩
 .by_cases hik:i=k
  .subst hik;simp only[upd_same];omega
  .simp only[upd_ne _ _ hik];exact h.Yg i hi
 .by_cases hik:i=k
  .subst hik;exact h.late i hi (by omega)
  .simp only[upd_ne _ _ hik] at y;exact h.late i hi y
 .by_cases hik:i=k
  .subst hik
   simp only[upd_same] at y z ⊢
   refine⟨hm,trivial,λi' hi' hne=>?_⟩
   simp only[upd_ne _ _ hne]
   exact ho i' hi' hne
  .simp only[upd_ne _ _ hik] at y z
   have:=ho i hi hik
   omega
 .by_cases h8:p=8
  .refine .inr (.inr ⟨h8,λi hi=>?_⟩)
   by_cases hik:i=k
   .subst hik;simp only[upd_same];exact h8
   .simp only[upd_ne _ _ hik];exact ho i hi hik
  .exact .inr (.inl ⟨by simp only;omega,by simp only;omega,k,hk,by simp[upd_same]⟩)
 .simp only at y;omega
 .simp only at y;omega
 .rw[mK (by omega) (by omega)];exact h.perm
 .have:=h.big
  simp only
  omega
theorem afw[Payload](F:x.Fit)(hG:GI x.P x.m0 tz Sx x.dM x.Fz x.Sh x.Ex j T q gs w t)(hP:PI x.jJ x.Wg x.m0 s j T w t)(hk:k<s.j)(mW:s.ph k=5)(hg:gs[x.m0+k]?=some g)(hkd:(T (x.m0+k)).kind=0)
 (hS:x.AtD2 (T (x.m0+k)).O g w) (sl:Option (Nat × Nat)):x.Goes tz Sx s gs w t sl (x.m0+k):=by
 obtain⟨ok,hwg,hnx,a,r,tm,hch⟩:=hP.yM
 obtain⟨hd,hdf,hrl⟩:=wd hG hP hk hkd
 rw[mW] at hd
 obtain⟨hm,hl,ho⟩:=ok.last k hk (by omega) (by omega)
 have oL:x.gZ s=1:=by unfold Cx.gZ;rw[if_neg (by omega),if_neg (by omega),if_pos (by omega),if_neg (by omega),if_pos (by omega)]
 have xQ:iW s=0:=by unfold iW;rw[if_neg (by omega)]
 rw[oL,xQ] at hwg
 obtain⟨g',hst,m,hgo⟩:=hS.2 hwg
 obtain⟨r0,hr0⟩:=hrl (by omega)
 have hev:=pJ hG (i:=x.m0+k) (w':=w) rfl
 refine pE hG hP hk hg hst (Cx.Only.refl w) (s':={ s with ph:=upd s.ph k 6,lp:=6 }) rfl rfl rfl rfl (λi hi=>rfl) (gJ hk (by omega) (by omega) (by omega) (by omega)) ⟨Cb ok hk (by omega) (by omega) (by omega),?_,hnx,a,r,tm,hch⟩ (λe he=>hev e (xR he)) (.inr λ_=>(by simp))
  (dY:=⟨0,true,x.AtD3,(T (x.m0+k)).O,w,0,1⟩) (.inl ⟨rfl,xE F.C (λ_ _ y=>y.1) hgo,jX.refl (λ_ h=>h) _⟩) rfl ⟨?_,rfl,by simp,by simp,λ_=>rfl⟩ (by rw[hd];rfl) (λ_=>⟨r0,hr0.deaf (by rw[hdf,hd];decide) λe he=>?_⟩) sl
 .have e1:x.gZ { s with ph:=upd s.ph k 6,lp:=6 }=1:=by unfold Cx.gZ;simp only;rw[if_neg (by omega),if_neg (by omega),if_pos (by omega)];rfl
  have e2:iW { s with ph:=upd s.ph k 6,lp:=6 }=0:=by unfold iW;simp
  rw[e1,e2];exact hwg
 .unfold Cx.Sw
  simp only[upd_same]
 .have:e=rd (stA x.Wg):=by simpa using he
  subst this
  exact⟨rfl,stA x.Wg,rfl,rfl⟩
theorem afx[Payload](F:x.Fit)(hG:GI x.P x.m0 tz Sx x.dM x.Fz x.Sh x.Ex j T q gs w t)(hP:PI x.jJ x.Wg x.m0 s j T w t)(hk:k<s.j)(mW:s.ph k=6)(hg:gs[x.m0+k]?=some g)(hkd:(T (x.m0+k)).kind=0)
 (hS:x.AtD3 (T (x.m0+k)).O g w) (sl:Option (Nat × Nat)):x.Goes tz Sx s gs w t sl (x.m0+k):=by
 obtain⟨ok,hwg,hnx,a,r,tm,hch⟩:=hP.yM
 obtain⟨hd,hdf,hrl⟩:=wd hG hP hk hkd
 rw[mW] at hd
 obtain⟨hm,hl,ho⟩:=ok.last k hk (by omega) (by omega)
 have oL:x.gZ s=1:=by unfold Cx.gZ;rw[if_neg (by omega),if_neg (by omega),if_pos (by omega),if_neg (by omega),if_pos (by omega)]
 have xQ:iW s=0:=by unfold iW;rw[if_neg (by omega)]
 rw[oL,xQ] at hwg
 obtain⟨g',hst,m,hgo⟩:=hS.2 hwg
 obtain⟨r0,hr0⟩:=hrl (by omega)
 have hev:=pJ hG (i:=x.m0+k) (w':=w.setCell (stA x.Wg) (.int .u64 0)) (bX _ _ _)
 refine pE hG hP hk hg hst (oH hwg _) (s':={ s with ph:=upd s.ph k 7,lp:=7 }) rfl rfl rfl rfl (λi hi=>rfl) (gJ hk (by omega) (by omega) (by omega) (by omega)) ⟨Cb ok hk (by omega) (by omega) (by omega),?_,(aX w _ _ (Ne.symm F.wn)).trans hnx,a,r,tm,(aX w _ _ (Ne.symm F.wc)).trans hch⟩ (λe he=>hev e (Ym he)) (.inr λ_=>(by simp))
  (dY:=⟨0,true,x.AtD4,(T (x.m0+k)).O,_,0,1⟩) (.inl ⟨rfl,xE F.C (λ_ _ y=>y.1) hgo,jX.refl (λ_ h=>h) _⟩) rfl ⟨?_,rfl,by simp,by simp,λ_=>rfl⟩ (by rw[hd];rfl) (λ_=>⟨r0,hr0.deaf (by rw[hdf,hd];decide) λe he=>?_⟩) sl
 .have e1:x.gZ { s with ph:=upd s.ph k 7,lp:=7 }=0:=by unfold Cx.gZ;simp only;rw[if_neg (by omega),if_neg (by omega),if_pos (by omega)];rfl
  have e2:iW { s with ph:=upd s.ph k 7,lp:=7 }=0:=by unfold iW;simp
  rw[e1,e2];exact hwg.setSt 0
 .unfold Cx.Sw
  simp only[upd_same]
 .have:e=wr (stA x.Wg):=by simpa using he
  subst this
  exact⟨rfl,stA x.Wg,rfl,rfl⟩
theorem afy[Payload](F:x.Fit)(hG:GI x.P x.m0 tz Sx x.dM x.Fz x.Sh x.Ex j T q gs w t)(hP:PI x.jJ x.Wg x.m0 s j T w t)(hk:k<s.j)(mW:s.ph k=7)(hg:gs[x.m0+k]?=some g)(hkd:(T (x.m0+k)).kind=0)
 (hS:x.AtD4 (T (x.m0+k)).O g w) (sl:Option (Nat × Nat)):x.Goes tz Sx s gs w t sl (x.m0+k):=by
 obtain⟨ok,hwg,hnx,a,r,tm,hch⟩:=hP.yM
 obtain⟨hd,hdf,hrl⟩:=wd hG hP hk hkd
 rw[mW] at hd
 obtain⟨hm,hl,ho⟩:=ok.last k hk (by omega) (by omega)
 have oL:x.gZ s=0:=by unfold Cx.gZ;rw[if_neg (by omega),if_neg (by omega),if_pos (by omega),if_neg (by omega),if_neg (by omega)]
 have xQ:iW s=0:=by unfold iW;rw[if_neg (by omega)]
 rw[oL,xQ] at hwg
 obtain⟨_,hmay,hgo⟩:=hS
 obtain⟨g',hst,qn,hq⟩:=hgo hwg
 obtain⟨r0,hr0⟩:=hrl (by omega)
 have hW:(smA x.Wg).block<(w.setCell (smA x.Wg) (.int .u32 1)).heap.size:=by rw[bX];exact(hG.shl x.Wg (.inl rfl)).1
 have hwk:wk x.P g g'=true:=by
  unfold wk
  rw[hmay]
  rcases hq.status with y|y<;>rw[y]<;>rfl
 refine pE hG hP hk hg hst (JO hwg _) (s':={ s with ph:=upd s.ph k 8,lp:=8 }) rfl rfl rfl rfl (λi hi=>rfl) (gJ hk (by omega) (by omega) (by omega) (by omega)) ⟨Cb ok hk (by omega) (by omega) (by omega),?_,(aX w _ _ (Ne.symm F.wn)).trans hnx,a,r,tm,(aX w _ _ (Ne.symm F.wc)).trans hch⟩ (λe he=>⟨JL (.inl rfl) hW e he,?_⟩) (.inl hwk)
  (dY:=⟨1,true,x.AtD4,(T (x.m0+k)).O,w,qn,1⟩) (.inr (.inl ⟨rfl,rfl,hq⟩)) rfl ⟨?_,rfl,by simp,by simp,λy=>absurd rfl y⟩ (by rw[hd];rfl) (λ_=>⟨r0,hr0.sem⟩) sl
 .have e1:x.gZ { s with ph:=upd s.ph k 8,lp:=8 }=0:=by unfold Cx.gZ;simp only;rw[if_neg (by omega),if_neg (by omega),if_pos (by omega)];rfl
  have e2:iW { s with ph:=upd s.ph k 8,lp:=8 }=1:=by unfold iW;simp only;rw[if_pos ⟨hm,trivial⟩]
  rw[e1,e2];exact hwg.setSm 1
 .have:e=ConcR.mk .disable\/e=rd (smA x.Wg)\/e=wr (smA x.Wg)\/e=ConcR.mk .enable:=by simpa [semEvents,ConcR.mk,rd,wr] using he
  rcases this with rfl|rfl|rfl|rfl<;>simp[MemAct.ofEvent,ConcR.mk,rd,wr]
 .unfold Cx.Sw
  simp only[upd_same]
end
variable {lp m vs:Nat}
section
variable {x:Cx} {tz:Nat} {Sx:Nat->Prop} {s:Sg} {j:Nat} {T:Nat->Th} {q:Nat->Nat} {gs:Array Goroutine} {w:World} {t:Trace} {g:Goroutine}
theorem qQ(h:x.mw { s with mp:=m,vs:=vs,lp:=lp }<x.mw s):x.mV { s with mp:=m,vs:=vs,lp:=lp }<x.mV s:=by
 unfold Cx.mV
 simp only
 omega
theorem sU(h:x.ok s)(a1:m<4->s.j=0)(a2:4<m->s.j=x.n)(a3:m<=11)
 (a4:∀ i,i<s.j->5<=s.ph i->s.ph i<=7->(m=7\/m=8)/\lp=s.ph i)
 (a5:(m=7\/m=8)->(lp=0/\0<x.v s)\/(5<=lp/\lp<=7/\∃ i,i<s.j/\s.ph i=lp)\/(lp=8/\∀ i,i<s.j->s.ph i=8))
 (a6:9<=m->∀ i,i<s.j->s.ph i=8) (a7:m=6->1<=vs/\x.v s<=vs) (hw:x.mw { s with mp:=m,vs:=vs,lp:=lp }<x.mw s):x.ok { s with mp:=m,vs:=vs,lp:=lp } :=
 ⟨h.jn,a1,a2,a3,h.Yg,h.late,λi hi y z=>⟨(a4 i hi y z).1,(a4 i hi y z).2,(h.last i hi y z).2.2⟩,a5,a6,a7,h.perm,by
  have:=qQ hw
  have:=h.big
  simp only
  omega⟩
theorem fP(h:x.ok s)(hm:s.mp≠7/\s.mp≠8):∀ i,i<s.j->5<=s.ph i->s.ph i<=7->False:=λi hi y z=>by
 have:=(h.last i hi y z).1
 omega
theorem xS{m:Mark}{B:Nat}(h1:(MemAct.mark m).touch?=none)(h2:(MemAct.mark m).low B)(h3:m≠.release (sA x.Wg)):∀ e∈#[ConcR.mk m],LV x.dM x.Fz (λg b=>(T g).O b) 0 B e/\MemAct.ofEvent e≠.mark (.release (sA x.Wg)):=λe he=>by
 have:e=ConcR.mk m:=by simpa using he
 subst this
 exact⟨xu h1 h2,λy=>h3 (by injection y)⟩
theorem PZ{m:Mark}{a:Addr}{B:Nat}(hm:m=.read a\/m=.write a)(ha:a.block=x.Wg)(hb:x.Wg<B):∀ e∈#[ConcR.mk m],LV x.dM x.Fz (λg b=>(T g).O b) 0 B e/\MemAct.ofEvent e≠.mark (.release (sA x.Wg)):=λe he=>by
 have:e=ConcR.mk m:=by simpa using he
 subst this
 exact⟨PU hm (.inl ha) (ha▸hb),λy=>by
  have:m=.release (sA x.Wg):=by injection y
  rcases hm with z|z<;>rw[z] at this<;>cases this⟩
theorem LW[Payload](hG:GI x.P x.m0 tz Sx x.dM x.Fz x.Sh x.Ex j T q gs w t)(hP:PI x.jJ x.Wg x.m0 s j T w t)(hg:gs[0]?=some g)(hk0:(T 0).kind=0){mk:Mark}{S:(Nat->Prop)->Goroutine->World->Prop}(hS:x.EF mk S (T 0).O g w) 
 (hok:x.ok { s with mp:=m,vs:=vs,lp:=lp }) (hst:x.gZ { s with mp:=m,vs:=vs,lp:=lp }=x.gZ s) (hsm:iW { s with mp:=m,vs:=vs,lp:=lp }=iW s) (hw:x.mw { s with mp:=m,vs:=vs,lp:=lp }<x.mw s)
 (hev:∀ e∈#[ConcR.mk mk],LV x.dM x.Fz (λg b=>(T g).O b) 0 w.heap.size e/\MemAct.ofEvent e≠.mark (.release (sA x.Wg))) (hSm:∀ O g w,x.Fg S O g w->x.Fg (x.Sm { s with mp:=m,vs:=vs,lp:=lp }) O g w)
 (hd:deafBehind (if s.mp=0\/s.mp=4\/s.mp=11 then 0 else 1) #[ConcR.mk mk]=if m=0\/m=4\/m=11 then 0 else 1) (sl:Option (Nat × Nat)):x.Goes tz Sx s gs w t sl 0:=by
 obtain⟨_,hwg,hnx,hch⟩:=hP.yM
 obtain⟨g',hstp,hco⟩:=hS
 exact uy hG hP hg hk0 hstp (Cx.Only.refl w) (s':={ s with mp:=m,vs:=vs,lp:=lp }) rfl rfl rfl (qQ hw) ⟨hok,by rw[hst,hsm];exact hwg,hnx,hch⟩ hev (λw' r=>hSm _ _ _ (hco w' r)) hd sl
theorem ME:x.v { s with mp:=m,vs:=vs,lp:=lp }=x.v s:=rfl
theorem acN[Payload](F:x.Fit)(hG:GI x.P x.m0 tz Sx x.dM x.Fz x.Sh x.Ex j T q gs w t)(hP:PI x.jJ x.Wg x.m0 s j T w t)(hg:gs[0]?=some g)(hk0:(T 0).kind=0)(hm:s.mp=1)(hS:x.Ub (T 0).O g w)(sl:Option (Nat × Nat)):x.Goes tz Sx s gs w t sl 0:=by
 obtain⟨ok,hwg,hnx,a,r,tm,hch⟩:=hP.yM
 have hj:=ok.j0 (by omega)
 have e0:x.gZ s=0:=by unfold Cx.gZ;rw[if_pos (by omega)]
 have e1:iW s=0:=by unfold iW;rw[if_neg (by omega)]
 have hv:x.v s=x.n:=by unfold Cx.v cnt;rw[hj];simp[sumTo]
 rw[e0,e1] at hwg
 obtain⟨g',hst,hco⟩:=hS hwg
 have hmw:x.mw { s with mp:=2,vs:=s.vs,lp:=s.lp }<x.mw s:=by unfold Cx.mw;simp only[hm];simp
 refine uy hG hP hg hk0 hst (oH hwg _) (s':={ s with mp:=2,vs:=s.vs,lp:=s.lp }) rfl rfl rfl (qQ hmw) ⟨sU ok (λ_=>hj) (λy=>by omega) (by omega) (λi hi=>by omega) (λy=>by omega) (λy=>by omega) (λy=>by omega) hmw,?_,(aX w _ _ (Ne.symm F.wn)).trans hnx,a,r,tm,(aX w _ _ (Ne.symm F.wc)).trans hch⟩ (pJ hG (bX _ _ _)) hco (by simp only[hm];rfl) sl
 have e2:x.gZ { s with mp:=2,vs:=s.vs,lp:=s.lp }=x.n*KK:=by unfold Cx.gZ;simp only[ME,hv];rfl
 have e3:iW { s with mp:=2,vs:=s.vs,lp:=s.lp }=0:=by unfold iW;simp
 rw[e2,e3]
 exact hwg.setSt _
theorem Yn[Payload](F:x.Fit)(hG:GI x.P x.m0 tz Sx x.dM x.Fz x.Sh x.Ex j T q gs w t)(hP:PI x.jJ x.Wg x.m0 s j T w t)(hg:gs[0]?=some g)(hk0:(T 0).kind=0)(hm:s.mp=5)(hS:x.AtW1 (T 0).O g w)(sl:Option (Nat × Nat)):x.Goes tz Sx s gs w t sl 0:=by
 obtain⟨ok,hwg,hnx,hch⟩:=hP.yM
 have e0:x.gZ s=x.v s*KK:=by unfold Cx.gZ;rw[if_neg (by omega),if_pos (by omega)]
 have e1:iW s=0:=by unfold iW;rw[if_neg (by omega)]
 have hvl:=Uc ok
 have hn:=F.n1
 rw[e0,e1] at hwg
 obtain⟨g',hst,hco⟩:=hS (x.v s) (by omega) hwg
 have hev:=pJ hG (i:=0) (w':=w) rfl
 have hno:=fP ok (by omega)
 have hj:=ok.jN (by omega)
 by_cases hv:x.v s=0
 .have hmw:x.mw { s with mp:=10,vs:=s.vs,lp:=s.lp }<x.mw s:=by unfold Cx.mw;simp only[hm];simp
  have h8:∀ i,i<s.j->s.ph i=8:=λi hi=>by
   have hc:cnt s=0:=by unfold Cx.v at hv;omega
   have h5:=EG hc i hi
   have h8:=ok.Yg i hi
   exact Classical.byContradiction λhne=>hno i hi h5 (by omega)
  refine uy hG hP hg hk0 hst (Cx.Only.refl w) (s':={ s with mp:=10,vs:=s.vs,lp:=s.lp }) rfl rfl rfl (qQ hmw) ⟨sU ok (λy=>by omega) (λ_=>hj) (by omega) (λi hi y z=>(hno i hi y z).elim) (λy=>by omega) (λ_=>h8) (λy=>by omega) hmw,?_,hnx,hch⟩ (λe he=>hev e (xR he)) (λw' r=>(hco w' r).1 hv) (by simp only[hm];rfl) sl
  have e2:x.gZ { s with mp:=10,vs:=s.vs,lp:=s.lp }=0:=by unfold Cx.gZ;simp
  have e3:iW { s with mp:=10,vs:=s.vs,lp:=s.lp }=0:=by unfold iW;simp
  rw[e2,e3]
  rw[hv] at hwg
  simpa using hwg
 .have hmw:x.mw { s with mp:=6,vs:=x.v s,lp:=s.lp }<x.mw s:=by unfold Cx.mw;simp only[hm];simp
  refine uy hG hP hg hk0 hst (Cx.Only.refl w) (s':={ s with mp:=6,vs:=x.v s,lp:=s.lp }) rfl rfl rfl (qQ hmw) ⟨sU ok (λy=>by omega) (λ_=>hj) (by omega) (λi hi y z=>(hno i hi y z).elim) (λy=>by omega) (λy=>by omega) (λ_=>⟨by omega,Nat.le_refl _⟩) hmw,?_,hnx,hch⟩ (λe he=>hev e (xR he)) (λw' r=>(hco w' r).2 hv) (by simp only[hm];rfl) sl
  have e2:x.gZ { s with mp:=6,vs:=x.v s,lp:=s.lp }=x.v s*KK:=by unfold Cx.gZ;simp only[ME];rfl
  have e3:iW { s with mp:=6,vs:=x.v s,lp:=s.lp }=0:=by unfold iW;simp
  rw[e2,e3]
  exact hwg
theorem acO[Payload](F:x.Fit)(hAW:∀ O g w,x.AnchW O g w->x.Fg x.AtW1 O g w)(hG:GI x.P x.m0 tz Sx x.dM x.Fz x.Sh x.Ex j T q gs w t)(hP:PI x.jJ x.Wg x.m0 s j T w t)(hg:gs[0]?=some g)(hk0:(T 0).kind=0)(hm:s.mp=6)(hS:x.AtW2 s.vs (T 0).O g w)(sl:Option (Nat × Nat)):x.Goes tz Sx s gs w t sl 0:=by
 obtain⟨ok,hwg,hnx,a,r,tm,hch⟩:=hP.yM
 have e0:x.gZ s=x.v s*KK:=by unfold Cx.gZ;rw[if_neg (by omega),if_pos (by omega)]
 have e1:iW s=0:=by unfold iW;rw[if_neg (by omega)]
 have hvl:=Uc ok
 have hn:=F.n1
 rw[e0,e1] at hwg
 have hno:=fP ok (by omega)
 have hj:=ok.jN (by omega)
 have hcas:=ok.cas hm
 obtain⟨hA,hB⟩:=hS (x.v s) (by omega) hwg
 by_cases hv:x.v s=s.vs
 .obtain⟨g',hst,hco⟩:=hA hv
  have hmw:x.mw { s with mp:=7,vs:=s.vs,lp:=0 }<x.mw s:=by unfold Cx.mw;simp only[hm];simp;omega
  refine uy hG hP hg hk0 hst (oH hwg _) (s':={ s with mp:=7,vs:=s.vs,lp:=0 }) rfl rfl rfl (qQ hmw) ⟨sU ok (λy=>by omega) (λ_=>hj) (by omega) (λi hi y z=>(hno i hi y z).elim) (λ_=>.inl ⟨rfl,by omega⟩) (λy=>by omega) (λy=>by omega) hmw,?_,(aX w _ _ (Ne.symm F.wn)).trans hnx,a,r,tm,(aX w _ _ (Ne.symm F.wc)).trans hch⟩ (pJ hG (bX _ _ _)) hco (by simp only[hm];rfl) sl
  have e2:x.gZ { s with mp:=7,vs:=s.vs,lp:=0 }=x.v s*KK+1:=by unfold Cx.gZ;simp only[ME];rfl
  have e3:iW { s with mp:=7,vs:=s.vs,lp:=0 }=0:=by unfold iW;simp
  rw[e2,e3]
  exact hwg.setSt _
 .obtain⟨g',hst,hco⟩:=hB hv
  have hev:=pJ hG (i:=0) (w':=w) rfl
  have hmw:x.mw { s with mp:=5,vs:=s.vs,lp:=s.lp }<x.mw s:=by unfold Cx.mw;simp only[hm,ME];simp;omega
  refine uy hG hP hg hk0 hst (Cx.Only.refl w) (s':={ s with mp:=5,vs:=s.vs,lp:=s.lp }) rfl rfl rfl (qQ hmw) ⟨sU ok (λy=>by omega) (λ_=>hj) (by omega) (λi hi y z=>(hno i hi y z).elim) (λy=>by omega) (λy=>by omega) (λy=>by omega) hmw,?_,hnx,a,r,tm,hch⟩ (λe he=>hev e (xR he)) (λw' r=>(hco w' r).bind (λ_ h=>h) hAW) (by simp only[hm];rfl) sl
  have e2:x.gZ { s with mp:=5,vs:=s.vs,lp:=s.lp }=x.v s*KK:=by unfold Cx.gZ;simp only[ME];rfl
  have e3:iW { s with mp:=5,vs:=s.vs,lp:=s.lp }=0:=by unfold iW;simp
  rw[e2,e3]
  exact hwg
theorem acP[Payload](F:x.Fit)(hG:GI x.P x.m0 tz Sx x.dM x.Fz x.Sh x.Ex j T q gs w t)(hP:PI x.jJ x.Wg x.m0 s j T w t)(hg:gs[0]?=some g)(hk0:(T 0).kind=0)(hm:s.mp=8)(hS:x.AtW3 (T 0).O g w)(sl:Option (Nat × Nat)) :
 (stepG x.P true g w=.go { g with status:=.blocked } w #[]/\g.offers=none/\x.jJ.TY s)\/x.Goes tz Sx s gs w t sl 0:=by
 obtain⟨ok,hwg,hnx,a,r,tm,hch⟩:=hP.yM
 obtain⟨ho,hA,hB⟩:=hS
 by_cases h8:s.lp=8
 .have e0:x.gZ s=0:=by unfold Cx.gZ;rw[if_neg (by omega),if_neg (by omega),if_pos (by omega),if_neg (by omega),if_neg (by omega)]
  have e1:iW s=1:=by unfold iW;rw[if_pos ⟨.inr hm,h8⟩]
  rw[e0,e1] at hwg
  obtain⟨g',hst,hco⟩:=hB hwg
  have hj:=ok.jN (by omega)
  have hall:∀ i,i<s.j->s.ph i=8:=by
   rcases ok.reg (.inr hm) with y|y|y
   .omega
   .omega
   .exact y.2
  have hmw:x.mw { s with mp:=9,vs:=s.vs,lp:=s.lp }<x.mw s:=by unfold Cx.mw;simp only[hm];simp
  have hW:(smA x.Wg).block<(w.setCell (smA x.Wg) (.int .u32 0)).heap.size:=by rw[bX];exact(hG.shl x.Wg (.inl rfl)).1
  refine .inr (uy hG hP hg hk0 hst (JO hwg _) (s':={ s with mp:=9,vs:=s.vs,lp:=s.lp }) rfl rfl rfl (qQ hmw) ⟨sU ok (λy=>by omega) (λ_=>hj) (by omega) (λi hi y z=>by have:=hall i hi;omega) (λy=>by omega) (λ_=>hall) (λy=>by omega) hmw,?_,(aX w _ _ (Ne.symm F.wn)).trans hnx,a,r,tm,(aX w _ _ (Ne.symm F.wc)).trans hch⟩ (λe he=>⟨JL (.inl rfl) hW e he,?_⟩) hco (by simp only[hm];rfl) sl)
  .have e2:x.gZ { s with mp:=9,vs:=s.vs,lp:=s.lp }=0:=by unfold Cx.gZ;simp
   have e3:iW { s with mp:=9,vs:=s.vs,lp:=s.lp }=0:=by unfold iW;simp
   rw[e2,e3]
   exact hwg.setSm 0
  .have:e=ConcR.mk .disable\/e=rd (smA x.Wg)\/e=wr (smA x.Wg)\/e=ConcR.mk .enable:=by simpa [semEvents,ConcR.mk,rd,wr] using he
   rcases this with rfl|rfl|rfl|rfl<;>simp[MemAct.ofEvent,ConcR.mk,rd,wr]
 .have e1:iW s=0:=by unfold iW;rw[if_neg (λy=>h8 y.2)]
  rw[e1] at hwg
  exact .inl ⟨hA ⟨_,hwg⟩,ho,hm,h8⟩
theorem Yo[Payload](hG:GI x.P x.m0 tz Sx x.dM x.Fz x.Sh x.Ex j T q gs w t)(hP:PI x.jJ x.Wg x.m0 s j T w t)(hg:gs[0]?=some g)(hk0:(T 0).kind=0)(hm:s.mp=9)(hS:x.AtW4 (T 0).O g w)(sl:Option (Nat × Nat)):x.Goes tz Sx s gs w t sl 0:=by
 obtain⟨ok,hwg,hnx,hch⟩:=hP.yM
 have e0:x.gZ s=0:=by unfold Cx.gZ;rw[if_neg (by omega),if_neg (by omega),if_neg (by omega)]
 have e1:iW s=0:=by unfold iW;rw[if_neg (by omega)]
 rw[e0,e1] at hwg
 obtain⟨g',hst,hco⟩:=hS hwg
 have hev:=pJ hG (i:=0) (w':=w) rfl
 have hno:=fP ok (by omega)
 have hmw:x.mw { s with mp:=10,vs:=s.vs,lp:=s.lp }<x.mw s:=by unfold Cx.mw;simp only[hm];simp
 refine uy hG hP hg hk0 hst (Cx.Only.refl w) (s':={ s with mp:=10,vs:=s.vs,lp:=s.lp }) rfl rfl rfl (qQ hmw) ⟨sU ok (λy=>by omega) (λ_=>ok.jN (by omega)) (by omega) (λi hi y z=>(hno i hi y z).elim) (λy=>by omega) (λ_=>ok.fin (by omega)) (λy=>by omega) hmw,?_,hnx,hch⟩ (λe he=>hev e (xR he)) hco (by simp only[hm];rfl) sl
 have e2:x.gZ { s with mp:=10,vs:=s.vs,lp:=s.lp }=0:=by unfold Cx.gZ;simp
 have e3:iW { s with mp:=10,vs:=s.vs,lp:=s.lp }=0:=by unfold iW;simp
 rw[e2,e3]
 exact hwg
end
