/- Part of the proof. -/
import Derived.Test.YthbndfpeffcigaaGreatDoorZ26
namespace Go.Proofs.YthbndfpeffcigaaGreatDoor
open Go Go.Conc
open Go.ConcN (sumTo upd sumTo_upd upd_ne upd_same sumTo_congr WgLive RW PayAt Has)
open Go.ConcR (KK wgBlock WgAt stA smA rd wr Payload DC0)
section
variable [Payload] {x:Cx} {tz:Nat} {Sx:Nat->Prop} {s:Sg} {j:Nat} {T:Nat->Th} {q:Nat->Nat} {gs:Array Goroutine} {w:World} {t:Trace} {g:Goroutine}
theorem afz(hG:GI x.P x.m0 tz Sx x.dM x.Fz x.Sh x.Ex j T q gs w t)(hP:PI x.jJ x.Wg x.m0 s j T w t)(hg:gs[0]?=some g)(hk0:(T 0).kind=0)(hm:s.mp=4)(hjn:s.j<x.n)(hS:x.AtGo (x.n-s.j) (T 0).O g w)(sl:Option (Nat × Nat)):x.Goes tz Sx s gs w t sl 0:=by
 obtain⟨ok,hwg,hnx,hch⟩:=hP.yM
 have hj:s.j=j:=hP.cnt
 have hp:=hG.pos
 obtain⟨r,hr⟩:∃ r,x.n-s.j=r+1:=⟨x.n-s.j-1,by omega⟩
 rw[hr] at hS
 obtain⟨g',child,hst,hco,afA⟩:=hS
 have hcn:cnt { s with j:=s.j+1,ph:=upd s.ph s.j 0 }=cnt s+1:=by
  unfold cnt
  simp only[sumTo,upd_same]
  rw[sumTo_congr (g:=λi=>if s.ph i<=4 then 1 else 0) λi hi=>by simp only[upd_ne s.ph 0 (show i≠s.j by omega)]]
  rfl
 have hv:x.v { s with j:=s.j+1,ph:=upd s.ph s.j 0 }=x.v s:=by
  unfold Cx.v
  rw[hcn]
  simp only
  omega
 have hmw:x.mw { s with j:=s.j+1,ph:=upd s.ph s.j 0 }=x.mw s:=by unfold Cx.mw;simp only[hm];rfl
 have hpt:x.mV { s with j:=s.j+1,ph:=upd s.ph s.j 0 }<x.mV s:=by
  have hw0:sumTo (s.j+1) (λi=>LU (upd s.ph s.j 0 i))=sumTo s.j (λi=>LU (s.ph i))+10:=by
   simp only[sumTo,upd_same]
   rw[sumTo_congr (g:=λi=>LU (s.ph i)) λi hi=>by rw[upd_ne _ _ (by omega)]]
   rfl
  unfold Cx.mV
  rw[hmw]
  simp only
  rw[hw0]
  omega
 have hno:=fP ok (by omega)
 have hhd:hands { s with j:=s.j+1,ph:=upd s.ph s.j 0 }=hands s:=by
  unfold hands
  simp only[List.range_succ,List.filterMap_append,List.filterMap_cons,List.filterMap_nil,upd_same]
  rw[vk (f:=λi=>if s.ph i=1 then some (s.hd i) else none) λi hi=>by rw[upd_ne _ _ (by omega)]]
  simp
 have hold:∀ i,i<s.j+1->i≠s.j->i<s.j:=λi h1 h2=>by omega
 have hok:x.ok { s with j:=s.j+1,ph:=upd s.ph s.j 0 }:=by
  refine⟨by simp only;omega,λy=>by simp only at y;omega,λy=>by simp only at y;omega,ok.mp,λi hi=>?_,λi hi y=>?_,λi hi y z=>?_,λy=>by simp only at y;omega,λy=>by simp only at y;omega,λy=>by simp only at y;omega,by rw[hhd];exact ok.perm,by have:=ok.big;simp only;omega⟩
  .by_cases hik:i=s.j
   .rw[hik];simp[upd_same]
   .simp only[upd_ne _ _ hik];exact ok.Yg i (hold i hi hik)
  .by_cases hik:i=s.j
   .rw[hik] at y;simp[upd_same] at y
   .simp only[upd_ne _ _ hik] at y;exact ok.late i (hold i hi hik) y
  .by_cases hik:i=s.j
   .rw[hik] at y;simp[upd_same] at y
   .simp only[upd_ne _ _ hik] at y z;exact(hno i (hold i hi hik) y z).elim
 have hd0:(T 0).d=0:=by
  have:=(hP.tag 0 (.inl rfl)).2.2.2.2 (by rw[hk0];decide)
  rw[this]
  simp only[Cx.jJ,if_true,hm]
  rfl
 have hrr:∀ O,x.R O w w:=λO=>jX.refl (λ_ h=>h) w
 obtain⟨gs',u,f1,f2,f3,_,_⟩:=hG.spawn (dY:=⟨0,false,x.AtGo r,(T 0).O,w,0,0⟩) (c':=⟨0,false,x.jY,λ_=>False,w,0,0⟩) hg hst (.inl ⟨rfl,hco w (hrr _),hrr _⟩) rfl hd0 rfl (.inl ⟨rfl,afA w (hrr _),hrr _⟩) (λ_ h=>h) rfl sl
 refine⟨gs',w,u,f1,{ s with j:=s.j+1,ph:=upd s.ph s.j 0 },j+1,_,q,hpt,f3,by simp only[Cx.jJ];omega,λi hi=>?_,⟨hok,?_,hnx,hch⟩,λi hi hrl=>?_,hP.nor.app λop hop=>(f2 op hop).2.2 _⟩
 .by_cases hij:i=x.m0+j
  .subst hij
   rw[upd_same]
   simp only[Cx.jJ,if_neg (show x.m0+j≠0 by omega),show x.m0+j-x.m0=j by omega,hj,upd_same]
   refine⟨?_,by simp,by simp,λy=>(by cases y),λ_=>rfl⟩
   unfold Cx.Sw
   simp only[upd_same]
  .rw[upd_ne _ _ hij]
   by_cases hi0:i=0
   .subst hi0
    rw[upd_same]
    simp only[Cx.jJ,if_true]
    refine⟨?_,rfl,by simp,λy=>(by cases y),λ_=>by simp only[hm];rfl⟩
    unfold Cx.Sm
    simp only[hm]
    rw[show x.n-(s.j+1)=r by omega]
   .rw[upd_ne _ _ hi0]
    have hic:aY x.m0 j i:=hi.imp id λz=>⟨z.1,by omega⟩
    have hne:i-x.m0≠s.j:=by rcases hic with z|z<;>omega
    obtain⟨a1,a2,a3,a4,a5⟩:=hP.tag i hic
    simp only[Cx.jJ,if_neg hi0] at a1 a2 a3 a4 a5 ⊢
    simp only[upd_ne _ _ hne]
    refine⟨a1.trans ?_,a2,a3,a4,a5⟩
    unfold Cx.Sw
    simp only[upd_ne _ _ hne]
 .have e1:x.gZ { s with j:=s.j+1,ph:=upd s.ph s.j 0 }=x.gZ s:=by unfold Cx.gZ;rw[hv]
  rw[e1];exact hwg
 .by_cases hij:i=x.m0+j
  .subst hij
   have:=hrl.2
   rw[show x.m0+j-x.m0=s.j by omega] at this
   simp[upd_same] at this
  .have hi0:=hrl.1
   have hic:aY x.m0 j i:=hi.imp id λz=>⟨z.1,by omega⟩
   have hne:i-x.m0≠s.j:=by rcases hic with z|z<;>omega
   have h3:=hrl.2
   simp only[upd_ne _ _ hne] at h3
   obtain⟨r0,h0⟩:=hP.rel i hic ⟨hi0,h3⟩
   exact⟨r0,h0.still λop hop=>(f2 op hop).1⟩
structure Cx.Fin(x:Cx)(Sx:Nat->Prop)(gs:Array Goroutine)(w:World)(t:Trace):Prop where
 main:∃ O g,gs[0]?=some g/\x.Fg x.Next O g w/\(∀ b,O b->b<w.heap.size/\¬x.Fz b/\¬x.Sh b/\¬Sx b)
 size:gs.size=x.m0+x.n
 gone:∃ q,Leavers x.P t gs q
 past:Past (dX λb=>Sx b\/b=x.Wg) w.heap.size t
 deaf:Deaf t 0=0
 chan:∃ (bl:List Nat) (a r:Nat) (tm:Bool),bl.Perm (List.range x.len)/\w.heap[x.Ch]?=some (.chan x.len (bl.map x.sight).toArray false a r tm)
 low:(∀ b,x.Fz b->b<w.heap.size/\¬x.Sh b/\¬Sx b)/\(∀ b,x.Sh b->b<w.heap.size/\¬Sx b)/\∀ b,Sx b->b<w.heap.size
theorem acQ(F:x.Fit)(hG:GI x.P x.m0 tz Sx x.dM x.Fz x.Sh x.Ex j T q gs w t)(hP:PI x.jJ x.Wg x.m0 s j T w t)(hg:gs[0]?=some g)(hk0:(T 0).kind=0)(hm:s.mp=11)(hS:x.AtAcq (T 0).O g w)(sl:Option (Nat × Nat)) :
 ∃ gs' w' u,runT x.P (crowd gs w sl) 0=(.next (crowd gs' w' sl),u)/\x.Fin Sx gs' w' (t++u):=by
 obtain⟨ok,hwg,hnx,a,r,tm,hch⟩:=hP.yM
 have hj:s.j=j:=hP.cnt
 have hn:s.j=x.n:=ok.jN (by omega)
 have hp:=hG.pos
 obtain⟨g',hst,hco⟩:=hS
 have hall:=ok.fin (by omega)
 have hW:=(hG.shl x.Wg (.inl rfl)).1
 have hd0:(T 0).d=0:=by
  have:=(hP.tag 0 (.inl rfl)).2.2.2.2 (by rw[hk0];decide)
  rw[this]
  simp only[Cx.jJ,if_true,hm]
  rfl
 have hdf:Deaf t 0=0:=by
  obtain⟨_,_,_,h⟩:=hG.th 0 (.inl rfl)
  rw[h,hd0]
 have TW:(λg b=>(upd T 0 ⟨0,false,x.Next,(T 0).O,w,0,0⟩ g).O b)=λg b=>(T g).O b:=by
  funext g
  by_cases hgi:g=0
  .subst hgi;rw[upd_same]
  .rw[upd_ne _ _ hgi]
 have hrr:x.R (T 0).O w w:=jX.refl (λ_ h=>h) w
 obtain⟨f1,f2⟩:=hG.go nH (.inl rfl) (w':=w) (dY:=⟨0,false,x.Next,(T 0).O,w,0,0⟩) hg hst (.inl ⟨rfl,hco w hrr,hrr⟩) (by rw[hd0];rfl) (λb y=>y) (λb y=>.inl y) (λ_ _ _ _=>rfl) (Nat.le_refl _) rfl rfl rfl (λh=>h)
  (λe he=>by rw[TW];exact(xS (x:=x) (T:=T) (m:=.acquire (stA x.Wg)) (B:=w.heap.size) rfl hW (by simp) e he).1) sl
 have eu:MemOp.ofEvents 0 g.frame.fn g.frame.place #[ConcR.mk (.acquire (stA x.Wg))]=#[{ g:=0,fn:=g.frame.fn,pos:=g.frame.place,act:=.mark (.acquire (stA x.Wg)) }]:=by simp[ofEvents_eq,ConcR.mk,MemAct.ofEvent]
 refine⟨_,_,_,f1,?_,by rw[f2.sz];omega,⟨λi=>if i<x.m0 then q i else(T i).q,λi y hi hy=>?_,λi hi=>?_⟩,?_,?_,⟨s.bl,a,r,tm,?_,hch⟩,⟨hG.LK,hG.shl,hG.sxl⟩⟩
 .obtain⟨z,hz,TV,_⟩:=f2.th 0 (.inl rfl)
  rw[upd_same] at TV
  refine⟨(T 0).O,z,hz,?_,λb=>hG.oU 0 b⟩
  rcases TV with ⟨_,hz1,_⟩|⟨hz1,_⟩|⟨hz1,_⟩
  .exact hz1
  .cases hz1
  .cases hz1
 .by_cases him:i<x.m0
  .simp only[if_pos him]
   exact f2.lv i y hi him hy
  .simp only[if_neg him]
   have hlt:i<gs.size:=by
    have:=(Array.getElem?_eq_some_iff.1 hy).1
    simpa using this
   rw[hG.sz] at hlt
   have hic:aY x.m0 j i:=.inr ⟨by omega,hlt⟩
   obtain⟨z,hz,TV,hzd⟩:=f2.th i hic
   rw[hy] at hz
   cases hz
   rw[upd_ne _ _ (by omega)] at TV hzd
   have hq1:(T i).kind=1:=(hP.tag i hic).2.2.1.2 ⟨by omega,hall _ (by omega)⟩
   have hq2:(dN (wk x.P g g') (T i)).kind=1:=(kM _ _).1.2 hq1
   rcases TV with ⟨z1,_⟩|⟨_,_,z1⟩|⟨z1,_⟩
   .rw[hq2] at z1;cases z1
   .rw[hzd];exact z1
   .rw[hq2] at z1;cases z1
 .exact f2.above i (by rw[<-f2.sz];exact hi)
 .rw[eu]
  have hti:=hG.ti
  rw[<-hj,hn] at hti
  exact PE hti (λk h1 h2=>hP.rel k (.inr ⟨h1,by omega⟩) ⟨by omega,by rw[hall _ (by omega)];omega⟩) hP.nor hdf hW rfl rfl
 .obtain⟨_,_,_,h⟩:=f2.th 0 (.inl rfl)
  rw[h,upd_same]
 .have hpm:=ok.perm
  have hh:hands s=[]:=by
   unfold hands
   rw[vk (f:=λ_=>none) λi hi=>by rw[if_neg (by rw[hall i hi];decide)]]
   simp
  have hl:=ok.late 0 (by have:=F.n0;omega) (by rw[hall 0 (by have:=F.n0;omega)];decide)
  rw[hh,List.append_nil,show min s.c x.len=x.len by omega] at hpm
  exact hpm
theorem LX(F:x.Fit)(hAT:∀ O g w,x.JK O g w->x.T_ false x.jY O g w)(hAW:∀ O g w,x.AnchW O g w->x.Fg x.AtW1 O g w)(sl:Option (Nat × Nat))
 (hG:GI x.P x.m0 tz Sx x.dM x.Fz x.Sh x.Ex j T q gs w t) (hP:PI x.jJ x.Wg x.m0 s j T w t) :
 ∃ N gs' w' sl' t',runNT x.P N (crowd gs w sl) t=(.next (crowd gs' w' sl'),t')/\x.Fin Sx gs' w' t':=by
 refine engine (pr:=x.jJ) nH acI aft (λs i h=>?_) (λs h=>h.1 rfl) (x.Fin Sx) ?_ ?_ (x.mV s) s rfl j T q gs w t sl hG hP
 .simp only[Cx.jJ]
  have h1:=h.1
  have h2:=h.2
  simp[h1,h2]
 .intro s j T q gs w t hG hP hk
  obtain⟨ok,_⟩:=hP.yM
  have hj:s.j=j:=hP.cnt
  obtain⟨_,hm,hl⟩:=(hP.tag 0 (.inl rfl)).2.2.2.1 hk
  have hn:=ok.jN (by omega)
  have hp:=hG.pos
  obtain⟨i,hi,h8⟩:∃ i,i<s.j/\s.ph i≠8:=by
   rcases ok.reg (.inr hm) with ⟨_,y⟩|⟨y1,y2,i,hi,y3⟩|⟨y,_⟩
   .apply Classical.byContradiction
    intro hc
    have:cnt s=0:=PX λi hi=>Classical.byContradiction λh=>hc ⟨i,hi,h⟩
    unfold Cx.v at y
    omega
   .exact⟨i,hi,by omega⟩
   .exact(hl y).elim
  have hic:aY x.m0 j (x.m0+i):=.inr ⟨by omega,by omega⟩
  refine⟨x.m0+i,hic,?_⟩
  obtain⟨z,hz,TV,_⟩:=hG.th _ hic
  obtain⟨_,_,a3,a4,_⟩:=hP.tag _ hic
  rcases TV with ⟨z1,_⟩|⟨z1,_⟩|⟨z1,_⟩
  .exact z1
  .have:=(a3.1 z1).2
   rw[show x.m0+i-x.m0=i by omega] at this
   exact(h8 this).elim
  .have:=(a4 z1).1
   omega
 .intro s j T q gs w t sl i g hG hP hic hg hk _ hS
  obtain⟨ok,_⟩:=hP.yM
  have hj:s.j=j:=hP.cnt
  have hp:=hG.pos
  have fin:x.Goes tz Sx s gs w t sl i->∃ gs' w' u,runT x.P (crowd gs w sl) i=(.next (crowd gs' w' sl),u)/\(x.Fin Sx gs' w' (t++u)\/∃ s' j' T' q',x.jJ.Φ s'<x.jJ.Φ s/\GI x.P x.m0 tz Sx x.dM x.Fz x.Sh x.Ex j' T' q' gs' w' (t++u)/\PI x.jJ x.Wg x.m0 s' j' T' w' (t++u)):=λ⟨gs',w',u,h1,h2⟩=>⟨gs',w',u,h1,.inr h2⟩
  obtain⟨a1,_,a3,_⟩:=hP.tag i hic
  by_cases hi0:i=0
  .subst hi0
   rw[a1] at hS
   simp only[Cx.jJ,if_true] at hS
   have aib:=ok.mp
   have hW:=(hG.shl x.Wg (.inl rfl)).1
   unfold Cx.Sm at hS
   rcases (by omega:s.mp=0\/s.mp=1\/s.mp=2\/s.mp=3\/s.mp=4\/s.mp=5\/s.mp=6\/s.mp=7\/s.mp=8\/s.mp=9\/s.mp=10\/s.mp=11) with hm|hm|hm|hm|hm|hm|hm|hm|hm|hm|hm|hm<;>simp only[hm] at hS
   .have hmw:x.mw { s with mp:=1,vs:=s.vs,lp:=s.lp }<x.mw s:=by unfold Cx.mw;simp only[hm];simp
    exact .inr (fin (LW hG hP hg hk hS (sU ok (λ_=>ok.j0 (by omega)) (λy=>by omega) (by omega) (λi hi y z=>(fP ok (by omega) i hi y z).elim) (λy=>by omega) (λy=>by omega) (λy=>by omega) hmw) (by unfold Cx.gZ;simp only[hm,ME];rfl) (by unfold iW;simp only[hm];rfl) hmw (xS rfl trivial (by simp)) (λ_ _ _ h=>h) (by simp only[hm];rfl) sl))
   .exact .inr (fin (acN F hG hP hg hk hm hS sl))
   .have hmw:x.mw { s with mp:=3,vs:=s.vs,lp:=s.lp }<x.mw s:=by unfold Cx.mw;simp only[hm];simp
    exact .inr (fin (LW hG hP hg hk hS (sU ok (λ_=>ok.j0 (by omega)) (λy=>by omega) (by omega) (λi hi y z=>(fP ok (by omega) i hi y z).elim) (λy=>by omega) (λy=>by omega) (λy=>by omega) hmw) (by unfold Cx.gZ;simp only[hm,ME];rfl) (by unfold iW;simp only[hm];rfl) hmw (PZ (.inl rfl) rfl hW) (λ_ _ _ h=>h) (by simp only[hm];rfl) sl))
   .have hmw:x.mw { s with mp:=4,vs:=s.vs,lp:=s.lp }<x.mw s:=by unfold Cx.mw;simp only[hm];simp
    exact .inr (fin (LW hG hP hg hk hS (sU ok (λy=>by omega) (λy=>by omega) (by omega) (λi hi y z=>(fP ok (by omega) i hi y z).elim) (λy=>by omega) (λy=>by omega) (λy=>by omega) hmw) (by unfold Cx.gZ;simp only[hm,ME];rfl) (by unfold iW;simp only[hm];rfl) hmw (xS rfl trivial (by simp)) (λ_ _ _ h=>by
     unfold Cx.Sm
     simp only
     rw[ok.j0 (by omega)]
     exact h) (by simp only[hm];rfl) sl))
   .by_cases hjn:s.j<x.n
    .exact .inr (fin (afz hG hP hg hk hm hjn hS sl))
    .have hjj:s.j=x.n:=by have:=ok.jn;omega
     rw[show x.n-s.j=0 by omega] at hS
     have hvl:=Uc ok
     have hmw:x.mw { s with mp:=5,vs:=s.vs,lp:=s.lp }<x.mw s:=by unfold Cx.mw;simp only[hm,ME];simp;omega
     exact .inr (fin (LW hG hP hg hk hS (sU ok (λy=>by omega) (λ_=>hjj) (by omega) (λi hi y z=>(fP ok (by omega) i hi y z).elim) (λy=>by omega) (λy=>by omega) (λy=>by omega) hmw) (by unfold Cx.gZ;simp only[hm,ME];rfl) (by unfold iW;simp only[hm];rfl) hmw (xS rfl trivial (by simp)) (λ_ _ _ h=>h.bind (λ_ h=>h) hAW) (by simp only[hm];rfl) sl))
   .exact .inr (fin (Yn F hG hP hg hk hm hS sl))
   .exact .inr (fin (acO F hAW hG hP hg hk hm hS sl))
   .have hmw:x.mw { s with mp:=8,vs:=s.vs,lp:=s.lp }<x.mw s:=by unfold Cx.mw;simp only[hm];simp
    exact .inr (fin (LW hG hP hg hk hS (sU ok (λy=>by omega) (λ_=>ok.jN (by omega)) (by omega) (λi hi y z=>⟨.inr rfl,(ok.last i hi y z).2.1⟩) (λ_=>ok.reg (.inl hm)) (λy=>by omega) (λy=>by omega) hmw) (by unfold Cx.gZ;simp only[hm,ME];rfl) (by unfold iW;simp only[hm];simp) hmw (PZ (.inr rfl) rfl hW) (λ_ _ _ h=>h) (by simp only[hm];rfl) sl))
   .rcases acP F hG hP hg hk hm hS sl with ⟨y1,y2,y3⟩|y
    .exact .inl ⟨rfl,y1,y2,y3⟩
    .exact .inr (fin y)
   .exact .inr (fin (Yo hG hP hg hk hm hS sl))
   .have hmw:x.mw { s with mp:=11,vs:=s.vs,lp:=s.lp }<x.mw s:=by unfold Cx.mw;simp only[hm];simp
    exact .inr (fin (LW hG hP hg hk hS (sU ok (λy=>by omega) (λ_=>ok.jN (by omega)) (by omega) (λi hi y z=>(fP ok (by omega) i hi y z).elim) (λy=>by omega) (λ_=>ok.fin (by omega)) (λy=>by omega) hmw) (by unfold Cx.gZ;simp only[hm,ME];rfl) (by unfold iW;simp only[hm];rfl) hmw (xS rfl trivial (by simp)) (λ_ _ _ h=>h) (by simp only[hm];rfl) sl))
   .obtain⟨gs',w',u,h1,h2⟩:=acQ F hG hP hg hk hm hS sl
    exact .inr ⟨gs',w',u,h1,.inl h2⟩
  .obtain⟨k,rfl⟩:∃ k,i=x.m0+k:=⟨i-x.m0,by rcases hic with y|y<;>omega⟩
   have hkj:k<s.j:=by rcases hic with y|y<;>omega
   have h8:s.ph k<=7:=by
    have:=ok.Yg k hkj
    have:s.ph k≠8:=λy=>by
     have:=a3.2 ⟨hi0,by rw[show x.m0+k-x.m0=k by omega];exact y⟩
     rw[hk] at this
     cases this
    omega
   rw[a1] at hS
   simp only[Cx.jJ,if_neg hi0] at hS
   rw[show x.m0+k-x.m0=k by omega] at hS
   unfold Cx.Sw at hS
   refine .inr (fin ?_)
   rcases (by omega:s.ph k=0\/s.ph k=1\/s.ph k=2\/s.ph k=3\/s.ph k=4\/s.ph k=5\/s.ph k=6\/s.ph k=7) with hm|hm|hm|hm|hm|hm|hm|hm<;>simp only[hm] at hS
   .exact Yi F hG hP hkj hm hg hk hS sl
   .exact Yj F hAT hG hP hkj hm hg hk hS sl
   .exact acK F hG hP hkj hm hg hk hS sl
   .exact acL F hG hP hkj hm hg hk hS sl
   .exact acM F hG hP hkj hm hg hk hS sl
   .exact afw F hG hP hkj hm hg hk hS sl
   .exact afx F hG hP hkj hm hg hk hS sl
   .exact afy F hG hP hkj hm hg hk hS sl
end
