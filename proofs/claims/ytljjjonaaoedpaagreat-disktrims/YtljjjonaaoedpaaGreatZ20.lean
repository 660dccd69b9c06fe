/- Part of the proof. -/
import Derived.Test.YtljjjonaaoedpaaGreatZ19
namespace Go.Proofs.YtljjjonaaoedpaaGreat
open Tryz (prog)
open Go Go.Conc
open Go.ConcN (sumTo upd sumTo_upd upd_ne upd_same sumTo_congr WgLive RW PayAt Has)
open Go.ConcR (KK wgBlock WgAt stA smA rd wr Payload DC0)
section
variable [Payload] {x:Cx} {tz:Nat} {Sx:Nat->Prop} {s:Sg} {j:Nat} {T:Nat->Th} {q:Nat->Nat} {gs:Array Goroutine} {w:World} {t:Trace} {g:Goroutine}
theorem m_go(hG:GI x.P x.m0 tz Sx x.Atm x.Fz x.Sh x.Ex j T q gs w t)(hP:PI x.pro x.Wg x.m0 s j T w t)(hg:gs[0]?=some g)(hk0:(T 0).kind=0)(hm:s.mp=4)(hjn:s.j<x.n)(hS:x.AtGo (x.n-s.j) (T 0).O g w)(sl:Option (Nat × Nat)):x.Goes tz Sx s gs w t sl 0:=by
 obtain⟨ok,hwg,hnx,hch⟩:=hP.wld
 have hj:s.j=j:=hP.cnt
 have hp:=hG.pos
 obtain⟨r,hr⟩:∃ r,x.n-s.j=r+1:=⟨x.n-s.j-1,by omega⟩
 rw[hr] at hS
 obtain⟨g',child,hst,hco,hch1⟩:=hS
 have hcn:cnt { s with j:=s.j+1,ph:=upd s.ph s.j 0 }=cnt s+1:=by
  unfold cnt
  simp only[sumTo,upd_same]
  rw[sumTo_congr (g:=λi=>if s.ph i<=4 then 1 else 0) λi hi=>by simp only[upd_ne s.ph 0 (show i≠s.j by omega)]]
  rfl
 have hv:x.v { s with j:=s.j+1,ph:=upd s.ph s.j 0 }=x.v s:=by
  unfold Cx.v
  rw[hcn]
  simp only
  omega
 have hmw:x.mw { s with j:=s.j+1,ph:=upd s.ph s.j 0 }=x.mw s:=by unfold Cx.mw;simp only[hm];rfl
 have hpt:x.pot { s with j:=s.j+1,ph:=upd s.ph s.j 0 }<x.pot s:=by
  have hw0:sumTo (s.j+1) (λi=>wgt (upd s.ph s.j 0 i))=sumTo s.j (λi=>wgt (s.ph i))+10:=by
   simp only[sumTo,upd_same]
   rw[sumTo_congr (g:=λi=>wgt (s.ph i)) λi hi=>by rw[upd_ne _ _ (by omega)]]
   rfl
  unfold Cx.pot
  rw[hmw]
  simp only
  rw[hw0]
  omega
 have hno:=none_last ok (by omega)
 have hhd:hands { s with j:=s.j+1,ph:=upd s.ph s.j 0 }=hands s:=by
  unfold hands
  simp only[List.range_succ,List.filterMap_append,List.filterMap_cons,List.filterMap_nil,upd_same]
  rw[fm_same (f:=λi=>if s.ph i=1 then some (s.hd i) else none) λi hi=>by rw[upd_ne _ _ (by omega)]]
  simp
 have hold:∀ i,i<s.j+1->i≠s.j->i<s.j:=λi h1 h2=>by omega
 have hok:x.ok { s with j:=s.j+1,ph:=upd s.ph s.j 0 }:=by
  refine⟨by simp only;omega,λy=>by simp only at y;omega,λy=>by simp only at y;omega,ok.mp,λi hi=>?_,λi hi y=>?_,λi hi y z=>?_,λy=>by simp only at y;omega,λy=>by simp only at y;omega,λy=>by simp only at y;omega,by rw[hhd];exact ok.perm,by have:=ok.big;simp only;omega⟩
  ·by_cases hik:i=s.j
   ·rw[hik];simp[upd_same]
   ·simp only[upd_ne _ _ hik];exact ok.ph8 i (hold i hi hik)
  ·by_cases hik:i=s.j
   ·rw[hik] at y;simp[upd_same] at y
   ·simp only[upd_ne _ _ hik] at y;exact ok.late i (hold i hi hik) y
  ·by_cases hik:i=s.j
   ·rw[hik] at y;simp[upd_same] at y
   ·simp only[upd_ne _ _ hik] at y z;exact(hno i (hold i hi hik) y z).elim
 have hd0:(T 0).d=0:=by
  have:=(hP.tag 0 (.inl rfl)).2.2.2.2 (by rw[hk0];decide)
  rw[this]
  simp only[Cx.pro,if_true,hm]
  rfl
 have hrr:∀ O,x.R O w w:=λO=>Rly.refl (λ_ h=>h) w
 obtain⟨gs',u,f1,f2,f3,_,_⟩:=hG.spawn (th':=⟨0,false,x.AtGo r,(T 0).O,w,0,0⟩) (c':=⟨0,false,x.AtTake,λ_=>False,w,0,0⟩) hg hst (.inl ⟨rfl,hco w (hrr _),hrr _⟩) rfl hd0 rfl (.inl ⟨rfl,hch1 w (hrr _),hrr _⟩) (λ_ h=>h) rfl sl
 refine⟨gs',w,u,f1,{ s with j:=s.j+1,ph:=upd s.ph s.j 0 },j+1,_,q,hpt,f3,by simp only[Cx.pro];omega,λi hi=>?_,⟨hok,?_,hnx,hch⟩,λi hi hrl=>?_,hP.nor.app λop hop=>(f2 op hop).2.2 _⟩
 ·by_cases hij:i=x.m0+j
  ·subst hij
   rw[upd_same]
   simp only[Cx.pro,if_neg (show x.m0+j≠0 by omega),show x.m0+j-x.m0=j by omega,hj,upd_same]
   refine⟨?_,by simp,by simp,λy=>(by cases y),λ_=>rfl⟩
   unfold Cx.Sw
   simp only[upd_same]
  ·rw[upd_ne _ _ hij]
   by_cases hi0:i=0
   ·subst hi0
    rw[upd_same]
    simp only[Cx.pro,if_true]
    refine⟨?_,rfl,by simp,λy=>(by cases y),λ_=>by simp only[hm];rfl⟩
    unfold Cx.Sm
    simp only[hm]
    rw[show x.n-(s.j+1)=r by omega]
   ·rw[upd_ne _ _ hi0]
    have hic:inCrowd x.m0 j i:=hi.imp id λz=>⟨z.1,by omega⟩
    have hne:i-x.m0≠s.j:=by rcases hic with z|z<;>omega
    obtain⟨a1,a2,a3,a4,a5⟩:=hP.tag i hic
    simp only[Cx.pro,if_neg hi0] at a1 a2 a3 a4 a5 ⊢
    simp only[upd_ne _ _ hne]
    refine⟨a1.trans ?_,a2,a3,a4,a5⟩
    unfold Cx.Sw
    simp only[upd_ne _ _ hne]
 ·have e1:x.stv { s with j:=s.j+1,ph:=upd s.ph s.j 0 }=x.stv s:=by unfold Cx.stv;rw[hv]
  rw[e1];exact hwg
 ·by_cases hij:i=x.m0+j
  ·subst hij
   have:=hrl.2
   rw[show x.m0+j-x.m0=s.j by omega] at this
   simp[upd_same] at this
  ·have hi0:=hrl.1
   have hic:inCrowd x.m0 j i:=hi.imp id λz=>⟨z.1,by omega⟩
   have hne:i-x.m0≠s.j:=by rcases hic with z|z<;>omega
   have h3:=hrl.2
   simp only[upd_ne _ _ hne] at h3
   obtain⟨r0,h0⟩:=hP.rel i hic ⟨hi0,h3⟩
   exact⟨r0,h0.still λop hop=>(f2 op hop).1⟩
structure Cx.Fin(x:Cx)(Sx:Nat->Prop)(gs:Array Goroutine)(w:World)(t:Trace):Prop where
 main:∃ O g,gs[0]?=some g/\x.CoM x.Next O g w/\(∀ b,O b->b<w.heap.size/\¬x.Fz b/\¬x.Sh b/\¬Sx b)
 size:gs.size=x.m0+x.n
 gone:∃ q,Leavers x.P t gs q
 past:Past (ShunB λb=>Sx b\/b=x.Wg) w.heap.size t
 deaf:Deaf t 0=0
 chan:∃ (bl:List Nat) (a r:Nat) (tm:Bool),bl.Perm (List.range x.len)/\w.heap[x.Ch]?=some (.chan x.len (bl.map x.sight).toArray false a r tm)
 low:(∀ b,x.Fz b->b<w.heap.size/\¬x.Sh b/\¬Sx b)/\(∀ b,x.Sh b->b<w.heap.size/\¬Sx b)/\∀ b,Sx b->b<w.heap.size
theorem m_acq(F:x.Fit)(hG:GI x.P x.m0 tz Sx x.Atm x.Fz x.Sh x.Ex j T q gs w t)(hP:PI x.pro x.Wg x.m0 s j T w t)(hg:gs[0]?=some g)(hk0:(T 0).kind=0)(hm:s.mp=11)(hS:x.AtAcq (T 0).O g w)(sl:Option (Nat × Nat)) :
 ∃ gs' w' u,runT x.P (crowd gs w sl) 0=(.next (crowd gs' w' sl),u)/\x.Fin Sx gs' w' (t++u):=by
 obtain⟨ok,hwg,hnx,a,r,tm,hch⟩:=hP.wld
 have hj:s.j=j:=hP.cnt
 have hn:s.j=x.n:=ok.jN (by omega)
 have hp:=hG.pos
 obtain⟨g',hst,hco⟩:=hS
 have hall:=ok.fin (by omega)
 have hW:=(hG.shl x.Wg (.inl rfl)).1
 have hd0:(T 0).d=0:=by
  have:=(hP.tag 0 (.inl rfl)).2.2.2.2 (by rw[hk0];decide)
  rw[this]
  simp only[Cx.pro,if_true,hm]
  rfl
 have hdf:Deaf t 0=0:=by
  obtain⟨_,_,_,h⟩:=hG.th 0 (.inl rfl)
  rw[h,hd0]
 have hOe:(λg b=>(upd T 0 ⟨0,false,x.Next,(T 0).O,w,0,0⟩ g).O b)=λg b=>(T g).O b:=by
  funext g
  by_cases hgi:g=0
  ·subst hgi;rw[upd_same]
  ·rw[upd_ne _ _ hgi]
 have hrr:x.R (T 0).O w w:=Rly.refl (λ_ h=>h) w
 obtain⟨f1,f2⟩:=hG.go ex_trans (.inl rfl) (w':=w) (th':=⟨0,false,x.Next,(T 0).O,w,0,0⟩) hg hst (.inl ⟨rfl,hco w hrr,hrr⟩) (by rw[hd0];rfl) (λb y=>y) (λb y=>.inl y) (λ_ _ _ _=>rfl) (Nat.le_refl _) rfl rfl rfl (λh=>h)
  (λe he=>by rw[hOe];exact(ev_one (x:=x) (T:=T) (m:=.acquire (stA x.Wg)) (B:=w.heap.size) rfl hW (by simp) e he).1) sl
 have eu:MemOp.ofEvents 0 g.frame.fn g.frame.place #[ConcR.mk (.acquire (stA x.Wg))]=#[{ g:=0,fn:=g.frame.fn,pos:=g.frame.place,act:=.mark (.acquire (stA x.Wg)) }]:=by simp[ofEvents_eq,ConcR.mk,MemAct.ofEvent]
 refine⟨_,_,_,f1,?_,by rw[f2.sz];omega,⟨λi=>if i<x.m0 then q i else(T i).q,λi y hi hy=>?_,λi hi=>?_⟩,?_,?_,⟨s.bl,a,r,tm,?_,hch⟩,⟨hG.fzl,hG.shl,hG.sxl⟩⟩
 ·obtain⟨z,hz,hzI,_⟩:=f2.th 0 (.inl rfl)
  rw[upd_same] at hzI
  refine⟨(T 0).O,z,hz,?_,λb=>hG.olow 0 b⟩
  rcases hzI with ⟨_,hz1,_⟩|⟨hz1,_⟩|⟨hz1,_⟩
  ·exact hz1
  ·cases hz1
  ·cases hz1
 ·by_cases him:i<x.m0
  ·simp only[if_pos him]
   exact f2.lv i y hi him hy
  ·simp only[if_neg him]
   have hlt:i<gs.size:=by
    have:=(Array.getElem?_eq_some_iff.1 hy).1
    simpa using this
   rw[hG.sz] at hlt
   have hic:inCrowd x.m0 j i:=.inr ⟨by omega,hlt⟩
   obtain⟨z,hz,hzI,hzd⟩:=f2.th i hic
   rw[hy] at hz
   cases hz
   rw[upd_ne _ _ (by omega)] at hzI hzd
   have hq1:(T i).kind=1:=(hP.tag i hic).2.2.1.2 ⟨by omega,hall _ (by omega)⟩
   have hq2:(wakeTh (wk x.P g g') (T i)).kind=1:=(wakeTh_kind _ _).1.2 hq1
   rcases hzI with ⟨z1,_⟩|⟨_,_,z1⟩|⟨z1,_⟩
   ·rw[hq2] at z1;cases z1
   ·rw[hzd];exact z1
   ·rw[hq2] at z1;cases z1
 ·exact f2.above i (by rw[<-f2.sz];exact hi)
 ·rw[eu]
  have hti:=hG.ti
  rw[<-hj,hn] at hti
  exact past_end hti (λk h1 h2=>hP.rel k (.inr ⟨h1,by omega⟩) ⟨by omega,by rw[hall _ (by omega)];omega⟩) hP.nor hdf hW rfl rfl
 ·obtain⟨_,_,_,h⟩:=f2.th 0 (.inl rfl)
  rw[h,upd_same]
 ·have hpm:=ok.perm
  have hh:hands s=[]:=by
   unfold hands
   rw[fm_same (f:=λ_=>none) λi hi=>by rw[if_neg (by rw[hall i hi];decide)]]
   simp
  have hl:=ok.late 0 (by have:=F.n0;omega) (by rw[hall 0 (by have:=F.n0;omega)];decide)
  rw[hh,List.append_nil,show min s.c x.len=x.len by omega] at hpm
  exact hpm
theorem scan_runs(F:x.Fit)(hAT:∀ O g w,x.AnchT O g w->x.CoW false x.AtTake O g w)(hAW:∀ O g w,x.AnchW O g w->x.CoM x.AtW1 O g w)(sl:Option (Nat × Nat))
 (hG:GI x.P x.m0 tz Sx x.Atm x.Fz x.Sh x.Ex j T q gs w t) (hP:PI x.pro x.Wg x.m0 s j T w t) :
 ∃ N gs' w' sl' t',runNT x.P N (crowd gs w sl) t=(.next (crowd gs' w' sl'),t')/\x.Fin Sx gs' w' t':=by
 refine engine (pr:=x.pro) ex_trans ex_of w_of (λs i h=>?_) (λs h=>h.1 rfl) (x.Fin Sx) ?_ ?_ (x.pot s) s rfl j T q gs w t sl hG hP
 ·simp only[Cx.pro]
  have h1:=h.1
  have h2:=h.2
  simp[h1,h2]
 ·intro s j T q gs w t hG hP hk
  obtain⟨ok,_⟩:=hP.wld
  have hj:s.j=j:=hP.cnt
  obtain⟨_,hm,hl⟩:=(hP.tag 0 (.inl rfl)).2.2.2.1 hk
  have hn:=ok.jN (by omega)
  have hp:=hG.pos
  obtain⟨i,hi,h8⟩:∃ i,i<s.j/\s.ph i≠8:=by
   rcases ok.reg (.inr hm) with ⟨_,y⟩|⟨y1,y2,i,hi,y3⟩|⟨y,_⟩
   ·apply Classical.byContradiction
    intro hc
    have:cnt s=0:=cnt_zero λi hi=>Classical.byContradiction λh=>hc ⟨i,hi,h⟩
    unfold Cx.v at y
    omega
   ·exact⟨i,hi,by omega⟩
   ·exact(hl y).elim
  have hic:inCrowd x.m0 j (x.m0+i):=.inr ⟨by omega,by omega⟩
  refine⟨x.m0+i,hic,?_⟩
  obtain⟨z,hz,hzI,_⟩:=hG.th _ hic
  obtain⟨_,_,a3,a4,_⟩:=hP.tag _ hic
  rcases hzI with ⟨z1,_⟩|⟨z1,_⟩|⟨z1,_⟩
  ·exact z1
  ·have:=(a3.1 z1).2
   rw[show x.m0+i-x.m0=i by omega] at this
   exact(h8 this).elim
  ·have:=(a4 z1).1
   omega
 ·intro s j T q gs w t sl i g hG hP hic hg hk _ hS
  obtain⟨ok,_⟩:=hP.wld
  have hj:s.j=j:=hP.cnt
  have hp:=hG.pos
  have fin:x.Goes tz Sx s gs w t sl i->∃ gs' w' u,runT x.P (crowd gs w sl) i=(.next (crowd gs' w' sl),u)/\(x.Fin Sx gs' w' (t++u)\/∃ s' j' T' q',x.pro.Φ s'<x.pro.Φ s/\GI x.P x.m0 tz Sx x.Atm x.Fz x.Sh x.Ex j' T' q' gs' w' (t++u)/\PI x.pro x.Wg x.m0 s' j' T' w' (t++u)):=λ⟨gs',w',u,h1,h2⟩=>⟨gs',w',u,h1,.inr h2⟩
  obtain⟨a1,_,a3,_⟩:=hP.tag i hic
  by_cases hi0:i=0
  ·subst hi0
   rw[a1] at hS
   simp only[Cx.pro,if_true] at hS
   have hm11:=ok.mp
   have hW:=(hG.shl x.Wg (.inl rfl)).1
   unfold Cx.Sm at hS
   rcases (by omega:s.mp=0\/s.mp=1\/s.mp=2\/s.mp=3\/s.mp=4\/s.mp=5\/s.mp=6\/s.mp=7\/s.mp=8\/s.mp=9\/s.mp=10\/s.mp=11) with hm|hm|hm|hm|hm|hm|hm|hm|hm|hm|hm|hm<;>simp only[hm] at hS
   ·have hmw:x.mw { s with mp:=1,vs:=s.vs,lp:=s.lp }<x.mw s:=by unfold Cx.mw;simp only[hm];simp
    exact .inr (fin (m_mk hG hP hg hk hS (ok_m ok (λ_=>ok.j0 (by omega)) (λy=>by omega) (by omega) (λi hi y z=>(none_last ok (by omega) i hi y z).elim) (λy=>by omega) (λy=>by omega) (λy=>by omega) hmw) (by unfold Cx.stv;simp only[hm,v_m];rfl) (by unfold smv;simp only[hm];rfl) hmw (ev_one rfl trivial (by simp)) (λ_ _ _ h=>h) (by simp only[hm];rfl) sl))
   ·exact .inr (fin (m_add F hG hP hg hk hm hS sl))
   ·have hmw:x.mw { s with mp:=3,vs:=s.vs,lp:=s.lp }<x.mw s:=by unfold Cx.mw;simp only[hm];simp
    exact .inr (fin (m_mk hG hP hg hk hS (ok_m ok (λ_=>ok.j0 (by omega)) (λy=>by omega) (by omega) (λi hi y z=>(none_last ok (by omega) i hi y z).elim) (λy=>by omega) (λy=>by omega) (λy=>by omega) hmw) (by unfold Cx.stv;simp only[hm,v_m];rfl) (by unfold smv;simp only[hm];rfl) hmw (ev_say (.inl rfl) rfl hW) (λ_ _ _ h=>h) (by simp only[hm];rfl) sl))
   ·have hmw:x.mw { s with mp:=4,vs:=s.vs,lp:=s.lp }<x.mw s:=by unfold Cx.mw;simp only[hm];simp
    exact .inr (fin (m_mk hG hP hg hk hS (ok_m ok (λy=>by omega) (λy=>by omega) (by omega) (λi hi y z=>(none_last ok (by omega) i hi y z).elim) (λy=>by omega) (λy=>by omega) (λy=>by omega) hmw) (by unfold Cx.stv;simp only[hm,v_m];rfl) (by unfold smv;simp only[hm];rfl) hmw (ev_one rfl trivial (by simp)) (λ_ _ _ h=>by
     unfold Cx.Sm
     simp only
     rw[ok.j0 (by omega)]
     exact h) (by simp only[hm];rfl) sl))
   ·by_cases hjn:s.j<x.n
    ·exact .inr (fin (m_go hG hP hg hk hm hjn hS sl))
    ·have hjj:s.j=x.n:=by have:=ok.jn;omega
     rw[show x.n-s.j=0 by omega] at hS
     have hvl:=v_le ok
     have hmw:x.mw { s with mp:=5,vs:=s.vs,lp:=s.lp }<x.mw s:=by unfold Cx.mw;simp only[hm,v_m];simp;omega
     exact .inr (fin (m_mk hG hP hg hk hS (ok_m ok (λy=>by omega) (λ_=>hjj) (by omega) (λi hi y z=>(none_last ok (by omega) i hi y z).elim) (λy=>by omega) (λy=>by omega) (λy=>by omega) hmw) (by unfold Cx.stv;simp only[hm,v_m];rfl) (by unfold smv;simp only[hm];rfl) hmw (ev_one rfl trivial (by simp)) (λ_ _ _ h=>h.bind (λ_ h=>h) hAW) (by simp only[hm];rfl) sl))
   ·exact .inr (fin (m_load F hG hP hg hk hm hS sl))
   ·exact .inr (fin (m_cas F hAW hG hP hg hk hm hS sl))
   ·have hmw:x.mw { s with mp:=8,vs:=s.vs,lp:=s.lp }<x.mw s:=by unfold Cx.mw;simp only[hm];simp
    exact .inr (fin (m_mk hG hP hg hk hS (ok_m ok (λy=>by omega) (λ_=>ok.jN (by omega)) (by omega) (λi hi y z=>⟨.inr rfl,(ok.last i hi y z).2.1⟩) (λ_=>ok.reg (.inl hm)) (λy=>by omega) (λy=>by omega) hmw) (by unfold Cx.stv;simp only[hm,v_m];rfl) (by unfold smv;simp only[hm];simp) hmw (ev_say (.inr rfl) rfl hW) (λ_ _ _ h=>h) (by simp only[hm];rfl) sl))
   ·rcases m_sem F hG hP hg hk hm hS sl with ⟨y1,y2,y3⟩|y
    ·exact .inl ⟨rfl,y1,y2,y3⟩
    ·exact .inr (fin y)
   ·exact .inr (fin (m_look hG hP hg hk hm hS sl))
   ·have hmw:x.mw { s with mp:=11,vs:=s.vs,lp:=s.lp }<x.mw s:=by unfold Cx.mw;simp only[hm];simp
    exact .inr (fin (m_mk hG hP hg hk hS (ok_m ok (λy=>by omega) (λ_=>ok.jN (by omega)) (by omega) (λi hi y z=>(none_last ok (by omega) i hi y z).elim) (λy=>by omega) (λ_=>ok.fin (by omega)) (λy=>by omega) hmw) (by unfold Cx.stv;simp only[hm,v_m];rfl) (by unfold smv;simp only[hm];rfl) hmw (ev_one rfl trivial (by simp)) (λ_ _ _ h=>h) (by simp only[hm];rfl) sl))
   ·obtain⟨gs',w',u,h1,h2⟩:=m_acq F hG hP hg hk hm hS sl
    exact .inr ⟨gs',w',u,h1,.inl h2⟩
  ·obtain⟨k,rfl⟩:∃ k,i=x.m0+k:=⟨i-x.m0,by rcases hic with y|y<;>omega⟩
   have hkj:k<s.j:=by rcases hic with y|y<;>omega
   have h8:s.ph k<=7:=by
    have:=ok.ph8 k hkj
    have:s.ph k≠8:=λy=>by
     have:=a3.2 ⟨hi0,by rw[show x.m0+k-x.m0=k by omega];exact y⟩
     rw[hk] at this
     cases this
    omega
   rw[a1] at hS
   simp only[Cx.pro,if_neg hi0] at hS
   rw[show x.m0+k-x.m0=k by omega] at hS
   unfold Cx.Sw at hS
   refine .inr (fin ?_)
   rcases (by omega:s.ph k=0\/s.ph k=1\/s.ph k=2\/s.ph k=3\/s.ph k=4\/s.ph k=5\/s.ph k=6\/s.ph k=7) with hm|hm|hm|hm|hm|hm|hm|hm<;>simp only[hm] at hS
   ·exact w_take F hG hP hkj hm hg hk hS sl
   ·exact w_send F hAT hG hP hkj hm hg hk hS sl
   ·exact w_rel F hG hP hkj hm hg hk hS sl
   ·exact w_dis F hG hP hkj hm hg hk hS sl
   ·exact w_dec F hG hP hkj hm hg hk hS sl
   ·exact w_d2 F hG hP hkj hm hg hk hS sl
   ·exact w_d3 F hG hP hkj hm hg hk hS sl
   ·exact w_d4 F hG hP hkj hm hg hk hS sl
end
end Go.Proofs.YtljjjonaaoedpaaGreat
namespace Go.Proofs.YtljjjonaaoedpaaGreat
open Tryz (prog)
open Go Go.Conc
def nx(P:Program)(main:Bool)(g:Goroutine):Goroutine:=match stepG P main g default with | .go g' _ _=>g'|_=>g
def dM(P:Program)(main:Bool):Nat->Goroutine->Goroutine
 |0,g=>g
 |n+1,g=>dM P main n (nx P main g)
def aO(P:Program)(main:Bool):Nat->Goroutine->Prop
 |0,_=>True
 |n+1,g=>(g.status=.running/\∀ w,stepG P main g w=.go (nx P main g) w #[])/\aO P main n (nx P main g)
theorem aO.step{P:Program}{main:Bool}{n:Nat}{g:Goroutine}(hr:g.status=.running)(h:∀ w,stepG P main g w=.go (nx P main g) w #[])(k:aO P main n (nx P main g)):aO P main (n+1) g:=⟨⟨hr,h⟩,k⟩
theorem aO.nil{P:Program}{main:Bool}{g:Goroutine}:aO P main 0 g:=trivial
variable {P:Program} {main sil:Bool} {Fz:Nat->Prop} {Ex:World->World->Prop} {O:Nat->Prop} {Stop:(Nat->Prop)->Goroutine->World->Prop} {K:World->Prop}
def CK(P:Program)(main sil:Bool)(Fz:Nat->Prop)(Ex:World->World->Prop)(Stop:(Nat->Prop)->Goroutine->World->Prop)(K:World->Prop)(O:Nat->Prop)(g:Goroutine):Prop:=∀ w,K w->Co P main sil Fz Ex Stop O g w
def I4(Fz:Nat->Prop)(Ex:World->World->Prop)(K:World->Prop)(O:Nat->Prop):Prop:=∀ w w₁,Rly Fz Ex O w w₁->K w->K w₁
theorem bn(hK:I4 Fz Ex K O):∀ (n:Nat) {g:Goroutine},aO P main n g->CK P main sil Fz Ex Stop K O (dM P main n g)->CK P main sil Fz Ex Stop K O g
 |0,_,_,h=>h
 |n+1,_,hp,h=>λw hw=>co_pure hp.1.1 hp.1.2 λw₁ r=>bn hK n hp.2 h w₁ (hK w w₁ r hw)
theorem cO(hK:I4 Fz Ex K O){g:Goroutine}(hr:g.status=.running)(h:∀ w,K w->Stop O g w):CK P main sil Fz Ex Stop K O g:=λw hw=>Co.stop hr λw₁ r=>h w₁ (hK w w₁ r hw)
theorem sM(hK:I4 Fz Ex K O){g:Goroutine}(hr:g.status=.running)(h:∀ w,K w->∃ g' w' es,stepG P main g w=.go g' w' es/\Gua O w w'/\(∀ e∈es,EvC Fz (grow O w w') e)/\(sil=true->es=#[])/\Co P main sil Fz Ex Stop (grow O w w') g' w'):CK P main sil Fz Ex Stop K O g :=
 λw hw=>Co.step hr λw₁ r=>h w₁ (hK w w₁ r hw)
theorem En(hK:I4 Fz Ex K O){g g':Goroutine}(hr:g.status=.running)(hs:∀ w,K w->stepG P main g w=.go g' w #[])(h:CK P main sil Fz Ex Stop K O g'):CK P main sil Fz Ex Stop K O g :=
 sM hK hr λw hw=>⟨g',w,#[],hs w hw,Gua.refl,λe he=>by simp at he,λ_=>rfl,by rw[grow_same];exact h w hw⟩
theorem OP(hK:I4 Fz Ex K O){g g':Goroutine}{es:Array Event}(hr:g.status=.running)(hs:∀ w,K w->stepG P main g w=.go g' w es)(he:∀ e∈es,EvC Fz O e)(h:CK P main false Fz Ex Stop K O g'):CK P main false Fz Ex Stop K O g :=
 sM hK hr λw hw=>⟨g',w,es,hs w hw,Gua.refl,λe hm=>by rw[grow_same];exact he e hm,λx=>(by cases x),by rw[grow_same];exact h w hw⟩
theorem OQ{K':World->Prop}{g:Goroutine}(h:CK P main sil Fz Ex Stop K' O g)(hk:∀ w,K w->K' w):CK P main sil Fz Ex Stop K O g:=λw hw=>h w (hk w hw)
structure An where
 v:Value:=.nilFunc
 sh:Option (TypeId × Nat):=none
 b:Bool:=false
 n:Nat:=0
structure Qa where
 k:Nat
 ad:Addr:=default
 v:Value:=.nilFunc
 sy:Bool:=false
 sh:Option (TypeId × Nat):=none
 b:Bool:=false
 o:Obj:=default
 m:Mark:=default
def cellV:Value->Bool
 | .agg _ | .tuple _=>false
 |_=>true
def iW(P:Program){α:Type}:Sem α->List An->Option (α × List Qa)
 | .pure a,l=>if l.isEmpty then some (a,[]) else none
 | .load m a k,l=>(iW P (k (l.headD {}).v) l.tail).map λr=>(r.1,{ k:=0,ad:=a,v:=(l.headD {}).v,sy:=m==.atomic }::r.2)
 | .store m a v k,l=>if cellV v then(iW P k l).map λr=>(r.1,{ k:=1,ad:=a,v:=v,sy:=m==.atomic }::r.2) else none
 | .new o k,l=>(iW P (k (l.headD {}).n) l.tail).map λr=>(r.1,{ k:=4,ad:=⟨(l.headD {}).n,0,none⟩,o:=o }::r.2)
 | .shape b k,l=>(iW P (k (l.headD {}).sh) l.tail).map λr=>(r.1,{ k:=2,ad:=⟨b,0,none⟩,sh:=(l.headD {}).sh }::r.2)
 | .frozen a k,l=>(iW P (k (l.headD {}).b) l.tail).map λr=>(r.1,{ k:=3,ad:=a,b:=(l.headD {}).b }::r.2)
 | .program k,l=>iW P (k P) l
 | .mark m k,l=>(iW P k l).map λr=>(r.1,{ k:=5,m:=m }::r.2)
 | .choose q k,l=>if q.forced then iW P (k 0) l else none
 | .freeze _ _ _,_=>none
 | .getObj _ _,_=>none
 | .setObj _ _ _,_=>none
 | .sys _ _,_=>none
 | .halt _,_=>none
def fH:List Qa->World->World->Prop
 | [],w,w'=>w'=w
 |q::l,w,w' =>
  if q.k=0 then w.cell? q.ad=some q.v/\fH l w w'
  else if q.k=1 then(w.cell? q.ad).isSome=true/\w.frozen? q.ad=false/\fH l (w.setCell q.ad q.v) w'
  else if q.k=2 then w.shape? q.ad.block=q.sh/\fH l w w'
  else if q.k=3 then w.frozen? q.ad=q.b/\fH l w w'
  else if q.k=4 then w.heap.size=q.ad.block/\fH l { w with heap:=w.heap.push q.o } w'
  else fH l w w'
def OT(q:Qa):Option Event:=if q.k=0 then some ⟨.cell q.ad,false,q.sy⟩ else if q.k=1 then some ⟨.cell q.ad,true,q.sy⟩ else if q.k=5 then some ⟨.mark q.m,false,true⟩ else none
theorem Lp{α:Type}:∀ (s:Sem α) (l:List An) (x:α) (qs:List Qa) (w w':World) (es:Array Event),iW P s l=some (x,qs)->fH qs w w'->s.runT P w es=(.ok x w',es++(qs.filterMap OT).toArray):=by
 intro s
 induction s with
 |pure a =>
  intro l x qs w w' es h hq
  simp only[iW] at h
  split at h
  ·cases h
   simp only[fH] at hq
   subst hq
   simp[Sem.runT]
  ·cases h
 |load m a k ih =>
  intro l x qs w w' es h hq
  simp only[iW,Option.map_eq_some_iff] at h
  obtain⟨⟨x1,q1⟩,h1,h2⟩:=h
  cases h2
  simp only[fH,if_true] at hq
  simp only[Sem.runT,hq.1]
  rw[ih _ _ _ _ _ _ _ h1 hq.2]
  simp[OT]
 |store m a v k ih =>
  intro l x qs w w' es h hq
  simp only[iW] at h
  split at h
  ·rename_i hv
   simp only[Option.map_eq_some_iff] at h
   obtain⟨⟨x1,q1⟩,h1,h2⟩:=h
   cases h2
   simp only[fH,Nat.one_ne_zero,if_false,if_true] at hq
   obtain⟨hc,hf,hq⟩:=hq
   obtain⟨u,hu⟩:=Option.isSome_iff_exists.1 hc
   have e:(Sem.store m a v k).runT P w es=k.runT P (w.setCell a v) (es.push ⟨.cell a,true,m==.atomic⟩):=by
    cases v<;>first|(cases hv;done)|(simp only[Sem.runT,hu,hf];rfl)
   rw[e,ih _ _ _ _ _ _ h1 hq]
   simp[OT]
  ·cases h
 |new o k ih =>
  intro l x qs w w' es h hq
  simp only[iW,Option.map_eq_some_iff] at h
  obtain⟨⟨x1,q1⟩,h1,h2⟩:=h
  cases h2
  simp only[fH,show ¬(4:Nat)=0 by decide,show ¬(4:Nat)=1 by decide,show ¬(4:Nat)=2 by decide,show ¬(4:Nat)=3 by decide,if_false,if_true] at hq
  simp only[Sem.runT,hq.1]
  rw[ih _ _ _ _ _ _ _ h1 hq.2]
  simp[OT]
 |shape b k ih =>
  intro l x qs w w' es h hq
  simp only[iW,Option.map_eq_some_iff] at h
  obtain⟨⟨x1,q1⟩,h1,h2⟩:=h
  cases h2
  simp only[fH,show ¬(2:Nat)=0 by decide,show ¬(2:Nat)=1 by decide,if_false,if_true] at hq
  simp only[Sem.runT,hq.1]
  rw[ih _ _ _ _ _ _ _ h1 hq.2]
  simp[OT]
 |frozen a k ih =>
  intro l x qs w w' es h hq
  simp only[iW,Option.map_eq_some_iff] at h
  obtain⟨⟨x1,q1⟩,h1,h2⟩:=h
  cases h2
  simp only[fH,show ¬(3:Nat)=0 by decide,show ¬(3:Nat)=1 by decide,show ¬(3:Nat)=2 by decide,if_false,if_true] at hq
  simp only[Sem.runT,hq.1]
  rw[ih _ _ _ _ _ _ _ h1 hq.2]
  simp[OT]
 |program k ih =>
  intro l x qs w w' es h hq
  simp only[iW] at h
  simp only[Sem.runT]
  exact ih _ _ _ _ _ _ _ h hq
 |mark m k ih =>
  intro l x qs w w' es h hq
  simp only[iW,Option.map_eq_some_iff] at h
  obtain⟨⟨x1,q1⟩,h1,h2⟩:=h
  cases h2
  simp only[fH,show ¬(5:Nat)=0 by decide,show ¬(5:Nat)=1 by decide,show ¬(5:Nat)=2 by decide,show ¬(5:Nat)=3 by decide,show ¬(5:Nat)=4 by decide,if_false] at hq
  simp only[Sem.runT]
  rw[ih _ _ _ _ _ _ h1 hq]
  simp[OT]
 |choose q k ih =>
  intro l x qs w w' es h hq
  simp only[iW] at h
  split at h
  ·rename_i hf
   simp only[Sem.runT,hf,if_true]
   exact ih _ _ _ _ _ _ _ h hq
  ·cases h
 |freeze=>intro l x qs w w' es h;simp[iW] at h
 |getObj=>intro l x qs w w' es h;simp[iW] at h
 |setObj=>intro l x qs w w' es h;simp[iW] at h
 |sys=>intro l x qs w w' es h;simp[iW] at h
 |halt=>intro l x qs w w' es h;simp[iW] at h
def nH(g:Goroutine):Sem Next:=match g.frame.oper? with
 |some o=>execOp g.frame.eval o
 |none=>Go.stuck ""
def Lr(P:Program)(main:Bool)(g:Goroutine):Prop:=(g.frame.kind==.early)=false/\∀ w,stepG P main g w=stepG.apply P true g.frame g.callers none (nH g) w
def upon(P:Program)(g:Goroutine):Next->Option Goroutine
 | .value v=>some (G (g.frame.finish v) g.callers)
 | .skip=>some (G (g.frame.finish undef) g.callers)
 | .enter f a=>some (G (Frame.enter P f a .normal) (g.frame::g.callers))
 |_=>none
def zu(g:Goroutine):Bool:=match g.frame.todo with
 | .call _ _ _ _::_=>false
 |_=>true
theorem xD{g:Goroutine}(h:zu g=true)(d:Deferred)(a:Bool)(b:String)(c:Array Value)(k:List Item):g.frame.todo≠.call d a b c::k:=by
 intro e
 unfold zu at h
 rw[e] at h
 cases h
theorem Ls{g g':Goroutine}{w w':World}{l:List An}{x:Next}{qs:List Qa}(ha:Lr P main g)(hn:∀ d a b c k,g.frame.todo≠.call d a b c::k)(h:iW P (nH g) l=some (x,qs))(hu:upon P g x=some g')(hq:fH qs w w') :
 stepG P main g w=.go g' w' (seen P g.frame.fn (qs.filterMap OT).toArray):=by
 rw[ha.2 w]
 unfold stepG.apply
 simp only[if_true,Lp _ _ _ _ _ _ #[] h hq,Array.empty_append,ha.1,Bool.false_eq_true,if_false]
 cases x with
 |value v =>
  simp only[upon,Option.some.injEq] at hu
  subst hu
  simp[GStep.after,G]
 |skip =>
  simp only[upon,Option.some.injEq] at hu
  subst hu
  simp[GStep.after,G]
 |enter f a =>
  simp only[upon,Option.some.injEq] at hu
  subst hu
  simp only[GStep.after,Array.append_empty,G]
  congr 2
  split
  ·rename_i he
   exact absurd he (hn _ _ _ _ _)
  ·rfl
 |_=>cases hu
end Go.Proofs.YtljjjonaaoedpaaGreat
namespace Go.Proofs.YtljjjonaaoedpaaGreat
open Tryz (prog)
open Go Go.Conc
open Go.ConcN (sumTo upd sumTo_upd upd_ne upd_same)
structure Bx(P:Program)(S:Nat->Prop)(B0:Nat)(g:Goroutine)(w:World)(gs:Array Goroutine)(t:Trace)(q:Nat->Nat):Prop where
 at0:gs[0]?=some g
 lv:Leavers P t gs q
 past:Past (ShunB S) w.heap.size t
 nor:∀ b,B0<=b->NoRelease (sA b) t
def Bs(P:Program)(S:Nat->Prop)(B0:Nat)(g:Goroutine)(w:World)(g':Goroutine)(w':World):Prop :=
 ∀ (gs:Array Goroutine) (d:Nat) (sl:Option (Nat × Nat)) (t:Trace) (q:Nat->Nat),Bx P S B0 g w gs t q ->
   ∃ (N:Nat) (gs':Array Goroutine) (d':Nat) (sl':Option (Nat × Nat)) (t':Trace) (q':Nat->Nat),
     runNT P N (crowd gs (w.at d) sl) t=(.next (crowd gs' (w'.at d') sl'),t')/\gs'.size=gs.size/\Bx P S B0 g' w' gs' t' q'
section
variable {P:Program} {S:Nat->Prop} {B0:Nat} {g g' g'':Goroutine} {w w' w'':World}
theorem runNT_add:∀ (N M:Nat) (m:Machine) (t:Trace) {m':Machine} {t':Trace},runNT P N m t=(.next m',t')->runNT P (N+M) m t=runNT P M m' t'
 |0,M,m,t,m',t',h=>by
  simp only[runNT] at h
  cases h
  rw[Nat.zero_add]
 |N+1,M,m,t,m',t',h=>by
  rw[show N+1+M=(N+M)+1 by omega]
  simp only[runNT] at h ⊢
  split at h
  ·exact runNT_add N M _ _ h
  ·rename_i hx _
   cases h
   exact absurd rfl (hx _)
theorem Bs.refl:Bs P S B0 g w g w:=λgs d sl t q h=>⟨0,gs,d,sl,t,q,rfl,rfl,h⟩
theorem Bs.trans(h:Bs P S B0 g w g' w')(k:Bs P S B0 g' w' g'' w''):Bs P S B0 g w g'' w'':=λgs d sl t q hx=>by
 obtain⟨N,gs1,d1,sl1,t1,q1,a1,a2,a3⟩:=h gs d sl t q hx
 obtain⟨M,gs2,d2,sl2,t2,q2,b1,b2,b3⟩:=k gs1 d1 sl1 t1 q1 a3
 exact⟨N+M,gs2,d2,sl2,t2,q2,by rw[runNT_add N M _ _ a1];exact b1,b2.trans a2,b3⟩
theorem zw(hrun:g.status=.running)
 (H:∀ (gs:Array Goroutine) (d:Nat) (sl:Option (Nat × Nat)) (t:Trace) (q:Nat->Nat),Bx P S B0 g w gs t q->∃ gs' d' u q',runT P (crowd gs (w.at d) sl) 0=(.next (crowd gs' (w'.at d') sl),u)/\gs'.size=gs.size/\Bx P S B0 g' w' gs' (t++u) q') :
 Bs P S B0 g w g' w':=by
 have main:∀ (M:Nat) (gs:Array Goroutine) (d:Nat) (sl:Option (Nat × Nat)) (t:Trace) (q:Nat->Nat),sumTo gs.size q<=M->Bx P S B0 g w gs t q ->
  ∃ (N:Nat) (gs':Array Goroutine) (d':Nat) (sl':Option (Nat × Nat)) (t':Trace) (q':Nat->Nat),runNT P N (crowd gs (w.at d) sl) t=(.next (crowd gs' (w'.at d') sl'),t')/\gs'.size=gs.size/\Bx P S B0 g' w' gs' t' q':=by
  intro M
  induction M using Nat.strongRecOn with
  |_ M ihM =>
   intro gs d0 sl t q hM hB
   have haw:∀ x∈gs,awake x:=by
    intro x hx
    obtain⟨i,hi,rfl⟩:=Array.mem_iff_getElem.1 hx
    rcases Nat.eq_zero_or_pos i with rfl|hpos
    ·have:gs[0]=g:=by simpa [Array.getElem?_eq_getElem hi] using hB.at0
     rw[this];exact awake_of (.inl hrun)
    ·exact awake_of ((hB.lv.old i _ hpos (Array.getElem?_eq_getElem hi)).status.elim .inl λx=>.inr (.inr x))
   obtain⟨i,x,d,sl',hi,hg,hst⟩:=crowd_pick (P:=P) (w:=w.at d0) (sl:=sl) haw ⟨0,g,hB.at0,hrun⟩
   have hat:(w.at d0).at d=w.at d:=rfl
   rw[hat] at hst
   rcases Nat.eq_zero_or_pos i with rfl|hpos
   ·obtain⟨gs',d',u,q',h1,h2,h3⟩:=H gs d sl' t q hB
    exact⟨1,gs',d',sl',t++u,q',by simp only[runNT,hst,h1],h2,h3⟩
   ·have hq:=hB.lv.old i x hpos hi
    have hi0:(i==0)=false:=by simp;omega
    have hlt:i<gs.size:=(Array.getElem?_eq_some_iff.1 hi).1
    cases hqi:q i with
    |zero=>rw[hqi] at hq;rw[hq.1] at hg;cases hg
    |succ k =>
     rw[hqi] at hq
     rcases hq with ⟨hf,_⟩|⟨_,x',es,hm,hstp,hq'⟩
     ·rw[hf] at hg;cases hg
     have hrunT:=runT_crowd_go (P:=P) (sl:=sl') (i:=i) hi (by rw[hi0];exact hstp (w.at d))
     have hsz:((gs.map (woken P x x' (w.at d))).setIfInBounds i x').size=gs.size:=by simp
     have hsum:sumTo gs.size (upd q i k)+(k+1)=sumTo gs.size q+k:=by
      have:=sumTo_upd q k id hlt
      simpa [hqi] using this
     obtain⟨N,gs',d',sl'',t',q',f1,f2,f3⟩:=ihM (sumTo gs.size (upd q i k)) (by omega) ((gs.map (woken P x x' (w.at d))).setIfInBounds i x') d sl' (t++MemOp.ofEvents i x.frame.fn x.frame.place es) (upd q i k) (by rw[hsz];exact Nat.le_refl _)
      ⟨by
       have hne:i≠0:=by omega
       rw[Array.getElem?_setIfInBounds_ne hne,Array.getElem?_map,hB.at0]
       simp[woken_run hrun],⟨λj y hj hy=>by
       by_cases hji:i=j
       ·subst hji
        rw[Array.getElem?_setIfInBounds_self_of_lt (by simpa using hlt)] at hy
        obtain rfl:=Option.some.inj hy
        rw[upd_same,Deaf_own]
        exact hq'
       ·rw[Array.getElem?_setIfInBounds_ne hji,Array.getElem?_map] at hy
        obtain⟨z,hz,rfl⟩:=Option.map_eq_some_iff.1 hy
        have hqj:=hB.lv.old j z hj hz
        rw[woken_quitsD hqj,upd_ne q k (Ne.symm hji),Deaf_other t hji _ (λop hop=>by obtain⟨e,_,rfl⟩:=Go.Conc.mem_ofEvents hop;rfl)]
        exact hqj,λj hj=>by
       rw[Deaf_other t (g':=i) (by simp at hj;omega) _ (λop hop=>by obtain⟨e,_,rfl⟩:=Go.Conc.mem_ofEvents hop;rfl)]
       exact hB.lv.above j (by simpa using hj)⟩,hB.past.mute (by omega) hm,λb hb=>(hB.nor b hb).app λop hop=>by obtain⟨e,he,rfl⟩:=Go.Conc.mem_ofEvents hop;exact mute_nor (hm e he) _⟩
     exact⟨N+1,gs',d',sl'',t',q',by simp only[runNT,hst,hrunT];exact f1,f2.trans hsz,f3⟩
 intro gs d sl t q hB
 exact main _ gs d sl t q (Nat.le_refl _) hB
theorem o9{es:Array Event}(hr:g.status=.running)(hs:∀ d,∃ d',stepG P true g (w.at d)=.go g' (w'.at d') es)(he:∀ e∈es,EvL (ShunB S) w'.heap.size e/\∀ a,MemAct.ofEvent e≠.mark (.release a))(hsz:w.heap.size<=w'.heap.size):Bs P S B0 g w g' w':=by
 refine zw hr λgs d sl t q hB=>?_
 obtain⟨d',hst⟩:=hs d
 have hlt:0<gs.size:=(Array.getElem?_eq_some_iff.1 hB.at0).1
 have hrunT:=runT_crowd_go (P:=P) (sl:=sl) (i:=0) hB.at0 (show stepG P (0==0) g (w.at d)=_ from hst)
 refine⟨_,d',_,q,hrunT,by simp,⟨by simp[hlt],⟨λj x hj hx=>?_,λj hj=>?_⟩,(hB.past.mono hsz).own λe h=>(he e h).1,λb hb=>(hB.nor b hb).app λop hop=>by obtain⟨e,h,rfl⟩:=Go.Conc.mem_ofEvents hop;exact(he e h).2 _⟩⟩
 ·have hne:0≠j:=by omega
  rw[Array.getElem?_setIfInBounds_ne hne,Array.getElem?_map] at hx
  obtain⟨y,hy,rfl⟩:=Option.map_eq_some_iff.1 hx
  have hq:=hB.lv.old j y hj hy
  rw[woken_quitsD hq,Deaf_other t (by omega) _ (λop hop=>by obtain⟨e,_,rfl⟩:=Go.Conc.mem_ofEvents hop;rfl)]
  exact hq
 ·rw[Deaf_other t (g':=0) (by simp at hj;omega) _ (λop hop=>by obtain⟨e,_,rfl⟩:=Go.Conc.mem_ofEvents hop;rfl)]
  exact hB.lv.above j (by simpa using hj)
theorem bR:∀ (n:Nat) {g:Goroutine},aO P true n g->Bs P S B0 g w (dM P true n g) w
 |0,_,_=>Bs.refl
 |n+1,_,h=>(o9 (es:=#[]) h.1.1 (λd=>⟨d,h.1.2 _⟩) (λe he=>by simp at he) (Nat.le_refl _)).trans (bR n h.2)
theorem n_:∀ (qs:List Qa) {w w':World} (d:Nat),fH qs w w'->fH qs (w.at d) (w'.at d)
 | [],_,_,d,h=>by simp only[fH] at h ⊢;rw[h]
 |q::l,w,w',d,h=>by
  simp only[fH] at h ⊢
  split at h
  ·rename_i e;rw[if_pos e];exact⟨h.1,n_ l d h.2⟩
  ·rename_i e0;rw[if_neg e0]
   split at h
   ·rename_i e;rw[if_pos e];exact⟨h.1,h.2.1,n_ l d h.2.2⟩
   ·rename_i e1;rw[if_neg e1]
    split at h
    ·rename_i e;rw[if_pos e];exact⟨h.1,n_ l d h.2⟩
    ·rename_i e2;rw[if_neg e2]
     split at h
     ·rename_i e;rw[if_pos e];exact⟨h.1,n_ l d h.2⟩
     ·rename_i e3;rw[if_neg e3]
      split at h
      ·rename_i e;rw[if_pos e];exact⟨h.1,n_ l d h.2⟩
      ·rename_i e;rw[if_neg e];exact n_ l d h
end
def go1(P:Program)(g:Goroutine)(x:Next):Goroutine:=(upon P g x).getD g
def YI:Next->Bool
 | .value _ | .skip | .enter _ _=>true
 |_=>false
theorem Cb(P:Program)(g:Goroutine){x:Next}(h:YI x=true):upon P g x=some (go1 P g x):=by
 unfold go1
 cases x<;>first|(cases h;done)|rfl
structure dF(P:Program)(main:Bool)(g:Goroutine)(l:List An)(x:Next)(qs:List Qa)(es:Array Event):Prop where
 run:g.status=.running
 kind:(g.frame.kind==.early)=false
 at_:∀ w,stepG P main g w=stepG.apply P true g.frame g.callers none (nH g) w
 Eo:zu g=true
 asks:iW P (nH g) l=some (x,qs)
 ok:YI x=true
 ev:seen P g.frame.fn (qs.filterMap OT).toArray=es
theorem dF.step{P:Program}{main:Bool}{g:Goroutine}{l:List An}{x:Next}{qs:List Qa}{es:Array Event}(h:dF P main g l x qs es){w w':World}(hq:fH qs w w'):stepG P main g w=.go (go1 P g x) w' es:=by
 rw[Ls ⟨h.kind,h.at_⟩ (xD h.Eo) h.asks (Cb P g h.ok) hq,h.ev]
theorem dK{P:Program}{S:Nat->Prop}{B0:Nat}{g:Goroutine}{l:List An}{x:Next}{qs:List Qa}{es:Array Event}(h:dF P true g l x qs es){w w':World}(hq:fH qs w w')(he:∀ e∈es,EvL (ShunB S) w'.heap.size e/\∀ a,MemAct.ofEvent e≠.mark (.release a))(hsz:w.heap.size<=w'.heap.size):Bs P S B0 g w (go1 P g x) w' :=
 o9 h.run (λd=>⟨d,h.step (n_ qs d hq)⟩) he hsz
end Go.Proofs.YtljjjonaaoedpaaGreat
namespace Go.Proofs.YtljjjonaaoedpaaGreat
open Tryz (prog)
open Go Go.Conc
variable {P:Program} {Z:Nat->Prop} {fns:Fx} {main sil:Bool} {E:Nat->Nat->Prop} {Fz:Nat->Prop} {Ex:World->World->Prop} {O:Nat->Prop} {Stop:(Nat->Prop)->Goroutine->World->Prop}
theorem F6{Q:Value->World->Prop}{c:Frame}{cs:List Frame}{g g':Goroutine}{gh w:World}(h:InG P fns Z true (u6 P Q) [] (c::cs) E g gh g' w)(hs:atStop true [trapF] g)(hf:u6 P Q g gh) :
 ∃ E1 v v' dZ w1 es,dZ.heap=gh.heap/\Q v dZ/\VR fns E1 v v'/\stepG (fns.re P) main g' w=.go (G (c.finish v') cs) w1 es/\Out P fns E E1 Z dZ w dZ w1/\∀ e∈es,vS E1 Z e:=by
 obtain⟨fr,fr',L,rfl,rfl,hF,hL⟩:=h.gr
 have hL0:L=[]:=by
  have:=hs.1
  simp only[G] at this
  have h2:=congrArg List.length this
  simp at h2
  exact List.eq_nil_of_length_eq_zero (by simpa using h2)
 subst hL0
 have hk:Ej ([]:List (Frame × Frame)) []=[]:=rfl
 rw[hk] at hF
 have hm:fr.mode=.returning:=by
  have:=hs.2
  simpa [G] using this
 obtain⟨fn,v,t,d,hfn,hr,hq⟩:=hf
 simp only[G] at hfn hr
 have hres:fn.results.all (xw (zm P fr.fn))=true:=by
  obtain⟨fn2,h2,h3⟩:=hF.func
  rw[hfn] at h2
  cases h2
  exact h3
 have hf':(fns.re P).funcs[fr'.fn]?=some fn:=by rw[hF.fn];exact hF.same.trans hfn
 have hm':fr'.mode=.returning:=hF.mode.trans hm
 have Xl:=aj.results (P:=P) (Z:=Z) fn hres hF.tmps (wOn gh t d) w (h.wr.oP t d)
 rw[hr] at Xl
 obtain⟨E1,v',w1,e1,e2,e3,e4⟩:=Xl (λj hj=>absurd hj (by omega))
 refine⟨E1,v,v',wOn gh t d,w1,seen (fns.re P) fr'.fn (Sem.events (fns.re P) (results fn fr'.tmps) w #[])++#[],rfl,hq,e3,?_,e2,?_⟩
 ·simp only[List.map_nil,List.nil_append]
  rw[ko hm']
  unfold unwind
  simp only[hF.d',hm',hf',Sem.runT_eq,e1,doReturn,hF.k']
  rfl
 ·intro e he
  exact(e4 #[] e (mem_seen (by simpa [GStep.after] using he))).resolve_left (by simp)
theorem Lu(hz:zeros P fns)(hdep:0<P.depth)(hp:okOne P fns){Q:Value->World->Prop}{c:Frame}{cs:List Frame}{Oi:Nat->Prop}{K:World->Prop}{Hold:Nat->Prop}{B0:Nat}{E0:Nat->Nat->Prop}
 (hKr:∀ O w w₁,Rly Fz Ex O w w₁->K w->K w₁) (hKg:∀ w w',K w->(∀ b,Hold b->w'.heap[b]?=w.heap[b]?)->w.heap.size<=w'.heap.size->K w')
 (next:∀ E1 v v' dZ w1,Q v dZ->VR fns E1 v v'->WR P fns E1 Z dZ w1->K w1->(∀ a b,E1 a b->E0 a b\/B0<=b)->Co P main false Fz Ex Stop (λb=>Oi b\/(¬Fz b/\∃ a,E1 a b)) (G (c.finish v') cs) w1) :
 ∀ (x:Goroutine × World),Acc (Bf P true) x->∀ (E:Nat->Nat->Prop) (g':Goroutine) (w:World),InG P fns Z true (u6 P Q) [] (c::cs) E x.1 x.2 g' w->(∀ a b,E a b->Z a->Fz b)->(∀ a b,E a b->¬Z a->¬Fz b)->(∀ b,Fz b->b<w.heap.size) ->
   K w->(∀ b,Hold b->b<w.heap.size/\(Fz b\/∀ a,¬E a b))->(∀ a b,E a b->E0 a b\/B0<=b)->B0<=w.heap.size ->
   Co P main false Fz Ex Stop (λb=>Oi b\/(¬Fz b/\∃ a,E a b)) g' w:=by
 intro x hacc
 induction hacc with
 |intro x _ ih =>
 intro E g' w hI hZ hnZ hFl hK hH hE0 hB0
 refine Co.step hI.gr.running λw₁ r=>?_
 have hI1:InG P fns Z true (u6 P Q) [] (c::cs) E x.1 x.2 g' w₁:=hI.rely (λa b y=>by
  by_cases hf:Fz b
  ·exact r.fz b hf
  ·exact r.mine b (.inr ⟨hf,a,y⟩)) r.size
 have hK1:K w₁:=hKr _ w w₁ r hK
 -- what every step of its own keeps
 have common:∀ {E1:Nat->Nat->Prop} {dZ Ro w2:World} {es:Array Event},dZ.heap.size=x.2.heap.size->Out P fns E E1 Z dZ w₁ Ro w2->(∀ e∈es,vS E1 Z e) ->
  Gua (λb=>Oi b\/(¬Fz b/\∃ a,E a b)) w₁ w2/\(∀ a b,E1 a b->Z a->Fz b)/\(∀ a b,E1 a b->¬Z a->¬Fz b)/\grow (λb=>Oi b\/(¬Fz b/\∃ a,E a b)) w₁ w2=(λb=>Oi b\/(¬Fz b/\∃ a,E1 a b)) /\
  (∀ e∈es,EvC Fz (λb=>Oi b\/(¬Fz b/\∃ a,E1 a b)) e)/\K w2/\(∀ b,Hold b->b<w2.heap.size/\(Fz b\/∀ a,¬E1 a b))/\(∀ a b,E1 a b->E0 a b\/B0<=b):=by
  intro E1 dZ Ro w2 es hgs e4 e5
  have hfresh:∀ a b,E1 a b->E a b\/(w₁.heap.size<=b/\¬Z a):=λa b y=>(e4.fresh a b y).imp id λy=>⟨y.2,λhz=>by have:=hI1.wr.zlow a hz;omega⟩
  have hZ1:∀ a b,E1 a b->Z a->Fz b:=λa b y hz=>(hfresh a b y).elim (λy=>hZ a b y hz) λy=>(y.2 hz).elim
  have hnZ1:∀ a b,E1 a b->¬Z a->¬Fz b:=λa b y hz=>(hfresh a b y).elim (λy=>hnZ a b y hz) λy hf=>by
   have:=hFl b hf;have:=r.size;omega
  refine⟨⟨λb hb hno=>?_,e4.rsize,e4.rtape,e4.os,e4.output⟩,hZ1,hnZ1,?_,λe he=>?_,?_,λb hb=>?_,λa b y=>?_⟩
  ·exact e4.keep b hb λa y=>Classical.byContradiction λhnz=>hno (.inr ⟨hnZ a b y hnz,a,y⟩)
  ·funext b
   refine propext ⟨λy=>?_,λy=>?_⟩
   ·rcases y with (y|⟨hf,a,y⟩)|⟨y,z⟩
    ·exact .inl y
    ·exact .inr ⟨hf,a,e4.up a b y⟩
    ·have hn:=e4.news (b-w₁.heap.size) (by have:=e4.sizes;omega)
     have eb:w₁.heap.size+(b-w₁.heap.size)=b:=by omega
     rw[eb] at hn
     exact .inr ⟨λhf=>by have:=hFl b hf;have:=r.size;omega,_,hn⟩
   ·rcases y with y|⟨hf,a,y⟩
    ·exact .inl (.inl y)
    ·rcases hfresh a b y with z|z
     ·exact .inl (.inr ⟨hf,a,z⟩)
     ·exact .inr ⟨z.1,(e4.wr.lt y).2⟩
  ·rcases e5 e he with ⟨b,h1,h2,a,h3,h4⟩|h
   ·refine .inl ⟨b,h1,h2,?_⟩
    by_cases hf:Fz b
    ·refine .inr ⟨hf,?_⟩
     cases hw:e.write with
     |false=>rfl
     |true=>exact(hnZ1 a b h3 (h4 hw) hf).elim
    ·exact .inl (.inr ⟨hf,a,h3⟩)
   ·exact .inr h
  ·refine hKg w₁ w2 hK1 (λb hb=>e4.keep b (by have:=(hH b hb).1;have:=r.size;omega) λa y=>?_) e4.rsize
   rcases (hH b hb).2 with hf|hf
   ·exact Classical.byContradiction λhnz=>hnZ a b y hnz hf
   ·exact(hf a y).elim
  ·refine⟨by have:=(hH b hb).1;have:=r.size;have:=e4.rsize;omega,(hH b hb).2.imp id λhf a y=>?_⟩
   rcases hfresh a b y with z|z
   ·exact hf a z
   ·have:=(hH b hb).1;have:=r.size;omega
  ·rcases hfresh a b y with z|z
   ·exact hE0 a b z
   ·exact .inr (by have:=r.size;omega)
 rcases hI1.step (main:=main) hz hdep hp (λ_=>rfl) with ⟨h1,h2⟩|⟨E1,g1,wg1,g1',re',es',e1,e2,e3,e4,e5⟩
 ·obtain⟨E1,v,v',dZ,w1,es,hg1,hq,hv,hst,hout,hev⟩:=F6 (main:=main) hI1 h1 h2
  rw[hp.2.1] at hst
  obtain⟨a1,a2,a3,a4,a5,a6,a7,a8⟩:=common (by rw[hg1]) hout hev
  refine⟨_,w1,es,hst,a1,by rw[a4];exact a5,λy=>(by cases y),?_⟩
  rw[a4]
  exact next E1 v v' dZ w1 hq hv hout.wr a6 a8
 ·obtain⟨a1,a2,a3,a4,a5,a6,a7,a8⟩:=common (dZ:=wOn x.2 w₁.tape w₁.drawn) rfl e4 e5
  refine⟨g1',re',es',e1,a1,by rw[a4];exact a5,λy=>(by cases y),?_⟩
  rw[a4]
  exact ih (g1,wg1) e2 E1 g1' re' e3 a2 a3 (λb hf=>by have:=hFl b hf;have:=r.size;have:=e4.rsize;omega) a6 a7 a8 (by have:=r.size;have:=e4.rsize;omega)
end Go.Proofs.YtljjjonaaoedpaaGreat
namespace Go.Proofs.YtljjjonaaoedpaaGreat
open Tryz (prog)
open Go Go.Conc
open Go.ConcN (WgLive)
open Go.ConcR (DC0)
def Xm:Nat->Code->Code
 |0,c=>c
 |n+1,.seq _ b=>Xm n b
 |_+1,c=>c
def Ep(P:Program)(f:FuncId):Code:=((P.funcs[f]?).bind (·.body)).getD .skip
def F7(P:Program)(f:FuncId)(k:Nat)(T:Array Value)(cs:List Frame):Goroutine:=G { fn:=f,tmps:=T,todo:=[.code (Xm k (Ep P f))],defers:=[],mode:=.run,kind:=.normal } cs
variable {P:Program} {main sil:Bool} {Fz:Nat->Prop} {Ex:World->World->Prop} {O:Nat->Prop} {Stop:(Nat->Prop)->Goroutine->World->Prop} {K:World->Prop}
theorem qM{R:World->World->Prop}{D:World->World->Array Event->Prop}{S:Goroutine->World->Prop}(hR:∀ w,R w w)(hS:∀ g w,S g w->∃ g' es,stepG P main g w=.go g' w es/\es≠#[]) :
 ∀ (n:Nat) {m:Nat} {g:Goroutine} {w:World},aO P main n g->Goes P main R D S m g w->∃ m',Goes P main R D S m' (dM P main n g) w
 |0,m,_,_,_,h=>⟨m,h⟩
 |n+1,m,g,w,hp,h=>by
  have hno:∀ w,¬S g w:=λw hs=>by
   obtain⟨g',es,e1,e2⟩:=hS g w hs
   rw[hp.1.2 w] at e1
   cases e1
   exact e2 rfl
  cases m with
  |zero=>exact absurd (h w (hR w)) (hno w)
  |succ m =>
   rcases h with h|⟨_,h⟩
   ·exact absurd (h w (hR w)) (hno w)
   ·have:=h w (hR w)
    rw[hp.1.2 w,goes_go] at this
    exact qM hR hS n hp.2 this.2
theorem xE:∀ (n:Nat) {g:Goroutine},aO P false n g->(dM P false n g).status=.finished->QuitsD P n 0 g
 |0,_,_,h=>⟨h,rfl⟩
 |n+1,g,hp,h=>.inr ⟨hp.1.1,nx P false g,#[],λe he=>by simp at he,hp.1.2,by
  have:deafBehind 0 #[]=0:=rfl
  rw[this]
  exact xE n hp.2 h⟩
theorem qN(hK:I4 Fz Ex K O){g:Goroutine}{l:List An}{x:Next}{qs:List Qa}{es:Array Event}(h:dF P main g l x qs es)(hq:∀ w,K w->fH qs w w)(he:∀ e∈es,EvC Fz O e)(hn:CK P main false Fz Ex Stop K O (go1 P g x)):CK P main false Fz Ex Stop K O g :=
 OP hK h.run (λw hw=>h.step (hq w hw)) he hn
theorem u7(hK:I4 Fz Ex K O){g:Goroutine}{x:Next}(h:dF P main g [] x [] #[])(hn:CK P main sil Fz Ex Stop K O (go1 P g x)):CK P main sil Fz Ex Stop K O g :=
 En hK h.run (λw _=>h.step (show fH [] w w from rfl)) hn
theorem Ta(hK:I4 Fz Ex K O){g:Goroutine}{ob:Obj}(h:∀ n,dF P main g [{ n:=n }] (.value (.pointer (some ⟨n,0,none⟩))) [{ k:=4,ad:=⟨n,0,none⟩,o:=ob }] #[])
 (hn:∀ w,K w->CK P main sil Fz Ex Stop (λw'=>Gua O w w'/\w'.heap.size=w'.heap.size/\(∀ b,b<w.heap.size->w'.heap[b]?=w.heap[b]?)/\w.heap.size<w'.heap.size/\w'.heap[w.heap.size]?=some ob) (λb=>O b\/b=w.heap.size) (go1 P g (.value (.pointer (some ⟨w.heap.size,0,none⟩))))):CK P main sil Fz Ex Stop K O g :=
 sM hK (h 0).run λw hw=>by
  have hg:grow O w { w with heap:=w.heap.push ob }=λb=>O b\/b=w.heap.size:=by
   funext b
   refine propext ⟨λy=>y.imp id λz=>?_,λy=>y.imp id λz=>?_⟩
   ·have:=z.2;simp only[Array.size_push] at this;omega
   ·subst z;simp
  have hk:∀ b,b<w.heap.size->({ w with heap:=w.heap.push ob }:World).heap[b]?=w.heap[b]?:=λb hb=>by
   simp only[Array.getElem?_push];rw[if_neg (by omega)]
  have hG:Gua O w { w with heap:=w.heap.push ob }:=⟨λb hb _=>hk b hb,by simp,rfl,rfl,rfl⟩
  refine⟨_,{ w with heap:=w.heap.push ob },#[],(h w.heap.size).step (show fH _ _ _ from⟨rfl,rfl⟩),hG,λe he=>by simp at he,λ_=>rfl,?_⟩
  rw[hg]
  exact hn w hw _ ⟨hG,rfl,hk,by simp,by simp⟩
theorem Lv(hK:I4 Fz Ex K O){g:Goroutine}{l:List An}{x:Next}{qs:List Qa}{es:Array Event}{K':World->Prop}(h:dF P main g l x qs es)
 (hq:∀ w,K w->∃ w',fH qs w w'/\Gua O w w'/\w'.heap.size=w.heap.size/\K' w') (he:∀ e∈es,EvC Fz O e) (hn:CK P main false Fz Ex Stop K' O (go1 P g x)):CK P main false Fz Ex Stop K O g :=
 sM hK h.run λw hw=>by
  obtain⟨w',h1,h2,h3,h4⟩:=hq w hw
  have hg:grow O w w'=O:=by
   funext b
   refine propext ⟨λy=>y.elim id λz=>?_,.inl⟩
   omega
  exact⟨_,w',es,h.step h1,h2,λe hm=>by rw[hg];exact he e hm,λy=>(by cases y),by rw[hg];exact hn w' h4⟩
def u_(P:Program){α:Type}:Sem α->List An->Option (List Qa)
 | .load m a k,l=>(u_ P (k (l.headD {}).v) l.tail).map λr=>{ k:=0,ad:=a,v:=(l.headD {}).v,sy:=m==.atomic }::r
 | .program k,l=>u_ P (k P) l
 | .mark m k,l=>(u_ P k l).map λr=>{ k:=5,m:=m }::r
 | .halt .blocked,_=>some []
 |_,_=>none
theorem Lx{α:Type}:∀ (s:Sem α) (l:List An) (qs:List Qa) (w:World) (es:Array Event),u_ P s l=some qs->fH qs w w->∃ es',s.runT P w es=(.halt .blocked w,es'):=by
 intro s
 induction s with
 |load m a k ih =>
  intro l qs w es h hq
  simp only[u_,Option.map_eq_some_iff] at h
  obtain⟨q1,h1,rfl⟩:=h
  simp only[fH,if_true] at hq
  simp only[Sem.runT,hq.1]
  exact ih _ _ _ _ _ h1 hq.2
 |program k ih =>
  intro l qs w es h hq
  simp only[u_] at h
  simp only[Sem.runT]
  exact ih _ _ _ _ _ h hq
 |mark m k ih =>
  intro l qs w es h hq
  simp only[u_,Option.map_eq_some_iff] at h
  obtain⟨q1,h1,rfl⟩:=h
  simp only[fH,show ¬(5:Nat)=0 by decide,show ¬(5:Nat)=1 by decide,show ¬(5:Nat)=2 by decide,show ¬(5:Nat)=3 by decide,show ¬(5:Nat)=4 by decide,if_false] at hq
  simp only[Sem.runT]
  exact ih _ _ _ _ h1 hq
 |halt h =>
  intro l qs w es h1 hq
  cases h<;>first|(simp[u_] at h1;done)|exact⟨es,rfl⟩
 |_=>intro l qs w es h1;simp[u_] at h1
theorem step_block{g:Goroutine}{w:World}{l:List An}{qs:List Qa}(ha:Lr P main g)(hr:g.status=.running)(hd:g.dying=none)(ho:g.offers=none)(h:u_ P (nH g) l=some qs)(hq:fH qs w w):stepG P main g w=.go { g with status:=.blocked } w #[]:=by
 obtain⟨es',he⟩:=Lx (nH g) l qs w #[] h hq
 rw[ha.2 w]
 unfold stepG.apply
 simp only[if_true,he]
 obtain⟨f,c,s,d,o⟩:=g
 simp only at hr hd ho
 subst hr hd ho
 split<;>simp[GStep.after,seen]
theorem o_{g:Goroutine}{l:List An}{x x':Next}{qs:List Qa}{es:Array Event}(h:dF P main g l x qs es)(e:x=x'):dF P main g l x' qs es:=e▸h
end Go.Proofs.YtljjjonaaoedpaaGreat
namespace Go.Proofs.YtljjjonaaoedpaaGreat
open Tryz (prog)
open Go Go.Conc
open Go.ConcN (WgLive Has AtR0 RW)
open Go.ConcR (KK wgBlock WgAt stA smA rd wr Payload DC0)
structure Lk where
 b2:Nat
 b6:Nat
 b7:Nat
 bc:Nat
 b8:Nat
 pa:Option Addr
 len:Nat
 pc:Nat
 n:Nat
 m0:Nat
 w0:World
 Fz:Nat->Prop
 st:Nat->Nat
 kd:Nat->Nat
 lb:Nat->Nat
 sq:Nat->Nat
 cs:List Frame
 ha:Nat->Option Addr
 hl:Nat->Nat
 hc:Nat->Nat
def Lk.pages(y:Lk):Value:=.slice y.pa y.len y.pc
def Lk.sight(y:Lk)(i:Nat):Value:=.agg #[.int .i64 (y.st i:Nat),.int .i64 (y.lb i:Nat),.int .i64 (i:Nat),.int .i64 (y.sq i:Nat),.int .i64 (y.kd i:Nat)]
def ptr(b:Nat):Value:=.pointer (some ⟨b,0,none⟩)
def kid(P:Program)(y:Lk):Goroutine:={ frame:={ (default:Frame) with fn:=P.funcs.size,defers:=[{ target:=.fn (.func 95) #[ptr y.b7,ptr y.b2,ptr y.b6,ptr y.b8],args:=#[] }],mode:=.panicking [goexitEntry] },callers:=[],status:=.running,dying:=none }
def Tc(P:Program)(y:Lk):Goroutine:=go1 P (dM P false 6 (kid P y)) (.value y.pages)
def LA(P:Program)(y:Lk):Goroutine:=go1 P (Tc P y) (.value (.chan (some y.bc)))
def below(P:Program)(y:Lk):List Frame:=(LA P y).frame::(LA P y).callers
def T35(v0 v1 v2:Value)(t:Nat->Value):Array Value:=#[v0,v1,v2,t 3,t 4,t 5,t 6,t 7,t 8,t 9,t 10,t 11,t 12,t 13,t 14,t 15,t 16,t 17,t 18,t 19,t 20,t 21,t 22,t 23,t 24,t 25,t 26,t 27,t 28,t 29,t 30,t 31,t 32,t 33,t 34]
theorem Xn(T:Array Value)(h:T.size=35):∃ v0 v1 v2 t,T=T35 v0 v1 v2 t:=by
 obtain⟨l⟩:=T
 rcases l with _|⟨a0,l⟩
 ·simp at h
 rcases l with _|⟨a1,l⟩
 ·simp at h
 rcases l with _|⟨a2,l⟩
 ·simp at h
 rcases l with _|⟨a3,l⟩
 ·simp at h
 rcases l with _|⟨a4,l⟩
 ·simp at h
 rcases l with _|⟨a5,l⟩
 ·simp at h
 rcases l with _|⟨a6,l⟩
 ·simp at h
 rcases l with _|⟨a7,l⟩
 ·simp at h
 rcases l with _|⟨a8,l⟩
 ·simp at h
 rcases l with _|⟨a9,l⟩
 ·simp at h
 rcases l with _|⟨Rm,l⟩
 ·simp at h
 rcases l with _|⟨Xo,l⟩
 ·simp at h
 rcases l with _|⟨a12,l⟩
 ·simp at h
 rcases l with _|⟨Xp,l⟩
 ·simp at h
 rcases l with _|⟨Xq,l⟩
 ·simp at h
 rcases l with _|⟨Xr,l⟩
 ·simp at h
 rcases l with _|⟨a16,l⟩
 ·simp at h
 rcases l with _|⟨a17,l⟩
 ·simp at h
 rcases l with _|⟨Xt,l⟩
 ·simp at h
 rcases l with _|⟨Xu,l⟩
 ·simp at h
 rcases l with _|⟨a20,l⟩
 ·simp at h
 rcases l with _|⟨a21,l⟩
 ·simp at h
 rcases l with _|⟨a22,l⟩
 ·simp at h
 rcases l with _|⟨a23,l⟩
 ·simp at h
 rcases l with _|⟨a24,l⟩
 ·simp at h
 rcases l with _|⟨a25,l⟩
 ·simp at h
 rcases l with _|⟨a26,l⟩
 ·simp at h
 rcases l with _|⟨a27,l⟩
 ·simp at h
 rcases l with _|⟨a28,l⟩
 ·simp at h
 rcases l with _|⟨a29,l⟩
 ·simp at h
 rcases l with _|⟨a30,l⟩
 ·simp at h
 rcases l with _|⟨a31,l⟩
 ·simp at h
 rcases l with _|⟨a32,l⟩
 ·simp at h
 rcases l with _|⟨a33,l⟩
 ·simp at h
 rcases l with _|⟨a34,l⟩
 ·simp at h
 rcases l with _|⟨_,l⟩
 ·exact⟨a0,a1,a2,λi=>(#[a0,a1,a2,a3,a4,a5,a6,a7,a8,a9,Rm,Xo,a12,Xp,Xq,Xr,a16,a17,Xt,Xu,a20,a21,a22,a23,a24,a25,a26,a27,a28,a29,a30,a31,a32,a33,a34]:Array Value).getD i undef,rfl⟩
 ·simp at h
def pq(P:Program)(y:Lk)(T:Array Value):Goroutine:=dM P false 2 (F7 P 97 0 T (below P y))
def wT(y:Lk)(t:Nat->Value):Array Value:=T35 y.pages (ptr y.b6) (.chan (some y.bc)) t
theorem OU(y:Lk):aO prog false 6 (kid prog y):=by
 iterate 6 (refine aO.step (by kernel_rfl) (λw=>by kernel_rfl) ?_)
 exact aO.nil
theorem LC(y:Lk):dF prog false (dM prog false 6 (kid prog y)) [{ v:=y.pages }] (.value y.pages) [{ k:=0,ad:=⟨y.b2,0,none⟩,v:=y.pages }] #[⟨.cell ⟨y.b2,0,none⟩,false,false⟩]:=⟨by kernel_rfl,by kernel_rfl,λw=>by kernel_rfl,by kernel_rfl,by kernel_rfl,by kernel_rfl,by kernel_rfl⟩
theorem LD(y:Lk):dF prog false (Tc prog y) [{ v:=.chan (some y.bc) }] (.value (.chan (some y.bc))) [{ k:=0,ad:=⟨y.b8,0,none⟩,v:=.chan (some y.bc) }] #[⟨.cell ⟨y.b8,0,none⟩,false,false⟩]:=⟨by kernel_rfl,by kernel_rfl,λw=>by kernel_rfl,by kernel_rfl,by kernel_rfl,by kernel_rfl,by kernel_rfl⟩
theorem LG(y:Lk):aO prog false 3 (LA prog y):=by
 iterate 3 (refine aO.step (by kernel_rfl) (λw=>by kernel_rfl) ?_)
 exact aO.nil
theorem I5(y:Lk):dM prog false 3 (LA prog y)=pq prog y (wT y λ_=>undef):=by kernel_rfl
theorem LH(y:Lk)(t:Nat->Value):aO prog false 15 (pq prog y (wT y t)):=by
 iterate 15 (refine aO.step (by kernel_rfl) (λw=>by kernel_rfl) ?_)
 exact aO.nil
def g1(P:Program)(y:Lk)(t:Nat->Value)(c:Nat):Goroutine:=go1 P (dM P false 15 (pq P y (wT y t))) (.value (.int .i64 ((c+1:Nat):Int)))
def g2(P:Program)(y:Lk)(t:Nat->Value)(c:Nat):Goroutine:=go1 P (dM P false 4 (g1 P y t c)) (.value (.int .i64 (c:Nat)))
def g3(P:Program)(y:Lk)(t:Nat->Value)(c:Nat)(b:Bool):Goroutine:=go1 P (dM P false 8 (g2 P y t c)) (.value (.bool b))
theorem LJ(y:Lk)(t:Nat->Value)(c:Nat):dF prog false (dM prog false 15 (pq prog y (wT y t))) [{ v:=.int .i64 (c:Nat) }] (.value (.int .i64 (IntKind.i64.wrap ((c:Int)+1))))
 [{ k:=5,m:=.extern 152 },{ k:=0,ad:=⟨y.b6,0,none⟩,v:=.int .i64 (c:Nat),sy:=true },{ k:=1,ad:=⟨y.b6,0,none⟩,v:=.int .i64 (IntKind.i64.wrap ((c:Int)+1)),sy:=true }]
 #[rd ⟨y.b6,0,none⟩,wr ⟨y.b6,0,none⟩]:=⟨by kernel_rfl,by kernel_rfl,λw=>by kernel_rfl,by kernel_rfl,by kernel_rfl,by kernel_rfl,by kernel_rfl⟩
theorem LK(y:Lk)(t:Nat->Value)(c:Nat):aO prog false 4 (g1 prog y t c):=by
 iterate 4 (refine aO.step (by kernel_rfl) (λw=>by kernel_rfl) ?_)
 exact aO.nil
theorem OV(y:Lk)(t:Nat->Value)(c:Nat):dF prog false (dM prog false 4 (g1 prog y t c)) [] (.value (.int .i64 (IntKind.i64.wrap (((c+1:Nat):Int)-1)))) [] #[]:=⟨by kernel_rfl,by kernel_rfl,λw=>by kernel_rfl,by kernel_rfl,by kernel_rfl,by kernel_rfl,by kernel_rfl⟩
theorem LM(y:Lk)(t:Nat->Value)(c:Nat):aO prog false 8 (g2 prog y t c):=by
 iterate 8 (refine aO.step (by kernel_rfl) (λw=>by kernel_rfl) ?_)
 exact aO.nil
theorem OW(y:Lk)(t:Nat->Value)(c:Nat):dF prog false (dM prog false 8 (g2 prog y t c)) [] (.value (.bool (decide ((y.len:Int)<=(c:Int))))) [] #[]:=⟨by kernel_rfl,by kernel_rfl,λw=>by kernel_rfl,by kernel_rfl,by kernel_rfl,by kernel_rfl,by kernel_rfl⟩
def gD(P:Program)(y:Lk)(t:Nat->Value)(c:Nat):Goroutine:=dM P false 7 (g3 P y t c true)
def gC(P:Program)(y:Lk)(t:Nat->Value)(c:Nat):Goroutine:=dM P false 14 (gD P y t c)
def gM(P:Program)(y:Lk)(t:Nat->Value)(c:Nat):Goroutine:=go1 P (gC P y t c) (.value (ptr y.b7))
def gK(P:Program)(y:Lk)(t:Nat->Value)(c:Nat):Goroutine:=dM P false 3 (nx P false (gM P y t c))
def fD(P:Program)(y:Lk)(t:Nat->Value)(c:Nat):Frame:=(gD P y t c).callers.headD default
def ZX(P:Program)(y:Lk)(t:Nat->Value)(c:Nat):List Frame:=(gD P y t c).callers.tail
theorem OX(y:Lk)(t:Nat->Value)(c:Nat):aO prog false 7 (g3 prog y t c true):=by
 iterate 7 (refine aO.step (by kernel_rfl) (λw=>by kernel_rfl) ?_)
 exact aO.nil
theorem Xv(y:Lk)(t:Nat->Value)(c:Nat):gD prog y t c=G ((baseD Tryz.link.done).at ⟨#[.pointer (some ⟨y.b7,0,none⟩),undef,undef,undef],[]⟩ [.code (Go.ConcR.Gen.body_done Tryz.link)]) (fD prog y t c::ZX prog y t c):=by kernel_rfl
theorem OY(y:Lk)(t:Nat->Value)(c:Nat):(fD prog y t c).mode=.returning:=by kernel_rfl
theorem Td(y:Lk)(t:Nat->Value)(c:Nat):aO prog false 2 (G (fD prog y t c) (ZX prog y t c)):=by
 iterate 2 (refine aO.step (by kernel_rfl) (λw=>by kernel_rfl) ?_)
 exact aO.nil
theorem Te(y:Lk)(t:Nat->Value)(c:Nat):(dM prog false 2 (G (fD prog y t c) (ZX prog y t c))).status=.finished:=by kernel_rfl
theorem LP(y:Lk)(t:Nat->Value)(c:Nat):aO prog false 14 (gD prog y t c):=by
 iterate 14 (refine aO.step (by kernel_rfl) (λw=>by kernel_rfl) ?_)
 exact aO.nil
theorem Er(y:Lk)(t:Nat->Value)(c:Nat):dF prog false (gC prog y t c) [{ sh:=some (180,2) },{ sh:=some (180,2) }] (.value (ptr y.b7)) [{ k:=2,ad:=⟨y.b7,0,none⟩,sh:=some (180,2) },{ k:=2,ad:=⟨y.b7,0,none⟩,sh:=some (180,2) }] #[]:=⟨by kernel_rfl,by kernel_rfl,λw=>by kernel_rfl,by kernel_rfl,by kernel_rfl,by kernel_rfl,by kernel_rfl⟩
theorem OZ(y:Lk)(t:Nat->Value)(c:Nat)(w:World):stepG prog false (gM prog y t c) w=.go (nx prog false (gM prog y t c)) w #[ConcR.mk (.releaseMerge (stA y.b7))]:=by kernel_rfl
theorem Tf(y:Lk)(t:Nat->Value)(c:Nat):aO prog false 3 (nx prog false (gM prog y t c)):=by
 iterate 3 (refine aO.step (by kernel_rfl) (λw=>by kernel_rfl) ?_)
 exact aO.nil
theorem F8(y:Lk)(t:Nat->Value)(c:Nat)(w:World):stepG prog false (gK prog y t c) w=.go (nx prog false (gK prog y t c)) w #[ConcR.mk .disable]:=by kernel_rfl
theorem Tg(y:Lk)(t:Nat->Value)(c:Nat):(gM prog y t c).status=.running:=by kernel_rfl
