/- Part of the proof. -/
import Derived.Test.YtjlgehmebfkioaaGreatDoorZ00
set_option linter.unusedVariables false
open Int renaming toNat_natCast->cD
open List renaming getElem?_eq_getElem->ax,mem_cons->gf
open Or renaming inl->bh,inr->a_
namespace Go.Proofs.au
variable {L M:Nat} {lb pg sq:Nat->Nat}
structure NF(M:Nat)(Im:Nat->List Nat)(n:Nat)(lb pg sq:Nat->Nat):Prop where
 rise:∀ i j,i<j->j<n->lb i<lb j
 is:∀ i,i<n->pg i<M/\pO (Im (pg i))/\lb i=bT (Im (pg i))/\sq i=bO (Im (pg i))/\∀ p,p<M->pO (Im p)->bT (Im p)=lb i->bO (Im p)<=sq i
 all:∀ p,p<M->pO (Im p)->∃ i,i<n/\lb i=bT (Im p)
def vM(lb pg:Nat->Nat):Nat->Bk
 |0=>fresh
 |i+1=>jU (vM lb pg i) (lb i) (pg i)
def tu(sq:Nat->Nat):Nat->Nat
 |0=>0
 |i+1=>max (tu sq i) (sq i+1)
theorem OX{sq:Nat->Nat}:∀ n i,i<n->sq i<tu sq n
 |0,i,h=>by omega
 |n+1,i,h=>by
  rw[tu]
  by_cases e:i=n
  .subst e;omega
  .have:=OX (sq:=sq) n i (by omega);omega
theorem Cu{sq:Nat->Nat}{m:Nat}:∀ n,(∀ i,i<n->sq i<m)->tu sq n<=m
 |0,_=>Nat.zero_le _
 |n+1,h=>by
  have:=Cu n (λi hi=>h i (by omega))
  have:=h n (by omega)
  rw[tu];omega
structure BI(L M:Nat)(lb pg:Nat->Nat)(i:Nat)(k:Bk):Prop where
 inv:Inv L M k
 some:∀ l,∀ q:Nat,k.pa l=(q:Int)->∃ j,j<i/\lb j=l/\pg j=q
 all:∀ j,j<i->k.pa (lb j)=(pg j:Int)
theorem BI.zero(L M:Nat)(lb pg:Nat->Nat):BI L M lb pg 0 (vM lb pg 0) :=
 ⟨Ar L M,λl q e=>by
  have:(-1:Int)=(q:Int):=e
  omega,λj hj=>by omega⟩
theorem BI.step{n i:Nat}{Im:Nat->List Nat}(h:NF M Im n lb pg sq)(hL:∀ j,j<n->lb j<L)(hi:i<n)(hb:BI L M lb pg i (vM lb pg i)):pJ L M (vM lb pg i) (lb i:Int) (pg i:Int)=(0,vM lb pg (i+1))/\BI L M lb pg (i+1) (vM lb pg (i+1)):=by
 obtain⟨a1,a2,a3,a4,a5⟩:=h.is i hi
 have hl:=hL i hi
 have hpg:∀ j,j<i->pg j≠pg i:=λj hj e=>by
  have:=h.rise j i hj hi
  have:=(h.is j (by omega)).2.2.1
  rw[e] at this
  omega
 have hfree:(vM lb pg i).lb (pg i)=-1:=by
  rcases hb.inv.o (pg i) a1 with e|⟨l,_,_,e⟩
  .exact e
  .obtain⟨j,j1,j2,j3⟩:=hb.some l (pg i) e
   exact(hpg j j1 j3).elim
 have e1:pJ L M (vM lb pg i) (lb i:Int) (pg i:Int)=(0,vM lb pg (i+1)):=by
  have q1:sM L (lb i:Int)=true:=decide_eq_true ⟨by omega,by omega⟩
  have q2:sM M (pg i:Int)=true:=decide_eq_true ⟨by omega,by omega⟩
  unfold pJ
  rw[if_neg (by rw[q1,q2];simp),cD,cD,if_neg (by rw[hfree];simp)]
  rfl
 refine⟨e1,?_⟩
 have epa:∀ l,(vM lb pg (i+1)).pa l=if l=lb i then(pg i:Int) else(vM lb pg i).pa l:=λl=>by
  show upd (upd (vM lb pg i).pa (lb i) (-1)) (lb i) (pg i:Int) l=_
  unfold upd
  split<;>rfl
 refine⟨?_,λl q e=>?_,λj hj=>?_⟩
 .exact J2 (oz hb.inv hl) hl a1 (EA _ _) (EB hb.inv hl a1 (bh hfree))
 .rw[epa] at e
  by_cases hl2:l=lb i
  .rw[if_pos hl2] at e
   exact⟨i,by omega,hl2.symm,by omega⟩
  .rw[if_neg hl2] at e
   obtain⟨j,j1,j2,j3⟩:=hb.some l q e
   exact⟨j,by omega,j2,j3⟩
 .rw[epa]
  by_cases e:j=i
  .subst e;rw[if_pos rfl]
  .have:=h.rise j i (by omega) hi
   rw[if_neg (by omega)]
   exact hb.all j (by omega)
theorem NF.same{Y n seq:Nat}{Im:Nat->List Nat}{pa:Nat->Int}(h:NF M Im n lb pg sq)(hd:DI M L Y Im pa seq)(hb:BI L M lb pg n (vM lb pg n)):DI M L Y Im (vM lb pg n).pa (tu sq n)/\(∀ l,l<L->(vM lb pg n).pa l=pa l)/\tu sq n<=seq:=by
 have h1:=hd.same (pa':=(vM lb pg n).pa) (seq':=tu sq n) (λp hp hc=>?_) (λl hl=>?_) (λl hl e p hp hc hlp=>?_) (λl hl q e=>?_)
 .refine⟨h1.1,h1.2,Cu n λi hi=>?_⟩
  obtain⟨a1,a2,a3,a4,a5⟩:=h.is i hi
  rw[a4]
  exact(hd.ok _ a1 a2).2.1
 .obtain⟨i,i1,i2⟩:=h.all p hp hc
  have:=(h.is i i1).2.2.2.2 p hp hc i2.symm
  have:=OX (sq:=sq) n i i1
  omega
 .rcases hb.inv.a l hl with e|⟨p,_,e,_⟩
  .exact bh e
  .exact a_ ⟨p,e⟩
 .obtain⟨i,i1,i2⟩:=h.all p hp hc
  have:=hb.all i i1
  rw[i2,hlp,e] at this
  omega
 .obtain⟨j,j1,j2,j3⟩:=hb.some l q e
  obtain⟨a1,a2,a3,a4,a5⟩:=h.is j j1
  rw[j3] at a1 a2 a3 a4
  exact⟨a1,a2,by omega,λp hp hc hlp=>by rw[<-a4];exact a5 p hp hc (by omega)⟩
theorem Tx{k k':Bk}(h:Inv L M k)(h':Inv L M k')(hp:∀ l,l<L->k'.pa l=k.pa l):∀ p,p<M->k'.lb p=k.lb p:=by
 intro p hpM
 rcases h'.o p hpM with e|⟨l,hl,e1,e2⟩
 .rcases h.o p hpM with e3|⟨l,hl,e3,e4⟩
  .rw[e,e3]
  .rcases h'.a l hl with e5|⟨q,hq,e5,e6⟩
   .rw[hp l hl,e4] at e5;omega
   .rw[hp l hl,e4] at e5
    obtain rfl:p=q:=by omega
    rw[e] at e6;omega
 .rcases h.a l hl with e5|⟨q,hq,e5,e6⟩
  .rw[<-hp l hl,e2] at e5;omega
  .rw[<-hp l hl,e2] at e5
   obtain rfl:p=q:=by omega
   rw[e1,e6]
theorem NF.congr{n:Nat}{p p':Nat->List Nat}(h:NF M p n lb pg sq)(he:∀ i,i<M->p i=p' i):NF M p' n lb pg sq:=by
 refine⟨h.rise,λi hi=>?_,λq hq hc=>?_⟩
 .obtain⟨a1,a2,a3,a4,a5⟩:=h.is i hi
  rw[he _ a1] at a2 a3 a4
  exact⟨a1,a2,a3,a4,λq hq hc hl=>by rw[<-he q hq] at hc hl ⊢;exact a5 q hq hc hl⟩
 .rw[<-he q hq] at hc ⊢
  exact h.all q hq hc
variable {bad:Bool} {p:Int} {k:Nat}
structure Bl where
 used:Bool
 live:Int
 aF:Int
def bl0:Bl:=⟨false,0,0⟩
def gB(l:List Bl)(i:Nat):Bl:=l[i]?.getD bl0
def GoodS(p:Int)(b:Bl):Prop:=0<=b.live/\b.live<=p/\0<=b.aF/\b.aF<=1000000000
abbrev EX(p:Int)(b:Bl):Bool:=decide (0<=b.live)&&decide (b.live<=p)&&decide (0<=b.aF)&&decide (b.aF<=1000000000)
theorem tQ(p:Int)(b:Bl):EX p b=true↔GoodS p b:=by
 unfold EX GoodS
 simp[and_assoc]
def EY(l:List Bl)(p:Int):Prop:=∀ i,i<l.length->GoodS p (gB l i)
theorem xR(l:List Bl)(p:Int):l.all (EX p)=true↔EY l p:=by
 rw[List.all_eq_true]
 constructor
 .intro h i hi
  have:=h l[i] (List.getElem_mem hi)
  rw[tQ] at this
  unfold gB
  rw[ax hi]
  exact this
 .intro h x hx
  obtain⟨i,hi,rfl⟩:=List.getElem_of_mem hx
  have:=h i hi
  unfold gB at this
  rw[ax hi] at this
  rw[tQ]
  exact this
def h_(l:List Bl)(p:Int)(bad:Bool):Nat:=if 64<l.length then 3 else if p<1\/4096<p\/bad=true then 1 else if l.all (EX p)=true then 0 else 1
theorem Io{l:List Bl}(h:64<l.length):h_ l p bad=3:=if_pos h
theorem EZ{l:List Bl}(h:l.length<=64)(h2:p<1\/4096<p\/bad=true):h_ l p bad=1:=by
 unfold h_
 rw[if_neg (by omega),if_pos h2]
theorem Mg{l:List Bl}(h:l.length<=64)(h2:¬EY l p):h_ l p bad=1:=by
 unfold h_
 rw[if_neg (by omega)]
 by_cases h3:p<1\/4096<p\/bad=true
 .rw[if_pos h3]
 .rw[if_neg h3,if_neg (λe=>h2 ((xR l p).1 e))]
theorem xS{l:List Bl}(h:l.length<=64)(h2:¬(p<1\/4096<p\/bad=true))(h3:EY l p):h_ l p bad=0:=by
 unfold h_
 rw[if_neg (by omega),if_neg h2,if_pos ((xR l p).2 h3)]
theorem Ip{l:List Bl}(h:h_ l p bad=0):l.length<=64/\1<=p/\p<=4096/\bad=false/\EY l p:=by
 unfold h_ at h
 by_cases h1:64<l.length
 .rw[if_pos h1] at h;cases h
 rw[if_neg h1] at h
 by_cases h2:p<1\/4096<p\/bad=true
 .rw[if_pos h2] at h;cases h
 rw[if_neg h2] at h
 by_cases h3:l.all (EX p)=true
 .refine⟨by omega,by omega,by omega,?_,(xR l p).1 h3⟩
  cases bad with
  |false=>rfl
  |true=>exact absurd (a_ (a_ rfl)) h2
 .rw[if_neg h3] at h;cases h
def vN(l:List Bl)(i j:Nat):Prop:=(gB l i).live<(gB l j).live\/((gB l i).live=(gB l j).live/\((gB l i).aF<(gB l j).aF\/((gB l i).aF=(gB l j).aF/\i<j)))
def can(l:List Bl)(p:Int)(i:Nat):Prop:=i<l.length/\(gB l i).used=true/\(gB l i).live<p
def nL(l:List Bl)(p:Int)(o:List Nat):Prop:=(∀ i,i∈o↔can l p i)/\o.Pairwise (vN l)
def WW(l:List Bl)(p:Int)(k:Nat):Prop:=can l p k/\∀ j,can l p j->j=k\/vN l k j
theorem xU(l:List Bl)(i:Nat):¬vN l i i:=by unfold vN;omega
theorem nL.head{l:List Bl}{r:List Nat}(h:nL l p (k::r)):WW l p k:=by
 refine⟨(h.1 k).1 (List.mem_cons_self),λj hj=>?_⟩
 rcases gf.1 ((h.1 j).2 hj) with e|e
 .exact bh e
 .exact a_ ((List.pairwise_cons.1 h.2).1 j e)
theorem nL.none{l:List Bl}(h:nL l p [])(i:Nat):¬can l p i:=λe=>by simpa using (h.1 i).2 e
def pU(l:List Bl)(k:Nat):List Bl:=l.set k ⟨false,(gB l k).live,(gB l k).aF⟩
theorem Mh(l:List Bl)(k:Nat):(pU l k).length=l.length:=by unfold pU;simp
theorem xV(l:List Bl)(k i:Nat)(hk:k<l.length):gB (pU l k) i=if i=k then⟨false,(gB l k).live,(gB l k).aF⟩ else gB l i:=by
 unfold gB pU
 by_cases h:i=k
 .subst h
  rw[if_pos rfl,List.getElem?_set_self hk]
  rfl
 .rw[if_neg h,List.getElem?_set_ne (λe=>h e.symm)]
theorem qw(l:List Bl)(k i:Nat)(hk:k<l.length):(gB (pU l k) i).live=(gB l i).live:=by
 rw[xV l k i hk]
 by_cases h:i=k
 .rw[if_pos h,h]
 .rw[if_neg h]
theorem xW(l:List Bl)(k i:Nat)(hk:k<l.length):(gB (pU l k) i).aF=(gB l i).aF:=by
 rw[xV l k i hk]
 by_cases h:i=k
 .rw[if_pos h,h]
 .rw[if_neg h]
theorem Iq(l:List Bl)(k i:Nat)(hk:k<l.length):(gB (pU l k) i).used=true↔(gB l i).used=true/\i≠k:=by
 rw[xV l k i hk]
 by_cases h:i=k
 .simp[h]
 .simp[h]
theorem OY(l:List Bl)(k i j:Nat)(hk:k<l.length):vN (pU l k) i j↔vN l i j:=by
 unfold vN
 rw[qw l k i hk,qw l k j hk,xW l k i hk,xW l k j hk]
theorem Mi(l:List Bl)(p:Int)(k i:Nat)(hk:k<l.length):can (pU l k) p i↔can l p i/\i≠k:=by
 unfold can
 rw[Mh,Iq l k i hk,qw l k i hk]
 constructor
 .rintro ⟨a,⟨b,c⟩,d⟩;exact⟨⟨a,b,d⟩,c⟩
 .rintro ⟨⟨a,b,d⟩,c⟩;exact⟨a,⟨b,c⟩,d⟩
theorem nL.tail{l:List Bl}{r:List Nat}(h:nL l p (k::r)):nL (pU l k) p r:=by
 have hk:k<l.length:=((h.1 k).1 List.mem_cons_self).1
 have hp:=List.pairwise_cons.1 h.2
 refine⟨λi=>?_,hp.2.imp (λe=>(OY l k _ _ hk).2 e)⟩
 rw[Mi l p k i hk,<-h.1 i]
 constructor
 .intro hi
  refine⟨List.mem_cons_of_mem _ hi,λe=>?_⟩
  subst e
  exact xU l i (hp.1 i hi)
 .rintro ⟨hi,hne⟩
  rcases gf.1 hi with e|e
  .exact absurd e hne
  .exact e
def E_(l:List Bl)(k:Nat):Prop:=k<l.length/\(gB l k).used=true/\∀ j,j<l.length->(gB l j).used=true->(gB l k).aF<(gB l j).aF\/((gB l k).aF=(gB l j).aF/\k<=j)
def ab8(l:List Bl)(gap:Int)(k:Nat):Prop:=E_ l k/\∃ j,j<l.length/\gap<(gB l j).aF-(gB l k).aF
theorem E_.one{l:List Bl}{k':Nat}(h:E_ l k)(h':E_ l k'):k=k':=by
 have h1:=h.2.2 k' h'.1 h'.2.1
 have h2:=h'.2.2 k h.1 h.2.1
 omega
def ab9(l:List Bl)(n:Nat)(k:Int):Prop:=(k=-1/\∀ j,j<n->(gB l j).used=false)\/∃ i:Nat,k=i/\i<n/\(gB l i).used=true/\∀ j,j<n->(gB l j).used=true->(gB l i).aF<(gB l j).aF\/((gB l i).aF=(gB l j).aF/\i<=j)
def ae8(l:List Bl)(n:Nat)(m:Int):Prop:=0<=m/\(∀ j,j<n->(gB l j).aF<=m)/\(m=0\/∃ j,j<n/\(gB l j).aF=m)
theorem ab9.not{l:List Bl}{k m gap:Int}(h:ab9 l l.length k)(ht:ae8 l l.length m)(hd:k<0\/m-(gB l k.toNat).aF<=gap)(q:Nat):¬ab8 l gap q:=by
 rintro ⟨hl,j,hj,hg⟩
 rcases h with ⟨e,h⟩|⟨i,e,h1,h2,h3⟩
 .have:=h q hl.1;rw[hl.2.1] at this;cases this
 .subst e
  have hq:i=q:=E_.one ⟨h1,h2,h3⟩ hl
  subst hq
  rw[cD] at hd
  have:=ht.2.1 j hj
  omega
