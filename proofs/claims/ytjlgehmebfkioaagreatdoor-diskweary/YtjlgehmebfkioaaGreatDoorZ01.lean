/- Part of the proof. -/
import Derived.Test.YtjlgehmebfkioaaGreatDoorZ00
set_option linter.unusedVariables false
namespace Go.Proofs.ay
variable {L M:Nat} {lb pg sq:Nat->Nat}
structure NF(M:Nat)(G5:Nat->List Nat)(n:Nat)(lb pg sq:Nat->Nat):Prop where
 rise:∀ i j,i<j->j<n->lb i<lb j
 is:∀ i,i<n->pg i<M/\o_ (G5 (pg i))/\lb i=bT (G5 (pg i))/\sq i=bM (G5 (pg i))/\∀ p,p<M->o_ (G5 p)->bT (G5 p)=lb i->bM (G5 p)<=sq i
 all:∀ p,p<M->o_ (G5 p)->∃ i,i<n/\lb i=bT (G5 p)
def vo(lb pg:Nat->Nat):Nat->Bk
 |0=>fresh
 |i+1=>jP (vo lb pg i) (lb i) (pg i)
def su(sq:Nat->Nat):Nat->Nat
 |0=>0
 |i+1=>max (su sq i) (sq i+1)
theorem Od{sq:Nat->Nat}:∀ n i,i<n->sq i<su sq n
 |0,i,h=>by omega
 |n+1,i,h=>by
  rw[su]
  by_cases e:i=n
  .subst e;omega
  .have:=Od (sq:=sq) n i (by omega);omega
theorem BU{sq:Nat->Nat}{m:Nat}:∀ n,(∀ i,i<n->sq i<m)->su sq n<=m
 |0,_=>Nat.zero_le _
 |n+1,h=>by
  have:=BU n (λi hi=>h i (by omega))
  have:=h n (by omega)
  rw[su];omega
structure BI(L M:Nat)(lb pg:Nat->Nat)(i:Nat)(k:Bk):Prop where
 inv:Inv L M k
 some:∀ l,∀ q:Nat,k.pa l=(q:Int)->∃ j,j<i/\lb j=l/\pg j=q
 all:∀ j,j<i->k.pa (lb j)=(pg j:Int)
theorem BI.zero(L M:Nat)(lb pg:Nat->Nat):BI L M lb pg 0 (vo lb pg 0) :=
 ⟨Ab L M,λl q e=>by
  have:(-1:Int)=(q:Int):=e
  omega,λj hj=>by omega⟩
theorem BI.step{n i:Nat}{G5:Nat->List Nat}(h:NF M G5 n lb pg sq)(hL:∀ j,j<n->lb j<L)(hi:i<n)(hb:BI L M lb pg i (vo lb pg i)):o9 L M (vo lb pg i) (lb i:Int) (pg i:Int)=(0,vo lb pg (i+1))/\BI L M lb pg (i+1) (vo lb pg (i+1)):=by
 obtain⟨a1,a2,a3,a4,a5⟩:=h.is i hi
 have hl:=hL i hi
 have hpg:∀ j,j<i->pg j≠pg i:=λj hj e=>by
  have:=h.rise j i hj hi
  have:=(h.is j (by omega)).2.2.1
  rw[e] at this
  omega
 have hfree:(vo lb pg i).lb (pg i)=-1:=by
  rcases hb.inv.o (pg i) a1 with e|⟨l,_,_,e⟩
  .exact e
  .obtain⟨j,j1,j2,j3⟩:=hb.some l (pg i) e
   exact(hpg j j1 j3).elim
 have e1:o9 L M (vo lb pg i) (lb i:Int) (pg i:Int)=(0,vo lb pg (i+1)):=by
  have q1:rX L (lb i:Int)=true:=decide_eq_true ⟨by omega,by omega⟩
  have q2:rX M (pg i:Int)=true:=decide_eq_true ⟨by omega,by omega⟩
  unfold o9
  rw[if_neg (by rw[q1,q2];simp),Int.toNat_natCast,Int.toNat_natCast,if_neg (by rw[hfree];simp)]
  rfl
 refine⟨e1,?_⟩
 have epa:∀ l,(vo lb pg (i+1)).pa l=if l=lb i then(pg i:Int) else(vo lb pg i).pa l:=λl=>by
  show upd (upd (vo lb pg i).pa (lb i) (-1)) (lb i) (pg i:Int) l=_
  unfold upd
  split<;>rfl
 refine⟨?_,λl q e=>?_,λj hj=>?_⟩
 .exact Js (nY hb.inv hl) hl a1 (Ed _ _) (Ee hb.inv hl a1 (Or.inl hfree))
 .rw[epa] at e
  by_cases hl2:l=lb i
  .rw[if_pos hl2] at e
   exact⟨i,by omega,hl2.symm,by omega⟩
  .rw[if_neg hl2] at e
   obtain⟨j,j1,j2,j3⟩:=hb.some l q e
   exact⟨j,by omega,j2,j3⟩
 .rw[epa]
  by_cases e:j=i
  .subst e;rw[if_pos rfl]
  .have:=h.rise j i (by omega) hi
   rw[if_neg (by omega)]
   exact hb.all j (by omega)
theorem NF.same{Y n seq:Nat}{G5:Nat->List Nat}{pa:Nat->Int}(h:NF M G5 n lb pg sq)(hd:DI M L Y G5 pa seq)(hb:BI L M lb pg n (vo lb pg n)):DI M L Y G5 (vo lb pg n).pa (su sq n)/\(∀ l,l<L->(vo lb pg n).pa l=pa l)/\su sq n<=seq:=by
 have h1:=hd.same (pa':=(vo lb pg n).pa) (seq':=su sq n) (λp hp hc=>?_) (λl hl=>?_) (λl hl e p hp hc hlp=>?_) (λl hl q e=>?_)
 .refine⟨h1.1,h1.2,BU n λi hi=>?_⟩
  obtain⟨a1,a2,a3,a4,a5⟩:=h.is i hi
  rw[a4]
  exact(hd.ok _ a1 a2).2.1
 .obtain⟨i,i1,i2⟩:=h.all p hp hc
  have:=(h.is i i1).2.2.2.2 p hp hc i2.symm
  have:=Od (sq:=sq) n i i1
  omega
 .rcases hb.inv.a l hl with e|⟨p,_,e,_⟩
  .exact Or.inl e
  .exact Or.inr ⟨p,e⟩
 .obtain⟨i,i1,i2⟩:=h.all p hp hc
  have:=hb.all i i1
  rw[i2,hlp,e] at this
  omega
 .obtain⟨j,j1,j2,j3⟩:=hb.some l q e
  obtain⟨a1,a2,a3,a4,a5⟩:=h.is j j1
  rw[j3] at a1 a2 a3 a4
  exact⟨a1,a2,by omega,λp hp hc hlp=>by rw[<-a4];exact a5 p hp hc (by omega)⟩
theorem Sv{k k':Bk}(h:Inv L M k)(h':Inv L M k')(hp:∀ l,l<L->k'.pa l=k.pa l):∀ p,p<M->k'.lb p=k.lb p:=by
 intro p hpM
 rcases h'.o p hpM with e|⟨l,hl,e1,e2⟩
 .rcases h.o p hpM with e3|⟨l,hl,e3,e4⟩
  .rw[e,e3]
  .rcases h'.a l hl with e5|⟨q,hq,e5,e6⟩
   .rw[hp l hl,e4] at e5;omega
   .rw[hp l hl,e4] at e5
    obtain rfl:p=q:=by omega
    rw[e] at e6;omega
 .rcases h.a l hl with e5|⟨q,hq,e5,e6⟩
  .rw[<-hp l hl,e2] at e5;omega
  .rw[<-hp l hl,e2] at e5
   obtain rfl:p=q:=by omega
   rw[e1,e6]
theorem NF.congr{n:Nat}{p p':Nat->List Nat}(h:NF M p n lb pg sq)(he:∀ i,i<M->p i=p' i):NF M p' n lb pg sq:=by
 refine⟨h.rise,λi hi=>?_,λq hq hc=>?_⟩
 .obtain⟨a1,a2,a3,a4,a5⟩:=h.is i hi
  rw[he _ a1] at a2 a3 a4
  exact⟨a1,a2,a3,a4,λq hq hc hl=>by rw[<-he q hq] at hc hl ⊢;exact a5 q hq hc hl⟩
 .rw[<-he q hq] at hc ⊢
  exact h.all q hq hc
variable {bad:Bool} {p:Int} {k:Nat}
structure Bl where
 used:Bool
 live:Int
 aF:Int
def bl0:Bl:=⟨false,0,0⟩
def gB(l:List Bl)(i:Nat):Bl:=l[i]?.getD bl0
def GoodS(p:Int)(b:Bl):Prop:=0<=b.live/\b.live<=p/\0<=b.aF/\b.aF<=1000000000
abbrev Ew(p:Int)(b:Bl):Bool:=decide (0<=b.live)&&decide (b.live<=p)&&decide (0<=b.aF)&&decide (b.aF<=1000000000)
theorem sw(p:Int)(b:Bl):Ew p b=true↔GoodS p b:=by
 unfold Ew GoodS
 simp[and_assoc]
def Ey(l:List Bl)(p:Int):Prop:=∀ i,i<l.length->GoodS p (gB l i)
theorem wV(l:List Bl)(p:Int):l.all (Ew p)=true↔Ey l p:=by
 rw[List.all_eq_true]
 constructor
 .intro h i hi
  have:=h l[i] (List.getElem_mem hi)
  rw[sw] at this
  unfold gB
  rw[List.getElem?_eq_getElem hi]
  exact this
 .intro h x hx
  obtain⟨i,hi,rfl⟩:=List.getElem_of_mem hx
  have:=h i hi
  unfold gB at this
  rw[List.getElem?_eq_getElem hi] at this
  rw[sw]
  exact this
def gX(l:List Bl)(p:Int)(bad:Bool):Nat:=if 64<l.length then 3 else if p<1\/4096<p\/bad=true then 1 else if l.all (Ew p)=true then 0 else 1
theorem G6{l:List Bl}(h:64<l.length):gX l p bad=3:=if_pos h
theorem Ez{l:List Bl}(h:l.length<=64)(h2:p<1\/4096<p\/bad=true):gX l p bad=1:=by
 unfold gX
 rw[if_neg (by omega),if_pos h2]
theorem Lx{l:List Bl}(h:l.length<=64)(h2:¬Ey l p):gX l p bad=1:=by
 unfold gX
 rw[if_neg (by omega)]
 by_cases h3:p<1\/4096<p\/bad=true
 .rw[if_pos h3]
 .rw[if_neg h3,if_neg (λe=>h2 ((wV l p).1 e))]
theorem wW{l:List Bl}(h:l.length<=64)(h2:¬(p<1\/4096<p\/bad=true))(h3:Ey l p):gX l p bad=0:=by
 unfold gX
 rw[if_neg (by omega),if_neg h2,if_pos ((wV l p).2 h3)]
theorem G7{l:List Bl}(h:gX l p bad=0):l.length<=64/\1<=p/\p<=4096/\bad=false/\Ey l p:=by
 unfold gX at h
 by_cases h1:64<l.length
 .rw[if_pos h1] at h;cases h
 rw[if_neg h1] at h
 by_cases h2:p<1\/4096<p\/bad=true
 .rw[if_pos h2] at h;cases h
 rw[if_neg h2] at h
 by_cases h3:l.all (Ew p)=true
 .refine⟨by omega,by omega,by omega,?_,(wV l p).1 h3⟩
  cases bad with
  |false=>rfl
  |true=>exact absurd (Or.inr (Or.inr rfl)) h2
 .rw[if_neg h3] at h;cases h
def vB(l:List Bl)(i j:Nat):Prop:=(gB l i).live<(gB l j).live\/((gB l i).live=(gB l j).live/\((gB l i).aF<(gB l j).aF\/((gB l i).aF=(gB l j).aF/\i<j)))
def can(l:List Bl)(p:Int)(i:Nat):Prop:=i<l.length/\(gB l i).used=true/\(gB l i).live<p
def ny(l:List Bl)(p:Int)(o:List Nat):Prop:=(∀ i,i∈o↔can l p i)/\o.Pairwise (vB l)
def V8(l:List Bl)(p:Int)(k:Nat):Prop:=can l p k/\∀ j,can l p j->j=k\/vB l k j
theorem wX(l:List Bl)(i:Nat):¬vB l i i:=by unfold vB;omega
theorem ny.head{l:List Bl}{r:List Nat}(h:ny l p (k::r)):V8 l p k:=by
 refine⟨(h.1 k).1 (List.mem_cons_self),λj hj=>?_⟩
 rcases List.mem_cons.1 ((h.1 j).2 hj) with e|e
 .exact Or.inl e
 .exact Or.inr ((List.pairwise_cons.1 h.2).1 j e)
theorem ny.none{l:List Bl}(h:ny l p [])(i:Nat):¬can l p i:=λe=>by simpa using (h.1 i).2 e
def pI(l:List Bl)(k:Nat):List Bl:=l.set k ⟨false,(gB l k).live,(gB l k).aF⟩
theorem LA(l:List Bl)(k:Nat):(pI l k).length=l.length:=by unfold pI;simp
theorem wY(l:List Bl)(k i:Nat)(hk:k<l.length):gB (pI l k) i=if i=k then⟨false,(gB l k).live,(gB l k).aF⟩ else gB l i:=by
 unfold gB pI
 by_cases h:i=k
 .subst h
  rw[if_pos rfl,List.getElem?_set_self hk]
  rfl
 .rw[if_neg h,List.getElem?_set_ne (λe=>h e.symm)]
theorem qd(l:List Bl)(k i:Nat)(hk:k<l.length):(gB (pI l k) i).live=(gB l i).live:=by
 rw[wY l k i hk]
 by_cases h:i=k
 .rw[if_pos h,h]
 .rw[if_neg h]
theorem wZ(l:List Bl)(k i:Nat)(hk:k<l.length):(gB (pI l k) i).aF=(gB l i).aF:=by
 rw[wY l k i hk]
 by_cases h:i=k
 .rw[if_pos h,h]
 .rw[if_neg h]
theorem G8(l:List Bl)(k i:Nat)(hk:k<l.length):(gB (pI l k) i).used=true↔(gB l i).used=true/\i≠k:=by
 rw[wY l k i hk]
 by_cases h:i=k
 .simp[h]
 .simp[h]
theorem Oe(l:List Bl)(k i j:Nat)(hk:k<l.length):vB (pI l k) i j↔vB l i j:=by
 unfold vB
 rw[qd l k i hk,qd l k j hk,wZ l k i hk,wZ l k j hk]
theorem LC(l:List Bl)(p:Int)(k i:Nat)(hk:k<l.length):can (pI l k) p i↔can l p i/\i≠k:=by
 unfold can
 rw[LA,G8 l k i hk,qd l k i hk]
 constructor
 .rintro ⟨a,⟨b,c⟩,d⟩;exact⟨⟨a,b,d⟩,c⟩
 .rintro ⟨⟨a,b,d⟩,c⟩;exact⟨a,⟨b,c⟩,d⟩
theorem ny.tail{l:List Bl}{r:List Nat}(h:ny l p (k::r)):ny (pI l k) p r:=by
 have hk:k<l.length:=((h.1 k).1 List.mem_cons_self).1
 have hp:=List.pairwise_cons.1 h.2
 refine⟨λi=>?_,hp.2.imp (λe=>(Oe l k _ _ hk).2 e)⟩
 rw[LC l p k i hk,<-h.1 i]
 constructor
 .intro hi
  refine⟨List.mem_cons_of_mem _ hi,λe=>?_⟩
  subst e
  exact wX l i (hp.1 i hi)
 .rintro ⟨hi,hne⟩
  rcases List.mem_cons.1 hi with e|e
  .exact absurd e hne
  .exact e
def EA(l:List Bl)(k:Nat):Prop:=k<l.length/\(gB l k).used=true/\∀ j,j<l.length->(gB l j).used=true->(gB l k).aF<(gB l j).aF\/((gB l k).aF=(gB l j).aF/\k<=j)
def abq(l:List Bl)(gap:Int)(k:Nat):Prop:=EA l k/\∃ j,j<l.length/\gap<(gB l j).aF-(gB l k).aF
theorem EA.one{l:List Bl}{k':Nat}(h:EA l k)(h':EA l k'):k=k':=by
 have h1:=h.2.2 k' h'.1 h'.2.1
 have h2:=h'.2.2 k h.1 h.2.1
 omega
def abr(l:List Bl)(n:Nat)(k:Int):Prop:=(k=-1/\∀ j,j<n->(gB l j).used=false)\/∃ i:Nat,k=i/\i<n/\(gB l i).used=true/\∀ j,j<n->(gB l j).used=true->(gB l i).aF<(gB l j).aF\/((gB l i).aF=(gB l j).aF/\i<=j)
def aes(l:List Bl)(n:Nat)(m:Int):Prop:=0<=m/\(∀ j,j<n->(gB l j).aF<=m)/\(m=0\/∃ j,j<n/\(gB l j).aF=m)
theorem abr.not{l:List Bl}{k m gap:Int}(h:abr l l.length k)(ht:aes l l.length m)(hd:k<0\/m-(gB l k.toNat).aF<=gap)(q:Nat):¬abq l gap q:=by
 rintro ⟨hl,j,hj,hg⟩
 rcases h with ⟨e,h⟩|⟨i,e,h1,h2,h3⟩
 .have:=h q hl.1;rw[hl.2.1] at this;cases this
 .subst e
  have hq:i=q:=EA.one ⟨h1,h2,h3⟩ hl
  subst hq
  rw[Int.toNat_natCast] at hd
  have:=ht.2.1 j hj
  omega
