/- Part of the proof. -/
import Derived.Test.YtjlgehmebfkioaaGreatDoorZ12
import Derived.Deep.LoopGhost
set_option maxRecDepth 100000
open Go.Proofs.Tryz renaming prog->aa
open Go.Proofs.ah.Al (PB)
set_option maxHeartbeats 6400000
set_option linter.unusedVariables false
open Bool renaming noConfusion->fX
open Classical renaming byContradiction->cE,not_not->dq
open Go renaming Ending->iS,World->ae,Calls->aE,Addr->cy
open Int renaming mul_le_mul_of_nonneg_right->mB
open List renaming replicate->aq,getElem?_eq_getElem->ax,length_replicate->cU
open Nat renaming le_refl->al,le_trans->cC,ne_of_lt->gv,min_eq_left->jj
open Option.some renaming injEq->cJ
open Or renaming inr->a_,inl->bh
namespace Go.Proofs.ay
open au aj Go.RowKit aB aD ah
variable {g:Gm} {z:Sd}
structure DS(g:Gm)(x:Sd)(k:Nat):Prop where
 dw:DW g x
 fit:Fit g.L g.P (g.D*g.B) g.spare
 nb:x.bad=cO (g.D*g.B) (bV x.s)
 ok:x.bad<=g.spare
 room:Room g.P (g.D*g.B) g.spare k x.k (bV x.s)
def lack(g:Gm)(x:Sd):Nat:=bU g.P (g.D*g.B) g.spare (bV x.s)-aN g.P (g.D*g.B) (bV x.s)
theorem EM.none{x y:Sd}{v:Nat}(h:EM g x y v g.P):aY g.P y.k v=0:=AA g.P (λi hi=>h.gone i hi)
theorem EM.acP{x:Sd}{v:Nat}(h:EM g x z v g.P)(hv:v<g.D*g.B)(hc:jF z=0):DW g (gq g z v)/\(∀ j,j<g.L->DW.see g (gq g z v) j=DW.see g x j)/\bV (gq g z v).s=iw (bV z.s) v/\(gq g z v).bad=x.bad/\(gq g z v).s.off=false/\(gq g z v).k=z.k:=by
 have zU:x.cut=x.cut:=rfl
 have h1:z.cut≠1:=λe=>by unfold jF at hc;rw[if_pos e] at hc;omega
 have h2:z.fails=0:=cE λe=>by unfold jF at hc;rw[if_neg h1,if_neg e] at hc;omega
 have e1:gq g z v={ gH z with s:=Xh g z.s v,bad:=z.bad }:=by
  unfold gq
  rw[hc,if_neg (by omega)]
  unfold lX
  rw[if_neg h1,if_pos h2]
 rw[e1]
 obtain⟨t1,t2⟩:=h.dw.dv.ae6 hv (λi hi=>h.gone i hi)
 exact⟨⟨t1,h.dw.y,h.dw.y1,h.dw.l⟩,λj hj=>(t2 j hj).trans (h.see j hj),rfl,h.nb,h.off,rfl⟩
theorem EM.failed{x:Sd}{v:Nat}(h:EM g x z v g.P)(hv:v<g.D*g.B)(hc:jF z=6):DW g (gq g z v)/\(∀ j,j<g.L->DW.see g (gq g z v) j=DW.see g x j)/\bV (gq g z v).s=fE (bV z.s) v/\(gq g z v).bad=x.bad+1/\(gq g z v).s.off=false/\(gq g z v).k=z.k:=by
 have h1:z.cut≠1:=λe=>by unfold jF at hc;rw[if_pos e] at hc;omega
 have h2:z.fails≠0:=λe=>by unfold jF at hc;rw[if_neg h1,if_pos e] at hc;omega
 have e1:gq g z v={ gH z with s:=Xi z.s v,bad:=z.bad+1 }:=by
  unfold gq
  rw[hc,if_pos rfl]
  unfold lX
  rw[if_neg h1,if_neg h2]
 rw[e1]
 exact⟨⟨h.dw.dv.fail,h.dw.y,h.dw.y1,h.dw.l⟩,h.see,rfl,by show z.bad+1=x.bad+1;rw[h.nb],h.off,rfl⟩
theorem EM.Yv{x:Sd}{v:Nat}(h:EM g x z v g.P)(hv:v<g.D*g.B)(hc:jF z=7):DW g (gq g z v)/\(∀ j,j<g.L->DW.see g (gq g z v) j=DW.see g x j)/\(∀ b,(bV (gq g z v).s).next b=(bV z.s).next b)/\(bV (gq g z v).s).bad=(bV z.s).bad/\(gq g z v).bad=x.bad/\(gq g z v).s.off=true/\(gq g z v).k=z.k/\(gq g z v).cut=0/\1<=x.cut:=by
 have h1:z.cut=1:=cE λe=>by
  unfold jF at hc
  rw[if_neg e] at hc
  by_cases e2:z.fails=0
  .rw[if_pos e2] at hc;omega
  .rw[if_neg e2] at hc;omega
 have e1:gq g z v={ gH z with s:=Kr g z.s v,bad:=z.bad }:=by
  unfold gq
  rw[hc,if_neg (by omega)]
  unfold lX
  rw[if_pos h1]
 rw[e1]
 have hnx:∀ b,(bV (Kr g z.s v)).next b=(bV z.s).next b:=λb=>by
  show upd z.s.next v g.P b=z.s.next b
  by_cases e:b=v
  .rw[e,upd_same];exact h.full.2.symm
  .rw[upd_ne _ _ _ _ e]
 obtain⟨t1,t2⟩:=h.dw.dv.ae7 (c':=bV (Kr g z.s v)) hv h.full hnx (λb=>rfl) (λi hi=>h.gone i hi)
 refine⟨⟨t1,h.dw.y,h.dw.y1,h.dw.l⟩,λj hj=>(t2 j hj).trans (h.see j hj),hnx,rfl,h.nb,rfl,rfl,?_,?_⟩
 .show z.cut-1=0
  omega
 .have:=h.cut;omega
theorem rM{N:Nat}{c c':oG}(h:c'.bad=c.bad):cO N c'=cO N c:=by unfold cO;rw[h]
theorem uE{P N spare:Nat}{c c':oG}(h:c'.bad=c.bad):bU P N spare c'=bU P N spare c:=by unfold bU;rw[rM h]
theorem DS.grant{g:Gm}{x:Sd}{k:Nat}(h:DS g x k)(hk:k<=2*g.P)(hs:aN g.P (g.D*g.B) (bV x.s)<bU g.P (g.D*g.B) g.spare (bV x.s)) :
 (∃ k,k<g.D*g.B/\Full g.P (bV x.s) k/\aY g.P x.k k<g.P)/\∀ v,v<g.D*g.B->Full g.P (bV x.s) v->aY g.P x.k v<g.P->(∀ u,u<g.D*g.B->Full g.P (bV x.s) u->aY g.P x.k u<g.P->aY g.P x.k v<=aY g.P x.k u)->aY g.P x.k v<=aN g.P (g.D*g.B) (bV x.s):=by
 refine⟨?_,λv h1 h2 h3 h4=>?_⟩
 .rcases h.room with e|⟨v,h1,h2,h3,_⟩
  .omega
  .exact⟨v,h1,h2,h3⟩
 .have:=xu (L:=g.L) h.room hs ⟨h1,h2,h3⟩ h4
  have:=vT (P:=g.P) (N:=g.D*g.B) (spare:=g.spare) (c:=bV x.s)
  omega
structure DT(g:Gm)(x:Sd)(k:Nat):Prop where
 ds:DS g x k
 off:x.s.off=true
structure DL(g:Gm)(x:Sd):Prop where
 dw:DW g x
 nb:x.bad=cO (g.D*g.B) (bV x.s)
 no:g.spare<x.bad
theorem EO.step{g:Gm}{x y:Sd}{k c:Nat}(h:DS g x k)(hs:aN g.P (g.D*g.B) (bV x.s)<bU g.P (g.D*g.B) g.spare (bV x.s))(he:EO g x y c) :
 (∀ j,j<g.L->DW.see g y j=DW.see g x j)/\((c=0/\DS g y k/\y.s.off=false/\lack g y<lack g x)\/(c=7/\DT g y (k+1)/\y.cut=0/\1<=x.cut)\/(c=9/\DL g y/\y.s.off=false)):=by
 obtain⟨v,⟨v1,v2,v3,v4⟩,he⟩:=he
 have hr:=xu (L:=g.L) h.room hs ⟨v1,v2,v3⟩ v4
 rcases he with ⟨rfl,ht⟩|⟨z,hz,rfl,rfl⟩
 .refine⟨ht.see,a_ (bh ⟨rfl,⟨⟨ht.dw,h.fit,?_,by rw[ht.nb];exact h.ok,?_⟩,ht.off⟩,ht.cut,ht.one⟩)⟩
  .rw[ht.nb,h.nb];exact(rM (c:=bV x.s) (c':=bV y.s) ht.bad).symm
  .have hl:=ht.cnt
   refine a_ ⟨v,v1,ht.full,?_,?_⟩
   .have:=ht.liv;omega
   .rw[uE (c:=bV x.s) (c':=bV y.s) ht.bad]
    have:=qP g.P y.k v
    omega
 .have hl:=hz.cnt
  rw[hz.none] at hl
  have hnz:bU g.P (g.D*g.B) g.spare (bV z.s)=bU g.P (g.D*g.B) g.spare (bV x.s):=uE hz.bad
  have hbz:cO (g.D*g.B) (bV z.s)=cO (g.D*g.B) (bV x.s):=rM hz.bad
  have hoz:cO (g.D*g.B) (bV z.s)<=g.spare:=by rw[hbz,<-h.nb];exact h.ok
  have hroom:bU g.P (g.D*g.B) g.spare (bV z.s)<=aN g.P (g.D*g.B) (bV z.s)+g.P+k:=by omega
  have hcc:jF z=7\/jF z=0\/jF z=6:=by
   unfold jF
   by_cases e:z.cut=1
   .rw[if_pos e];omega
   .rw[if_neg e]
    by_cases e2:z.fails=0
    .rw[if_pos e2];omega
    .rw[if_neg e2];omega
  rcases hcc with hc|hc|hc
  .obtain⟨t1,t2,t3,t4,t5,t6,t7,t8,t9⟩:=hz.Yv v1 hc
   refine⟨t2,a_ (bh ⟨by unfold uy;rw[hc];rfl,⟨⟨t1,h.fit,?_,by rw[t5];exact h.ok,?_⟩,t6⟩,t8,t9⟩)⟩
   .rw[t5,h.nb,rM t4,hbz]
   .have hb:aN g.P (g.D*g.B) (bV (gq g z v).s)=aN g.P (g.D*g.B) (bV z.s):=by
     unfold aN dz
     congr 1
     funext i
     rw[t3,t4]
    refine a_ ⟨v,v1,⟨by rw[t4];exact hz.full.1,by rw[t3];exact hz.full.2⟩,?_,?_⟩
    .rw[t7,hz.none];exact h.fit.p1
    .rw[t7,hz.none,uE t4,hb];omega
  .obtain⟨t1,t2,t3,t4,t5,t6⟩:=hz.acP v1 hc
   have hw:=xg v1 hz.full
   refine⟨t2,bh ⟨by unfold uy;rw[hc];rfl,⟨t1,h.fit,?_,by rw[t4];exact h.ok,?_⟩,t5,?_⟩⟩
   .rw[t4,h.nb,t3];exact hbz.symm
   .rw[t3,t6]
    have hn:=t1.dv.nx
    have ho:=t1.dv.one
    rw[t3] at hn ho
    have hi:=t1.dv.inv
    rw[t6] at hi
    exact Il h.fit hi ho hn hoz ⟨v1,hz.full⟩ hroom
   .unfold lack
    rw[t3]
    have e2:bU g.P (g.D*g.B) g.spare (iw (bV z.s) v)=bU g.P (g.D*g.B) g.spare (bV z.s):=rfl
    omega
  .obtain⟨t1,t2,t3,t4,t5,t6⟩:=hz.failed v1 hc
   have hw:=xk v1 hz.full
   have hb:=ER (N:=g.D*g.B) v1 hz.full.1
   have hnb:(gq g z v).bad=cO (g.D*g.B) (bV (gq g z v).s):=by rw[t4,t3,hb,hbz,<-h.nb]
   by_cases hl9:g.spare<z.bad+1
   .refine⟨t2,a_ (a_ ⟨by unfold uy;rw[hc,if_pos rfl,if_pos hl9],⟨t1,hnb,by rw[t4,<-hz.nb];exact hl9⟩,t5⟩)⟩
   .have hok:(gq g z v).bad<=g.spare:=by rw[t4,<-hz.nb];omega
    refine⟨t2,bh ⟨by unfold uy;rw[hc,if_pos rfl,if_neg hl9],⟨t1,h.fit,hnb,hok,?_⟩,t5,?_⟩⟩
    .rw[t3,t6]
     have hn:=t1.dv.nx
     have ho:=t1.dv.one
     rw[t3] at hn ho hnb
     have hi:=t1.dv.inv
     rw[t6] at hi
     exact ES h.fit hi ho hn (by rw[<-hnb];exact hok) ⟨v1,hz.full⟩ hroom
    .unfold lack
     rw[t3]
     have e2:bU g.P (g.D*g.B) g.spare (bV z.s)=bU g.P (g.D*g.B) g.spare (fE (bV z.s) v)+g.P:=by
      rw[t3] at hnb
      unfold bU
      rw[hb,<-Nat.succ_mul]
      congr 1
      omega
     have:=vT (P:=g.P) (N:=g.D*g.B) (spare:=g.spare) (c:=fE (bV z.s) v)
     omega
variable {y:Sd}
structure Bd(x:Sd)(n:Nat):Prop where
 cut:x.cut<9223372036854775808
 fails:x.fails<4611686018427387904
 seq:x.seq+16*n+16<4611686018427387904
 aF:∀ k,x.s.aF k+n<4611686018427387904
structure Mo(x y:Sd)(n:Nat):Prop where
 cut:y.cut<=x.cut
 fails:y.fails<=x.fails
 seq:y.seq<=x.seq+16*n
 aF:∀ k,y.s.aF k<=x.s.aF k+n
 ch:y.ch=x.ch
 bf:y.bad+y.fails=x.bad+x.fails
 bm:x.bad<=y.bad
 cz:y.s.off=false->x.s.off=false/\(x.cut=0\/1<=y.cut)
theorem Mo.refl(x:Sd):Mo x x 0:=⟨al _,al _,al _,λ_=>al _,rfl,rfl,al _,λh=>⟨h,by omega⟩⟩
theorem Mo.trans{x z:Sd}{n m:Nat}(h:Mo x y n)(h2:Mo y z m):Mo x z (n+m) :=
 ⟨cC h2.cut h.cut,cC h2.fails h.fails,by have:=h.seq;have:=h2.seq;omega,λk=>by have:=h.aF k;have:=h2.aF k;omega,h2.ch.trans h.ch,h2.bf.trans h.bf,cC h.bm h2.bm,λho=>by
  have h3:=h2.cz ho
  have h4:=h.cz h3.1
  exact⟨h4.1,by omega⟩⟩
theorem Mo.more{x:Sd}{n m:Nat}(h:Mo x y n)(hm:n<=m):Mo x y m :=
 ⟨h.cut,h.fails,by have:=h.seq;omega,λk=>by have:=h.aF k;omega,h.ch,h.bf,h.bm,h.cz⟩
theorem EO.mo{g:Gm}{x:Sd}{c:Nat}(hP:g.P<=16)(he:EO g x y c):Mo x y 1:=by
 obtain⟨v,_,he⟩:=he
 rcases he with ⟨rfl,ht⟩|⟨z,hz,rfl,rfl⟩
 .exact⟨by rw[ht.cut];omega,by rw[ht.fails];exact al _,by have:=ht.seq;omega,ht.aF,ht.ch,by rw[ht.nb,ht.fails],by rw[ht.nb];exact al _,λho=>fX (show true=false from ht.off.symm.trans ho)⟩
 .have hbf:(if jF z=6 then z.bad+1 else z.bad)+(if z.cut=1 then z.fails else z.fails-1)=x.bad+x.fails/\x.bad<=(if jF z=6 then z.bad+1 else z.bad):=by
   rw[<-hz.nb,<-hz.fails]
   unfold jF
   by_cases h1:z.cut=1
   .rw[if_pos h1,if_neg (by decide),if_pos h1];omega
   .rw[if_neg h1,if_neg h1]
    by_cases h2:z.fails=0
    .rw[if_pos h2,if_neg (by decide)];omega
    .rw[if_neg h2,if_pos rfl];omega
  refine⟨?_,?_,?_,λk=>?_,hz.ch,hbf.1,hbf.2,λho=>⟨hz.cz.1,?_⟩⟩
  .show z.cut-1<=x.cut
   have:=hz.cut;omega
  .show (if z.cut=1 then z.fails else z.fails-1)<=x.fails
   rw[hz.fails]
   split<;>omega
  .show z.seq<=x.seq+16*1
   have:=hz.seq;omega
  .show (lX g z v).aF k<=x.s.aF k+1
   rw[<-hz.aF]
   have hu:upd z.s.aF v (z.s.aF v+1) k<=z.s.aF k+1:=by
    by_cases e:k=v
    .rw[e,upd_same];exact al _
    .rw[upd_ne _ _ _ _ e];omega
   unfold lX
   by_cases e:z.cut=1
   .rw[if_pos e];exact hu
   .rw[if_neg e]
    by_cases e2:z.fails=0
    .rw[if_pos e2];exact hu
    .rw[if_neg e2];exact Nat.le_succ _
  .show x.cut=0\/1<=z.cut-1
   have hne:z.cut≠1:=λe=>by
    have:(lX g z v).off=false:=ho
    unfold lX at this
    rw[if_pos e] at this
    exact fX (show true=false from this)
   have:=hz.cz.2;omega
def MkQ(g:Gm)(x y:Sd)(k c:Nat):Prop:=(∀ j,j<g.L->DW.see g y j=DW.see g x j)/\((c=0/\DS g y k/\y.s.off=false/\bU g.P (g.D*g.B) g.spare (bV y.s)<=aN g.P (g.D*g.B) (bV y.s))\/(c=7/\DT g y (k+1)/\y.cut=0/\1<=x.cut)\/(c=9/\DL g y/\y.s.off=false))
def MkP(e:iS)(g:Gm)(w w':ae)(a:Ad)(x:Sd)(k n:Nat):Prop:=∃ (y:Sd) (c:Nat),e=.returned (b_ c)/\DK g w' a y/\Keep (OD g a) w w'/\Mo x y n/\MkQ g x y k c
structure MW(g:Gm)(w wq:ae)(a:Ad)(x y:Sd)(k n f:Nat):Prop where
 dk:DK g wq a y
 kp:Keep (OD g a) w wq
 mo:Mo x y (n-f)
 le:f<=n
 lk:lack g y<=f
 ds:DS g y k
 off:y.s.off=false
 see:∀ j,j<g.L->DW.see g y j=DW.see g x j
theorem Jc{g:Gm}(h:DS g y 0\/∃ k,DS g y k):decide (aN g.P (g.D*g.B) (bV y.s)<(g.spare-y.bad+3)*g.P)=decide (aN g.P (g.D*g.B) (bV y.s)<bU g.P (g.D*g.B) g.spare (bV y.s)):=by
 have hb:y.bad=cO (g.D*g.B) (bV y.s):=by
  rcases h with h|⟨_,h⟩
  .exact h.nb
  .exact h.nb
 unfold bU
 rw[<-hb]
end Go.Proofs.ay
namespace Go.Proofs.ay
open ah au aj Go.RowKit aB aD ah
theorem MW.grant{g:Gm}{w wq:ae}{a:Ad}{x y:Sd}{k n f:Nat}(h:MW g w wq a x y k n f)(hk:k<=2*g.P)(hb:Bd x n)(hf:1<=f)(hN:g.D*g.B<=64)(hsp:g.spare<=64)(hs:aN g.P (g.D*g.B) (bV y.s)<bU g.P (g.D*g.B) g.spare (bV y.s)):EP g y:=by
 obtain⟨h1,h2⟩:=h.ds.grant hk hs
 have hle:=h.le
 refine⟨h.ds.dw,h.off,?_,?_,?_,?_,λj=>?_,h1,h2⟩
 .have:=h.mo.cut;have:=hb.cut;omega
 .have:=h.mo.fails;have:=hb.fails;omega
 .have:=h.ds.ok;omega
 .have:=h.mo.seq;have:=hb.seq;omega
 .have:=h.mo.aF j;have:=hb.aF j;omega
theorem vC{g:Gm}{w:ae}{a:Ad}{x:Sd}(HI:Dk)(Ua:qC)(Ub:qD)(Uc:lY)(h:DK g w a x)(k n:Nat)(hd:DS g x k)(ho:x.s.off=false)(hk:k<=2*g.P)(hb:Bd x n)(hl:lack g x<=n)(hsp:g.spare<=64) :
 aE (PB aa false) 44 #[.pointer (some ⟨a.db,0,none⟩)] w λe w'=>MkP e g w w' a x k n:=by
 have H0:Hid (MW g w w a x x k n n):=⟨h,Keep.refl _ _,by rw[Nat.sub_self];exact Mo.refl x,al _,hl,hd,ho,λ_ _=>rfl⟩
 have HB:Hid (k<=2*g.P/\Bd x n/\Geo g.D g.B g.P g.Y):=⟨hk,hb,h.iR⟩
 clear h hd ho hk hb hl
 go_enter Al.func44,Tryz.ntmps44
 go_wp2
 go_loopg [2] n (λf v wq=>v=.nilIface/\Hid (∃ y,MW g w wq a x y k n f))
 case atStart=>exact⟨rfl,_,H0.out⟩
 case round =>
  obtain⟨rfl,hR⟩:=hrel
  obtain⟨y,hy⟩:=hR.out
  have HY:Hid (MW g w wr a x y k n gk):=hy
  clear H0 hR hy
  have hN:=Gm.PV HB.out.2.2
  obtain⟨m,hm⟩:∃ m,g.D*g.B=m:=⟨_,rfl⟩
  have HX:=uq HY.out.dk.dc m hm HY.out.off
  go_wp2_with fail
  refine HX.mono ?_
  rintro e w1 ⟨rb,rfl,hbr,hb1,-⟩
  have H1:Hid (DK g w1 a y/\Keep (OD g a) w w1/\BR w1 rb m (bV y.s).bad (bV y.s).next y.s.aF):=⟨HY.out.dk.below hb1,HY.out.kp.trans (Keep.of_below hb1),hbr⟩
  clear HX hbr hb1
  have Yw:m<=64:=by rw[<-hm];exact hN.1
  have HS:=Gc H1.out.1 rb m m (bV y.s) y.s.aF H1.out.2.2 Yw HY.out.ds.dw.dv.nx hsp HY.out.ds.ok
  have hsh:=Jc (a_ ⟨k,HY.out.ds⟩)
  rw[hm] at hsh
  rw[hsh] at HS
  clear hsh
  by_cases hs:aN g.P m (bV y.s)<bU g.P m g.spare (bV y.s)
  .rw[decide_eq_true hs] at HS
   have hs2:aN g.P (g.D*g.B) (bV y.s)<bU g.P (g.D*g.B) g.spare (bV y.s):=by rw[hm];exact hs
   have hlk:1<=lack g y:=by unfold lack;omega
   have hgk:1<=gk:=cC hlk HY.out.lk
   have hEP:=HY.out.grant HB.out.1 HB.out.2.1 hgk hN.1 hsp hs2
   go_wp2_with fail
   refine HS.mono ?_
   rintro e w2 ⟨rfl,hb2⟩
   have HE:aE (PB aa false) 62 #[.pointer (some ⟨a.db,0,none⟩),.slice (some ⟨rb,0,none⟩) m m] w2 λe w'=>(e=.returned .nilIface/\∃ z,MW g w w' a x z k n (gk-1))\/∃ c,c≠0/\e=.returned (b_ c)/\MkP (.returned (b_ c)) g w w' a x k n:=by
    refine(Gg HI Ua Ub Uc (H1.out.1.below hb2) hEP rb m hm (H1.out.2.2.below hb2)).mono λe w' hq=>?_
    obtain⟨z,c,q1,q2,q3,q4⟩:=hq
    have hmo:=(HY.out.mo.trans (q4.mo HB.out.2.2.p1)).more (m:=n-(gk-1)) (by have:=HY.out.le;omega)
    obtain⟨t1,t2⟩:=q4.step HY.out.ds hs2
    have hkp:Keep (OD g a) w w':=(H1.out.2.1.trans (Keep.of_below hb2)).trans q3
    have hle:=HY.out.le
    have pQ:∀ j,j<g.L->DW.see g z j=DW.see g x j:=λj hj=>(t1 j hj).trans (HY.out.see j hj)
    rcases t2 with ⟨rfl,u1,u2,u3⟩|⟨rfl,u1,u2,u3⟩|⟨rfl,u1,u2⟩
    .exact bh ⟨q1,z,q2,hkp,hmo,by omega,by have:=HY.out.lk;omega,u1,u2,pQ⟩
    .exact a_ ⟨7,by omega,q1,z,7,rfl,q2,hkp,hmo.more (by omega),pQ,a_ (bh ⟨rfl,u1,u2,cC u3 HY.out.mo.cut⟩)⟩
    .exact a_ ⟨9,by omega,q1,z,9,rfl,q2,hkp,hmo.more (by omega),pQ,a_ (a_ ⟨rfl,u1,u2⟩)⟩
   clear HS hb2 hEP hlk hs2 H1 HY
   go_wp2_with fail
   refine HE.mono ?_
   rintro e w3 (⟨rfl,z,hz⟩|⟨c,hc,rfl,hz⟩)
   .have HZ:Hid (MW g w w3 a x z k n (gk-1)):=hz
    clear HE hz
    go_wp2
    go_roundg (gk-1)
    case measure=>omega
    case rel=>exact⟨rfl,z,HZ.out⟩
   .have HZ:Hid (MkP (.returned (b_ c)) g w w3 a x k n):=hz
    clear HE hz
    rw[fC hc] at HZ ⊢
    go_wp2
    go_ret
    exact HZ.out
  .rw[decide_eq_false hs] at HS
   go_wp2_with fail
   refine HS.mono ?_
   rintro e w2 ⟨rfl,hb2⟩
   have HZ:Hid (MkP (.returned .nilIface) g w w2 a x k n):=⟨y,0,rfl,H1.out.1.below hb2,H1.out.2.1.trans (Keep.of_below hb2),HY.out.mo.more (by omega),HY.out.see,bh ⟨rfl,HY.out.ds,HY.out.off,by rw[hm];omega⟩⟩
   clear HS hb2 H1 HY
   go_wp2
   go_ret
   exact HZ.out
variable {g:Gm}
theorem DS.put{y:Sd}{k b l:Nat}{page:List Nat}(h:DS g y k)(hn:bU g.P (g.D*g.B) g.spare (bV y.s)<=aN g.P (g.D*g.B) (bV y.s))(hb:vL g.P (g.D*g.B) (bV y.s) b)(hw:DW g (lq g y b l page)):DS g (lq g y b l page) 0:=by
 have e1:bV (lq g y b l page).s=dU (bV y.s) b:=by unfold lq;split<;>rfl
 have e2:(lq g y b l page).bad=y.bad:=by unfold lq;split<;>rfl
 refine⟨hw,h.fit,by rw[e2,h.nb,e1];exact wZ.symm,by rw[e2];exact h.ok,?_⟩
 have h1:=hw.dv.one
 have h2:=hw.dv.nx
 rw[e1] at h1 h2 ⊢
 exact xq (s:=y.k) h.fit hw.dv.inv h1 h2 (by rw[<-h.nb];exact h.ok) ⟨hb.1,hb.2.1,hb.2.2.1⟩ hn
structure New(g:Gm)(kd l:Nat)(data:List Nat):Prop where
 k:kd=1\/kd=2
 d1:kd=1->data.length+21=g.Y
 d2:kd=2->data=[]
 all:bn data
 l:l<g.L
def newV(g:Gm)(kd:Nat)(data:List Nat):List Nat:=if kd=1 then data else aq (g.Y-21) 0
theorem New.fok{kd l seq:Nat}{data:List Nat}(h:New g kd l data)(hw:g.L<=256)(hy:24<=g.Y)(hy1:g.Y<=256)(hs:seq<4611686018427387904):Ee g.Y kd l seq data.length:=by
 have:=h.l
 refine⟨hy,by omega,?_,?_,by omega,by omega,?_⟩
 .rcases h.k with e|e<;>omega
 .rcases h.k with e|e<;>omega
 .rcases h.k with e|e
  .have:=h.d1 e;omega
  .rw[h.d2 e];simp;omega
structure P_(x y:Sd)(n:Nat):Prop where
 cut:y.cut<=x.cut
 fails:y.fails<=x.fails
 seq:y.seq<=x.seq+16*n+1
 aF:∀ k,y.s.aF k<=x.s.aF k+n
 bf:y.bad+y.fails=x.bad+x.fails
 bm:x.bad<=y.bad
 cz:y.s.off=false->x.cut=0\/x.bad<y.bad\/(1<=y.cut/\y.cut<x.cut)
def ChQ(g:Gm)(x y:Sd)(k l:Nat)(v:List Nat)(c:Nat):Prop:=(c=0/\DS g y 0/\y.s.off=false/\y.ch=true/\∀ j,j<g.L->DW.see g y j=if j=l then v else DW.see g x j)\/(c≠0/\y.ch=x.ch/\(∀ j,j<g.L->DW.see g y j=DW.see g x j)/\((c=7/\DT g y (k+1)/\y.cut=0/\1<=x.cut)\/(c=9/\DL g y/\y.s.off=false)))
def M6(e:iS)(g:Gm)(w w':ae)(a:Ad)(x:Sd)(k n l:Nat)(v:List Nat):Prop:=∃ (y:Sd) (c:Nat),e=.returned (b_ c)/\DK g w' a y/\Keep (OD g a) w w'/\P_ x y n/\ChQ g x y k l v c
theorem Mo.one{x y:Sd}{n:Nat}(h:Mo x y n)(ho:y.s.off=false->x.bad<y.bad):P_ x y n:=⟨h.cut,h.fails,by have:=h.seq;omega,h.aF,h.bf,h.bm,λe=>a_ (bh (ho e))⟩
theorem uF{w:ae}{a:Ad}{x:Sd}(HI:Dk)(Ua:qC)(Ub:qD)(Uc:lY)(h:DK g w a x)(k n:Nat)(hd:DS g x k)(ho:x.s.off=false)(hk:k<=2*g.P)(hb:Bd x n)(hl:lack g x<=n)(hsp:g.spare<=64)
 (kd l:Nat) (data:List Nat) (hnw:New g kd l data) (fa:Option cy) (cap:Nat) (hL:bM w fa data) (hfa:∀ b off,fa=some ⟨b,off,none⟩->¬OD g a b) :
 aE (PB aa false) 46 #[.pointer (some ⟨a.db,0,none⟩),.int .i64 (kd:Nat),.int .i64 (l:Nat),.slice fa data.length cap] w λe w'=>M6 e g w w' a x k n l (newV g kd data):=by
 have Dl:=fU h
 rw[decide_eq_false (by have:=hd.ok;omega)] at Dl
 have HM:Hid (∀ W,Below w.heap.size w W->aE (PB aa false) 44 #[.pointer (some ⟨a.db,0,none⟩)] W λe w'=>MkP e g W w' a x k n):=λW hW=>vC HI Ua Ub Uc (h.below hW) k n hd ho hk hb hl hsp
 have SI:Hid (∀ W y,DK g W a y->Keep (OD g a) w W->Mo x y n->DS g y k->y.s.off=false->bU g.P (g.D*g.B) g.spare (bV y.s)<=aN g.P (g.D*g.B) (bV y.s)->(∀ j,j<g.L->DW.see g y j=DW.see g x j)->aE (PB aa false) 68 #[.pointer (some ⟨a.db,0,none⟩),.int .i64 (kd:Nat),.int .i64 (l:Nat),.slice fa data.length cap] W λe w'=>(∃ z,e=.returned .nilIface/\DK g w' a z/\Keep (OD g a) w w'/\P_ x z n/\DS g z 0/\z.s.off=false/\∀ j,j<g.L->DW.see g z j=if j=l then newV g kd data else DW.see g x j)\/(e=.returned (.iface 31 (.int .i64 7))/\M6 (.returned (.iface 31 (.int .i64 7))) g w w' a x k n l (newV g kd data))):=λW y q1 q2 q3 q4 q5 q6 q7=>by
  have vO:y.seq<4611686018427387904:=by have:=q3.seq;have:=hb.seq;omega
  have hF:=hnw.fok (seq:=y.seq) q4.dw.l q4.dw.y q4.dw.y1 vO
  have hex:∃ k,k<g.D*g.B/\y.s.bad k=false/\y.s.next k≠g.P:=by
   have:=vT (P:=g.P) (N:=g.D*g.B) (spare:=g.spare) (c:=bV y.s)
   have:=q4.fit.p1
   obtain⟨k,k1,k2,k3⟩:=Cq (P:=g.P) (N:=g.D*g.B) (c:=bV y.s) (by omega)
   exact⟨k,k1,k2,gv k3⟩
  refine(P6 q1 q5 (by have:=q3.cut;have:=hb.cut;omega) vO q4.dw.dv.nx hex q4.dw.free kd l hnw.l fa cap data hF hnw.all (hL.keep q2 hfa)).mono λe w' hq=>?_
  obtain⟨b,p1,p2⟩:=hq
  obtain⟨t1,t2⟩:=q4.dw.put p1.nx hF hnw.k hnw.d1 hnw.d2 hnw.all hnw.l
  have hds:=q4.put q6 p1.nx t1
  have hkp:=q2.trans p1.kp
  by_cases zU:y.cut=1
  .have ep:jO y=.iface 31 (.int .i64 7):=if_pos zU
   rw[ep] at p2
   have e1:lq g y b l (aR g.Y kd l y.seq data)=Bb g y b (aR g.Y kd l y.seq data):=if_pos zU
   have hdk:=p1.dk
   rw[e1] at t2 hds hdk
   refine a_ ⟨p2,_,7,rfl,hdk,hkp,⟨?_,q3.fails,?_,q3.aF,q3.bf,q3.bm,λho=>fX (show true=false from ho)⟩,a_ ⟨by omega,q3.ch,λj hj=>by rw[t2 j hj,if_pos zU];exact q7 j hj,bh ⟨rfl,⟨⟨hds.dw,hds.fit,hds.nb,hds.ok,hds.room.more (by omega)⟩,rfl⟩,?_,?_⟩⟩⟩
   .show y.cut-1<=x.cut
    have:=q3.cut;omega
   .show y.seq<=_
    have:=q3.seq;omega
   .show y.cut-1=0
    omega
   .have:=q3.cut;omega
  .have ep:jO y=.nilIface:=if_neg zU
   rw[ep] at p2
   have e1:lq g y b l (aR g.Y kd l y.seq data)=P5 g y b l (aR g.Y kd l y.seq data):=if_neg zU
   have hdk:=p1.dk
   rw[e1] at t2 hds hdk
   refine bh ⟨_,p2,hdk,hkp,⟨?_,q3.fails,?_,q3.aF,q3.bf,q3.bm,λ_=>by
    have:=(q3.cz q5).2
    have:=q3.cut
    show x.cut=0\/_\/(1<=y.cut-1/\y.cut-1<x.cut)
    omega⟩,hds,q5,λj hj=>?_⟩
   .show y.cut-1<=x.cut
    have:=q3.cut;omega
   .show y.seq+1<=_
    have:=q3.seq;omega
   .rw[t2 j hj,if_neg zU]
    by_cases ej:j=l
    .rw[if_pos ej,if_pos ej];rfl
    .rw[if_neg ej,if_neg ej];exact q7 j hj
 have Qb:Hid (∀ W,Below w.heap.size w W->Keep (OD g a) w W):=λW hW=>Keep.of_below hW
 have HOK:Hid (x.bad<=g.spare):=hd.ok
 clear h hd ho hk hb hl hsp hnw hL hfa HI Ua Ub Uc
 generalize newV g kd data=nv at *
 generalize data.length=dl at *
 go_enter Al.func46,Tryz.ntmps46
 go_wp2_with fail
 refine Dl.mono ?_
 rintro e w1 ⟨rfl,hb1⟩
 have HX:=HM.out w1 hb1
 have Oq:Hid (Keep (OD g a) w w1):=Qb.out w1 hb1
 clear Dl HM hb1 Qb
 go_wp2_with fail
 refine HX.mono ?_
 rintro e w2 ⟨y,c,rfl,q1,q2,q3,q4,q5⟩
 clear HX
 rcases q5 with ⟨rfl,u1,u2,u3⟩|hbad
 .have HQ:=SI.out w2 y q1 (Oq.out.trans q2) q3 u1 u2 u3 q4
  clear SI q1 q2 q3 q4 u1 u2 u3 Oq
  rw[bX]
  go_wp2_with fail
  refine HQ.mono ?_
  rintro e w3 (⟨z,rfl,z1,z2,z3,z4,z5,z6⟩|⟨rfl,hz⟩)
  .have c5:w3.cell? ⟨a.db,5,none⟩=some (.bool z.ch):=z1.st.cell 5
   have f5:=z1.st.free 5
   have HZ:Hid (M6 (.returned .nilIface) g w (w3.setCell ⟨a.db,5,none⟩ (.bool true)) a x k n l nv):=⟨{ z with ch:=true },0,rfl,z1.cell { z with ch:=true } 5 _ rfl rfl rfl,z2.trans (((Keep.refl (λb=>b=a.db) _).set1 _ _).mono λb e=>bh e),⟨z3.cut,z3.fails,z3.seq,z3.aF,z3.bf,z3.bm,z3.cz⟩,bh ⟨rfl,⟨⟨z4.dw.dv,z4.dw.y,z4.dw.y1,z4.dw.l⟩,z4.fit,z4.nb,z4.ok,z4.room⟩,z5,rfl,z6⟩⟩
   clear HQ z1 z2 z3 z4 z5 z6
   go_wp2
   go_ret
   exact HZ.out
  .have HZ:Hid (M6 (.returned (.iface 31 (.int .i64 7))) g w w3 a x k n l nv):=hz
   clear HQ hz
   go_wp2
   go_ret
   exact HZ.out
 .have hc:c≠0:=by rcases hbad with ⟨rfl,_⟩|⟨rfl,_⟩<;>omega
  have HZ:Hid (M6 (.returned (b_ c)) g w w2 a x k n l nv):=⟨y,c,rfl,q1,Oq.out.trans q2,q3.one (λho=>hbad.elim (λe=>fX (show true=false from e.2.1.off.symm.trans ho)) (λe=>Nat.lt_of_le_of_lt HOK.out e.2.1.no)),a_ ⟨hc,q3.ch,q4,hbad⟩⟩
  clear SI q1 q2 q3 q4 hbad Oq
  rw[fC hc] at HZ ⊢
  go_wp2
  go_ret
  exact HZ.out
variable {a:Ad} {g:Gm} {k:Nat} {w:ae}
theorem Bc{x:Sd}(h:DK g w a x)(hb:g.spare<x.bad)(kd l:Int)(fa:Option cy)(n cap:Nat) :
 aE (PB aa false) 46 #[.pointer (some ⟨a.db,0,none⟩),.int .i64 kd,.int .i64 l,.slice fa n cap] w λe w'=>e=.returned (b_ 9)/\Below w.heap.size w w':=by
 have Dl:=fU h
 rw[decide_eq_true hb] at Dl
 clear h hb
 go_enter Al.func46,Tryz.ntmps46
 go_wp2_with fail
 refine Dl.mono ?_
 rintro e w1 ⟨rfl,hb1⟩
 have HB:Hid (Below w.heap.size w w1):=hb1
 clear Dl hb1
 go_wp2
 go_ret
 exact⟨rfl,HB.out⟩
def Qc(g:Gm)(x:Sd)(l:Int)(n:Nat):Nat:=if findF g.L x.s.off l≠0 then findF g.L x.s.off l else if n≠g.Y-21 then 2 else if g.spare<x.bad then 9 else 0
theorem Gh{x:Sd}(h:DK g w a x)(hy:21<=g.Y)(l:Int)(fa:Option cy)(n cap:Nat)(hn:n<4611686018427387904)(hne:Qc g x l n≠0) :
 aE (PB aa false) 27 #[.pointer (some ⟨a.db,0,none⟩),.int .i64 l,.slice fa n cap] w λe w'=>e=.returned (b_ (Qc g x l n))/\Below w.heap.size w w':=by
 have HF:=jZ h l
 have HZ:=nU h hy
 have hy1:=h.iR.y1
 unfold Qc at hne ⊢
 by_cases h1:findF g.L x.s.off l≠0
 .rw[if_pos h1] at hne ⊢
  generalize findF g.L x.s.off l=c at *
  rw[fC h1] at HF ⊢
  clear h
  go_enter Al.func27,Tryz.ntmps27
  go_wp2_with fail
  refine HF.mono ?_
  rintro e w1 ⟨rfl,rfl⟩
  clear HF HZ
  go_wp2
  go_ret
  exact⟨rfl,Below.refl _ _⟩
 .have h0:findF g.L x.s.off l=0:=dq.1 h1
  rw[if_neg h1] at hne ⊢
  rw[h0,bX] at HF
  by_cases h2:n≠g.Y-21
  .rw[if_pos h2] at hne ⊢
   have e1:((n:Int)==((g.Y-21:Nat):Int))=false:=by rw[beq_eq_false_iff_ne];omega
   clear h h1 h0
   generalize g.Y-21=sz at *
   go_enter Al.func27,Tryz.ntmps27
   go_wp2_with fail
   refine HF.mono ?_
   rintro e w1 ⟨rfl,rfl⟩
   clear HF
   go_wp2_with fail
   refine HZ.mono ?_
   rintro e w2 ⟨rfl,rfl⟩
   clear HZ
   go_wp2
   go_ret
   exact⟨rfl,Below.refl _ _⟩
  .rw[if_neg h2] at hne ⊢
   obtain rfl:n=g.Y-21:=dq.1 h2
   by_cases h3:g.spare<x.bad
   .rw[if_pos h3]
    have HC:=Bc h h3 1 l fa (g.Y-21) cap
    clear h h1 h0 h2 h3 hne
    generalize g.Y-21=sz at *
    go_enter Al.func27,Tryz.ntmps27
    go_wp2_with fail
    refine HF.mono ?_
    rintro e w1 ⟨rfl,rfl⟩
    clear HF
    go_wp2_with fail
    refine HZ.mono ?_
    rintro e w2 ⟨rfl,rfl⟩
    clear HZ
    go_wp2_with fail
    refine HC.mono ?_
    rintro e w3 ⟨rfl,hb⟩
    have HB:Hid (Below w2.heap.size w2 w3):=hb
    clear HC hb
    go_wp2
    go_ret
    exact⟨rfl,HB.out⟩
   .rw[if_neg h3] at hne
    exact absurd rfl hne
theorem M6.ret{e:iS}{w':ae}{x:Sd}{n l:Nat}{v:List Nat}(h:M6 e g w w' a x k n l v):∃ u,e=.returned u:=by
 obtain⟨_,_,h,_⟩:=h
 exact⟨_,h⟩
theorem Bg{x:Sd}{n l len:Nat}{v:List Nat}(h:DK g w a x)(hy:21<=g.Y)(fa:Option cy)(cap:Nat)(hy0:Qc g x (l:Int) len=0)
 (HC:aE (PB aa false) 46 #[.pointer (some ⟨a.db,0,none⟩),.int .i64 ((1:Nat):Int),.int .i64 (l:Nat),.slice fa len cap] w λe w'=>M6 e g w w' a x k n l v) :
 aE (PB aa false) 27 #[.pointer (some ⟨a.db,0,none⟩),.int .i64 (l:Nat),.slice fa len cap] w λe w'=>M6 e g w w' a x k n l v:=by
 have HF:=jZ h (l:Int)
 have HZ:=nU h hy
 unfold Qc at hy0
 have h0:findF g.L x.s.off (l:Int)=0:=cE λe=>by rw[if_pos e] at hy0;exact e hy0
 rw[if_neg (λe=>e h0)] at hy0
 have h2:len=g.Y-21:=cE λe=>by rw[if_pos e] at hy0;omega
 rw[h0,bX] at HF
 subst h2
 clear h hy0 h0
 generalize g.Y-21=sz at *
 go_enter Al.func27,Tryz.ntmps27
 go_wp2_with fail
 refine HF.mono ?_
 rintro e w1 ⟨rfl,rfl⟩
 clear HF
 go_wp2_with fail
 refine HZ.mono ?_
 rintro e w2 ⟨rfl,rfl⟩
 clear HZ
 go_wp2_with fail
 refine HC.mono ?_
 rintro e w3 hm
 obtain⟨u,rfl⟩:=hm.ret
 have HM:Hid (M6 (.returned u) g w2 w3 a x k n l v):=hm
 clear hm HC
 go_wp2
 go_ret
 exact HM.out
def Ue(g:Gm)(x:Sd)(l:Int):Nat:=if findF g.L x.s.off l≠0 then findF g.L x.s.off l else if g.spare<x.bad then 9 else 0
theorem Uf{x:Sd}(h:DK g w a x)(l:Int)(hne:Ue g x l≠0) :
 aE (PB aa false) 30 #[.pointer (some ⟨a.db,0,none⟩),.int .i64 l] w λe w'=>e=.returned (b_ (Ue g x l))/\Below w.heap.size w w':=by
 have HF:=jZ h l
 unfold Ue at hne ⊢
 by_cases h1:findF g.L x.s.off l≠0
 .rw[if_pos h1] at hne ⊢
  generalize findF g.L x.s.off l=c at *
  rw[fC h1] at HF ⊢
  clear h
  go_enter Al.func30,Tryz.ntmps30
  go_wp2_with fail
  refine HF.mono ?_
  rintro e w1 ⟨rfl,rfl⟩
  clear HF
  go_wp2
  go_ret
  exact⟨rfl,Below.refl _ _⟩
 .have h0:findF g.L x.s.off l=0:=dq.1 h1
  rw[if_neg h1] at hne ⊢
  rw[h0,bX] at HF
  by_cases h3:g.spare<x.bad
  .rw[if_pos h3]
   have HC:=Bc h h3 2 l none 0 0
   clear h h1 h0 h3 hne
   go_enter Al.func30,Tryz.ntmps30
   go_wp2_with fail
   refine HF.mono ?_
   rintro e w1 ⟨rfl,rfl⟩
   clear HF
   go_wp2_with fail
   refine HC.mono ?_
   rintro e w3 ⟨rfl,hb⟩
   have HB:Hid (Below w1.heap.size w1 w3):=hb
   clear HC hb
   go_wp2
   go_ret
   exact⟨rfl,HB.out⟩
  .rw[if_neg h3] at hne
   exact absurd rfl hne
theorem Qd{x:Sd}{n l:Nat}{v:List Nat}(h:DK g w a x)(hy0:Ue g x (l:Int)=0)
 (HC:aE (PB aa false) 46 #[.pointer (some ⟨a.db,0,none⟩),.int .i64 ((2:Nat):Int),.int .i64 (l:Nat),.slice none 0 0] w λe w'=>M6 e g w w' a x k n l v) :
 aE (PB aa false) 30 #[.pointer (some ⟨a.db,0,none⟩),.int .i64 (l:Nat)] w λe w'=>M6 e g w w' a x k n l v:=by
 have HF:=jZ h (l:Int)
 unfold Ue at hy0
 have h0:findF g.L x.s.off (l:Int)=0:=cE λe=>by rw[if_pos e] at hy0;exact e hy0
 rw[h0,bX] at HF
 clear h hy0 h0
 go_enter Al.func30,Tryz.ntmps30
 go_wp2_with fail
 refine HF.mono ?_
 rintro e w1 ⟨rfl,rfl⟩
 clear HF
 go_wp2_with fail
 refine HC.mono ?_
 rintro e w3 hm
 obtain⟨u,rfl⟩:=hm.ret
 have HM:Hid (M6 (.returned u) g w1 w3 a x k n l v):=hm
 clear hm HC
 go_wp2
 go_ret
 exact HM.out
variable {g:Gm}
theorem DW.note{x:Sd}(h:DW g x){b sq:Nat}(hx:vL g.P (g.D*g.B) (bV x.s) b)(hF:Ee g.Y 3 0 sq 0):DW g (jd g x b (aR g.Y 3 0 sq []))/\∀ j,j<g.L->DW.see g (jd g x b (aR g.Y 3 0 sq [])) j=DW.see g x j:=by
 have hA:bn []:=λx hx=>by cases hx
 unfold jd
 by_cases hc:x.cut=1
 .rw[if_pos hc]
  obtain⟨t1,t2⟩:=h.dv.ab7 hx (page:=aR g.Y 3 0 sq []) (gQ _ _ _ _ _ hF.d1) (by have:=h.y;omega) (jC _ _ _ _ _ (by omega) hA)
  exact⟨⟨t1,h.y,h.y1,h.l⟩,t2⟩
 .rw[if_neg hc]
  obtain⟨t1,t2⟩:=h.dv.note (gN:=0) (sq:=sq) (data:=[]) hx hF hA
  exact⟨⟨t1,h.y,h.y1,h.l⟩,t2⟩
theorem DS.note{y:Sd}{k b:Nat}{page:List Nat}(h:DS g y k)(hn:bU g.P (g.D*g.B) g.spare (bV y.s)<=aN g.P (g.D*g.B) (bV y.s))(hb:vL g.P (g.D*g.B) (bV y.s) b)(hw:DW g (jd g y b page)):DS g (jd g y b page) 0:=by
 have e1:bV (jd g y b page).s=dU (bV y.s) b:=by unfold jd;split<;>rfl
 have e2:(jd g y b page).bad=y.bad:=by unfold jd;split<;>rfl
 refine⟨hw,h.fit,by rw[e2,h.nb,e1];exact wZ.symm,by rw[e2];exact h.ok,?_⟩
 have h1:=hw.dv.one
 have h2:=hw.dv.nx
 rw[e1] at h1 h2 ⊢
 exact xq (s:=y.k) h.fit hw.dv.inv h1 h2 (by rw[<-h.nb];exact h.ok) ⟨hb.1,hb.2.1,hb.2.2.1⟩ hn
def Yx(g:Gm)(x:Sd):Nat:=if x.s.off=true then 7 else if g.spare<x.bad then 9 else 0
theorem Gi{w:ae}{a:Ad}{x:Sd}(h:DK g w a x)(hne:Yx g x≠0\/x.ch=false) :
 aE (PB aa false) 25 #[.pointer (some ⟨a.db,0,none⟩)] w λe w'=>e=.returned (b_ (Yx g x))/\Below w.heap.size w w':=by
 have c6:w.cell? ⟨a.db,6,none⟩=some (.pointer (some ⟨a.cb,0,none⟩)):=h.st.cell 6
 have HO:=vY w h.hc
 have Dl:=fU h
 have HD:Hid (∀ W,Below w.heap.size w W->W.cell? ⟨a.db,5,none⟩=some (.bool x.ch)):=λW hW=>(h.below hW).st.cell 5
 unfold Yx at hne ⊢
 clear h
 generalize x.s.off=of at *
 cases of with
 |true =>
  rw[if_pos rfl]
  go_enter Al.func25,Tryz.ntmps25
  go_wp2_with fail
  refine HO.mono ?_
  rintro e w1 ⟨rfl,rfl⟩
  clear HO Dl
  go_wp2
  go_ret
  exact⟨rfl,Below.refl _ _⟩
 |false =>
  rw[if_neg (by simp)] at hne ⊢
  by_cases h3:g.spare<x.bad
  .rw[if_pos h3]
   rw[decide_eq_true h3] at Dl
   go_enter Al.func25,Tryz.ntmps25
   go_wp2_with fail
   refine HO.mono ?_
   rintro e w1 ⟨rfl,rfl⟩
   clear HO
   go_wp2_with fail
   refine Dl.mono ?_
   rintro e w2 ⟨rfl,hb⟩
   have HB:Hid (Below w1.heap.size w1 w2):=hb
   clear Dl hb
   go_wp2
   go_ret
   exact⟨rfl,HB.out⟩
  .rw[if_neg h3] at hne ⊢
   have hch:x.ch=false:=by
    rcases hne with e|e
    .exact absurd rfl e
    .exact e
   rw[decide_eq_false h3] at Dl
   rw[hch] at HD
   go_enter Al.func25,Tryz.ntmps25
   go_wp2_with fail
   refine HO.mono ?_
   rintro e w1 ⟨rfl,rfl⟩
   clear HO
   go_wp2_with fail
   refine Dl.mono ?_
   rintro e w2 ⟨rfl,hb⟩
   have c5:=HD.out w2 hb
   have HB:Hid (Below w1.heap.size w1 w2):=hb
   clear Dl hb HD
   go_wp2
   go_ret
   exact⟨rfl,HB.out⟩
def FlQ(g:Gm)(x y:Sd)(k c:Nat):Prop:=(∀ j,j<g.L->DW.see g y j=DW.see g x j)/\((c=0/\DS g y 0/\y.s.off=false/\y.ch=false)\/(c≠0/\y.ch=x.ch/\((c=7/\DT g y (k+1)/\y.cut=0/\1<=x.cut)\/(c=9/\DL g y/\y.s.off=false))))
def FlP(e:iS)(g:Gm)(w w':ae)(a:Ad)(x:Sd)(k n:Nat):Prop:=∃ (y:Sd) (c:Nat),e=.returned (b_ c)/\DK g w' a y/\Keep (OD g a) w w'/\P_ x y n/\FlQ g x y k c
theorem Qe{w:ae}{a:Ad}{x:Sd}(HI:Dk)(Ua:qC)(Ub:qD)(Uc:lY)(h:DK g w a x)(k n:Nat)(hd:DS g x k)(ho:x.s.off=false)(hk:k<=2*g.P)(hb:Bd x n)(hl:lack g x<=n)(hsp:g.spare<=64)(hch:x.ch=true) :
 aE (PB aa false) 25 #[.pointer (some ⟨a.db,0,none⟩)] w λe w'=>FlP e g w w' a x k n:=by
 have c6:w.cell? ⟨a.db,6,none⟩=some (.pointer (some ⟨a.cb,0,none⟩)):=h.st.cell 6
 have HO:=vY w h.hc
 rw[ho] at HO
 have Dl:=fU h
 rw[decide_eq_false (by have:=hd.ok;omega)] at Dl
 have HD:Hid (∀ W,Below w.heap.size w W->W.cell? ⟨a.db,5,none⟩=some (.bool true)/\Keep (OD g a) w W):=λW hW=>⟨by rw[<-hch];exact(h.below hW).st.cell 5,Keep.of_below hW⟩
 have HM:Hid (∀ W,Below w.heap.size w W->aE (PB aa false) 44 #[.pointer (some ⟨a.db,0,none⟩)] W λe w'=>MkP e g W w' a x k n):=λW hW=>vC HI Ua Ub Uc (h.below hW) k n hd ho hk hb hl hsp
 have SI:Hid (∀ W y,DK g W a y->Keep (OD g a) w W->Mo x y n->DS g y k->y.s.off=false->bU g.P (g.D*g.B) g.spare (bV y.s)<=aN g.P (g.D*g.B) (bV y.s)->(∀ j,j<g.L->DW.see g y j=DW.see g x j)->aE (PB aa false) 45 #[.pointer (some ⟨a.db,0,none⟩),FV 3 0 y.seq none 0 0] W λe w'=>(∃ (z:Sd) (p:Nat),e=.returned (.tuple #[.int .i64 (p:Nat),.nilIface])/\DK g w' a z/\Keep (OD g a) w w'/\P_ x z n/\DS g z 0/\z.s.off=false/\∀ j,j<g.L->DW.see g z j=DW.see g x j)\/(e=.returned (.tuple #[.int .i64 0,.iface 31 (.int .i64 7)])/\FlP (.returned (.iface 31 (.int .i64 7))) g w w' a x k n)):=λW y q1 q2 q3 q4 q5 q6 q7=>by
  have vO:y.seq<4611686018427387904:=by have:=q3.seq;have:=hb.seq;omega
  have hy:=q4.dw.y
  have hy1:=q4.dw.y1
  have hF:Ee g.Y 3 0 y.seq 0:=⟨hy,by omega,by omega,by omega,by omega,by omega,by omega⟩
  have hex:∃ k,k<g.D*g.B/\y.s.bad k=false/\y.s.next k≠g.P:=by
   have:=vT (P:=g.P) (N:=g.D*g.B) (spare:=g.spare) (c:=bV y.s)
   have:=q4.fit.p1
   obtain⟨k,k1,k2,k3⟩:=Cq (P:=g.P) (N:=g.D*g.B) (c:=bV y.s) (by omega)
   exact⟨k,k1,k2,gv k3⟩
  refine(yT q1 q5 (by have:=q3.cut;have:=hb.cut;omega) q4.dw.dv.nx hex 3 0 y.seq none 0 [] hF (λx hx=>by cases hx) (bh rfl)).mono λe w' hq=>?_
  obtain⟨b,p1,p2⟩:=hq
  obtain⟨t1,t2⟩:=q4.dw.note p1.nx hF
  have hds:=q4.note q6 p1.nx t1
  have hkp:=q2.trans p1.kp
  have pQ:∀ j,j<g.L->DW.see g (jd g y b (aR g.Y 3 0 y.seq [])) j=DW.see g x j:=λj hj=>(t2 j hj).trans (q7 j hj)
  have hdk:=p1.dk
  by_cases zU:y.cut=1
  .have ep:jO y=.iface 31 (.int .i64 7):=if_pos zU
   rw[ep,if_pos zU] at p2
   have e1:jd g y b (aR g.Y 3 0 y.seq [])=Bb g y b (aR g.Y 3 0 y.seq []):=if_pos zU
   rw[e1] at pQ hds hdk
   refine a_ ⟨p2,_,7,rfl,hdk,hkp,⟨?_,q3.fails,?_,q3.aF,q3.bf,q3.bm,λho=>fX (show true=false from ho)⟩,pQ,a_ ⟨by omega,q3.ch,bh ⟨rfl,⟨⟨hds.dw,hds.fit,hds.nb,hds.ok,hds.room.more (by omega)⟩,rfl⟩,?_,?_⟩⟩⟩
   .show y.cut-1<=x.cut
    have:=q3.cut;omega
   .show y.seq<=_
    have:=q3.seq;omega
   .show y.cut-1=0
    omega
   .have:=q3.cut;omega
  .have ep:jO y=.nilIface:=if_neg zU
   rw[ep,if_neg zU] at p2
   have e1:jd g y b (aR g.Y 3 0 y.seq [])=Ae g y b (aR g.Y 3 0 y.seq []):=if_neg zU
   rw[e1] at pQ hds hdk
   refine bh ⟨_,_,p2,hdk,hkp,⟨?_,q3.fails,?_,q3.aF,q3.bf,q3.bm,λ_=>by
    have:=(q3.cz q5).2
    have:=q3.cut
    show x.cut=0\/_\/(1<=y.cut-1/\y.cut-1<x.cut)
    omega⟩,hds,q5,pQ⟩
   .show y.cut-1<=x.cut
    have:=q3.cut;omega
   .show y.seq<=_
    have:=q3.seq;omega
 have HOK:Hid (x.bad<=g.spare):=hd.ok
 clear h hd ho hk hb hl hsp hch HI Ua Ub Uc
 go_enter Al.func25,Tryz.ntmps25
 go_wp2_with fail
 refine HO.mono ?_
 rintro e w0 ⟨rfl,rfl⟩
 clear HO
 go_wp2_with fail
 refine Dl.mono ?_
 rintro e w1 ⟨rfl,hb1⟩
 have c5:=(HD.out w1 hb1).1
 have Oq:Hid (Keep (OD g a) w0 w1):=(HD.out w1 hb1).2
 have HX:=HM.out w1 hb1
 clear Dl hb1 HD HM c6
 go_wp2_with fail
 refine HX.mono ?_
 rintro e w2 ⟨y,c,rfl,q1,q2,q3,q4,q5⟩
 clear HX c5
 rcases q5 with ⟨rfl,u1,u2,u3⟩|hbad
 .have c3:w2.cell? ⟨a.db,3,none⟩=some (.int .i64 (y.seq:Nat)):=q1.st.cell 3
  have HQ:=SI.out w2 y q1 (Oq.out.trans q2) q3 u1 u2 u3 q4
  clear SI q1 q2 q3 q4 u1 u2 u3 Oq
  rw[bX]
  generalize y.seq=sq at *
  go_wp2_with fail
  refine HQ.mono ?_
  rintro e w3 (⟨z,p,rfl,z1,z2,z3,z4,z5,z6⟩|⟨rfl,hz⟩)
  .have c5:w3.cell? ⟨a.db,5,none⟩=some (.bool z.ch):=z1.st.cell 5
   have f5:=z1.st.free 5
   have HZ:Hid (FlP (.returned .nilIface) g w0 (w3.setCell ⟨a.db,5,none⟩ (.bool false)) a x k n):=⟨{ z with ch:=false },0,rfl,z1.cell { z with ch:=false } 5 _ rfl rfl rfl,z2.trans (((Keep.refl (λb=>b=a.db) _).set1 _ _).mono λb e=>bh e),⟨z3.cut,z3.fails,z3.seq,z3.aF,z3.bf,z3.bm,z3.cz⟩,z6,bh ⟨rfl,⟨⟨z4.dw.dv,z4.dw.y,z4.dw.y1,z4.dw.l⟩,z4.fit,z4.nb,z4.ok,z4.room⟩,z5,rfl⟩⟩
   clear HQ z1 z2 z3 z4 z5 z6
   go_wp2
   go_ret
   exact HZ.out
  .have HZ:Hid (FlP (.returned (.iface 31 (.int .i64 7))) g w0 w3 a x k n):=hz
   clear HQ hz
   go_wp2
   go_ret
   exact HZ.out
 .have hc:c≠0:=by rcases hbad with ⟨rfl,_⟩|⟨rfl,_⟩<;>omega
  have HZ:Hid (FlP (.returned (b_ c)) g w0 w2 a x k n):=⟨y,c,rfl,q1,Oq.out.trans q2,q3.one (λho=>hbad.elim (λe=>fX (show true=false from e.2.1.off.symm.trans ho)) (λe=>Nat.lt_of_le_of_lt HOK.out e.2.1.no)),q4,a_ ⟨hc,q3.ch,hbad⟩⟩
  clear SI q1 q2 q3 q4 hbad Oq
  rw[fC hc] at HZ ⊢
  go_wp2
  go_ret
  exact HZ.out
theorem Qf(w:ae)(g dLen dCap:Nat)(sa:Option cy)(sCap:Nat)(l xs:List Nat)(hg:Row w g l)(hn:xs.length<=dLen)(hL:bM w sa xs)(hfit:xs.length<=l.length) :
 ∃ v w',Sem.run (PB aa false) (Builtin.copy_ #[60,60] 3 #[.slice (some ⟨g,0,none⟩) dLen dCap,.slice sa xs.length sCap]) w=.ok v w'/\Row w' g (splice l 0 xs)/\Keep (λb=>b=g) w w':=by
 have hsz:((PB aa false).info? 5).map (·.size)=some 1:=by kernel_rfl
 rcases hL with rfl|⟨sb,so,rfl,hsrc⟩
 .exact⟨_,w,run_copy_none (P:=(PB aa false)) w 60 60 3 5 (some ⟨g,0,none⟩) sa dLen dCap 0 sCap Al.underlying60 hsz (jj (Nat.zero_le _)),by rw[mI];exact hg,Keep.refl _ _⟩
 .have hrun:=run_copy_row (P:=(PB aa false)) w 60 60 3 5 g 0 dLen dCap ⟨sb,so,none⟩ xs.length sCap (l.map bv).toArray 5 (xs.map bv) Al.underlying60 hsz hg (by rw[List.length_map];exact(jj hn).symm)
   (λj v hj=>by
    have hl:j<xs.length:=by
     have:=(List.getElem?_eq_some_iff.1 hj).1
     simpa using this
    have e:=hsrc j hl
    rw[List.getElem?_map,ax hl] at hj
    rw[ax hl] at e
    simp only[Option.map_some,cJ] at hj
    subst hj
    have hadd:(⟨sb,so,none⟩:cy).add j=⟨sb,so+j,none⟩:=by unfold Addr.add;split<;>simp_all
    rw[hadd,e]
    rfl) (by simpa using hfit) (λu hu=>by obtain⟨x,_,rfl⟩:=List.mem_map.1 hu;rfl)
  refine⟨_,_,hrun,?_,ah.kU _ _ _⟩
  show _=_
  rw[setRow_heap w g _ _ 5 _ hg]
  simp[splice,List.map_append,List.map_drop]
def RdP(e:iS)(w w':ae)(v:List Nat):Prop:=∃ gb,e=.returned (.tuple #[.slice (some ⟨gb,0,none⟩) v.length v.length,.nilIface])/\w.heap.size<=gb/\Row w' gb v/\Below w.heap.size w w'
theorem Ku{g:Gm}{w:ae}{a:Ad}{x:Sd}(h:DK g w a x)(l:Int)(hne:findF g.L x.s.off l≠0) :
 aE (PB aa false) 23 #[.pointer (some ⟨a.db,0,none⟩),.int .i64 l] w λe w'=>e=.returned (.tuple #[.slice none 0 0,b_ (findF g.L x.s.off l)])/\w'=w:=by
 have HF:=jZ h l
 generalize findF g.L x.s.off l=c at *
 rw[fC hne] at HF ⊢
 clear h
 go_enter Al.func23,Tryz.ntmps23
 go_wp2_with fail
 refine HF.mono ?_
 rintro e w1 ⟨rfl,rfl⟩
 clear HF
 go_wp2
 go_ret2
 exact⟨rfl,rfl⟩
theorem Gj{g:Gm}{w:ae}{a:Ad}{x:Sd}(HI:Dk)(h:DK g w a x)(hw:DW g x)(hs:x.seq<4611686018427387904)(l:Nat)(hl:l<g.L)(ho:x.s.off=false) :
 aE (PB aa false) 23 #[.pointer (some ⟨a.db,0,none⟩),.int .i64 (l:Nat)] w λe w'=>RdP e w w' (DW.see g x l):=by
 have HF:=jZ h (l:Int)
 have h0:findF g.L x.s.off (l:Int)=0:=by unfold findF;rw[ho,if_neg (by simp),if_pos ⟨by omega,by omega⟩]
 rw[h0,bX] at HF
 have hy:=hw.y
 have hy1:=hw.y1
 have HZ:=nU h (by omega)
 have hmk:=ah.iO (zb:=false) (g.Y-21) (by omega)
 have hb0:Below w.heap.size w (w.alloc (.cells (ah.pE (g.Y-21)) 5)):=aC _ _
 have c2:(w.alloc (.cells (ah.pE (g.Y-21)) 5)).cell? ⟨a.db,2,none⟩=some (.pointer (some ⟨a.kb,0,none⟩)):=(h.below hb0).st.cell 2
 have HA:=Yk (h.below hb0).ho (l:Int)
 have hrow:Row (w.alloc (.cells (ah.pE (g.Y-21)) 5)) w.heap.size (aq (g.Y-21) 0):=heap_alloc_new w _
 rcases hw.dv.inv.a l hl with hno|⟨p,hp,hpa,hlb⟩
 .rw[qA hl hno] at HA
  have pQ:DW.see g x l=aq (g.Y-21) 0:=by
   show fO g.Y _ x.k.pa l=_
   unfold fO
   rw[if_pos hno]
  rw[pQ]
  have Hg:=HI 4 4 (by decide)
  have HR:Hid (Row (w.alloc (.cells (ah.pE (g.Y-21)) 5)) w.heap.size (aq (g.Y-21) 0)/\Below w.heap.size w (w.alloc (.cells (ah.pE (g.Y-21)) 5))):=⟨hrow,hb0⟩
  clear h hw hno pQ hrow hb0 h0
  generalize g.Y-21=sz at *
  go_enter Al.func23,Tryz.ntmps23
  go_wp2_with fail
  refine HF.mono ?_
  rintro e w1 ⟨rfl,rfl⟩
  clear HF
  go_wp2_with fail
  refine HZ.mono ?_
  rintro e w2 ⟨rfl,rfl⟩
  clear HZ
  go_wp2_with fail
  refine HA.mono ?_
  rintro e w3 ⟨rfl,rfl⟩
  clear HA
  go_wp2_with fail
  refine(Hg _).mono ?_
  rintro e w4 ⟨rfl,hb⟩
  have HQ:Hid (RdP (.returned (.tuple #[.slice (some ⟨w2.heap.size,0,none⟩) sz sz,.nilIface])) w2 w4 (aq sz 0)):=⟨_,by rw[cU],al _,HR.out.1.below hb,HR.out.2.trans (hb.mono HR.out.2.size)⟩
  clear Hg HR hb
  go_wp2
  go_ret2
  exact HQ.out
 .rw[qB hl (by omega),hpa] at HA
  obtain⟨q1,hV,T_,hAd,hdl,hF,hkd,hd1,hd2,pQ⟩:=hw.live hl hpa hs
  have hsp:splice (aq (g.Y-21) 0) 0 (aV (iJ g x p))=DW.see g x l/\(aV (iJ g x p)).length<=g.Y-21/\(DW.see g x l).length=g.Y-21:=by
   rw[pQ]
   rcases hkd with e|e
   .have:=hd1 e
    rw[if_pos e]
    exact⟨yu (by rw[cU];omega),by omega,by omega⟩
   .rw[if_neg (by omega),hd2 e]
    exact⟨mI _ _,by simp,by simp⟩
  have Hg:=HI 0 4 (by decide)
  rw[bX] at Hg HA
  have HR:Hid (Row (w.alloc (.cells (ah.pE (g.Y-21)) 5)) w.heap.size (aq (g.Y-21) 0)/\Below w.heap.size w (w.alloc (.cells (ah.pE (g.Y-21)) 5))/\splice (aq (g.Y-21) 0) 0 (aV (iJ g x p))=DW.see g x l/\(aV (iJ g x p)).length<=g.Y-21/\(aV (iJ g x p)).length=aX (iJ g x p)/\(DW.see g x l).length=g.Y-21):=⟨hrow,hb0,hsp.1,hsp.2.1,hdl,hsp.2.2⟩
  have Yq:Hid (∀ W,Below w.heap.size w W->aE (PB aa false) 43 #[.pointer (some ⟨a.db,0,none⟩),.int .i64 (p:Nat)] W λe w'=>FrP e W w' (iJ g x p)):=λW hW=>yS (h.below hW) p hp ho T_ hV
  clear h hw hrow hb0 h0 q1 hV T_ hAd hdl hF hkd hd1 hd2 pQ hsp hlb hpa hs
  unfold FrP at Yq
  generalize DW.see g x l=vv at *
  generalize iJ g x p=pg at *
  generalize aQ pg=KK at *
  generalize bT pg=LL at *
  generalize bO pg=SS at *
  generalize aX pg=DD at *
  generalize aV pg=DT at *
  generalize g.Y-21=sz at *
  go_enter Al.func23,Tryz.ntmps23
  go_wp2_with fail
  refine HF.mono ?_
  rintro e w1 ⟨rfl,rfl⟩
  clear HF
  go_wp2_with fail
  refine HZ.mono ?_
  rintro e w2 ⟨rfl,rfl⟩
  clear HZ
  go_wp2_with fail
  refine HA.mono ?_
  rintro e w3 ⟨rfl,rfl⟩
  clear HA
  go_wp2_with fail
  refine(Hg _).mono ?_
  rintro e w4 ⟨rfl,hb⟩
  have Ug:Hid (Below w2.heap.size w2 w4/\Row w4 w2.heap.size (aq sz 0)):=⟨HR.out.2.1.trans (hb.mono HR.out.2.1.size),HR.out.1.below hb⟩
  clear Hg hb
  go_wp2_with fail
  refine(Yq.out _ Ug.out.1).mono ?_
  rintro e w5 ⟨fa,fc,rfl,hO,hb5⟩
  have LH:Hid (Below w2.heap.size w2 (w5.alloc (jD (KK:Nat) (LL:Nat) (SS:Nat) fa DD fc))/\bM (w5.alloc (jD (KK:Nat) (LL:Nat) (SS:Nat) fa DD fc)) fa DT/\Row (w5.alloc (jD (KK:Nat) (LL:Nat) (SS:Nat) fa DD fc)) w2.heap.size (aq sz 0)):=⟨(Ug.out.1.trans (hb5.mono Ug.out.1.size)).alloc (Ug.out.1.trans (hb5.mono Ug.out.1.size)).size _,hO.lies.below (aC _ _),(Ug.out.2.below hb5).below (aC _ _)⟩
  clear Yq Ug hO hb5
  have hdd:=HR.out.2.2.2.2.1
  obtain⟨uu,w6,hrun,Xj,hk6⟩:=Qf _ w2.heap.size sz sz fa fc _ DT LH.out.2.2 HR.out.2.2.2.1 LH.out.2.1 (by rw[cU];exact HR.out.2.2.2.1)
  rw[hdd] at hrun
  have HQ:Hid (RdP (.returned (.tuple #[.slice (some ⟨w2.heap.size,0,none⟩) sz sz,.nilIface])) w2 w6 vv):=⟨_,by rw[HR.out.2.2.2.2.2],al _,by rw[<-HR.out.2.2.1];exact Xj,LH.out.1.trans (hk6.below LH.out.1.size (λb e=>by omega))⟩
  clear Xj hk6 LH HR hdd
  go_wp2
  go_ret2
  exact HQ.out
def qM(D B P Y:Nat)(lb sp:Int):Nat:=if Y<24 then 2 else if lb<1\/256<lb\/sp<0 then 1 else if (((D*B:Nat):Int)-min sp ((D*B:Nat):Int)-4)*(P:Int)<lb then 3 else 0
theorem oJ(D B P Y:Nat)(lb sp:Int)(w:ae)(hG:Geo D B P Y) :
 aE (PB aa false) 32 #[.agg #[.int .i64 (D:Nat),.int .i64 (B:Nat),.int .i64 (P:Nat),.int .i64 (Y:Nat)],.int .i64 lb,.int .i64 sp] w λe w'=>e=.returned (b_ (qM D B P Y lb sp))/\Below w.heap.size w w':=by
 have hN:D*B<=64:=hG.n.2
 have hP:=hG.p1
 have HB:Hid (∀ o,Below w.heap.size w (w.alloc o)):=λo=>aC _ _
 unfold qM
 by_cases h1:Y<24
 .rw[if_pos h1]
  have e1:(Y:Int)<24:=by omega
  clear hG
  go_enter Al.func32,Tryz.ntmps32
  go_wp2
  go_ret
  exact⟨rfl,HB.out _⟩
 .rw[if_neg h1]
  have e1:¬((Y:Int)<24):=by omega
  by_cases h2:lb<1
  .rw[if_pos (bh h2)]
   clear hG h1
   go_enter Al.func32,Tryz.ntmps32
   go_wp2
   go_ret
   exact⟨rfl,HB.out _⟩
  .by_cases h3:256<lb
   .rw[if_pos (a_ (bh h3))]
    clear hG h1
    go_enter Al.func32,Tryz.ntmps32
    go_wp2
    go_ret
    exact⟨rfl,HB.out _⟩
   .by_cases h4:sp<0
    .rw[if_pos (a_ (a_ h4))]
     clear hG h1
     go_enter Al.func32,Tryz.ntmps32
     go_wp2
     go_ret
     exact⟨rfl,HB.out _⟩
    .rw[if_neg (by omega)]
     obtain⟨N,hNe⟩:∃ N,D*B=N:=⟨_,rfl⟩
     rw[hNe] at hN ⊢
     have m1:(D:Int)*(B:Int)=(N:Int):=by rw[<-hNe];simp
     have m2:IntKind.i64.wrap (N:Int)=(N:Int):=bP (by omega) (by omega)
     by_cases hc:(N:Int)<sp
     .have hmi:min sp (N:Int)=(N:Int):=by omega
      have hT:((N:Int)-(N:Int)-4)*(P:Int)=-4*(P:Int):=by rw[Int.sub_self];rfl
      rw[hmi,hT,if_pos (by omega)]
      have m5:wrap64 (-4*(P:Int))=-4*(P:Int):=IntWalk.wrap64_in _ ⟨by omega,by omega⟩
      have m6:IntKind.i64.wrap (-4*(P:Int))=-4*(P:Int):=bP (by omega) (by omega)
      have m7:wrap64 (-(4*(P:Int)))=-(4*(P:Int)):=IntWalk.wrap64_in _ ⟨by omega,by omega⟩
      have m8:IntKind.i64.wrap (-(4*(P:Int)))=-(4*(P:Int)):=bP (by omega) (by omega)
      have h5:-4*(P:Int)<lb:=by omega
      have h6:-(4*(P:Int))<lb:=by omega
      clear hG h1 hNe hT
      go_enter Al.func32,Tryz.ntmps32
      go_wp2
      go_ret
      exact⟨rfl,HB.out _⟩
     .obtain⟨s,rfl⟩:∃ s:Nat,sp=(s:Int):=⟨sp.toNat,by omega⟩
      have hmi:min (s:Int) (N:Int)=(s:Int):=by omega
      rw[hmi]
      have m3:IntKind.i64.wrap ((N:Int)-(s:Int))=(N:Int)-(s:Int):=bP (by omega) (by omega)
      have m4:IntKind.i64.wrap ((N:Int)-(s:Int)-4)=(N:Int)-(s:Int)-4:=bP (by omega) (by omega)
      have hlo:-64<=((N:Int)-(s:Int)-4)*(P:Int):=by
       have:(-4:Int)*(P:Int)<=((N:Int)-(s:Int)-4)*(P:Int):=mB (by omega) (by omega)
       omega
      have hhi:((N:Int)-(s:Int)-4)*(P:Int)<=64*16:=by
       have:((N:Int)-(s:Int)-4)*(P:Int)<=64*(P:Int):=mB (by omega) (by omega)
       omega
      obtain⟨T,hT⟩:∃ T,((N:Int)-(s:Int)-4)*(P:Int)=T:=⟨_,rfl⟩
      rw[hT] at hlo hhi ⊢
      have m5:IntKind.i64.wrap T=T:=bP (by omega) (by omega)
      have m6:wrap64 T=T:=IntWalk.wrap64_in _ ⟨by omega,by omega⟩
      clear hG h1 hNe
      by_cases h5:T<lb
      .rw[if_pos h5]
       go_enter Al.func32,Tryz.ntmps32
       go_wp2
       go_ret
       exact⟨rfl,HB.out _⟩
      .rw[if_neg h5]
       go_enter Al.func32,Tryz.ntmps32
       go_wp2
       go_ret
       exact⟨rfl,HB.out _⟩
