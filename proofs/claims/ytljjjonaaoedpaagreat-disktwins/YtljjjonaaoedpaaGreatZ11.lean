/- Part of the proof. -/
import Derived.Test.YtljjjonaaoedpaaGreatZ10
import Derived.Deep.LoopGhost
set_option maxHeartbeats 6400000
set_option linter.unusedVariables false
namespace Go.Proofs.aB
open Tryz (prog)
open ay
open ak
open Go.RowKit aC aG ah
structure DS(g:Gm)(x:Sd)(k:Nat):Prop where
 dw:DW g x
 fit:Fit g.L g.P (g.D*g.B) g.spare
 nb:x.bad=bW (g.D*g.B) (bN x.s)
 ok:x.bad<=g.spare
 room:Room g.P (g.D*g.B) g.spare k x.k (bN x.s)
def lack(g:Gm)(x:Sd):Nat:=bM g.P (g.D*g.B) g.spare (bN x.s)-aM g.P (g.D*g.B) (bN x.s)
theorem EM.none{g:Gm}{x y:Sd}{v:Nat}(h:EM g x y v g.P):aV g.P y.k v=0:=wL g.P (λi hi=>h.gone i hi)
theorem EM.WM{g:Gm}{x z:Sd}{v:Nat}(h:EM g x z v g.P)(hv:v<g.D*g.B)(hc:iV z=0):DW g (eZ g z v)/\(∀ j,j<g.L->DW.see g (eZ g z v) j=DW.see g x j)/\bN (eZ g z v).s=fV (bN z.s) v/\(eZ g z v).bad=x.bad/\(eZ g z v).s.off=false/\(eZ g z v).k=z.k:=by
 have vR:x.cut=x.cut:=rfl
 have h1:z.cut≠1:=λe=>by unfold iV at hc;rw[if_pos e] at hc;omega
 have h2:z.fails=0:=Classical.byContradiction λe=>by unfold iV at hc;rw[if_neg h1,if_neg e] at hc;omega
 have e1:eZ g z v={ fF z with s:=Ri g z.s v,bad:=z.bad }:=by
  unfold eZ
  rw[hc,if_neg (by omega)]
  unfold lG
  rw[if_neg h1,if_pos h2]
 rw[e1]
 obtain⟨t1,t2⟩:=h.dw.dv.Y6 hv (λi hi=>h.gone i hi)
 exact⟨⟨t1,h.dw.y,h.dw.y1,h.dw.l⟩,λj hj=>(t2 j hj).trans (h.see j hj),rfl,h.nb,h.off,rfl⟩
theorem EM.failed{g:Gm}{x z:Sd}{v:Nat}(h:EM g x z v g.P)(hv:v<g.D*g.B)(hc:iV z=6):DW g (eZ g z v)/\(∀ j,j<g.L->DW.see g (eZ g z v) j=DW.see g x j)/\bN (eZ g z v).s=dU (bN z.s) v/\(eZ g z v).bad=x.bad+1/\(eZ g z v).s.off=false/\(eZ g z v).k=z.k:=by
 have h1:z.cut≠1:=λe=>by unfold iV at hc;rw[if_pos e] at hc;omega
 have h2:z.fails≠0:=λe=>by unfold iV at hc;rw[if_neg h1,if_pos e] at hc;omega
 have e1:eZ g z v={ fF z with s:=Rj z.s v,bad:=z.bad+1 }:=by
  unfold eZ
  rw[hc,if_pos rfl]
  unfold lG
  rw[if_neg h1,if_neg h2]
 rw[e1]
 exact⟨⟨h.dw.dv.fail,h.dw.y,h.dw.y1,h.dw.l⟩,h.see,rfl,by show z.bad+1=x.bad+1;rw[h.nb],h.off,rfl⟩
theorem EM.Sz{g:Gm}{x z:Sd}{v:Nat}(h:EM g x z v g.P)(hv:v<g.D*g.B)(hc:iV z=7):DW g (eZ g z v)/\(∀ j,j<g.L->DW.see g (eZ g z v) j=DW.see g x j)/\(∀ b,(bN (eZ g z v).s).next b=(bN z.s).next b)/\(bN (eZ g z v).s).bad=(bN z.s).bad/\(eZ g z v).bad=x.bad/\(eZ g z v).s.off=true/\(eZ g z v).k=z.k/\(eZ g z v).cut=0/\1<=x.cut:=by
 have h1:z.cut=1:=Classical.byContradiction λe=>by
  unfold iV at hc
  rw[if_neg e] at hc
  by_cases e2:z.fails=0
  ·rw[if_pos e2] at hc;omega
  ·rw[if_neg e2] at hc;omega
 have e1:eZ g z v={ fF z with s:=FH g z.s v,bad:=z.bad }:=by
  unfold eZ
  rw[hc,if_neg (by omega)]
  unfold lG
  rw[if_pos h1]
 rw[e1]
 have hnx:∀ b,(bN (FH g z.s v)).next b=(bN z.s).next b:=λb=>by
  show upd z.s.next v g.P b=z.s.next b
  by_cases e:b=v
  ·rw[e,upd_same];exact h.full.2.symm
  ·rw[upd_ne _ _ _ _ e]
 obtain⟨t1,t2⟩:=h.dw.dv.Y7 (c':=bN (FH g z.s v)) hv h.full hnx (λb=>rfl) (λi hi=>h.gone i hi)
 refine⟨⟨t1,h.dw.y,h.dw.y1,h.dw.l⟩,λj hj=>(t2 j hj).trans (h.see j hj),hnx,rfl,h.nb,rfl,rfl,?_,?_⟩
 ·show z.cut-1=0
  omega
 ·have:=h.cut;omega
theorem oO{N:Nat}{c c':gN}(h:c'.bad=c.bad):bW N c'=bW N c:=by unfold bW;rw[h]
theorem qA{P N spare:Nat}{c c':gN}(h:c'.bad=c.bad):bM P N spare c'=bM P N spare c:=by unfold bM;rw[oO h]
theorem DS.grant{g:Gm}{x:Sd}{k:Nat}(h:DS g x k)(hk:k<=2*g.P)(hs:aM g.P (g.D*g.B) (bN x.s)<bM g.P (g.D*g.B) g.spare (bN x.s)) :
 (∃ k,k<g.D*g.B/\Full g.P (bN x.s) k/\aV g.P x.k k<g.P)/\∀ v,v<g.D*g.B->Full g.P (bN x.s) v->aV g.P x.k v<g.P->(∀ u,u<g.D*g.B->Full g.P (bN x.s) u->aV g.P x.k u<g.P->aV g.P x.k v<=aV g.P x.k u)->aV g.P x.k v<=aM g.P (g.D*g.B) (bN x.s):=by
 refine⟨?_,λv h1 h2 h3 h4=>?_⟩
 ·rcases h.room with e|⟨v,h1,h2,h3,_⟩
  ·omega
  ·exact⟨v,h1,h2,h3⟩
 ·have:=tO (L:=g.L) h.room hs ⟨h1,h2,h3⟩ h4
  have:=rY (P:=g.P) (N:=g.D*g.B) (spare:=g.spare) (c:=bN x.s)
  omega
structure DT(g:Gm)(x:Sd)(k:Nat):Prop where
 ds:DS g x k
 off:x.s.off=true
structure DL(g:Gm)(x:Sd):Prop where
 dw:DW g x
 nb:x.bad=bW (g.D*g.B) (bN x.s)
 no:g.spare<x.bad
theorem EO.step{g:Gm}{x y:Sd}{k c:Nat}(h:DS g x k)(hs:aM g.P (g.D*g.B) (bN x.s)<bM g.P (g.D*g.B) g.spare (bN x.s))(he:EO g x y c) :
 (∀ j,j<g.L->DW.see g y j=DW.see g x j)/\((c=0/\DS g y k/\y.s.off=false/\lack g y<lack g x)\/(c=7/\DT g y (k+1)/\y.cut=0/\1<=x.cut)\/(c=9/\DL g y/\y.s.off=false)):=by
 obtain⟨v,⟨v1,v2,v3,v4⟩,he⟩:=he
 have hr:=tO (L:=g.L) h.room hs ⟨v1,v2,v3⟩ v4
 rcases he with ⟨rfl,ht⟩|⟨z,hz,rfl,rfl⟩
 ·refine⟨ht.see,Or.inr (Or.inl ⟨rfl,⟨⟨ht.dw,h.fit,?_,by rw[ht.nb];exact h.ok,?_⟩,ht.off⟩,ht.cut,ht.one⟩)⟩
  ·rw[ht.nb,h.nb];exact(oO (c:=bN x.s) (c':=bN y.s) ht.bad).symm
  ·have hl:=ht.cnt
   refine Or.inr ⟨v,v1,ht.full,?_,?_⟩
   ·have:=ht.WI;omega
   ·rw[qA (c:=bN x.s) (c':=bN y.s) ht.bad]
    have:=ou g.P y.k v
    omega
 ·have hl:=hz.cnt
  rw[hz.none] at hl
  have hnz:bM g.P (g.D*g.B) g.spare (bN z.s)=bM g.P (g.D*g.B) g.spare (bN x.s):=qA hz.bad
  have hbz:bW (g.D*g.B) (bN z.s)=bW (g.D*g.B) (bN x.s):=oO hz.bad
  have hoz:bW (g.D*g.B) (bN z.s)<=g.spare:=by rw[hbz,<-h.nb];exact h.ok
  have hroom:bM g.P (g.D*g.B) g.spare (bN z.s)<=aM g.P (g.D*g.B) (bN z.s)+g.P+k:=by omega
  have hcc:iV z=7\/iV z=0\/iV z=6:=by
   unfold iV
   by_cases e:z.cut=1
   ·rw[if_pos e];omega
   ·rw[if_neg e]
    by_cases e2:z.fails=0
    ·rw[if_pos e2];omega
    ·rw[if_neg e2];omega
  rcases hcc with hc|hc|hc
  ·obtain⟨t1,t2,t3,t4,t5,t6,t7,t8,t9⟩:=hz.Sz v1 hc
   refine⟨t2,Or.inr (Or.inl ⟨by unfold qy;rw[hc];rfl,⟨⟨t1,h.fit,?_,by rw[t5];exact h.ok,?_⟩,t6⟩,t8,t9⟩)⟩
   ·rw[t5,h.nb,oO t4,hbz]
   ·have hb:aM g.P (g.D*g.B) (bN (eZ g z v).s)=aM g.P (g.D*g.B) (bN z.s):=by
     unfold aM bZ
     congr 1
     funext i
     rw[t3,t4]
    refine Or.inr ⟨v,v1,⟨by rw[t4];exact hz.full.1,by rw[t3];exact hz.full.2⟩,?_,?_⟩
    ·rw[t7,hz.none];exact h.fit.p1
    ·rw[t7,hz.none,qA t4,hb];omega
  ·obtain⟨t1,t2,t3,t4,t5,t6⟩:=hz.WM v1 hc
   have hw:=tJ v1 hz.full
   refine⟨t2,Or.inl ⟨by unfold qy;rw[hc];rfl,⟨t1,h.fit,?_,by rw[t4];exact h.ok,?_⟩,t5,?_⟩⟩
   ·rw[t4,h.nb,t3];exact hbz.symm
   ·rw[t3,t6]
    have hn:=t1.dv.nx
    have ho:=t1.dv.one
    rw[t3] at hn ho
    have hi:=t1.dv.inv
    rw[t6] at hi
    exact Dc h.fit hi ho hn hoz ⟨v1,hz.full⟩ hroom
   ·unfold lack
    rw[t3]
    have e2:bM g.P (g.D*g.B) g.spare (fV (bN z.s) v)=bM g.P (g.D*g.B) g.spare (bN z.s):=rfl
    omega
  ·obtain⟨t1,t2,t3,t4,t5,t6⟩:=hz.failed v1 hc
   have hw:=tK v1 hz.full
   have hb:=Aj (N:=g.D*g.B) v1 hz.full.1
   have hnb:(eZ g z v).bad=bW (g.D*g.B) (bN (eZ g z v).s):=by rw[t4,t3,hb,hbz,<-h.nb]
   by_cases ZB:g.spare<z.bad+1
   ·refine⟨t2,Or.inr (Or.inr ⟨by unfold qy;rw[hc,if_pos rfl,if_pos ZB],⟨t1,hnb,by rw[t4,<-hz.nb];exact ZB⟩,t5⟩)⟩
   ·have hok:(eZ g z v).bad<=g.spare:=by rw[t4,<-hz.nb];omega
    refine⟨t2,Or.inl ⟨by unfold qy;rw[hc,if_pos rfl,if_neg ZB],⟨t1,h.fit,hnb,hok,?_⟩,t5,?_⟩⟩
    ·rw[t3,t6]
     have hn:=t1.dv.nx
     have ho:=t1.dv.one
     rw[t3] at hn ho hnb
     have hi:=t1.dv.inv
     rw[t6] at hi
     exact Ak h.fit hi ho hn (by rw[<-hnb];exact hok) ⟨v1,hz.full⟩ hroom
    ·unfold lack
     rw[t3]
     have e2:bM g.P (g.D*g.B) g.spare (bN z.s)=bM g.P (g.D*g.B) g.spare (dU (bN z.s) v)+g.P:=by
      rw[t3] at hnb
      unfold bM
      rw[hb,<-Nat.succ_mul]
      congr 1
      omega
     have:=rY (P:=g.P) (N:=g.D*g.B) (spare:=g.spare) (c:=dU (bN z.s) v)
     omega
structure Bd(x:Sd)(n:Nat):Prop where
 cut:x.cut<4611686018427387904
 fails:x.fails<4611686018427387904
 seq:x.seq+16*n+16<4611686018427387904
 aD:∀ k,x.s.aD k+n<4611686018427387904
structure Mo(x y:Sd)(n:Nat):Prop where
 cut:y.cut<=x.cut
 fails:y.fails<=x.fails
 seq:y.seq<=x.seq+16*n
 aD:∀ k,y.s.aD k<=x.s.aD k+n
 ch:y.ch=x.ch
 bf:y.bad+y.fails=x.bad+x.fails
 bm:x.bad<=y.bad
theorem Mo.refl(x:Sd):Mo x x 0:=⟨Nat.le_refl _,Nat.le_refl _,Nat.le_refl _,λ_=>Nat.le_refl _,rfl,rfl,Nat.le_refl _⟩
theorem Mo.trans{x y z:Sd}{n m:Nat}(h:Mo x y n)(h2:Mo y z m):Mo x z (n+m) :=
 ⟨Nat.le_trans h2.cut h.cut,Nat.le_trans h2.fails h.fails,by have:=h.seq;have:=h2.seq;omega,λk=>by have:=h.aD k;have:=h2.aD k;omega,h2.ch.trans h.ch,h2.bf.trans h.bf,Nat.le_trans h.bm h2.bm⟩
theorem Mo.more{x y:Sd}{n m:Nat}(h:Mo x y n)(hm:n<=m):Mo x y m :=
 ⟨h.cut,h.fails,by have:=h.seq;omega,λk=>by have:=h.aD k;omega,h.ch,h.bf,h.bm⟩
theorem EO.mo{g:Gm}{x y:Sd}{c:Nat}(hP:g.P<=16)(he:EO g x y c):Mo x y 1:=by
 obtain⟨v,_,he⟩:=he
 rcases he with ⟨rfl,ht⟩|⟨z,hz,rfl,rfl⟩
 ·exact⟨by rw[ht.cut];omega,by rw[ht.fails];exact Nat.le_refl _,by have:=ht.seq;omega,ht.aD,ht.ch,by rw[ht.nb,ht.fails],by rw[ht.nb];exact Nat.le_refl _⟩
 ·have hbf:(if iV z=6 then z.bad+1 else z.bad)+(if z.cut=1 then z.fails else z.fails-1)=x.bad+x.fails/\x.bad<=(if iV z=6 then z.bad+1 else z.bad):=by
   rw[<-hz.nb,<-hz.fails]
   unfold iV
   by_cases h1:z.cut=1
   ·rw[if_pos h1,if_neg (by decide),if_pos h1];omega
   ·rw[if_neg h1,if_neg h1]
    by_cases h2:z.fails=0
    ·rw[if_pos h2,if_neg (by decide)];omega
    ·rw[if_neg h2,if_pos rfl];omega
  refine⟨?_,?_,?_,λk=>?_,hz.ch,hbf.1,hbf.2⟩
  ·show z.cut-1<=x.cut
   have:=hz.cut;omega
  ·show (if z.cut=1 then z.fails else z.fails-1)<=x.fails
   rw[hz.fails]
   split<;>omega
  ·show z.seq<=x.seq+16*1
   have:=hz.seq;omega
  ·show (lG g z v).aD k<=x.s.aD k+1
   rw[<-hz.aD]
   have hu:upd z.s.aD v (z.s.aD v+1) k<=z.s.aD k+1:=by
    by_cases e:k=v
    ·rw[e,upd_same];exact Nat.le_refl _
    ·rw[upd_ne _ _ _ _ e];omega
   unfold lG
   by_cases e:z.cut=1
   ·rw[if_pos e];exact hu
   ·rw[if_neg e]
    by_cases e2:z.fails=0
    ·rw[if_pos e2];exact hu
    ·rw[if_neg e2];exact Nat.le_succ _
def MkQ(g:Gm)(x y:Sd)(k c:Nat):Prop:=(∀ j,j<g.L->DW.see g y j=DW.see g x j)/\((c=0/\DS g y k/\y.s.off=false/\bM g.P (g.D*g.B) g.spare (bN y.s)<=aM g.P (g.D*g.B) (bN y.s))\/(c=7/\DT g y (k+1)/\y.cut=0/\1<=x.cut)\/(c=9/\DL g y/\y.s.off=false))
def Vx(e:Ending)(g:Gm)(w w':World)(a:Ad)(x:Sd)(k n:Nat):Prop:=∃ (y:Sd) (c:Nat),e=.returned (bT c)/\DK g w' a y/\Keep (OD g a) w w'/\Mo x y n/\MkQ g x y k c
structure MW(g:Gm)(w wq:World)(a:Ad)(x y:Sd)(k n f:Nat):Prop where
 dk:DK g wq a y
 kp:Keep (OD g a) w wq
 mo:Mo x y (n-f)
 le:f<=n
 lk:lack g y<=f
 ds:DS g y k
 off:y.s.off=false
 see:∀ j,j<g.L->DW.see g y j=DW.see g x j
theorem Ea{g:Gm}{y:Sd}(h:DS g y 0\/∃ k,DS g y k):decide (aM g.P (g.D*g.B) (bN y.s)<(g.spare-y.bad+3)*g.P)=decide (aM g.P (g.D*g.B) (bN y.s)<bM g.P (g.D*g.B) g.spare (bN y.s)):=by
 have hb:y.bad=bW (g.D*g.B) (bN y.s):=by
  rcases h with h|⟨_,h⟩
  ·exact h.nb
  ·exact h.nb
 unfold bM
 rw[<-hb]
end Go.Proofs.aB
namespace Go.Proofs.aB
open Tryz (prog)
open ah
open ay
open ak
open Go.RowKit aC aG ah
theorem MW.grant{g:Gm}{w wq:World}{a:Ad}{x y:Sd}{k n f:Nat}(h:MW g w wq a x y k n f)(hk:k<=2*g.P)(hb:Bd x n)(hf:1<=f)(hN:g.D*g.B<=64)(hsp:g.spare<=64)(hs:aM g.P (g.D*g.B) (bN y.s)<bM g.P (g.D*g.B) g.spare (bN y.s)):EP g y:=by
 obtain⟨h1,h2⟩:=h.ds.grant hk hs
 have hle:=h.le
 refine⟨h.ds.dw,h.off,?_,?_,?_,?_,λj=>?_,h1,h2⟩
 ·have:=h.mo.cut;have:=hb.cut;omega
 ·have:=h.mo.fails;have:=hb.fails;omega
 ·have:=h.ds.ok;omega
 ·have:=h.mo.seq;have:=hb.seq;omega
 ·have:=h.mo.aD j;have:=hb.aD j;omega
set_option maxRecDepth 100000 in
theorem qY{g:Gm}{w:World}{a:Ad}{x:Sd}(HI:yZ)(Oa:nT)(Ob:nU)(Oc:j6)(h:DK g w a x)(k n:Nat)(hd:DS g x k)(ho:x.s.off=false)(hk:k<=2*g.P)(hb:Bd x n)(hl:lack g x<=n)(hsp:g.spare<=64) :
 Calls (Al.PB prog false) 22 #[.pointer (some ⟨a.db,0,none⟩)] w λe w'=>Vx e g w w' a x k n:=by
 have H0:Hid (MW g w w a x x k n n):=⟨h,Keep.refl _ _,by rw[Nat.sub_self];exact Mo.refl x,Nat.le_refl _,hl,hd,ho,λ_ _=>rfl⟩
 have HB:Hid (k<=2*g.P/\Bd x n/\Geo g.D g.B g.P g.Y):=⟨hk,hb,h.h_⟩
 clear h hd ho hk hb hl
 go_enter Al.func22,Tryz.ntmps22
 go_wp2
 go_loopg [2] n (λf v wq=>v=.nilIface/\Hid (∃ y,MW g w wq a x y k n f))
 case atStart=>exact⟨rfl,_,H0.out⟩
 case round =>
  obtain⟨rfl,hR⟩:=hrel
  obtain⟨y,hy⟩:=hR.out
  have HY:Hid (MW g w wr a x y k n gk):=hy
  clear H0 hR hy
  have hN:=Gm.KC HB.out.2.2
  obtain⟨m,hm⟩:∃ m,g.D*g.B=m:=⟨_,rfl⟩
  have HX:=qw HY.out.dk.dc m hm HY.out.off
  go_wp2_with fail
  refine HX.mono ?_
  rintro e w1 ⟨rb,rfl,hbr,hb1,-⟩
  have H1:Hid (DK g w1 a y/\Keep (OD g a) w w1/\BR w1 rb m (bN y.s).bad (bN y.s).next y.s.aD):=⟨HY.out.dk.below hb1,HY.out.kp.trans (Keep.of_below hb1),hbr⟩
  clear HX hbr hb1
  have SA:m<=64:=by rw[<-hm];exact hN.1
  have HS:=Bz H1.out.1 rb m m (bN y.s) y.s.aD H1.out.2.2 SA HY.out.ds.dw.dv.nx hsp HY.out.ds.ok
  have hsh:=Ea (Or.inr ⟨k,HY.out.ds⟩)
  rw[hm] at hsh
  rw[hsh] at HS
  clear hsh
  by_cases hs:aM g.P m (bN y.s)<bM g.P m g.spare (bN y.s)
  ·rw[decide_eq_true hs] at HS
   have hs2:aM g.P (g.D*g.B) (bN y.s)<bM g.P (g.D*g.B) g.spare (bN y.s):=by rw[hm];exact hs
   have hlk:1<=lack g y:=by unfold lack;omega
   have WJ:1<=gk:=Nat.le_trans hlk HY.out.lk
   have hEP:=HY.out.grant HB.out.1 HB.out.2.1 WJ hN.1 hsp hs2
   go_wp2_with fail
   refine HS.mono ?_
   rintro e w2 ⟨rfl,hb2⟩
   have HE:Calls (Al.PB prog false) 34 #[.pointer (some ⟨a.db,0,none⟩),.slice (some ⟨rb,0,none⟩) m m] w2 λe w'=>(e=.returned .nilIface/\∃ z,MW g w w' a x z k n (gk-1))\/∃ c,c≠0/\e=.returned (bT c)/\Vx (.returned (bT c)) g w w' a x k n:=by
    refine(BH HI Oa Ob Oc (H1.out.1.below hb2) hEP rb m hm (H1.out.2.2.below hb2)).mono λe w' hq=>?_
    obtain⟨z,c,q1,q2,q3,q4⟩:=hq
    have hmo:=(HY.out.mo.trans (q4.mo HB.out.2.2.p1)).more (m:=n-(gk-1)) (by have:=HY.out.le;omega)
    obtain⟨t1,t2⟩:=q4.step HY.out.ds hs2
    have hkp:Keep (OD g a) w w':=(H1.out.2.1.trans (Keep.of_below hb2)).trans q3
    have hle:=HY.out.le
    have ng:∀ j,j<g.L->DW.see g z j=DW.see g x j:=λj hj=>(t1 j hj).trans (HY.out.see j hj)
    rcases t2 with ⟨rfl,u1,u2,u3⟩|⟨rfl,u1,u2,u3⟩|⟨rfl,u1,u2⟩
    ·exact Or.inl ⟨q1,z,q2,hkp,hmo,by omega,by have:=HY.out.lk;omega,u1,u2,ng⟩
    ·exact Or.inr ⟨7,by omega,q1,z,7,rfl,q2,hkp,hmo.more (by omega),ng,Or.inr (Or.inl ⟨rfl,u1,u2,Nat.le_trans u3 HY.out.mo.cut⟩)⟩
    ·exact Or.inr ⟨9,by omega,q1,z,9,rfl,q2,hkp,hmo.more (by omega),ng,Or.inr (Or.inr ⟨rfl,u1,u2⟩)⟩
   clear HS hb2 hEP hlk hs2 H1 HY
   go_wp2_with fail
   refine HE.mono ?_
   rintro e w3 (⟨rfl,z,hz⟩|⟨c,hc,rfl,hz⟩)
   ·have HZ:Hid (MW g w w3 a x z k n (gk-1)):=hz
    clear HE hz
    go_wp2
    go_roundg (gk-1)
    case measure=>omega
    case rel=>exact⟨rfl,z,HZ.out⟩
   ·have HZ:Hid (Vx (.returned (bT c)) g w w3 a x k n):=hz
    clear HE hz
    rw[dS hc] at HZ ⊢
    go_wp2
    go_ret
    exact HZ.out
  ·rw[decide_eq_false hs] at HS
   go_wp2_with fail
   refine HS.mono ?_
   rintro e w2 ⟨rfl,hb2⟩
   have HZ:Hid (Vx (.returned .nilIface) g w w2 a x k n):=⟨y,0,rfl,H1.out.1.below hb2,H1.out.2.1.trans (Keep.of_below hb2),HY.out.mo.more (by omega),HY.out.see,Or.inl ⟨rfl,HY.out.ds,HY.out.off,by rw[hm];omega⟩⟩
   clear HS hb2 H1 HY
   go_wp2
   go_ret
   exact HZ.out
theorem DS.put{g:Gm}{y:Sd}{k b l:Nat}{page:List Nat}(h:DS g y k)(hn:bM g.P (g.D*g.B) g.spare (bN y.s)<=aM g.P (g.D*g.B) (bN y.s))(hb:rP g.P (g.D*g.B) (bN y.s) b)(hw:DW g (jP g y b l page)):DS g (jP g y b l page) 0:=by
 have e1:bN (jP g y b l page).s=dI (bN y.s) b:=by unfold jP;split<;>rfl
 have e2:(jP g y b l page).bad=y.bad:=by unfold jP;split<;>rfl
 refine⟨hw,h.fit,by rw[e2,h.nb,e1];exact tF.symm,by rw[e2];exact h.ok,?_⟩
 have h1:=hw.dv.one
 have h2:=hw.dv.nx
 rw[e1] at h1 h2 ⊢
 exact tL (s:=y.k) h.fit hw.dv.inv h1 h2 (by rw[<-h.nb];exact h.ok) ⟨hb.1,hb.2.1,hb.2.2.1⟩ hn
structure New(g:Gm)(kd l:Nat)(data:List Nat):Prop where
 k:kd=1\/kd=2
 d1:kd=1->data.length+21=g.Y
 d2:kd=2->data=[]
 all:aW data
 l:l<g.L
def newV(g:Gm)(kd:Nat)(data:List Nat):List Nat:=if kd=1 then data else List.replicate (g.Y-21) 0
theorem New.fok{g:Gm}{kd l seq:Nat}{data:List Nat}(h:New g kd l data)(hw:g.L<=256)(hy:24<=g.Y)(hy1:g.Y<=256)(hs:seq<4611686018427387904):zP g.Y kd l seq data.length:=by
 have:=h.l
 refine⟨hy,by omega,?_,?_,by omega,by omega,?_⟩
 ·rcases h.k with e|e<;>omega
 ·rcases h.k with e|e<;>omega
 ·rcases h.k with e|e
  ·have:=h.d1 e;omega
  ·rw[h.d2 e];simp;omega
structure Rk(x y:Sd)(n:Nat):Prop where
 cut:y.cut<=x.cut
 fails:y.fails<=x.fails
 seq:y.seq<=x.seq+16*n+1
 aD:∀ k,y.s.aD k<=x.s.aD k+n
 bf:y.bad+y.fails=x.bad+x.fails
 bm:x.bad<=y.bad
def ChQ(g:Gm)(x y:Sd)(k l:Nat)(v:List Nat)(c:Nat):Prop:=(c=0/\DS g y 0/\y.s.off=false/\y.ch=true/\∀ j,j<g.L->DW.see g y j=if j=l then v else DW.see g x j)\/(c≠0/\y.ch=x.ch/\(∀ j,j<g.L->DW.see g y j=DW.see g x j)/\((c=7/\DT g y (k+1)/\y.cut=0/\1<=x.cut)\/(c=9/\DL g y/\y.s.off=false)))
def IB(e:Ending)(g:Gm)(w w':World)(a:Ad)(x:Sd)(k n l:Nat)(v:List Nat):Prop:=∃ (y:Sd) (c:Nat),e=.returned (bT c)/\DK g w' a y/\Keep (OD g a) w w'/\Rk x y n/\ChQ g x y k l v c
theorem Mo.one{x y:Sd}{n:Nat}(h:Mo x y n):Rk x y n:=⟨h.cut,h.fails,by have:=h.seq;omega,h.aD,h.bf,h.bm⟩
set_option maxRecDepth 100000 in
theorem xg{g:Gm}{w:World}{a:Ad}{x:Sd}(HI:yZ)(Oa:nT)(Ob:nU)(Oc:j6)(h:DK g w a x)(k n:Nat)(hd:DS g x k)(ho:x.s.off=false)(hk:k<=2*g.P)(hb:Bd x n)(hl:lack g x<=n)(hsp:g.spare<=64)
 (kd l:Nat) (data:List Nat) (hnw:New g kd l data) (fa:Option Addr) (cap:Nat) (hL:bS w fa data) (hfa:∀ b off,fa=some ⟨b,off,none⟩->¬OD g a b) :
 Calls (Al.PB prog false) 19 #[.pointer (some ⟨a.db,0,none⟩),.int .i64 (kd:Nat),.int .i64 (l:Nat),.slice fa data.length cap] w λe w'=>IB e g w w' a x k n l (newV g kd data):=by
 have y7:=gG h
 rw[decide_eq_false (by have:=hd.ok;omega)] at y7
 have HM:Hid (∀ W,Below w.heap.size w W->Calls (Al.PB prog false) 22 #[.pointer (some ⟨a.db,0,none⟩)] W λe w'=>Vx e g W w' a x k n):=λW hW=>qY HI Oa Ob Oc (h.below hW) k n hd ho hk hb hl hsp
 have Nn:Hid (∀ W y,DK g W a y->Keep (OD g a) w W->Mo x y n->DS g y k->y.s.off=false->bM g.P (g.D*g.B) g.spare (bN y.s)<=aM g.P (g.D*g.B) (bN y.s)->(∀ j,j<g.L->DW.see g y j=DW.see g x j)->Calls (Al.PB prog false) 31 #[.pointer (some ⟨a.db,0,none⟩),.int .i64 (kd:Nat),.int .i64 (l:Nat),.slice fa data.length cap] W λe w'=>(∃ z,e=.returned .nilIface/\DK g w' a z/\Keep (OD g a) w w'/\Rk x z n/\DS g z 0/\z.s.off=false/\∀ j,j<g.L->DW.see g z j=if j=l then newV g kd data else DW.see g x j)\/(e=.returned (.iface 58 (.int .i64 7))/\IB (.returned (.iface 58 (.int .i64 7))) g w w' a x k n l (newV g kd data))):=λW y q1 q2 q3 q4 q5 q6 q7=>by
  have rT:y.seq<4611686018427387904:=by have:=q3.seq;have:=hb.seq;omega
  have hF:=hnw.fok (seq:=y.seq) q4.dw.l q4.dw.y q4.dw.y1 rT
  have hex:∃ k,k<g.D*g.B/\y.s.bad k=false/\y.s.next k≠g.P:=by
   have:=rY (P:=g.P) (N:=g.D*g.B) (spare:=g.spare) (c:=bN y.s)
   have:=q4.fit.p1
   obtain⟨k,k1,k2,k3⟩:=yh (P:=g.P) (N:=g.D*g.B) (c:=bN y.s) (by omega)
   exact⟨k,k1,k2,Nat.ne_of_lt k3⟩
  refine(KH q1 q5 (by have:=q3.cut;have:=hb.cut;omega) rT q4.dw.dv.nx hex q4.dw.free kd l hnw.l fa cap data hF hnw.all (hL.keep q2 hfa)).mono λe w' hq=>?_
  obtain⟨b,p1,p2⟩:=hq
  obtain⟨t1,t2⟩:=q4.dw.put p1.nx hF hnw.k hnw.d1 hnw.d2 hnw.all hnw.l
  have hds:=q4.put q6 p1.nx t1
  have hkp:=q2.trans p1.kp
  by_cases vR:y.cut=1
  ·have ep:je y=.iface 58 (.int .i64 7):=if_pos vR
   rw[ep] at p2
   have e1:jP g y b l (aP g.Y kd l y.seq data)=w_ g y b (aP g.Y kd l y.seq data):=if_pos vR
   have hdk:=p1.dk
   rw[e1] at t2 hds hdk
   refine Or.inr ⟨p2,_,7,rfl,hdk,hkp,⟨?_,q3.fails,?_,q3.aD,q3.bf,q3.bm⟩,Or.inr ⟨by omega,q3.ch,λj hj=>by rw[t2 j hj,if_pos vR];exact q7 j hj,Or.inl ⟨rfl,⟨⟨hds.dw,hds.fit,hds.nb,hds.ok,hds.room.more (by omega)⟩,rfl⟩,?_,?_⟩⟩⟩
   ·show y.cut-1<=x.cut
    have:=q3.cut;omega
   ·show y.seq<=_
    have:=q3.seq;omega
   ·show y.cut-1=0
    omega
   ·have:=q3.cut;omega
  ·have ep:je y=.nilIface:=if_neg vR
   rw[ep] at p2
   have e1:jP g y b l (aP g.Y kd l y.seq data)=KG g y b l (aP g.Y kd l y.seq data):=if_neg vR
   have hdk:=p1.dk
   rw[e1] at t2 hds hdk
   refine Or.inl ⟨_,p2,hdk,hkp,⟨?_,q3.fails,?_,q3.aD,q3.bf,q3.bm⟩,hds,q5,λj hj=>?_⟩
   ·show y.cut-1<=x.cut
    have:=q3.cut;omega
   ·show y.seq+1<=_
    have:=q3.seq;omega
   ·rw[t2 j hj,if_neg vR]
    by_cases ej:j=l
    ·rw[if_pos ej,if_pos ej];rfl
    ·rw[if_neg ej,if_neg ej];exact q7 j hj
 have KM:Hid (∀ W,Below w.heap.size w W->Keep (OD g a) w W):=λW hW=>Keep.of_below hW
 clear h hd ho hk hb hl hsp hnw hL hfa HI Oa Ob Oc
 generalize newV g kd data=nv at *
 generalize data.length=dl at *
 go_enter Al.func19,Tryz.ntmps19
 go_wp2_with fail
 refine y7.mono ?_
 rintro e w1 ⟨rfl,hb1⟩
 have HX:=HM.out w1 hb1
 have Oe:Hid (Keep (OD g a) w w1):=KM.out w1 hb1
 clear y7 HM hb1 KM
 go_wp2_with fail
 refine HX.mono ?_
 rintro e w2 ⟨y,c,rfl,q1,q2,q3,q4,q5⟩
 clear HX
 rcases q5 with ⟨rfl,u1,u2,u3⟩|hbad
 ·have HQ:=Nn.out w2 y q1 (Oe.out.trans q2) q3 u1 u2 u3 q4
  clear Nn q1 q2 q3 q4 u1 u2 u3 Oe
  rw[bO]
  go_wp2_with fail
  refine HQ.mono ?_
  rintro e w3 (⟨z,rfl,z1,z2,z3,z4,z5,z6⟩|⟨rfl,hz⟩)
  ·have c5:w3.cell? ⟨a.db,5,none⟩=some (.bool z.ch):=z1.st.cell 5
   have f5:=z1.st.free 5
   have HZ:Hid (IB (.returned .nilIface) g w (w3.setCell ⟨a.db,5,none⟩ (.bool true)) a x k n l nv):=⟨{ z with ch:=true },0,rfl,z1.cell { z with ch:=true } 5 _ rfl rfl rfl,z2.trans (((Keep.refl (λb=>b=a.db) _).set1 _ _).mono λb e=>Or.inl e),⟨z3.cut,z3.fails,z3.seq,z3.aD,z3.bf,z3.bm⟩,Or.inl ⟨rfl,⟨⟨z4.dw.dv,z4.dw.y,z4.dw.y1,z4.dw.l⟩,z4.fit,z4.nb,z4.ok,z4.room⟩,z5,rfl,z6⟩⟩
   clear HQ z1 z2 z3 z4 z5 z6
   go_wp2
   go_ret
   exact HZ.out
  ·have HZ:Hid (IB (.returned (.iface 58 (.int .i64 7))) g w w3 a x k n l nv):=hz
   clear HQ hz
   go_wp2
   go_ret
   exact HZ.out
 ·have hc:c≠0:=by rcases hbad with ⟨rfl,_⟩|⟨rfl,_⟩<;>omega
  have HZ:Hid (IB (.returned (bT c)) g w w2 a x k n l nv):=⟨y,c,rfl,q1,Oe.out.trans q2,q3.one,Or.inr ⟨hc,q3.ch,q4,hbad⟩⟩
  clear Nn q1 q2 q3 q4 hbad Oe
  rw[dS hc] at HZ ⊢
  go_wp2
  go_ret
  exact HZ.out
theorem xk{g:Gm}{w:World}{a:Ad}{x:Sd}(h:DK g w a x)(hb:g.spare<x.bad)(kd l:Int)(fa:Option Addr)(n cap:Nat) :
 Calls (Al.PB prog false) 19 #[.pointer (some ⟨a.db,0,none⟩),.int .i64 kd,.int .i64 l,.slice fa n cap] w λe w'=>e=.returned (bT 9)/\Below w.heap.size w w':=by
 have y7:=gG h
 rw[decide_eq_true hb] at y7
 clear h hb
 go_enter Al.func19,Tryz.ntmps19
 go_wp2_with fail
 refine y7.mono ?_
 rintro e w1 ⟨rfl,hb1⟩
 have HB:Hid (Below w.heap.size w w1):=hb1
 clear y7 hb1
 go_wp2
 go_ret
 exact⟨rfl,HB.out⟩
def SC(g:Gm)(x:Sd)(l:Int)(n:Nat):Nat:=if findF g.L x.s.off l≠0 then findF g.L x.s.off l else if n≠g.Y-21 then 2 else if g.spare<x.bad then 9 else 0
theorem KN{g:Gm}{w:World}{a:Ad}{x:Sd}(h:DK g w a x)(hy:21<=g.Y)(l:Int)(fa:Option Addr)(n cap:Nat)(hn:n<4611686018427387904)(hne:SC g x l n≠0) :
 Calls (Al.PB prog false) 9 #[.pointer (some ⟨a.db,0,none⟩),.int .i64 l,.slice fa n cap] w λe w'=>e=.returned (bT (SC g x l n))/\Below w.heap.size w w':=by
 have HF:=jr h l
 have HZ:=oN h hy
 have hy1:=h.h_.y1
 unfold SC at hne ⊢
 by_cases h1:findF g.L x.s.off l≠0
 ·rw[if_pos h1] at hne ⊢
  generalize findF g.L x.s.off l=c at *
  rw[dS h1] at HF ⊢
  clear h
  go_enter Al.func9,Tryz.ntmps9
  go_wp2_with fail
  refine HF.mono ?_
  rintro e w1 ⟨rfl,rfl⟩
  clear HF HZ
  go_wp2
  go_ret
  exact⟨rfl,Below.refl _ _⟩
 ·have h0:findF g.L x.s.off l=0:=Classical.not_not.1 h1
  rw[if_neg h1] at hne ⊢
  rw[h0,bO] at HF
  by_cases h2:n≠g.Y-21
  ·rw[if_pos h2] at hne ⊢
   have e1:((n:Int)==((g.Y-21:Nat):Int))=false:=by rw[beq_eq_false_iff_ne];omega
   clear h h1 h0
   generalize g.Y-21=sz at *
   go_enter Al.func9,Tryz.ntmps9
   go_wp2_with fail
   refine HF.mono ?_
   rintro e w1 ⟨rfl,rfl⟩
   clear HF
   go_wp2_with fail
   refine HZ.mono ?_
   rintro e w2 ⟨rfl,rfl⟩
   clear HZ
   go_wp2
   go_ret
   exact⟨rfl,Below.refl _ _⟩
  ·rw[if_neg h2] at hne ⊢
   obtain rfl:n=g.Y-21:=Classical.not_not.1 h2
   by_cases h3:g.spare<x.bad
   ·rw[if_pos h3]
    have HC:=xk h h3 1 l fa (g.Y-21) cap
    clear h h1 h0 h2 h3 hne
    generalize g.Y-21=sz at *
    go_enter Al.func9,Tryz.ntmps9
    go_wp2_with fail
    refine HF.mono ?_
    rintro e w1 ⟨rfl,rfl⟩
    clear HF
    go_wp2_with fail
    refine HZ.mono ?_
    rintro e w2 ⟨rfl,rfl⟩
    clear HZ
    go_wp2_with fail
    refine HC.mono ?_
    rintro e w3 ⟨rfl,hb⟩
    have HB:Hid (Below w2.heap.size w2 w3):=hb
    clear HC hb
    go_wp2
    go_ret
    exact⟨rfl,HB.out⟩
   ·rw[if_neg h3] at hne
    exact absurd rfl hne
theorem IB.ret{e:Ending}{g:Gm}{w w':World}{a:Ad}{x:Sd}{k n l:Nat}{v:List Nat}(h:IB e g w w' a x k n l v):∃ u,e=.returned u:=by
 obtain⟨_,_,h,_⟩:=h
 exact⟨_,h⟩
theorem IC{g:Gm}{w:World}{a:Ad}{x:Sd}{k n l len:Nat}{v:List Nat}(h:DK g w a x)(hy:21<=g.Y)(fa:Option Addr)(cap:Nat)(hy0:SC g x (l:Int) len=0)
 (HC:Calls (Al.PB prog false) 19 #[.pointer (some ⟨a.db,0,none⟩),.int .i64 ((1:Nat):Int),.int .i64 (l:Nat),.slice fa len cap] w λe w'=>IB e g w w' a x k n l v) :
 Calls (Al.PB prog false) 9 #[.pointer (some ⟨a.db,0,none⟩),.int .i64 (l:Nat),.slice fa len cap] w λe w'=>IB e g w w' a x k n l v:=by
 have HF:=jr h (l:Int)
 have HZ:=oN h hy
 unfold SC at hy0
 have h0:findF g.L x.s.off (l:Int)=0:=Classical.byContradiction λe=>by rw[if_pos e] at hy0;exact e hy0
 rw[if_neg (λe=>e h0)] at hy0
 have h2:len=g.Y-21:=Classical.byContradiction λe=>by rw[if_pos e] at hy0;omega
 rw[h0,bO] at HF
 subst h2
 clear h hy0 h0
 generalize g.Y-21=sz at *
 go_enter Al.func9,Tryz.ntmps9
 go_wp2_with fail
 refine HF.mono ?_
 rintro e w1 ⟨rfl,rfl⟩
 clear HF
 go_wp2_with fail
 refine HZ.mono ?_
 rintro e w2 ⟨rfl,rfl⟩
 clear HZ
 go_wp2_with fail
 refine HC.mono ?_
 rintro e w3 hm
 obtain⟨u,rfl⟩:=hm.ret
 have HM:Hid (IB (.returned u) g w2 w3 a x k n l v):=hm
 clear hm HC
 go_wp2
 go_ret
 exact HM.out
def SE(g:Gm)(x:Sd)(l:Int):Nat:=if findF g.L x.s.off l≠0 then findF g.L x.s.off l else if g.spare<x.bad then 9 else 0
theorem Og{g:Gm}{w:World}{a:Ad}{x:Sd}(h:DK g w a x)(l:Int)(hne:SE g x l≠0) :
 Calls (Al.PB prog false) 10 #[.pointer (some ⟨a.db,0,none⟩),.int .i64 l] w λe w'=>e=.returned (bT (SE g x l))/\Below w.heap.size w w':=by
 have HF:=jr h l
 unfold SE at hne ⊢
 by_cases h1:findF g.L x.s.off l≠0
 ·rw[if_pos h1] at hne ⊢
  generalize findF g.L x.s.off l=c at *
  rw[dS h1] at HF ⊢
  clear h
  go_enter Al.func10,Tryz.ntmps10
  go_wp2_with fail
  refine HF.mono ?_
  rintro e w1 ⟨rfl,rfl⟩
  clear HF
  go_wp2
  go_ret
  exact⟨rfl,Below.refl _ _⟩
 ·have h0:findF g.L x.s.off l=0:=Classical.not_not.1 h1
  rw[if_neg h1] at hne ⊢
  rw[h0,bO] at HF
  by_cases h3:g.spare<x.bad
  ·rw[if_pos h3]
   have HC:=xk h h3 2 l none 0 0
   clear h h1 h0 h3 hne
   go_enter Al.func10,Tryz.ntmps10
   go_wp2_with fail
   refine HF.mono ?_
   rintro e w1 ⟨rfl,rfl⟩
   clear HF
   go_wp2_with fail
   refine HC.mono ?_
   rintro e w3 ⟨rfl,hb⟩
   have HB:Hid (Below w1.heap.size w1 w3):=hb
   clear HC hb
   go_wp2
   go_ret
   exact⟨rfl,HB.out⟩
  ·rw[if_neg h3] at hne
   exact absurd rfl hne
theorem KO{g:Gm}{w:World}{a:Ad}{x:Sd}{k n l:Nat}{v:List Nat}(h:DK g w a x)(hy0:SE g x (l:Int)=0)
 (HC:Calls (Al.PB prog false) 19 #[.pointer (some ⟨a.db,0,none⟩),.int .i64 ((2:Nat):Int),.int .i64 (l:Nat),.slice none 0 0] w λe w'=>IB e g w w' a x k n l v) :
 Calls (Al.PB prog false) 10 #[.pointer (some ⟨a.db,0,none⟩),.int .i64 (l:Nat)] w λe w'=>IB e g w w' a x k n l v:=by
 have HF:=jr h (l:Int)
 unfold SE at hy0
 have h0:findF g.L x.s.off (l:Int)=0:=Classical.byContradiction λe=>by rw[if_pos e] at hy0;exact e hy0
 rw[h0,bO] at HF
 clear h hy0 h0
 go_enter Al.func10,Tryz.ntmps10
 go_wp2_with fail
 refine HF.mono ?_
 rintro e w1 ⟨rfl,rfl⟩
 clear HF
 go_wp2_with fail
 refine HC.mono ?_
 rintro e w3 hm
 obtain⟨u,rfl⟩:=hm.ret
 have HM:Hid (IB (.returned u) g w1 w3 a x k n l v):=hm
 clear hm HC
 go_wp2
 go_ret
 exact HM.out
theorem DW.note{g:Gm}{x:Sd}(h:DW g x){b sq:Nat}(hx:rP g.P (g.D*g.B) (bN x.s) b)(hF:zP g.Y 3 0 sq 0):DW g (ig g x b (aP g.Y 3 0 sq []))/\∀ j,j<g.L->DW.see g (ig g x b (aP g.Y 3 0 sq [])) j=DW.see g x j:=by
 have hA:aW []:=λx hx=>by cases hx
 unfold ig
 by_cases hc:x.cut=1
 ·rw[if_pos hc]
  obtain⟨t1,t2⟩:=h.dv.VU hx (page:=aP g.Y 3 0 sq []) (fJ _ _ _ _ _ hF.d1) (by have:=h.y;omega) (iQ _ _ _ _ _ (by omega) hA)
  exact⟨⟨t1,h.y,h.y1,h.l⟩,t2⟩
 ·rw[if_neg hc]
  obtain⟨t1,t2⟩:=h.dv.note (cZ:=0) (sq:=sq) (data:=[]) hx hF hA
  exact⟨⟨t1,h.y,h.y1,h.l⟩,t2⟩
theorem DS.note{g:Gm}{y:Sd}{k b:Nat}{page:List Nat}(h:DS g y k)(hn:bM g.P (g.D*g.B) g.spare (bN y.s)<=aM g.P (g.D*g.B) (bN y.s))(hb:rP g.P (g.D*g.B) (bN y.s) b)(hw:DW g (ig g y b page)):DS g (ig g y b page) 0:=by
 have e1:bN (ig g y b page).s=dI (bN y.s) b:=by unfold ig;split<;>rfl
 have e2:(ig g y b page).bad=y.bad:=by unfold ig;split<;>rfl
 refine⟨hw,h.fit,by rw[e2,h.nb,e1];exact tF.symm,by rw[e2];exact h.ok,?_⟩
 have h1:=hw.dv.one
 have h2:=hw.dv.nx
 rw[e1] at h1 h2 ⊢
 exact tL (s:=y.k) h.fit hw.dv.inv h1 h2 (by rw[<-h.nb];exact h.ok) ⟨hb.1,hb.2.1,hb.2.2.1⟩ hn
def WO(g:Gm)(x:Sd):Nat:=if x.s.off=true then 7 else if g.spare<x.bad then 9 else 0
theorem KP{g:Gm}{w:World}{a:Ad}{x:Sd}(h:DK g w a x)(hne:WO g x≠0\/x.ch=false) :
 Calls (Al.PB prog false) 11 #[.pointer (some ⟨a.db,0,none⟩)] w λe w'=>e=.returned (bT (WO g x))/\Below w.heap.size w w':=by
 have c6:w.cell? ⟨a.db,6,none⟩=some (.pointer (some ⟨a.cb,0,none⟩)):=h.st.cell 6
 have HO:=yN w h.hc
 have y7:=gG h
 have HD:Hid (∀ W,Below w.heap.size w W->W.cell? ⟨a.db,5,none⟩=some (.bool x.ch)):=λW hW=>(h.below hW).st.cell 5
 unfold WO at hne ⊢
 clear h
 generalize x.s.off=of at *
 cases of with
 |true =>
  rw[if_pos rfl]
  go_enter Al.func11,Tryz.ntmps11
  go_wp2_with fail
  refine HO.mono ?_
  rintro e w1 ⟨rfl,rfl⟩
  clear HO y7
  go_wp2
  go_ret
  exact⟨rfl,Below.refl _ _⟩
 |false =>
  rw[if_neg (by simp)] at hne ⊢
  by_cases h3:g.spare<x.bad
  ·rw[if_pos h3]
   rw[decide_eq_true h3] at y7
   go_enter Al.func11,Tryz.ntmps11
   go_wp2_with fail
   refine HO.mono ?_
   rintro e w1 ⟨rfl,rfl⟩
   clear HO
   go_wp2_with fail
   refine y7.mono ?_
   rintro e w2 ⟨rfl,hb⟩
   have HB:Hid (Below w1.heap.size w1 w2):=hb
   clear y7 hb
   go_wp2
   go_ret
   exact⟨rfl,HB.out⟩
  ·rw[if_neg h3] at hne ⊢
   have hch:x.ch=false:=by
    rcases hne with e|e
    ·exact absurd rfl e
    ·exact e
   rw[decide_eq_false h3] at y7
   rw[hch] at HD
   go_enter Al.func11,Tryz.ntmps11
   go_wp2_with fail
   refine HO.mono ?_
   rintro e w1 ⟨rfl,rfl⟩
   clear HO
   go_wp2_with fail
   refine y7.mono ?_
   rintro e w2 ⟨rfl,hb⟩
   have c5:=HD.out w2 hb
   have HB:Hid (Below w1.heap.size w1 w2):=hb
   clear y7 hb HD
   go_wp2
   go_ret
   exact⟨rfl,HB.out⟩
def FlQ(g:Gm)(x y:Sd)(k c:Nat):Prop:=(∀ j,j<g.L->DW.see g y j=DW.see g x j)/\((c=0/\DS g y 0/\y.s.off=false/\y.ch=false)\/(c≠0/\y.ch=x.ch/\((c=7/\DT g y (k+1)/\y.cut=0/\1<=x.cut)\/(c=9/\DL g y/\y.s.off=false))))
def WQ(e:Ending)(g:Gm)(w w':World)(a:Ad)(x:Sd)(k n:Nat):Prop:=∃ (y:Sd) (c:Nat),e=.returned (bT c)/\DK g w' a y/\Keep (OD g a) w w'/\Rk x y n/\FlQ g x y k c
set_option maxRecDepth 100000 in
theorem KQ{g:Gm}{w:World}{a:Ad}{x:Sd}(HI:yZ)(Oa:nT)(Ob:nU)(Oc:j6)(h:DK g w a x)(k n:Nat)(hd:DS g x k)(ho:x.s.off=false)(hk:k<=2*g.P)(hb:Bd x n)(hl:lack g x<=n)(hsp:g.spare<=64)(hch:x.ch=true) :
 Calls (Al.PB prog false) 11 #[.pointer (some ⟨a.db,0,none⟩)] w λe w'=>WQ e g w w' a x k n:=by
 have c6:w.cell? ⟨a.db,6,none⟩=some (.pointer (some ⟨a.cb,0,none⟩)):=h.st.cell 6
 have HO:=yN w h.hc
 rw[ho] at HO
 have y7:=gG h
 rw[decide_eq_false (by have:=hd.ok;omega)] at y7
 have HD:Hid (∀ W,Below w.heap.size w W->W.cell? ⟨a.db,5,none⟩=some (.bool true)/\Keep (OD g a) w W):=λW hW=>⟨by rw[<-hch];exact(h.below hW).st.cell 5,Keep.of_below hW⟩
 have HM:Hid (∀ W,Below w.heap.size w W->Calls (Al.PB prog false) 22 #[.pointer (some ⟨a.db,0,none⟩)] W λe w'=>Vx e g W w' a x k n):=λW hW=>qY HI Oa Ob Oc (h.below hW) k n hd ho hk hb hl hsp
 have Nn:Hid (∀ W y,DK g W a y->Keep (OD g a) w W->Mo x y n->DS g y k->y.s.off=false->bM g.P (g.D*g.B) g.spare (bN y.s)<=aM g.P (g.D*g.B) (bN y.s)->(∀ j,j<g.L->DW.see g y j=DW.see g x j)->Calls (Al.PB prog false) 23 #[.pointer (some ⟨a.db,0,none⟩),FV 3 0 y.seq none 0 0] W λe w'=>(∃ (z:Sd) (p:Nat),e=.returned (.tuple #[.int .i64 (p:Nat),.nilIface])/\DK g w' a z/\Keep (OD g a) w w'/\Rk x z n/\DS g z 0/\z.s.off=false/\∀ j,j<g.L->DW.see g z j=DW.see g x j)\/(e=.returned (.tuple #[.int .i64 0,.iface 58 (.int .i64 7)])/\WQ (.returned (.iface 58 (.int .i64 7))) g w w' a x k n)):=λW y q1 q2 q3 q4 q5 q6 q7=>by
  have rT:y.seq<4611686018427387904:=by have:=q3.seq;have:=hb.seq;omega
  have hy:=q4.dw.y
  have hy1:=q4.dw.y1
  have hF:zP g.Y 3 0 y.seq 0:=⟨hy,by omega,by omega,by omega,by omega,by omega,by omega⟩
  have hex:∃ k,k<g.D*g.B/\y.s.bad k=false/\y.s.next k≠g.P:=by
   have:=rY (P:=g.P) (N:=g.D*g.B) (spare:=g.spare) (c:=bN y.s)
   have:=q4.fit.p1
   obtain⟨k,k1,k2,k3⟩:=yh (P:=g.P) (N:=g.D*g.B) (c:=bN y.s) (by omega)
   exact⟨k,k1,k2,Nat.ne_of_lt k3⟩
  refine(uN q1 q5 (by have:=q3.cut;have:=hb.cut;omega) q4.dw.dv.nx hex 3 0 y.seq none 0 [] hF (λx hx=>by cases hx) (Or.inl rfl)).mono λe w' hq=>?_
  obtain⟨b,p1,p2⟩:=hq
  obtain⟨t1,t2⟩:=q4.dw.note p1.nx hF
  have hds:=q4.note q6 p1.nx t1
  have hkp:=q2.trans p1.kp
  have ng:∀ j,j<g.L->DW.see g (ig g y b (aP g.Y 3 0 y.seq [])) j=DW.see g x j:=λj hj=>(t2 j hj).trans (q7 j hj)
  have hdk:=p1.dk
  by_cases vR:y.cut=1
  ·have ep:je y=.iface 58 (.int .i64 7):=if_pos vR
   rw[ep,if_pos vR] at p2
   have e1:ig g y b (aP g.Y 3 0 y.seq [])=w_ g y b (aP g.Y 3 0 y.seq []):=if_pos vR
   rw[e1] at ng hds hdk
   refine Or.inr ⟨p2,_,7,rfl,hdk,hkp,⟨?_,q3.fails,?_,q3.aD,q3.bf,q3.bm⟩,ng,Or.inr ⟨by omega,q3.ch,Or.inl ⟨rfl,⟨⟨hds.dw,hds.fit,hds.nb,hds.ok,hds.room.more (by omega)⟩,rfl⟩,?_,?_⟩⟩⟩
   ·show y.cut-1<=x.cut
    have:=q3.cut;omega
   ·show y.seq<=_
    have:=q3.seq;omega
   ·show y.cut-1=0
    omega
   ·have:=q3.cut;omega
  ·have ep:je y=.nilIface:=if_neg vR
   rw[ep,if_neg vR] at p2
   have e1:ig g y b (aP g.Y 3 0 y.seq [])=vP g y b (aP g.Y 3 0 y.seq []):=if_neg vR
   rw[e1] at ng hds hdk
   refine Or.inl ⟨_,_,p2,hdk,hkp,⟨?_,q3.fails,?_,q3.aD,q3.bf,q3.bm⟩,hds,q5,ng⟩
   ·show y.cut-1<=x.cut
    have:=q3.cut;omega
   ·show y.seq<=_
    have:=q3.seq;omega
 clear h hd ho hk hb hl hsp hch HI Oa Ob Oc
 go_enter Al.func11,Tryz.ntmps11
 go_wp2_with fail
 refine HO.mono ?_
 rintro e w0 ⟨rfl,rfl⟩
 clear HO
 go_wp2_with fail
 refine y7.mono ?_
 rintro e w1 ⟨rfl,hb1⟩
 have c5:=(HD.out w1 hb1).1
 have Oe:Hid (Keep (OD g a) w0 w1):=(HD.out w1 hb1).2
 have HX:=HM.out w1 hb1
 clear y7 hb1 HD HM c6
 go_wp2_with fail
 refine HX.mono ?_
 rintro e w2 ⟨y,c,rfl,q1,q2,q3,q4,q5⟩
 clear HX c5
 rcases q5 with ⟨rfl,u1,u2,u3⟩|hbad
 ·have c3:w2.cell? ⟨a.db,3,none⟩=some (.int .i64 (y.seq:Nat)):=q1.st.cell 3
  have HQ:=Nn.out w2 y q1 (Oe.out.trans q2) q3 u1 u2 u3 q4
  clear Nn q1 q2 q3 q4 u1 u2 u3 Oe
  rw[bO]
  generalize y.seq=sq at *
  go_wp2_with fail
  refine HQ.mono ?_
  rintro e w3 (⟨z,p,rfl,z1,z2,z3,z4,z5,z6⟩|⟨rfl,hz⟩)
  ·have c5:w3.cell? ⟨a.db,5,none⟩=some (.bool z.ch):=z1.st.cell 5
   have f5:=z1.st.free 5
   have HZ:Hid (WQ (.returned .nilIface) g w0 (w3.setCell ⟨a.db,5,none⟩ (.bool false)) a x k n):=⟨{ z with ch:=false },0,rfl,z1.cell { z with ch:=false } 5 _ rfl rfl rfl,z2.trans (((Keep.refl (λb=>b=a.db) _).set1 _ _).mono λb e=>Or.inl e),⟨z3.cut,z3.fails,z3.seq,z3.aD,z3.bf,z3.bm⟩,z6,Or.inl ⟨rfl,⟨⟨z4.dw.dv,z4.dw.y,z4.dw.y1,z4.dw.l⟩,z4.fit,z4.nb,z4.ok,z4.room⟩,z5,rfl⟩⟩
   clear HQ z1 z2 z3 z4 z5 z6
   go_wp2
   go_ret
   exact HZ.out
  ·have HZ:Hid (WQ (.returned (.iface 58 (.int .i64 7))) g w0 w3 a x k n):=hz
   clear HQ hz
   go_wp2
   go_ret
   exact HZ.out
 ·have hc:c≠0:=by rcases hbad with ⟨rfl,_⟩|⟨rfl,_⟩<;>omega
  have HZ:Hid (WQ (.returned (bT c)) g w0 w2 a x k n):=⟨y,c,rfl,q1,Oe.out.trans q2,q3.one,q4,Or.inr ⟨hc,q3.ch,hbad⟩⟩
  clear Nn q1 q2 q3 q4 hbad Oe
  rw[dS hc] at HZ ⊢
  go_wp2
  go_ret
  exact HZ.out
theorem KR(w:World)(g dLen dCap:Nat)(sa:Option Addr)(sCap:Nat)(l xs:List Nat)(hg:Row w g l)(hn:xs.length<=dLen)(hL:bS w sa xs)(hfit:xs.length<=l.length) :
 ∃ v w',Sem.run (Al.PB prog false) (Builtin.copy_ #[34,34] 3 #[.slice (some ⟨g,0,none⟩) dLen dCap,.slice sa xs.length sCap]) w=.ok v w'/\Row w' g (splice l 0 xs)/\Keep (λb=>b=g) w w':=by
 have hsz:((Al.PB prog false).info? 5).map (·.size)=some 1:=by kernel_rfl
 rcases hL with rfl|⟨sb,so,rfl,hsrc⟩
 ·exact⟨_,w,run_copy_none (P:=(Al.PB prog false)) w 34 34 3 5 (some ⟨g,0,none⟩) sa dLen dCap 0 sCap Al.underlying34 hsz (Nat.min_eq_left (Nat.zero_le _)),by rw[kQ];exact hg,Keep.refl _ _⟩
 ·have hrun:=run_copy_row (P:=(Al.PB prog false)) w 34 34 3 5 g 0 dLen dCap ⟨sb,so,none⟩ xs.length sCap (l.map bv).toArray 5 (xs.map bv) Al.underlying34 hsz hg (by rw[List.length_map];exact(Nat.min_eq_left hn).symm)
   (λj v hj=>by
    have hl:j<xs.length:=by
     have:=(List.getElem?_eq_some_iff.1 hj).1
     simpa using this
    have e:=hsrc j hl
    rw[List.getElem?_map,List.getElem?_eq_getElem hl] at hj
    rw[List.getElem?_eq_getElem hl] at e
    simp only[Option.map_some,Option.some.injEq] at hj
    subst hj
    have hadd:(⟨sb,so,none⟩:Addr).add j=⟨sb,so+j,none⟩:=by unfold Addr.add;split<;>simp_all
    rw[hadd,e]
    rfl) (by simpa using hfit) (λu hu=>by obtain⟨x,_,rfl⟩:=List.mem_map.1 hu;rfl)
  refine⟨_,_,hrun,?_,Go.Proofs.ah.jK _ _ _⟩
  show _=_
  rw[setRow_heap w g _ _ 5 _ hg]
  simp[splice,List.map_append,List.map_drop]
def VN(e:Ending)(w w':World)(v:List Nat):Prop:=∃ gb,e=.returned (.tuple #[.slice (some ⟨gb,0,none⟩) v.length v.length,.nilIface])/\w.heap.size<=gb/\Row w' gb v/\Below w.heap.size w w'
theorem Oh{g:Gm}{w:World}{a:Ad}{x:Sd}(h:DK g w a x)(l:Int)(hne:findF g.L x.s.off l≠0) :
 Calls (Al.PB prog false) 12 #[.pointer (some ⟨a.db,0,none⟩),.int .i64 l] w λe w'=>e=.returned (.tuple #[.slice none 0 0,bT (findF g.L x.s.off l)])/\w'=w:=by
 have HF:=jr h l
 generalize findF g.L x.s.off l=c at *
 rw[dS hne] at HF ⊢
 clear h
 go_enter Al.func12,Tryz.ntmps12
 go_wp2_with fail
 refine HF.mono ?_
 rintro e w1 ⟨rfl,rfl⟩
 clear HF
 go_wp2
 go_ret2
 exact⟨rfl,rfl⟩
set_option maxRecDepth 100000 in
theorem KS{g:Gm}{w:World}{a:Ad}{x:Sd}(HI:yZ)(h:DK g w a x)(hw:DW g x)(hs:x.seq<4611686018427387904)(l:Nat)(hl:l<g.L)(ho:x.s.off=false) :
 Calls (Al.PB prog false) 12 #[.pointer (some ⟨a.db,0,none⟩),.int .i64 (l:Nat)] w λe w'=>VN e w w' (DW.see g x l):=by
 have HF:=jr h (l:Int)
 have h0:findF g.L x.s.off (l:Int)=0:=by unfold findF;rw[ho,if_neg (by simp),if_pos ⟨by omega,by omega⟩]
 rw[h0,bO] at HF
 have hy:=hw.y
 have hy1:=hw.y1
 have HZ:=oN h (by omega)
 have hmk:=Go.Proofs.ah.iP (zb:=false) (g.Y-21) (by omega)
 have hb0:Below w.heap.size w (w.alloc (.cells (Go.Proofs.ah.pJ (g.Y-21)) 5)):=aA _ _
 have c2:(w.alloc (.cells (Go.Proofs.ah.pJ (g.Y-21)) 5)).cell? ⟨a.db,2,none⟩=some (.pointer (some ⟨a.kb,0,none⟩)):=(h.below hb0).st.cell 2
 have HA:=Sb (h.below hb0).ho (l:Int)
 have hrow:Row (w.alloc (.cells (Go.Proofs.ah.pJ (g.Y-21)) 5)) w.heap.size (List.replicate (g.Y-21) 0):=heap_alloc_new w _
 rcases hw.dv.inv.a l hl with hno|⟨p,hp,hpa,hlb⟩
 ·rw[nQ hl hno] at HA
  have ng:DW.see g x l=List.replicate (g.Y-21) 0:=by
   show eP g.Y _ x.k.pa l=_
   unfold eP
   rw[if_pos hno]
  rw[ng]
  have CF:=HI 4 4 (by decide)
  have HR:Hid (Row (w.alloc (.cells (Go.Proofs.ah.pJ (g.Y-21)) 5)) w.heap.size (List.replicate (g.Y-21) 0)/\Below w.heap.size w (w.alloc (.cells (Go.Proofs.ah.pJ (g.Y-21)) 5))):=⟨hrow,hb0⟩
  clear h hw hno ng hrow hb0 h0
  generalize g.Y-21=sz at *
  go_enter Al.func12,Tryz.ntmps12
  go_wp2_with fail
  refine HF.mono ?_
  rintro e w1 ⟨rfl,rfl⟩
  clear HF
  go_wp2_with fail
  refine HZ.mono ?_
  rintro e w2 ⟨rfl,rfl⟩
  clear HZ
  go_wp2_with fail
  refine HA.mono ?_
  rintro e w3 ⟨rfl,rfl⟩
  clear HA
  go_wp2_with fail
  refine(CF _).mono ?_
  rintro e w4 ⟨rfl,hb⟩
  have HQ:Hid (VN (.returned (.tuple #[.slice (some ⟨w2.heap.size,0,none⟩) sz sz,.nilIface])) w2 w4 (List.replicate sz 0)):=⟨_,by rw[List.length_replicate],Nat.le_refl _,HR.out.1.below hb,HR.out.2.trans (hb.mono HR.out.2.size)⟩
  clear CF HR hb
  go_wp2
  go_ret2
  exact HQ.out
 ·rw[nR hl (by omega),hpa] at HA
  obtain⟨q1,hV,N_,Vv,hdl,hF,hkd,hd1,hd2,ng⟩:=hw.live hl hpa hs
  have hsp:splice (List.replicate (g.Y-21) 0) 0 (aR (gy g x p))=DW.see g x l/\(aR (gy g x p)).length<=g.Y-21/\(DW.see g x l).length=g.Y-21:=by
   rw[ng]
   rcases hkd with e|e
   ·have:=hd1 e
    rw[if_pos e]
    exact⟨uz (by rw[List.length_replicate];omega),by omega,by omega⟩
   ·rw[if_neg (by omega),hd2 e]
    exact⟨kQ _ _,by simp,by simp⟩
  have CF:=HI 0 4 (by decide)
  rw[bO] at CF HA
  have HR:Hid (Row (w.alloc (.cells (Go.Proofs.ah.pJ (g.Y-21)) 5)) w.heap.size (List.replicate (g.Y-21) 0)/\Below w.heap.size w (w.alloc (.cells (Go.Proofs.ah.pJ (g.Y-21)) 5))/\splice (List.replicate (g.Y-21) 0) 0 (aR (gy g x p))=DW.see g x l/\(aR (gy g x p)).length<=g.Y-21/\(aR (gy g x p)).length=aU (gy g x p)/\(DW.see g x l).length=g.Y-21):=⟨hrow,hb0,hsp.1,hsp.2.1,hdl,hsp.2.2⟩
  have Sq:Hid (∀ W,Below w.heap.size w W->Calls (Al.PB prog false) 26 #[.pointer (some ⟨a.db,0,none⟩),.int .i64 (p:Nat)] W λe w'=>Vu e W w' (gy g x p)):=λW hW=>uM (h.below hW) p hp ho N_ hV
  clear h hw hrow hb0 h0 q1 hV N_ Vv hdl hF hkd hd1 hd2 ng hsp hlb hpa hs
  unfold Vu at Sq
  generalize DW.see g x l=vv at *
  generalize gy g x p=pg at *
  generalize aN pg=KK at *
  generalize bL pg=LL at *
  generalize bq pg=SS at *
  generalize aU pg=DD at *
  generalize aR pg=DT at *
  generalize g.Y-21=sz at *
  go_enter Al.func12,Tryz.ntmps12
  go_wp2_with fail
  refine HF.mono ?_
  rintro e w1 ⟨rfl,rfl⟩
  clear HF
  go_wp2_with fail
  refine HZ.mono ?_
  rintro e w2 ⟨rfl,rfl⟩
  clear HZ
  go_wp2_with fail
  refine HA.mono ?_
  rintro e w3 ⟨rfl,rfl⟩
  clear HA
  go_wp2_with fail
  refine(CF _).mono ?_
  rintro e w4 ⟨rfl,hb⟩
  have Oj:Hid (Below w2.heap.size w2 w4/\Row w4 w2.heap.size (List.replicate sz 0)):=⟨HR.out.2.1.trans (hb.mono HR.out.2.1.size),HR.out.1.below hb⟩
  clear CF hb
  go_wp2_with fail
  refine(Sq.out _ Oj.out.1).mono ?_
  rintro e w5 ⟨fa,fc,rfl,hO,hb5⟩
  have WT:Hid (Below w2.heap.size w2 (w5.alloc (iR (KK:Nat) (LL:Nat) (SS:Nat) fa DD fc))/\bS (w5.alloc (iR (KK:Nat) (LL:Nat) (SS:Nat) fa DD fc)) fa DT/\Row (w5.alloc (iR (KK:Nat) (LL:Nat) (SS:Nat) fa DD fc)) w2.heap.size (List.replicate sz 0)):=⟨(Oj.out.1.trans (hb5.mono Oj.out.1.size)).alloc (Oj.out.1.trans (hb5.mono Oj.out.1.size)).size _,hO.lies.below (aA _ _),(Oj.out.2.below hb5).below (aA _ _)⟩
  clear Sq Oj hO hb5
  have hdd:=HR.out.2.2.2.2.1
  obtain⟨uu,w6,hrun,Rl,hk6⟩:=KR _ w2.heap.size sz sz fa fc _ DT WT.out.2.2 HR.out.2.2.2.1 WT.out.2.1 (by rw[List.length_replicate];exact HR.out.2.2.2.1)
  rw[hdd] at hrun
  have HQ:Hid (VN (.returned (.tuple #[.slice (some ⟨w2.heap.size,0,none⟩) sz sz,.nilIface])) w2 w6 vv):=⟨_,by rw[HR.out.2.2.2.2.2],Nat.le_refl _,by rw[<-HR.out.2.2.1];exact Rl,WT.out.1.trans (hk6.below WT.out.1.size (λb e=>by omega))⟩
  clear Rl hk6 WT HR hdd
  go_wp2
  go_ret2
  exact HQ.out
def lH(D B P Y:Nat)(lb sp:Int):Nat:=if Y<24 then 2 else if lb<1\/256<lb\/sp<0 then 1 else if (((D*B:Nat):Int)-min sp ((D*B:Nat):Int)-4)*(P:Int)<lb then 3 else 0
set_option maxRecDepth 100000 in
theorem mK(D B P Y:Nat)(lb sp:Int)(w:World)(hG:Geo D B P Y) :
 Calls (Al.PB prog false) 17 #[.agg #[.int .i64 (D:Nat),.int .i64 (B:Nat),.int .i64 (P:Nat),.int .i64 (Y:Nat)],.int .i64 lb,.int .i64 sp] w λe w'=>e=.returned (bT (lH D B P Y lb sp))/\Below w.heap.size w w':=by
 have hN:D*B<=64:=hG.n.2
 have hP:=hG.p1
 have HB:Hid (∀ o,Below w.heap.size w (w.alloc o)):=λo=>aA _ _
 unfold lH
 by_cases h1:Y<24
 ·rw[if_pos h1]
  have e1:(Y:Int)<24:=by omega
  clear hG
  go_enter Al.func17,Tryz.ntmps17
  go_wp2
  go_ret
  exact⟨rfl,HB.out _⟩
 ·rw[if_neg h1]
  have e1:¬((Y:Int)<24):=by omega
  by_cases h2:lb<1
  ·rw[if_pos (Or.inl h2)]
   clear hG h1
   go_enter Al.func17,Tryz.ntmps17
   go_wp2
   go_ret
   exact⟨rfl,HB.out _⟩
  ·by_cases h3:256<lb
   ·rw[if_pos (Or.inr (Or.inl h3))]
    clear hG h1
    go_enter Al.func17,Tryz.ntmps17
    go_wp2
    go_ret
    exact⟨rfl,HB.out _⟩
   ·by_cases h4:sp<0
    ·rw[if_pos (Or.inr (Or.inr h4))]
     clear hG h1
     go_enter Al.func17,Tryz.ntmps17
     go_wp2
     go_ret
     exact⟨rfl,HB.out _⟩
    ·rw[if_neg (by omega)]
     obtain⟨N,hNe⟩:∃ N,D*B=N:=⟨_,rfl⟩
     rw[hNe] at hN ⊢
     have m1:(D:Int)*(B:Int)=(N:Int):=by rw[<-hNe];simp
     have m2:IntKind.i64.wrap (N:Int)=(N:Int):=bP (by omega) (by omega)
     by_cases hc:(N:Int)<sp
     ·have WU:min sp (N:Int)=(N:Int):=by omega
      have hT:((N:Int)-(N:Int)-4)*(P:Int)=-4*(P:Int):=by rw[Int.sub_self];rfl
      rw[WU,hT,if_pos (by omega)]
      have m5:wrap64 (-4*(P:Int))=-4*(P:Int):=IntWalk.wrap64_in _ ⟨by omega,by omega⟩
      have m6:IntKind.i64.wrap (-4*(P:Int))=-4*(P:Int):=bP (by omega) (by omega)
      have m7:wrap64 (-(4*(P:Int)))=-(4*(P:Int)):=IntWalk.wrap64_in _ ⟨by omega,by omega⟩
      have m8:IntKind.i64.wrap (-(4*(P:Int)))=-(4*(P:Int)):=bP (by omega) (by omega)
      have h5:-4*(P:Int)<lb:=by omega
      have h6:-(4*(P:Int))<lb:=by omega
      clear hG h1 hNe hT
      go_enter Al.func17,Tryz.ntmps17
      go_wp2
      go_ret
      exact⟨rfl,HB.out _⟩
     ·obtain⟨s,rfl⟩:∃ s:Nat,sp=(s:Int):=⟨sp.toNat,by omega⟩
      have WU:min (s:Int) (N:Int)=(s:Int):=by omega
      rw[WU]
      have m3:IntKind.i64.wrap ((N:Int)-(s:Int))=(N:Int)-(s:Int):=bP (by omega) (by omega)
      have m4:IntKind.i64.wrap ((N:Int)-(s:Int)-4)=(N:Int)-(s:Int)-4:=bP (by omega) (by omega)
      have hlo:-64<=((N:Int)-(s:Int)-4)*(P:Int):=by
       have:(-4:Int)*(P:Int)<=((N:Int)-(s:Int)-4)*(P:Int):=Int.mul_le_mul_of_nonneg_right (by omega) (by omega)
       omega
      have hhi:((N:Int)-(s:Int)-4)*(P:Int)<=64*16:=by
       have:((N:Int)-(s:Int)-4)*(P:Int)<=64*(P:Int):=Int.mul_le_mul_of_nonneg_right (by omega) (by omega)
       omega
      obtain⟨T,hT⟩:∃ T,((N:Int)-(s:Int)-4)*(P:Int)=T:=⟨_,rfl⟩
      rw[hT] at hlo hhi ⊢
      have m5:IntKind.i64.wrap T=T:=bP (by omega) (by omega)
      have m6:wrap64 T=T:=IntWalk.wrap64_in _ ⟨by omega,by omega⟩
      clear hG h1 hNe
      by_cases h5:T<lb
      ·rw[if_pos h5]
       go_enter Al.func17,Tryz.ntmps17
       go_wp2
       go_ret
       exact⟨rfl,HB.out _⟩
      ·rw[if_neg h5]
       go_enter Al.func17,Tryz.ntmps17
       go_wp2
       go_ret
       exact⟨rfl,HB.out _⟩
