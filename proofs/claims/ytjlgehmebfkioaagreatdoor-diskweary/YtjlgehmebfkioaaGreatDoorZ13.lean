/- Part of the proof. -/
import Derived.Test.YtjlgehmebfkioaaGreatDoorZ12
import Derived.Deep.LoopGhost
set_option maxRecDepth 100000
open Go.Proofs.Tryz (prog)
open Go.Proofs.ah.Al (PB)
set_option maxHeartbeats 6400000
set_option linter.unusedVariables false
namespace Go.Proofs.aA
open ay aj Go.RowKit aB aD ah
variable {g:Gm} {z:Sd}
structure DS(g:Gm)(x:Sd)(k:Nat):Prop where
 dw:DW g x
 fit:Fit g.L g.P (g.D*g.B) g.spare
 nb:x.bad=bX (g.D*g.B) (bS x.s)
 ok:x.bad<=g.spare
 room:Room g.P (g.D*g.B) g.spare k x.k (bS x.s)
def lack(g:Gm)(x:Sd):Nat:=bU g.P (g.D*g.B) g.spare (bS x.s)-aN g.P (g.D*g.B) (bS x.s)
theorem EM.none{x y:Sd}{v:Nat}(h:EM g x y v g.P):aY g.P y.k v=0:=Ai g.P (λi hi=>h.gone i hi)
theorem EM.ab4{x:Sd}{v:Nat}(h:EM g x z v g.P)(hv:v<g.D*g.B)(hc:jA z=0):DW g (fU g z v)/\(∀ j,j<g.L->DW.see g (fU g z v) j=DW.see g x j)/\bS (fU g z v).s=g_ (bS z.s) v/\(fU g z v).bad=x.bad/\(fU g z v).s.off=false/\(fU g z v).k=z.k:=by
 have AO:x.cut=x.cut:=rfl
 have h1:z.cut≠1:=λe=>by unfold jA at hc;rw[if_pos e] at hc;omega
 have h2:z.fails=0:=Classical.byContradiction λe=>by unfold jA at hc;rw[if_neg h1,if_neg e] at hc;omega
 have e1:fU g z v={ gq z with s:=Wt g z.s v,bad:=z.bad }:=by
  unfold fU
  rw[hc,if_neg (by omega)]
  unfold ku
  rw[if_neg h1,if_pos h2]
 rw[e1]
 obtain⟨t1,t2⟩:=h.dw.dv.aep hv (λi hi=>h.gone i hi)
 exact⟨⟨t1,h.dw.y,h.dw.y1,h.dw.l⟩,λj hj=>(t2 j hj).trans (h.see j hj),rfl,h.nb,h.off,rfl⟩
theorem EM.failed{x:Sd}{v:Nat}(h:EM g x z v g.P)(hv:v<g.D*g.B)(hc:jA z=6):DW g (fU g z v)/\(∀ j,j<g.L->DW.see g (fU g z v) j=DW.see g x j)/\bS (fU g z v).s=fu (bS z.s) v/\(fU g z v).bad=x.bad+1/\(fU g z v).s.off=false/\(fU g z v).k=z.k:=by
 have h1:z.cut≠1:=λe=>by unfold jA at hc;rw[if_pos e] at hc;omega
 have h2:z.fails≠0:=λe=>by unfold jA at hc;rw[if_neg h1,if_pos e] at hc;omega
 have e1:fU g z v={ gq z with s:=Wu z.s v,bad:=z.bad+1 }:=by
  unfold fU
  rw[hc,if_pos rfl]
  unfold ku
  rw[if_neg h1,if_neg h2]
 rw[e1]
 exact⟨⟨h.dw.dv.fail,h.dw.y,h.dw.y1,h.dw.l⟩,h.see,rfl,by show z.bad+1=x.bad+1;rw[h.nb],h.off,rfl⟩
theorem EM.XQ{x:Sd}{v:Nat}(h:EM g x z v g.P)(hv:v<g.D*g.B)(hc:jA z=7):DW g (fU g z v)/\(∀ j,j<g.L->DW.see g (fU g z v) j=DW.see g x j)/\(∀ b,(bS (fU g z v).s).next b=(bS z.s).next b)/\(bS (fU g z v).s).bad=(bS z.s).bad/\(fU g z v).bad=x.bad/\(fU g z v).s.off=true/\(fU g z v).k=z.k/\(fU g z v).cut=0/\1<=x.cut:=by
 have h1:z.cut=1:=Classical.byContradiction λe=>by
  unfold jA at hc
  rw[if_neg e] at hc
  by_cases e2:z.fails=0
  .rw[if_pos e2] at hc;omega
  .rw[if_neg e2] at hc;omega
 have e1:fU g z v={ gq z with s:=JO g z.s v,bad:=z.bad }:=by
  unfold fU
  rw[hc,if_neg (by omega)]
  unfold ku
  rw[if_pos h1]
 rw[e1]
 have hnx:∀ b,(bS (JO g z.s v)).next b=(bS z.s).next b:=λb=>by
  show upd z.s.next v g.P b=z.s.next b
  by_cases e:b=v
  .rw[e,upd_same];exact h.full.2.symm
  .rw[upd_ne _ _ _ _ e]
 obtain⟨t1,t2⟩:=h.dw.dv.aer (c':=bS (JO g z.s v)) hv h.full hnx (λb=>rfl) (λi hi=>h.gone i hi)
 refine⟨⟨t1,h.dw.y,h.dw.y1,h.dw.l⟩,λj hj=>(t2 j hj).trans (h.see j hj),hnx,rfl,h.nb,rfl,rfl,?_,?_⟩
 .show z.cut-1=0
  omega
 .have:=h.cut;omega
theorem qX{N:Nat}{c c':n_}(h:c'.bad=c.bad):bX N c'=bX N c:=by unfold bX;rw[h]
theorem t_{P N spare:Nat}{c c':n_}(h:c'.bad=c.bad):bU P N spare c'=bU P N spare c:=by unfold bU;rw[qX h]
theorem DS.grant{g:Gm}{x:Sd}{k:Nat}(h:DS g x k)(hk:k<=2*g.P)(hs:aN g.P (g.D*g.B) (bS x.s)<bU g.P (g.D*g.B) g.spare (bS x.s)) :
 (∃ k,k<g.D*g.B/\Full g.P (bS x.s) k/\aY g.P x.k k<g.P)/\∀ v,v<g.D*g.B->Full g.P (bS x.s) v->aY g.P x.k v<g.P->(∀ u,u<g.D*g.B->Full g.P (bS x.s) u->aY g.P x.k u<g.P->aY g.P x.k v<=aY g.P x.k u)->aY g.P x.k v<=aN g.P (g.D*g.B) (bS x.s):=by
 refine⟨?_,λv h1 h2 h3 h4=>?_⟩
 .rcases h.room with e|⟨v,h1,h2,h3,_⟩
  .omega
  .exact⟨v,h1,h2,h3⟩
 .have:=wQ (L:=g.L) h.room hs ⟨h1,h2,h3⟩ h4
  have:=vI (P:=g.P) (N:=g.D*g.B) (spare:=g.spare) (c:=bS x.s)
  omega
structure DT(g:Gm)(x:Sd)(k:Nat):Prop where
 ds:DS g x k
 off:x.s.off=true
structure DL(g:Gm)(x:Sd):Prop where
 dw:DW g x
 nb:x.bad=bX (g.D*g.B) (bS x.s)
 no:g.spare<x.bad
theorem EO.step{g:Gm}{x y:Sd}{k c:Nat}(h:DS g x k)(hs:aN g.P (g.D*g.B) (bS x.s)<bU g.P (g.D*g.B) g.spare (bS x.s))(he:EO g x y c) :
 (∀ j,j<g.L->DW.see g y j=DW.see g x j)/\((c=0/\DS g y k/\y.s.off=false/\lack g y<lack g x)\/(c=7/\DT g y (k+1)/\y.cut=0/\1<=x.cut)\/(c=9/\DL g y/\y.s.off=false)):=by
 obtain⟨v,⟨v1,v2,v3,v4⟩,he⟩:=he
 have hr:=wQ (L:=g.L) h.room hs ⟨v1,v2,v3⟩ v4
 rcases he with ⟨rfl,ht⟩|⟨z,hz,rfl,rfl⟩
 .refine⟨ht.see,Or.inr (Or.inl ⟨rfl,⟨⟨ht.dw,h.fit,?_,by rw[ht.nb];exact h.ok,?_⟩,ht.off⟩,ht.cut,ht.one⟩)⟩
  .rw[ht.nb,h.nb];exact(qX (c:=bS x.s) (c':=bS y.s) ht.bad).symm
  .have hl:=ht.cnt
   refine Or.inr ⟨v,v1,ht.full,?_,?_⟩
   .have:=ht.liv;omega
   .rw[t_ (c:=bS x.s) (c':=bS y.s) ht.bad]
    have:=qI g.P y.k v
    omega
 .have hl:=hz.cnt
  rw[hz.none] at hl
  have hnz:bU g.P (g.D*g.B) g.spare (bS z.s)=bU g.P (g.D*g.B) g.spare (bS x.s):=t_ hz.bad
  have hbz:bX (g.D*g.B) (bS z.s)=bX (g.D*g.B) (bS x.s):=qX hz.bad
  have hoz:bX (g.D*g.B) (bS z.s)<=g.spare:=by rw[hbz,<-h.nb];exact h.ok
  have hroom:bU g.P (g.D*g.B) g.spare (bS z.s)<=aN g.P (g.D*g.B) (bS z.s)+g.P+k:=by omega
  have hcc:jA z=7\/jA z=0\/jA z=6:=by
   unfold jA
   by_cases e:z.cut=1
   .rw[if_pos e];omega
   .rw[if_neg e]
    by_cases e2:z.fails=0
    .rw[if_pos e2];omega
    .rw[if_neg e2];omega
  rcases hcc with hc|hc|hc
  .obtain⟨t1,t2,t3,t4,t5,t6,t7,t8,t9⟩:=hz.XQ v1 hc
   refine⟨t2,Or.inr (Or.inl ⟨by unfold tX;rw[hc];rfl,⟨⟨t1,h.fit,?_,by rw[t5];exact h.ok,?_⟩,t6⟩,t8,t9⟩)⟩
   .rw[t5,h.nb,qX t4,hbz]
   .have hb:aN g.P (g.D*g.B) (bS (fU g z v).s)=aN g.P (g.D*g.B) (bS z.s):=by
     unfold aN cZ
     congr 1
     funext i
     rw[t3,t4]
    refine Or.inr ⟨v,v1,⟨by rw[t4];exact hz.full.1,by rw[t3];exact hz.full.2⟩,?_,?_⟩
    .rw[t7,hz.none];exact h.fit.p1
    .rw[t7,hz.none,t_ t4,hb];omega
  .obtain⟨t1,t2,t3,t4,t5,t6⟩:=hz.ab4 v1 hc
   have hw:=wL v1 hz.full
   refine⟨t2,Or.inl ⟨by unfold tX;rw[hc];rfl,⟨t1,h.fit,?_,by rw[t4];exact h.ok,?_⟩,t5,?_⟩⟩
   .rw[t4,h.nb,t3];exact hbz.symm
   .rw[t3,t6]
    have hn:=t1.dv.nx
    have ho:=t1.dv.one
    rw[t3] at hn ho
    have hi:=t1.dv.inv
    rw[t6] at hi
    exact GZ h.fit hi ho hn hoz ⟨v1,hz.full⟩ hroom
   .unfold lack
    rw[t3]
    have e2:bU g.P (g.D*g.B) g.spare (g_ (bS z.s) v)=bU g.P (g.D*g.B) g.spare (bS z.s):=rfl
    omega
  .obtain⟨t1,t2,t3,t4,t5,t6⟩:=hz.failed v1 hc
   have hw:=wM v1 hz.full
   have hb:=Es (N:=g.D*g.B) v1 hz.full.1
   have hnb:(fU g z v).bad=bX (g.D*g.B) (bS (fU g z v).s):=by rw[t4,t3,hb,hbz,<-h.nb]
   by_cases hl9:g.spare<z.bad+1
   .refine⟨t2,Or.inr (Or.inr ⟨by unfold tX;rw[hc,if_pos rfl,if_pos hl9],⟨t1,hnb,by rw[t4,<-hz.nb];exact hl9⟩,t5⟩)⟩
   .have hok:(fU g z v).bad<=g.spare:=by rw[t4,<-hz.nb];omega
    refine⟨t2,Or.inl ⟨by unfold tX;rw[hc,if_pos rfl,if_neg hl9],⟨t1,h.fit,hnb,hok,?_⟩,t5,?_⟩⟩
    .rw[t3,t6]
     have hn:=t1.dv.nx
     have ho:=t1.dv.one
     rw[t3] at hn ho hnb
     have hi:=t1.dv.inv
     rw[t6] at hi
     exact Et h.fit hi ho hn (by rw[<-hnb];exact hok) ⟨v1,hz.full⟩ hroom
    .unfold lack
     rw[t3]
     have e2:bU g.P (g.D*g.B) g.spare (bS z.s)=bU g.P (g.D*g.B) g.spare (fu (bS z.s) v)+g.P:=by
      rw[t3] at hnb
      unfold bU
      rw[hb,<-Nat.succ_mul]
      congr 1
      omega
     have:=vI (P:=g.P) (N:=g.D*g.B) (spare:=g.spare) (c:=fu (bS z.s) v)
     omega
variable {y:Sd}
structure Bd(x:Sd)(n:Nat):Prop where
 cut:x.cut<9223372036854775808
 fails:x.fails<4611686018427387904
 seq:x.seq+16*n+16<4611686018427387904
 aF:∀ k,x.s.aF k+n<4611686018427387904
structure Mo(x y:Sd)(n:Nat):Prop where
 cut:y.cut<=x.cut
 fails:y.fails<=x.fails
 seq:y.seq<=x.seq+16*n
 aF:∀ k,y.s.aF k<=x.s.aF k+n
 ch:y.ch=x.ch
 bf:y.bad+y.fails=x.bad+x.fails
 bm:x.bad<=y.bad
 cz:y.s.off=false->x.s.off=false/\(x.cut=0\/1<=y.cut)
 nx:1<=y.fails->∀ k,x.s.next k<=y.s.next k
theorem Mo.refl(x:Sd):Mo x x 0:=⟨Nat.le_refl _,Nat.le_refl _,Nat.le_refl _,λ_=>Nat.le_refl _,rfl,rfl,Nat.le_refl _,λh=>⟨h,by omega⟩,λ_ _=>Nat.le_refl _⟩
theorem Mo.trans{x z:Sd}{n m:Nat}(h:Mo x y n)(h2:Mo y z m):Mo x z (n+m) :=
 ⟨Nat.le_trans h2.cut h.cut,Nat.le_trans h2.fails h.fails,by have:=h.seq;have:=h2.seq;omega,λk=>by have:=h.aF k;have:=h2.aF k;omega,h2.ch.trans h.ch,h2.bf.trans h.bf,Nat.le_trans h.bm h2.bm,λho=>by
  have h3:=h2.cz ho
  have h4:=h.cz h3.1
  exact⟨h4.1,by omega⟩,λhf k=>Nat.le_trans (h.nx (Nat.le_trans hf h2.fails) k) (h2.nx hf k)⟩
theorem Mo.more{x:Sd}{n m:Nat}(h:Mo x y n)(hm:n<=m):Mo x y m :=
 ⟨h.cut,h.fails,by have:=h.seq;omega,λk=>by have:=h.aF k;omega,h.ch,h.bf,h.bm,h.cz,h.nx⟩
theorem EO.mo{g:Gm}{x:Sd}{c:Nat}(hP:g.P<=16)(he:EO g x y c):Mo x y 1:=by
 obtain⟨v,_,he⟩:=he
 rcases he with ⟨rfl,ht⟩|⟨z,hz,rfl,rfl⟩
 .exact⟨by rw[ht.cut];omega,by rw[ht.fails];exact Nat.le_refl _,by have:=ht.seq;omega,ht.aF,ht.ch,by rw[ht.nb,ht.fails],by rw[ht.nb];exact Nat.le_refl _,λho=>Bool.noConfusion (show true=false from ht.off.symm.trans ho),λ_=>ht.nx⟩
 .have hbf:(if jA z=6 then z.bad+1 else z.bad)+(if z.cut=1 then z.fails else z.fails-1)=x.bad+x.fails/\x.bad<=(if jA z=6 then z.bad+1 else z.bad):=by
   rw[<-hz.nb,<-hz.fails]
   unfold jA
   by_cases h1:z.cut=1
   .rw[if_pos h1,if_neg (by decide),if_pos h1];omega
   .rw[if_neg h1,if_neg h1]
    by_cases h2:z.fails=0
    .rw[if_pos h2,if_neg (by decide)];omega
    .rw[if_neg h2,if_pos rfl];omega
  refine⟨?_,?_,?_,λk=>?_,hz.ch,hbf.1,hbf.2,λho=>⟨hz.cz.1,?_⟩,λhf k=>Nat.le_trans (hz.nx k) ?_⟩
  .show z.cut-1<=x.cut
   have:=hz.cut;omega
  .show (if z.cut=1 then z.fails else z.fails-1)<=x.fails
   rw[hz.fails]
   split<;>omega
  .show z.seq<=x.seq+16*1
   have:=hz.seq;omega
  .show (ku g z v).aF k<=x.s.aF k+1
   rw[<-hz.aF]
   have hu:upd z.s.aF v (z.s.aF v+1) k<=z.s.aF k+1:=by
    by_cases e:k=v
    .rw[e,upd_same];exact Nat.le_refl _
    .rw[upd_ne _ _ _ _ e];omega
   unfold ku
   by_cases e:z.cut=1
   .rw[if_pos e];exact hu
   .rw[if_neg e]
    by_cases e2:z.fails=0
    .rw[if_pos e2];exact hu
    .rw[if_neg e2];exact Nat.le_succ _
  .show x.cut=0\/1<=z.cut-1
   have hne:z.cut≠1:=λe=>by
    have:(ku g z v).off=false:=ho
    unfold ku at this
    rw[if_pos e] at this
    exact Bool.noConfusion (show true=false from this)
   have:=hz.cz.2;omega
  .show z.s.next k<=(ku g z v).next k
   have hf':1<=(if z.cut=1 then z.fails else z.fails-1):=hf
   unfold ku
   by_cases e:z.cut=1
   .rw[if_pos e]
    show z.s.next k<=upd z.s.next v g.P k
    by_cases e2:k=v
    .rw[e2,upd_same];exact Nat.le_of_eq hz.full.2
    .rw[upd_ne _ _ _ _ e2];exact Nat.le_refl _
   .rw[if_neg e] at hf' ⊢
    rw[if_neg (by omega)]
    exact Nat.le_refl _
def MkQ(g:Gm)(x y:Sd)(k c:Nat):Prop:=(∀ j,j<g.L->DW.see g y j=DW.see g x j)/\((c=0/\DS g y k/\y.s.off=false/\bU g.P (g.D*g.B) g.spare (bS y.s)<=aN g.P (g.D*g.B) (bS y.s))\/(c=7/\DT g y (k+1)/\y.cut=0/\1<=x.cut)\/(c=9/\DL g y/\y.s.off=false))
def MkP(e:Ending)(g:Gm)(w w':World)(a:Ad)(x:Sd)(k n:Nat):Prop:=∃ (y:Sd) (c:Nat),e=.returned (cK c)/\DK g w' a y/\Keep (OD g a) w w'/\Mo x y n/\MkQ g x y k c
structure MW(g:Gm)(w wq:World)(a:Ad)(x y:Sd)(k n f:Nat):Prop where
 dk:DK g wq a y
 kp:Keep (OD g a) w wq
 mo:Mo x y (n-f)
 le:f<=n
 lk:lack g y<=f
 ds:DS g y k
 off:y.s.off=false
 see:∀ j,j<g.L->DW.see g y j=DW.see g x j
theorem Iq{g:Gm}(h:DS g y 0\/∃ k,DS g y k):decide (aN g.P (g.D*g.B) (bS y.s)<(g.spare-y.bad+3)*g.P)=decide (aN g.P (g.D*g.B) (bS y.s)<bU g.P (g.D*g.B) g.spare (bS y.s)):=by
 have hb:y.bad=bX (g.D*g.B) (bS y.s):=by
  rcases h with h|⟨_,h⟩
  .exact h.nb
  .exact h.nb
 unfold bU
 rw[<-hb]
end Go.Proofs.aA
namespace Go.Proofs.aA
open ah ay aj Go.RowKit aB aD ah
theorem MW.grant{g:Gm}{w wq:World}{a:Ad}{x y:Sd}{k n f:Nat}(h:MW g w wq a x y k n f)(hk:k<=2*g.P)(hb:Bd x n)(hf:1<=f)(hN:g.D*g.B<=64)(hsp:g.spare<=64)(hs:aN g.P (g.D*g.B) (bS y.s)<bU g.P (g.D*g.B) g.spare (bS y.s)):EP g y:=by
 obtain⟨h1,h2⟩:=h.ds.grant hk hs
 have hle:=h.le
 refine⟨h.ds.dw,h.off,?_,?_,?_,?_,λj=>?_,h1,h2⟩
 .have:=h.mo.cut;have:=hb.cut;omega
 .have:=h.mo.fails;have:=hb.fails;omega
 .have:=h.ds.ok;omega
 .have:=h.mo.seq;have:=hb.seq;omega
 .have:=h.mo.aF j;have:=hb.aF j;omega
theorem uU{g:Gm}{w:World}{a:Ad}{x:Sd}(HI:CS)(Te:qp)(Tf:qw)(Tg:lJ)(h:DK g w a x)(k n:Nat)(hd:DS g x k)(ho:x.s.off=false)(hk:k<=2*g.P)(hb:Bd x n)(hl:lack g x<=n)(hsp:g.spare<=64) :
 Calls (PB prog false) 44 #[.pointer (some ⟨a.db,0,none⟩)] w λe w'=>MkP e g w w' a x k n:=by
 have H0:Hid (MW g w w a x x k n n):=⟨h,Keep.refl _ _,by rw[Nat.sub_self];exact Mo.refl x,Nat.le_refl _,hl,hd,ho,λ_ _=>rfl⟩
 have HB:Hid (k<=2*g.P/\Bd x n/\Geo g.D g.B g.P g.Y):=⟨hk,hb,h.iM⟩
 clear h hd ho hk hb hl
 go_enter Al.func44,Tryz.ntmps44
 go_wp2
 go_loopg [2] n (λf v wq=>v=.nilIface/\Hid (∃ y,MW g w wq a x y k n f))
 case atStart=>exact⟨rfl,_,H0.out⟩
 case round =>
  obtain⟨rfl,hR⟩:=hrel
  obtain⟨y,hy⟩:=hR.out
  have HY:Hid (MW g w wr a x y k n gk):=hy
  clear H0 hR hy
  have hN:=Gm.O4 HB.out.2.2
  obtain⟨m,hm⟩:∃ m,g.D*g.B=m:=⟨_,rfl⟩
  have HX:=tT HY.out.dk.dc m hm HY.out.off
  go_wp2_with fail
  refine HX.mono ?_
  rintro e w1 ⟨rb,rfl,hbr,hb1,-⟩
  have H1:Hid (DK g w1 a y/\Keep (OD g a) w w1/\BR w1 rb m (bS y.s).bad (bS y.s).next y.s.aF):=⟨HY.out.dk.below hb1,HY.out.kp.trans (Keep.of_below hb1),hbr⟩
  clear HX hbr hb1
  have XR:m<=64:=by rw[<-hm];exact hN.1
  have HS:=FE H1.out.1 rb m m (bS y.s) y.s.aF H1.out.2.2 XR HY.out.ds.dw.dv.nx hsp HY.out.ds.ok
  have hsh:=Iq (Or.inr ⟨k,HY.out.ds⟩)
  rw[hm] at hsh
  rw[hsh] at HS
  clear hsh
  by_cases hs:aN g.P m (bS y.s)<bU g.P m g.spare (bS y.s)
  .rw[decide_eq_true hs] at HS
   have hs2:aN g.P (g.D*g.B) (bS y.s)<bU g.P (g.D*g.B) g.spare (bS y.s):=by rw[hm];exact hs
   have hlk:1<=lack g y:=by unfold lack;omega
   have hgk:1<=gk:=Nat.le_trans hlk HY.out.lk
   have hEP:=HY.out.grant HB.out.1 HB.out.2.1 hgk hN.1 hsp hs2
   go_wp2_with fail
   refine HS.mono ?_
   rintro e w2 ⟨rfl,hb2⟩
   have HE:Calls (PB prog false) 62 #[.pointer (some ⟨a.db,0,none⟩),.slice (some ⟨rb,0,none⟩) m m] w2 λe w'=>(e=.returned .nilIface/\∃ z,MW g w w' a x z k n (gk-1))\/∃ c,c≠0/\e=.returned (cK c)/\MkP (.returned (cK c)) g w w' a x k n:=by
    refine(FJ HI Te Tf Tg (H1.out.1.below hb2) hEP rb m hm (H1.out.2.2.below hb2)).mono λe w' hq=>?_
    obtain⟨z,c,q1,q2,q3,q4⟩:=hq
    have hmo:=(HY.out.mo.trans (q4.mo HB.out.2.2.p1)).more (m:=n-(gk-1)) (by have:=HY.out.le;omega)
    obtain⟨t1,t2⟩:=q4.step HY.out.ds hs2
    have hkp:Keep (OD g a) w w':=(H1.out.2.1.trans (Keep.of_below hb2)).trans q3
    have hle:=HY.out.le
    have pq:∀ j,j<g.L->DW.see g z j=DW.see g x j:=λj hj=>(t1 j hj).trans (HY.out.see j hj)
    rcases t2 with ⟨rfl,u1,u2,u3⟩|⟨rfl,u1,u2,u3⟩|⟨rfl,u1,u2⟩
    .exact Or.inl ⟨q1,z,q2,hkp,hmo,by omega,by have:=HY.out.lk;omega,u1,u2,pq⟩
    .exact Or.inr ⟨7,by omega,q1,z,7,rfl,q2,hkp,hmo.more (by omega),pq,Or.inr (Or.inl ⟨rfl,u1,u2,Nat.le_trans u3 HY.out.mo.cut⟩)⟩
    .exact Or.inr ⟨9,by omega,q1,z,9,rfl,q2,hkp,hmo.more (by omega),pq,Or.inr (Or.inr ⟨rfl,u1,u2⟩)⟩
   clear HS hb2 hEP hlk hs2 H1 HY
   go_wp2_with fail
   refine HE.mono ?_
   rintro e w3 (⟨rfl,z,hz⟩|⟨c,hc,rfl,hz⟩)
   .have HZ:Hid (MW g w w3 a x z k n (gk-1)):=hz
    clear HE hz
    go_wp2
    go_roundg (gk-1)
    case measure=>omega
    case rel=>exact⟨rfl,z,HZ.out⟩
   .have HZ:Hid (MkP (.returned (cK c)) g w w3 a x k n):=hz
    clear HE hz
    rw[dW hc] at HZ ⊢
    go_wp2
    go_ret
    exact HZ.out
  .rw[decide_eq_false hs] at HS
   go_wp2_with fail
   refine HS.mono ?_
   rintro e w2 ⟨rfl,hb2⟩
   have HZ:Hid (MkP (.returned .nilIface) g w w2 a x k n):=⟨y,0,rfl,H1.out.1.below hb2,H1.out.2.1.trans (Keep.of_below hb2),HY.out.mo.more (by omega),HY.out.see,Or.inl ⟨rfl,HY.out.ds,HY.out.off,by rw[hm];omega⟩⟩
   clear HS hb2 H1 HY
   go_wp2
   go_ret
   exact HZ.out
variable {g:Gm}
theorem DS.put{y:Sd}{k b l:Nat}{page:List Nat}(h:DS g y k)(hn:bU g.P (g.D*g.B) g.spare (bS y.s)<=aN g.P (g.D*g.B) (bS y.s))(hb:vk g.P (g.D*g.B) (bS y.s) b)(hw:DW g (kU g y b l page)):DS g (kU g y b l page) 0:=by
 have e1:bS (kU g y b l page).s=dQ (bS y.s) b:=by unfold kU;split<;>rfl
 have e2:(kU g y b l page).bad=y.bad:=by unfold kU;split<;>rfl
 refine⟨hw,h.fit,by rw[e2,h.nb,e1];exact wG.symm,by rw[e2];exact h.ok,?_⟩
 have h1:=hw.dv.one
 have h2:=hw.dv.nx
 rw[e1] at h1 h2 ⊢
 exact wP (s:=y.k) h.fit hw.dv.inv h1 h2 (by rw[<-h.nb];exact h.ok) ⟨hb.1,hb.2.1,hb.2.2.1⟩ hn
structure New(g:Gm)(kd l:Nat)(data:List Nat):Prop where
 k:kd=1\/kd=2
 d1:kd=1->data.length+21=g.Y
 d2:kd=2->data=[]
 all:aW data
 l:l<g.L
def newV(g:Gm)(kd:Nat)(data:List Nat):List Nat:=if kd=1 then data else List.replicate (g.Y-21) 0
theorem New.fok{kd l seq:Nat}{data:List Nat}(h:New g kd l data)(hw:g.L<=256)(hy:24<=g.Y)(hy1:g.Y<=256)(hs:seq<4611686018427387904):Dy g.Y kd l seq data.length:=by
 have:=h.l
 refine⟨hy,by omega,?_,?_,by omega,by omega,?_⟩
 .rcases h.k with e|e<;>omega
 .rcases h.k with e|e<;>omega
 .rcases h.k with e|e
  .have:=h.d1 e;omega
  .rw[h.d2 e];simp;omega
structure RJ(x y:Sd)(n:Nat):Prop where
 cut:y.cut<=x.cut
 fails:y.fails<=x.fails
 seq:y.seq<=x.seq+16*n+1
 aF:∀ k,y.s.aF k<=x.s.aF k+n
 bf:y.bad+y.fails=x.bad+x.fails
 bm:x.bad<=y.bad
 cz:y.s.off=false->x.cut=0\/x.bad<y.bad\/(1<=y.cut/\y.cut<x.cut)
 nx:1<=y.fails->∀ k,x.s.next k<=y.s.next k
def ChQ(g:Gm)(x y:Sd)(k l:Nat)(v:List Nat)(c:Nat):Prop:=(c=0/\DS g y 0/\y.s.off=false/\(y.ch=true/\(1<=y.fails->∃ b,b<g.D*g.B/\x.s.next b<y.s.next b))/\∀ j,j<g.L->DW.see g y j=if j=l then v else DW.see g x j)\/(c≠0/\y.ch=x.ch/\(∀ j,j<g.L->DW.see g y j=DW.see g x j)/\((c=7/\DT g y (k+1)/\y.cut=0/\1<=x.cut)\/(c=9/\DL g y/\y.s.off=false)))
def RL(e:Ending)(g:Gm)(w w':World)(a:Ad)(x:Sd)(k n l:Nat)(v:List Nat):Prop:=∃ (y:Sd) (c:Nat),e=.returned (cK c)/\DK g w' a y/\Keep (OD g a) w w'/\RJ x y n/\ChQ g x y k l v c
theorem Mo.one{x y:Sd}{n:Nat}(h:Mo x y n)(ho:y.s.off=false->x.bad<y.bad):RJ x y n:=⟨h.cut,h.fails,by have:=h.seq;omega,h.aF,h.bf,h.bm,λe=>Or.inr (Or.inl (ho e)),h.nx⟩
theorem zZ{w:World}{a:Ad}{x:Sd}(HI:CS)(Te:qp)(Tf:qw)(Tg:lJ)(h:DK g w a x)(k n:Nat)(hd:DS g x k)(ho:x.s.off=false)(hk:k<=2*g.P)(hb:Bd x n)(hl:lack g x<=n)(hsp:g.spare<=64)
 (kd l:Nat) (data:List Nat) (hnw:New g kd l data) (fa:Option Addr) (cap:Nat) (hL:bN w fa data) (hfa:∀ b off,fa=some ⟨b,off,none⟩->¬OD g a b) :
 Calls (PB prog false) 46 #[.pointer (some ⟨a.db,0,none⟩),.int .i64 (kd:Nat),.int .i64 (l:Nat),.slice fa data.length cap] w λe w'=>RL e g w w' a x k n l (newV g kd data):=by
 have CU:=fK h
 rw[decide_eq_false (by have:=hd.ok;omega)] at CU
 have HM:Hid (∀ W,Below w.heap.size w W->Calls (PB prog false) 44 #[.pointer (some ⟨a.db,0,none⟩)] W λe w'=>MkP e g W w' a x k n):=λW hW=>uU HI Te Tf Tg (h.below hW) k n hd ho hk hb hl hsp
 have RI:Hid (∀ W y,DK g W a y->Keep (OD g a) w W->Mo x y n->DS g y k->y.s.off=false->bU g.P (g.D*g.B) g.spare (bS y.s)<=aN g.P (g.D*g.B) (bS y.s)->(∀ j,j<g.L->DW.see g y j=DW.see g x j)->Calls (PB prog false) 68 #[.pointer (some ⟨a.db,0,none⟩),.int .i64 (kd:Nat),.int .i64 (l:Nat),.slice fa data.length cap] W λe w'=>(∃ z,e=.returned .nilIface/\DK g w' a z/\Keep (OD g a) w w'/\RJ x z n/\DS g z 0/\z.s.off=false/\(1<=z.fails->∃ b,b<g.D*g.B/\x.s.next b<z.s.next b)/\∀ j,j<g.L->DW.see g z j=if j=l then newV g kd data else DW.see g x j)\/(e=.returned (.iface 31 (.int .i64 7))/\RL (.returned (.iface 31 (.int .i64 7))) g w w' a x k n l (newV g kd data))):=λW y q1 q2 q3 q4 q5 q6 q7=>by
  have vC:y.seq<4611686018427387904:=by have:=q3.seq;have:=hb.seq;omega
  have hF:=hnw.fok (seq:=y.seq) q4.dw.l q4.dw.y q4.dw.y1 vC
  have hex:∃ k,k<g.D*g.B/\y.s.bad k=false/\y.s.next k≠g.P:=by
   have:=vI (P:=g.P) (N:=g.D*g.B) (spare:=g.spare) (c:=bS y.s)
   have:=q4.fit.p1
   obtain⟨k,k1,k2,k3⟩:=BK (P:=g.P) (N:=g.D*g.B) (c:=bS y.s) (by omega)
   exact⟨k,k1,k2,Nat.ne_of_lt k3⟩
  refine(O8 q1 q5 (by have:=q3.cut;have:=hb.cut;omega) vC q4.dw.dv.nx hex q4.dw.free kd l hnw.l fa cap data hF hnw.all (hL.keep q2 hfa)).mono λe w' hq=>?_
  obtain⟨b,p1,p2⟩:=hq
  obtain⟨t1,t2⟩:=q4.dw.put p1.nx hF hnw.k hnw.d1 hnw.d2 hnw.all hnw.l
  have hds:=q4.put q6 p1.nx t1
  have hkp:=q2.trans p1.kp
  by_cases AO:y.cut=1
  .have ep:jI y=.iface 31 (.int .i64 7):=if_pos AO
   rw[ep] at p2
   have e1:kU g y b l (aR g.Y kd l y.seq data)=AL g y b (aR g.Y kd l y.seq data):=if_pos AO
   have hdk:=p1.dk
   rw[e1] at t2 hds hdk
   refine Or.inr ⟨p2,_,7,rfl,hdk,hkp,⟨?_,q3.fails,?_,q3.aF,q3.bf,q3.bm,λho=>Bool.noConfusion (show true=false from ho),λhf k=>Nat.le_trans (q3.nx hf k) (oG _ _ _)⟩,Or.inr ⟨by omega,q3.ch,λj hj=>by rw[t2 j hj,if_pos AO];exact q7 j hj,Or.inl ⟨rfl,⟨⟨hds.dw,hds.fit,hds.nb,hds.ok,hds.room.more (by omega)⟩,rfl⟩,?_,?_⟩⟩⟩
   .show y.cut-1<=x.cut
    have:=q3.cut;omega
   .show y.seq<=_
    have:=q3.seq;omega
   .show y.cut-1=0
    omega
   .have:=q3.cut;omega
  .have ep:jI y=.nilIface:=if_neg AO
   rw[ep] at p2
   have e1:kU g y b l (aR g.Y kd l y.seq data)=O7 g y b l (aR g.Y kd l y.seq data):=if_neg AO
   have hdk:=p1.dk
   rw[e1] at t2 hds hdk
   refine Or.inl ⟨_,p2,hdk,hkp,⟨?_,q3.fails,?_,q3.aF,q3.bf,q3.bm,λ_=>by
    have:=(q3.cz q5).2
    have:=q3.cut
    show x.cut=0\/_\/(1<=y.cut-1/\y.cut-1<x.cut)
    omega,λhf k=>Nat.le_trans (q3.nx hf k) (oG _ _ _)⟩,hds,q5,λhf=>⟨b,p1.nx.1,Nat.lt_of_le_of_lt (q3.nx hf b) (by show y.s.next b<upd y.s.next b (y.s.next b+1) b;rw[upd_same];omega)⟩,λj hj=>?_⟩
   .show y.cut-1<=x.cut
    have:=q3.cut;omega
   .show y.seq+1<=_
    have:=q3.seq;omega
   .rw[t2 j hj,if_neg AO]
    by_cases ej:j=l
    .rw[if_pos ej,if_pos ej];rfl
    .rw[if_neg ej,if_neg ej];exact q7 j hj
 have Pd:Hid (∀ W,Below w.heap.size w W->Keep (OD g a) w W):=λW hW=>Keep.of_below hW
 have HOK:Hid (x.bad<=g.spare):=hd.ok
 clear h hd ho hk hb hl hsp hnw hL hfa HI Te Tf Tg
 generalize newV g kd data=nv at *
 generalize data.length=dl at *
 go_enter Al.func46,Tryz.ntmps46
 go_wp2_with fail
 refine CU.mono ?_
 rintro e w1 ⟨rfl,hb1⟩
 have HX:=HM.out w1 hb1
 have Tj:Hid (Keep (OD g a) w w1):=Pd.out w1 hb1
 clear CU HM hb1 Pd
 go_wp2_with fail
 refine HX.mono ?_
 rintro e w2 ⟨y,c,rfl,q1,q2,q3,q4,q5⟩
 clear HX
 rcases q5 with ⟨rfl,u1,u2,u3⟩|hbad
 .have HQ:=RI.out w2 y q1 (Tj.out.trans q2) q3 u1 u2 u3 q4
  clear RI q1 q2 q3 q4 u1 u2 u3 Tj
  rw[bV]
  go_wp2_with fail
  refine HQ.mono ?_
  rintro e w3 (⟨z,rfl,z1,z2,z3,z4,z5,z7,z6⟩|⟨rfl,hz⟩)
  .have c5:w3.cell? ⟨a.db,5,none⟩=some (.bool z.ch):=z1.st.cell 5
   have f5:=z1.st.free 5
   have HZ:Hid (RL (.returned .nilIface) g w (w3.setCell ⟨a.db,5,none⟩ (.bool true)) a x k n l nv):=⟨{ z with ch:=true },0,rfl,z1.cell { z with ch:=true } 5 _ rfl rfl rfl,z2.trans (((Keep.refl (λb=>b=a.db) _).set1 _ _).mono λb e=>Or.inl e),⟨z3.cut,z3.fails,z3.seq,z3.aF,z3.bf,z3.bm,z3.cz,z3.nx⟩,Or.inl ⟨rfl,⟨⟨z4.dw.dv,z4.dw.y,z4.dw.y1,z4.dw.l⟩,z4.fit,z4.nb,z4.ok,z4.room⟩,z5,⟨rfl,z7⟩,z6⟩⟩
   clear HQ z1 z2 z3 z4 z5 z6 z7
   go_wp2
   go_ret
   exact HZ.out
  .have HZ:Hid (RL (.returned (.iface 31 (.int .i64 7))) g w w3 a x k n l nv):=hz
   clear HQ hz
   go_wp2
   go_ret
   exact HZ.out
 .have hc:c≠0:=by rcases hbad with ⟨rfl,_⟩|⟨rfl,_⟩<;>omega
  have HZ:Hid (RL (.returned (cK c)) g w w2 a x k n l nv):=⟨y,c,rfl,q1,Tj.out.trans q2,q3.one (λho=>hbad.elim (λe=>Bool.noConfusion (show true=false from e.2.1.off.symm.trans ho)) (λe=>Nat.lt_of_le_of_lt HOK.out e.2.1.no)),Or.inr ⟨hc,q3.ch,q4,hbad⟩⟩
  clear RI q1 q2 q3 q4 hbad Tj
  rw[dW hc] at HZ ⊢
  go_wp2
  go_ret
  exact HZ.out
variable {a:Ad} {g:Gm} {w:World}
theorem Mw{x:Sd}(h:DK g w a x)(hb:g.spare<x.bad)(kd l:Int)(fa:Option Addr)(n cap:Nat) :
 Calls (PB prog false) 46 #[.pointer (some ⟨a.db,0,none⟩),.int .i64 kd,.int .i64 l,.slice fa n cap] w λe w'=>e=.returned (cK 9)/\Below w.heap.size w w':=by
 have CU:=fK h
 rw[decide_eq_true hb] at CU
 clear h hb
 go_enter Al.func46,Tryz.ntmps46
 go_wp2_with fail
 refine CU.mono ?_
 rintro e w1 ⟨rfl,hb1⟩
 have HB:Hid (Below w.heap.size w w1):=hb1
 clear CU hb1
 go_wp2
 go_ret
 exact⟨rfl,HB.out⟩
def NC(g:Gm)(x:Sd)(l:Int)(n:Nat):Nat:=if findF g.L x.s.off l≠0 then findF g.L x.s.off l else if n≠g.Y-21 then 2 else if g.spare<x.bad then 9 else 0
theorem D7{x:Sd}(h:DK g w a x)(hy:21<=g.Y)(l:Int)(fa:Option Addr)(n cap:Nat)(hn:n<4611686018427387904)(hne:NC g x l n≠0) :
 Calls (PB prog false) 27 #[.pointer (some ⟨a.db,0,none⟩),.int .i64 l,.slice fa n cap] w λe w'=>e=.returned (cK (NC g x l n))/\Below w.heap.size w w':=by
 have HF:=oz h l
 have HZ:=nM h hy
 have hy1:=h.iM.y1
 unfold NC at hne ⊢
 by_cases h1:findF g.L x.s.off l≠0
 .rw[if_pos h1] at hne ⊢
  generalize findF g.L x.s.off l=c at *
  rw[dW h1] at HF ⊢
  clear h
  go_enter Al.func27,Tryz.ntmps27
  go_wp2_with fail
  refine HF.mono ?_
  rintro e w1 ⟨rfl,rfl⟩
  clear HF HZ
  go_wp2
  go_ret
  exact⟨rfl,Below.refl _ _⟩
 .have h0:findF g.L x.s.off l=0:=Classical.not_not.1 h1
  rw[if_neg h1] at hne ⊢
  rw[h0,bV] at HF
  by_cases h2:n≠g.Y-21
  .rw[if_pos h2] at hne ⊢
   have e1:((n:Int)==((g.Y-21:Nat):Int))=false:=by rw[beq_eq_false_iff_ne];omega
   clear h h1 h0
   generalize g.Y-21=sz at *
   go_enter Al.func27,Tryz.ntmps27
   go_wp2_with fail
   refine HF.mono ?_
   rintro e w1 ⟨rfl,rfl⟩
   clear HF
   go_wp2_with fail
   refine HZ.mono ?_
   rintro e w2 ⟨rfl,rfl⟩
   clear HZ
   go_wp2
   go_ret
   exact⟨rfl,Below.refl _ _⟩
  .rw[if_neg h2] at hne ⊢
   obtain rfl:n=g.Y-21:=Classical.not_not.1 h2
   by_cases h3:g.spare<x.bad
   .rw[if_pos h3]
    have HC:=Mw h h3 1 l fa (g.Y-21) cap
    clear h h1 h0 h2 h3 hne
    generalize g.Y-21=sz at *
    go_enter Al.func27,Tryz.ntmps27
    go_wp2_with fail
    refine HF.mono ?_
    rintro e w1 ⟨rfl,rfl⟩
    clear HF
    go_wp2_with fail
    refine HZ.mono ?_
    rintro e w2 ⟨rfl,rfl⟩
    clear HZ
    go_wp2_with fail
    refine HC.mono ?_
    rintro e w3 ⟨rfl,hb⟩
    have HB:Hid (Below w2.heap.size w2 w3):=hb
    clear HC hb
    go_wp2
    go_ret
    exact⟨rfl,HB.out⟩
   .rw[if_neg h3] at hne
    exact absurd rfl hne
theorem RL.ret{e:Ending}{w':World}{x:Sd}{k n l:Nat}{v:List Nat}(h:RL e g w w' a x k n l v):∃ u,e=.returned u:=by
 obtain⟨_,_,h,_⟩:=h
 exact⟨_,h⟩
theorem z8{x:Sd}{k n l len:Nat}{v:List Nat}(h:DK g w a x)(hy:21<=g.Y)(fa:Option Addr)(cap:Nat)(hy0:NC g x (l:Int) len=0)
 (HC:Calls (PB prog false) 46 #[.pointer (some ⟨a.db,0,none⟩),.int .i64 ((1:Nat):Int),.int .i64 (l:Nat),.slice fa len cap] w λe w'=>RL e g w w' a x k n l v) :
 Calls (PB prog false) 27 #[.pointer (some ⟨a.db,0,none⟩),.int .i64 (l:Nat),.slice fa len cap] w λe w'=>RL e g w w' a x k n l v:=by
 have HF:=oz h (l:Int)
 have HZ:=nM h hy
 unfold NC at hy0
 have h0:findF g.L x.s.off (l:Int)=0:=Classical.byContradiction λe=>by rw[if_pos e] at hy0;exact e hy0
 rw[if_neg (λe=>e h0)] at hy0
 have h2:len=g.Y-21:=Classical.byContradiction λe=>by rw[if_pos e] at hy0;omega
 rw[h0,bV] at HF
 subst h2
 clear h hy0 h0
 generalize g.Y-21=sz at *
 go_enter Al.func27,Tryz.ntmps27
 go_wp2_with fail
 refine HF.mono ?_
 rintro e w1 ⟨rfl,rfl⟩
 clear HF
 go_wp2_with fail
 refine HZ.mono ?_
 rintro e w2 ⟨rfl,rfl⟩
 clear HZ
 go_wp2_with fail
 refine HC.mono ?_
 rintro e w3 hm
 obtain⟨u,rfl⟩:=hm.ret
 have HM:Hid (RL (.returned u) g w2 w3 a x k n l v):=hm
 clear hm HC
 go_wp2
 go_ret
 exact HM.out
variable {g:Gm}
theorem DW.note{x:Sd}(h:DW g x){b sq:Nat}(hx:vk g.P (g.D*g.B) (bS x.s) b)(hF:Dy g.Y 3 0 sq 0):DW g (iV g x b (aR g.Y 3 0 sq []))/\∀ j,j<g.L->DW.see g (iV g x b (aR g.Y 3 0 sq [])) j=DW.see g x j:=by
 have hA:aW []:=λx hx=>by cases hx
 unfold iV
 by_cases hc:x.cut=1
 .rw[if_pos hc]
  obtain⟨t1,t2⟩:=h.dv.abp hx (page:=aR g.Y 3 0 sq []) (gJ _ _ _ _ _ hF.d1) (by have:=h.y;omega) (jr _ _ _ _ _ (by omega) hA)
  exact⟨⟨t1,h.y,h.y1,h.l⟩,t2⟩
 .rw[if_neg hc]
  obtain⟨t1,t2⟩:=h.dv.note (gH:=0) (sq:=sq) (data:=[]) hx hF hA
  exact⟨⟨t1,h.y,h.y1,h.l⟩,t2⟩
theorem DS.note{y:Sd}{k b:Nat}{page:List Nat}(h:DS g y k)(hn:bU g.P (g.D*g.B) g.spare (bS y.s)<=aN g.P (g.D*g.B) (bS y.s))(hb:vk g.P (g.D*g.B) (bS y.s) b)(hw:DW g (iV g y b page)):DS g (iV g y b page) 0:=by
 have e1:bS (iV g y b page).s=dQ (bS y.s) b:=by unfold iV;split<;>rfl
 have e2:(iV g y b page).bad=y.bad:=by unfold iV;split<;>rfl
 refine⟨hw,h.fit,by rw[e2,h.nb,e1];exact wG.symm,by rw[e2];exact h.ok,?_⟩
 have h1:=hw.dv.one
 have h2:=hw.dv.nx
 rw[e1] at h1 h2 ⊢
 exact wP (s:=y.k) h.fit hw.dv.inv h1 h2 (by rw[<-h.nb];exact h.ok) ⟨hb.1,hb.2.1,hb.2.2.1⟩ hn
def flF(g:Gm)(x:Sd):Nat:=if x.s.off=true then 7 else if g.spare<x.bad then 9 else 0
theorem DR{w:World}{a:Ad}{x:Sd}(h:DK g w a x)(hne:flF g x≠0\/x.ch=false) :
 Calls (PB prog false) 25 #[.pointer (some ⟨a.db,0,none⟩)] w λe w'=>e=.returned (cK (flF g x))/\Below w.heap.size w w':=by
 have c6:w.cell? ⟨a.db,6,none⟩=some (.pointer (some ⟨a.cb,0,none⟩)):=h.st.cell 6
 have HO:=vN w h.hc
 have CU:=fK h
 have HD:Hid (∀ W,Below w.heap.size w W->W.cell? ⟨a.db,5,none⟩=some (.bool x.ch)):=λW hW=>(h.below hW).st.cell 5
 unfold flF at hne ⊢
 clear h
 generalize x.s.off=of at *
 cases of with
 |true =>
  rw[if_pos rfl]
  go_enter Al.func25,Tryz.ntmps25
  go_wp2_with fail
  refine HO.mono ?_
  rintro e w1 ⟨rfl,rfl⟩
  clear HO CU
  go_wp2
  go_ret
  exact⟨rfl,Below.refl _ _⟩
 |false =>
  rw[if_neg (by simp)] at hne ⊢
  by_cases h3:g.spare<x.bad
  .rw[if_pos h3]
   rw[decide_eq_true h3] at CU
   go_enter Al.func25,Tryz.ntmps25
   go_wp2_with fail
   refine HO.mono ?_
   rintro e w1 ⟨rfl,rfl⟩
   clear HO
   go_wp2_with fail
   refine CU.mono ?_
   rintro e w2 ⟨rfl,hb⟩
   have HB:Hid (Below w1.heap.size w1 w2):=hb
   clear CU hb
   go_wp2
   go_ret
   exact⟨rfl,HB.out⟩
  .rw[if_neg h3] at hne ⊢
   have hch:x.ch=false:=by
    rcases hne with e|e
    .exact absurd rfl e
    .exact e
   rw[decide_eq_false h3] at CU
   rw[hch] at HD
   go_enter Al.func25,Tryz.ntmps25
   go_wp2_with fail
   refine HO.mono ?_
   rintro e w1 ⟨rfl,rfl⟩
   clear HO
   go_wp2_with fail
   refine CU.mono ?_
   rintro e w2 ⟨rfl,hb⟩
   have c5:=HD.out w2 hb
   have HB:Hid (Below w1.heap.size w1 w2):=hb
   clear CU hb HD
   go_wp2
   go_ret
   exact⟨rfl,HB.out⟩
def FlQ(g:Gm)(x y:Sd)(k c:Nat):Prop:=(∀ j,j<g.L->DW.see g y j=DW.see g x j)/\((c=0/\DS g y 0/\y.s.off=false/\y.ch=false)\/(c≠0/\y.ch=x.ch/\((c=7/\DT g y (k+1)/\y.cut=0/\1<=x.cut)\/(c=9/\DL g y/\y.s.off=false))))
def FlP(e:Ending)(g:Gm)(w w':World)(a:Ad)(x:Sd)(k n:Nat):Prop:=∃ (y:Sd) (c:Nat),e=.returned (cK c)/\DK g w' a y/\Keep (OD g a) w w'/\RJ x y n/\FlQ g x y k c
theorem ND{w:World}{a:Ad}{x:Sd}(HI:CS)(Te:qp)(Tf:qw)(Tg:lJ)(h:DK g w a x)(k n:Nat)(hd:DS g x k)(ho:x.s.off=false)(hk:k<=2*g.P)(hb:Bd x n)(hl:lack g x<=n)(hsp:g.spare<=64)(hch:x.ch=true) :
 Calls (PB prog false) 25 #[.pointer (some ⟨a.db,0,none⟩)] w λe w'=>FlP e g w w' a x k n:=by
 have c6:w.cell? ⟨a.db,6,none⟩=some (.pointer (some ⟨a.cb,0,none⟩)):=h.st.cell 6
 have HO:=vN w h.hc
 rw[ho] at HO
 have CU:=fK h
 rw[decide_eq_false (by have:=hd.ok;omega)] at CU
 have HD:Hid (∀ W,Below w.heap.size w W->W.cell? ⟨a.db,5,none⟩=some (.bool true)/\Keep (OD g a) w W):=λW hW=>⟨by rw[<-hch];exact(h.below hW).st.cell 5,Keep.of_below hW⟩
 have HM:Hid (∀ W,Below w.heap.size w W->Calls (PB prog false) 44 #[.pointer (some ⟨a.db,0,none⟩)] W λe w'=>MkP e g W w' a x k n):=λW hW=>uU HI Te Tf Tg (h.below hW) k n hd ho hk hb hl hsp
 have RI:Hid (∀ W y,DK g W a y->Keep (OD g a) w W->Mo x y n->DS g y k->y.s.off=false->bU g.P (g.D*g.B) g.spare (bS y.s)<=aN g.P (g.D*g.B) (bS y.s)->(∀ j,j<g.L->DW.see g y j=DW.see g x j)->Calls (PB prog false) 45 #[.pointer (some ⟨a.db,0,none⟩),FV 3 0 y.seq none 0 0] W λe w'=>(∃ (z:Sd) (p:Nat),e=.returned (.tuple #[.int .i64 (p:Nat),.nilIface])/\DK g w' a z/\Keep (OD g a) w w'/\RJ x z n/\DS g z 0/\z.s.off=false/\∀ j,j<g.L->DW.see g z j=DW.see g x j)\/(e=.returned (.tuple #[.int .i64 0,.iface 31 (.int .i64 7)])/\FlP (.returned (.iface 31 (.int .i64 7))) g w w' a x k n)):=λW y q1 q2 q3 q4 q5 q6 q7=>by
  have vC:y.seq<4611686018427387904:=by have:=q3.seq;have:=hb.seq;omega
  have hy:=q4.dw.y
  have hy1:=q4.dw.y1
  have hF:Dy g.Y 3 0 y.seq 0:=⟨hy,by omega,by omega,by omega,by omega,by omega,by omega⟩
  have hex:∃ k,k<g.D*g.B/\y.s.bad k=false/\y.s.next k≠g.P:=by
   have:=vI (P:=g.P) (N:=g.D*g.B) (spare:=g.spare) (c:=bS y.s)
   have:=q4.fit.p1
   obtain⟨k,k1,k2,k3⟩:=BK (P:=g.P) (N:=g.D*g.B) (c:=bS y.s) (by omega)
   exact⟨k,k1,k2,Nat.ne_of_lt k3⟩
  refine(yh q1 q5 (by have:=q3.cut;have:=hb.cut;omega) q4.dw.dv.nx hex 3 0 y.seq none 0 [] hF (λx hx=>by cases hx) (Or.inl rfl)).mono λe w' hq=>?_
  obtain⟨b,p1,p2⟩:=hq
  obtain⟨t1,t2⟩:=q4.dw.note p1.nx hF
  have hds:=q4.note q6 p1.nx t1
  have hkp:=q2.trans p1.kp
  have pq:∀ j,j<g.L->DW.see g (iV g y b (aR g.Y 3 0 y.seq [])) j=DW.see g x j:=λj hj=>(t2 j hj).trans (q7 j hj)
  have hdk:=p1.dk
  by_cases AO:y.cut=1
  .have ep:jI y=.iface 31 (.int .i64 7):=if_pos AO
   rw[ep,if_pos AO] at p2
   have e1:iV g y b (aR g.Y 3 0 y.seq [])=AL g y b (aR g.Y 3 0 y.seq []):=if_pos AO
   rw[e1] at pq hds hdk
   refine Or.inr ⟨p2,_,7,rfl,hdk,hkp,⟨?_,q3.fails,?_,q3.aF,q3.bf,q3.bm,λho=>Bool.noConfusion (show true=false from ho),λhf k=>Nat.le_trans (q3.nx hf k) (oG _ _ _)⟩,pq,Or.inr ⟨by omega,q3.ch,Or.inl ⟨rfl,⟨⟨hds.dw,hds.fit,hds.nb,hds.ok,hds.room.more (by omega)⟩,rfl⟩,?_,?_⟩⟩⟩
   .show y.cut-1<=x.cut
    have:=q3.cut;omega
   .show y.seq<=_
    have:=q3.seq;omega
   .show y.cut-1=0
    omega
   .have:=q3.cut;omega
  .have ep:jI y=.nilIface:=if_neg AO
   rw[ep,if_neg AO] at p2
   have e1:iV g y b (aR g.Y 3 0 y.seq [])=zP g y b (aR g.Y 3 0 y.seq []):=if_neg AO
   rw[e1] at pq hds hdk
   refine Or.inl ⟨_,_,p2,hdk,hkp,⟨?_,q3.fails,?_,q3.aF,q3.bf,q3.bm,λ_=>by
    have:=(q3.cz q5).2
    have:=q3.cut
    show x.cut=0\/_\/(1<=y.cut-1/\y.cut-1<x.cut)
    omega,λhf k=>Nat.le_trans (q3.nx hf k) (oG _ _ _)⟩,hds,q5,pq⟩
   .show y.cut-1<=x.cut
    have:=q3.cut;omega
   .show y.seq<=_
    have:=q3.seq;omega
 have HOK:Hid (x.bad<=g.spare):=hd.ok
 clear h hd ho hk hb hl hsp hch HI Te Tf Tg
 go_enter Al.func25,Tryz.ntmps25
 go_wp2_with fail
 refine HO.mono ?_
 rintro e w0 ⟨rfl,rfl⟩
 clear HO
 go_wp2_with fail
 refine CU.mono ?_
 rintro e w1 ⟨rfl,hb1⟩
 have c5:=(HD.out w1 hb1).1
 have Tj:Hid (Keep (OD g a) w0 w1):=(HD.out w1 hb1).2
 have HX:=HM.out w1 hb1
 clear CU hb1 HD HM c6
 go_wp2_with fail
 refine HX.mono ?_
 rintro e w2 ⟨y,c,rfl,q1,q2,q3,q4,q5⟩
 clear HX c5
 rcases q5 with ⟨rfl,u1,u2,u3⟩|hbad
 .have c3:w2.cell? ⟨a.db,3,none⟩=some (.int .i64 (y.seq:Nat)):=q1.st.cell 3
  have HQ:=RI.out w2 y q1 (Tj.out.trans q2) q3 u1 u2 u3 q4
  clear RI q1 q2 q3 q4 u1 u2 u3 Tj
  rw[bV]
  generalize y.seq=sq at *
  go_wp2_with fail
  refine HQ.mono ?_
  rintro e w3 (⟨z,p,rfl,z1,z2,z3,z4,z5,z6⟩|⟨rfl,hz⟩)
  .have c5:w3.cell? ⟨a.db,5,none⟩=some (.bool z.ch):=z1.st.cell 5
   have f5:=z1.st.free 5
   have HZ:Hid (FlP (.returned .nilIface) g w0 (w3.setCell ⟨a.db,5,none⟩ (.bool false)) a x k n):=⟨{ z with ch:=false },0,rfl,z1.cell { z with ch:=false } 5 _ rfl rfl rfl,z2.trans (((Keep.refl (λb=>b=a.db) _).set1 _ _).mono λb e=>Or.inl e),⟨z3.cut,z3.fails,z3.seq,z3.aF,z3.bf,z3.bm,z3.cz,z3.nx⟩,z6,Or.inl ⟨rfl,⟨⟨z4.dw.dv,z4.dw.y,z4.dw.y1,z4.dw.l⟩,z4.fit,z4.nb,z4.ok,z4.room⟩,z5,rfl⟩⟩
   clear HQ z1 z2 z3 z4 z5 z6
   go_wp2
   go_ret
   exact HZ.out
  .have HZ:Hid (FlP (.returned (.iface 31 (.int .i64 7))) g w0 w3 a x k n):=hz
   clear HQ hz
   go_wp2
   go_ret
   exact HZ.out
 .have hc:c≠0:=by rcases hbad with ⟨rfl,_⟩|⟨rfl,_⟩<;>omega
  have HZ:Hid (FlP (.returned (cK c)) g w0 w2 a x k n):=⟨y,c,rfl,q1,Tj.out.trans q2,q3.one (λho=>hbad.elim (λe=>Bool.noConfusion (show true=false from e.2.1.off.symm.trans ho)) (λe=>Nat.lt_of_le_of_lt HOK.out e.2.1.no)),q4,Or.inr ⟨hc,q3.ch,hbad⟩⟩
  clear RI q1 q2 q3 q4 hbad Tj
  rw[dW hc] at HZ ⊢
  go_wp2
  go_ret
  exact HZ.out
theorem Pe(w:World)(g dLen dCap:Nat)(sa:Option Addr)(sCap:Nat)(l xs:List Nat)(hg:Row w g l)(hn:xs.length<=dLen)(hL:bN w sa xs)(hfit:xs.length<=l.length) :
 ∃ v w',Sem.run (PB prog false) (Builtin.copy_ #[60,60] 3 #[.slice (some ⟨g,0,none⟩) dLen dCap,.slice sa xs.length sCap]) w=.ok v w'/\Row w' g (splice l 0 xs)/\Keep (λb=>b=g) w w':=by
 have hsz:((PB prog false).info? 5).map (·.size)=some 1:=by kernel_rfl
 rcases hL with rfl|⟨sb,so,rfl,hsrc⟩
 .exact⟨_,w,run_copy_none (P:=(PB prog false)) w 60 60 3 5 (some ⟨g,0,none⟩) sa dLen dCap 0 sCap Al.underlying60 hsz (Nat.min_eq_left (Nat.zero_le _)),by rw[mh];exact hg,Keep.refl _ _⟩
 .have hrun:=run_copy_row (P:=(PB prog false)) w 60 60 3 5 g 0 dLen dCap ⟨sb,so,none⟩ xs.length sCap (l.map bv).toArray 5 (xs.map bv) Al.underlying60 hsz hg (by rw[List.length_map];exact(Nat.min_eq_left hn).symm)
   (λj v hj=>by
    have hl:j<xs.length:=by
     have:=(List.getElem?_eq_some_iff.1 hj).1
     simpa using this
    have e:=hsrc j hl
    rw[List.getElem?_map,List.getElem?_eq_getElem hl] at hj
    rw[List.getElem?_eq_getElem hl] at e
    simp only[Option.map_some,Option.some.injEq] at hj
    subst hj
    have hadd:(⟨sb,so,none⟩:Addr).add j=⟨sb,so+j,none⟩:=by unfold Addr.add;split<;>simp_all
    rw[hadd,e]
    rfl) (by simpa using hfit) (λu hu=>by obtain⟨x,_,rfl⟩:=List.mem_map.1 hu;rfl)
  refine⟨_,_,hrun,?_,ah.kN _ _ _⟩
  show _=_
  rw[setRow_heap w g _ _ 5 _ hg]
  simp[splice,List.map_append,List.map_drop]
def Xb(e:Ending)(w w':World)(v:List Nat):Prop:=∃ gb,e=.returned (.tuple #[.slice (some ⟨gb,0,none⟩) v.length v.length,.nilIface])/\w.heap.size<=gb/\Row w' gb v/\Below w.heap.size w w'
theorem JU{g:Gm}{w:World}{a:Ad}{x:Sd}(h:DK g w a x)(l:Int)(hne:findF g.L x.s.off l≠0) :
 Calls (PB prog false) 23 #[.pointer (some ⟨a.db,0,none⟩),.int .i64 l] w λe w'=>e=.returned (.tuple #[.slice none 0 0,cK (findF g.L x.s.off l)])/\w'=w:=by
 have HF:=oz h l
 generalize findF g.L x.s.off l=c at *
 rw[dW hne] at HF ⊢
 clear h
 go_enter Al.func23,Tryz.ntmps23
 go_wp2_with fail
 refine HF.mono ?_
 rintro e w1 ⟨rfl,rfl⟩
 clear HF
 go_wp2
 go_ret2
 exact⟨rfl,rfl⟩
theorem FK{g:Gm}{w:World}{a:Ad}{x:Sd}(HI:CS)(h:DK g w a x)(hw:DW g x)(hs:x.seq<4611686018427387904)(l:Nat)(hl:l<g.L)(ho:x.s.off=false) :
 Calls (PB prog false) 23 #[.pointer (some ⟨a.db,0,none⟩),.int .i64 (l:Nat)] w λe w'=>Xb e w w' (DW.see g x l):=by
 have HF:=oz h (l:Int)
 have h0:findF g.L x.s.off (l:Int)=0:=by unfold findF;rw[ho,if_neg (by simp),if_pos ⟨by omega,by omega⟩]
 rw[h0,bV] at HF
 have hy:=hw.y
 have hy1:=hw.y1
 have HZ:=nM h (by omega)
 have hmk:=ah.jv (zb:=false) (g.Y-21) (by omega)
 have hb0:Below w.heap.size w (w.alloc (.cells (ah.qK (g.Y-21)) 5)):=aC _ _
 have c2:(w.alloc (.cells (ah.qK (g.Y-21)) 5)).cell? ⟨a.db,2,none⟩=some (.pointer (some ⟨a.kb,0,none⟩)):=(h.below hb0).st.cell 2
 have HA:=XE (h.below hb0).ho (l:Int)
 have hrow:Row (w.alloc (.cells (ah.qK (g.Y-21)) 5)) w.heap.size (List.replicate (g.Y-21) 0):=heap_alloc_new w _
 rcases hw.dv.inv.a l hl with hno|⟨p,hp,hpa,hlb⟩
 .rw[ql hl hno] at HA
  have pq:DW.see g x l=List.replicate (g.Y-21) 0:=by
   show eU g.Y _ x.k.pa l=_
   unfold eU
   rw[if_pos hno]
  rw[pq]
  have Gw:=HI 4 4 (by decide)
  have HR:Hid (Row (w.alloc (.cells (ah.qK (g.Y-21)) 5)) w.heap.size (List.replicate (g.Y-21) 0)/\Below w.heap.size w (w.alloc (.cells (ah.qK (g.Y-21)) 5))):=⟨hrow,hb0⟩
  clear h hw hno pq hrow hb0 h0
  generalize g.Y-21=sz at *
  go_enter Al.func23,Tryz.ntmps23
  go_wp2_with fail
  refine HF.mono ?_
  rintro e w1 ⟨rfl,rfl⟩
  clear HF
  go_wp2_with fail
  refine HZ.mono ?_
  rintro e w2 ⟨rfl,rfl⟩
  clear HZ
  go_wp2_with fail
  refine HA.mono ?_
  rintro e w3 ⟨rfl,rfl⟩
  clear HA
  go_wp2_with fail
  refine(Gw _).mono ?_
  rintro e w4 ⟨rfl,hb⟩
  have HQ:Hid (Xb (.returned (.tuple #[.slice (some ⟨w2.heap.size,0,none⟩) sz sz,.nilIface])) w2 w4 (List.replicate sz 0)):=⟨_,by rw[List.length_replicate],Nat.le_refl _,HR.out.1.below hb,HR.out.2.trans (hb.mono HR.out.2.size)⟩
  clear Gw HR hb
  go_wp2
  go_ret2
  exact HQ.out
 .rw[qm hl (by omega),hpa] at HA
  obtain⟨q1,hV,Td,hAd,hdl,hF,hkd,hd1,hd2,pq⟩:=hw.live hl hpa hs
  have hsp:splice (List.replicate (g.Y-21) 0) 0 (aT (iy g x p))=DW.see g x l/\(aT (iy g x p)).length<=g.Y-21/\(DW.see g x l).length=g.Y-21:=by
   rw[pq]
   rcases hkd with e|e
   .have:=hd1 e
    rw[if_pos e]
    exact⟨xR (by rw[List.length_replicate];omega),by omega,by omega⟩
   .rw[if_neg (by omega),hd2 e]
    exact⟨mh _ _,by simp,by simp⟩
  have Gw:=HI 0 4 (by decide)
  rw[bV] at Gw HA
  have HR:Hid (Row (w.alloc (.cells (ah.qK (g.Y-21)) 5)) w.heap.size (List.replicate (g.Y-21) 0)/\Below w.heap.size w (w.alloc (.cells (ah.qK (g.Y-21)) 5))/\splice (List.replicate (g.Y-21) 0) 0 (aT (iy g x p))=DW.see g x l/\(aT (iy g x p)).length<=g.Y-21/\(aT (iy g x p)).length=aX (iy g x p)/\(DW.see g x l).length=g.Y-21):=⟨hrow,hb0,hsp.1,hsp.2.1,hdl,hsp.2.2⟩
  have XK:Hid (∀ W,Below w.heap.size w W->Calls (PB prog false) 43 #[.pointer (some ⟨a.db,0,none⟩),.int .i64 (p:Nat)] W λe w'=>FrP e W w' (iy g x p)):=λW hW=>yg (h.below hW) p hp ho Td hV
  clear h hw hrow hb0 h0 q1 hV Td hAd hdl hF hkd hd1 hd2 pq hsp hlb hpa hs
  unfold FrP at XK
  generalize DW.see g x l=vv at *
  generalize iy g x p=pg at *
  generalize aQ pg=KK at *
  generalize bT pg=LL at *
  generalize bM pg=SS at *
  generalize aX pg=DD at *
  generalize aT pg=DT at *
  generalize g.Y-21=sz at *
  go_enter Al.func23,Tryz.ntmps23
  go_wp2_with fail
  refine HF.mono ?_
  rintro e w1 ⟨rfl,rfl⟩
  clear HF
  go_wp2_with fail
  refine HZ.mono ?_
  rintro e w2 ⟨rfl,rfl⟩
  clear HZ
  go_wp2_with fail
  refine HA.mono ?_
  rintro e w3 ⟨rfl,rfl⟩
  clear HA
  go_wp2_with fail
  refine(Gw _).mono ?_
  rintro e w4 ⟨rfl,hb⟩
  have Tk:Hid (Below w2.heap.size w2 w4/\Row w4 w2.heap.size (List.replicate sz 0)):=⟨HR.out.2.1.trans (hb.mono HR.out.2.1.size),HR.out.1.below hb⟩
  clear Gw hb
  go_wp2_with fail
  refine(XK.out _ Tk.out.1).mono ?_
  rintro e w5 ⟨fa,fc,rfl,hO,hb5⟩
  have HB5:Hid (Below w2.heap.size w2 (w5.alloc (jw (KK:Nat) (LL:Nat) (SS:Nat) fa DD fc))/\bN (w5.alloc (jw (KK:Nat) (LL:Nat) (SS:Nat) fa DD fc)) fa DT/\Row (w5.alloc (jw (KK:Nat) (LL:Nat) (SS:Nat) fa DD fc)) w2.heap.size (List.replicate sz 0)):=⟨(Tk.out.1.trans (hb5.mono Tk.out.1.size)).alloc (Tk.out.1.trans (hb5.mono Tk.out.1.size)).size _,hO.lies.below (aC _ _),(Tk.out.2.below hb5).below (aC _ _)⟩
  clear XK Tk hO hb5
  have hdd:=HR.out.2.2.2.2.1
  obtain⟨uu,w6,hrun,Wv,hk6⟩:=Pe _ w2.heap.size sz sz fa fc _ DT HB5.out.2.2 HR.out.2.2.2.1 HB5.out.2.1 (by rw[List.length_replicate];exact HR.out.2.2.2.1)
  rw[hdd] at hrun
  have HQ:Hid (Xb (.returned (.tuple #[.slice (some ⟨w2.heap.size,0,none⟩) sz sz,.nilIface])) w2 w6 vv):=⟨_,by rw[HR.out.2.2.2.2.2],Nat.le_refl _,by rw[<-HR.out.2.2.1];exact Wv,HB5.out.1.trans (hk6.below HB5.out.1.size (λb e=>by omega))⟩
  clear Wv hk6 HB5 HR hdd
  go_wp2
  go_ret2
  exact HQ.out
def p9(D B P Y:Nat)(lb sp:Int):Nat:=if Y<24 then 2 else if lb<1\/256<lb\/sp<0 then 1 else if (((D*B:Nat):Int)-min sp ((D*B:Nat):Int)-4)*(P:Int)<lb then 3 else 0
theorem om(D B P Y:Nat)(lb sp:Int)(w:World)(hG:Geo D B P Y) :
 Calls (PB prog false) 32 #[.agg #[.int .i64 (D:Nat),.int .i64 (B:Nat),.int .i64 (P:Nat),.int .i64 (Y:Nat)],.int .i64 lb,.int .i64 sp] w λe w'=>e=.returned (cK (p9 D B P Y lb sp))/\Below w.heap.size w w':=by
 have hN:D*B<=64:=hG.n.2
 have hP:=hG.p1
 have HB:Hid (∀ o,Below w.heap.size w (w.alloc o)):=λo=>aC _ _
 unfold p9
 by_cases h1:Y<24
 .rw[if_pos h1]
  have e1:(Y:Int)<24:=by omega
  clear hG
  go_enter Al.func32,Tryz.ntmps32
  go_wp2
  go_ret
  exact⟨rfl,HB.out _⟩
 .rw[if_neg h1]
  have e1:¬((Y:Int)<24):=by omega
  by_cases h2:lb<1
  .rw[if_pos (Or.inl h2)]
   clear hG h1
   go_enter Al.func32,Tryz.ntmps32
   go_wp2
   go_ret
   exact⟨rfl,HB.out _⟩
  .by_cases h3:256<lb
   .rw[if_pos (Or.inr (Or.inl h3))]
    clear hG h1
    go_enter Al.func32,Tryz.ntmps32
    go_wp2
    go_ret
    exact⟨rfl,HB.out _⟩
   .by_cases h4:sp<0
    .rw[if_pos (Or.inr (Or.inr h4))]
     clear hG h1
     go_enter Al.func32,Tryz.ntmps32
     go_wp2
     go_ret
     exact⟨rfl,HB.out _⟩
    .rw[if_neg (by omega)]
     obtain⟨N,hNe⟩:∃ N,D*B=N:=⟨_,rfl⟩
     rw[hNe] at hN ⊢
     have m1:(D:Int)*(B:Int)=(N:Int):=by rw[<-hNe];simp
     have m2:IntKind.i64.wrap (N:Int)=(N:Int):=bR (by omega) (by omega)
     by_cases hc:(N:Int)<sp
     .have hmi:min sp (N:Int)=(N:Int):=by omega
      have hT:((N:Int)-(N:Int)-4)*(P:Int)=-4*(P:Int):=by rw[Int.sub_self];rfl
      rw[hmi,hT,if_pos (by omega)]
      have m5:wrap64 (-4*(P:Int))=-4*(P:Int):=IntWalk.wrap64_in _ ⟨by omega,by omega⟩
      have m6:IntKind.i64.wrap (-4*(P:Int))=-4*(P:Int):=bR (by omega) (by omega)
      have m7:wrap64 (-(4*(P:Int)))=-(4*(P:Int)):=IntWalk.wrap64_in _ ⟨by omega,by omega⟩
      have m8:IntKind.i64.wrap (-(4*(P:Int)))=-(4*(P:Int)):=bR (by omega) (by omega)
      have h5:-4*(P:Int)<lb:=by omega
      have h6:-(4*(P:Int))<lb:=by omega
      clear hG h1 hNe hT
      go_enter Al.func32,Tryz.ntmps32
      go_wp2
      go_ret
      exact⟨rfl,HB.out _⟩
     .obtain⟨s,rfl⟩:∃ s:Nat,sp=(s:Int):=⟨sp.toNat,by omega⟩
      have hmi:min (s:Int) (N:Int)=(s:Int):=by omega
      rw[hmi]
      have m3:IntKind.i64.wrap ((N:Int)-(s:Int))=(N:Int)-(s:Int):=bR (by omega) (by omega)
      have m4:IntKind.i64.wrap ((N:Int)-(s:Int)-4)=(N:Int)-(s:Int)-4:=bR (by omega) (by omega)
      have hlo:-64<=((N:Int)-(s:Int)-4)*(P:Int):=by
       have:(-4:Int)*(P:Int)<=((N:Int)-(s:Int)-4)*(P:Int):=Int.mul_le_mul_of_nonneg_right (by omega) (by omega)
       omega
      have hhi:((N:Int)-(s:Int)-4)*(P:Int)<=64*16:=by
       have:((N:Int)-(s:Int)-4)*(P:Int)<=64*(P:Int):=Int.mul_le_mul_of_nonneg_right (by omega) (by omega)
       omega
      obtain⟨T,hT⟩:∃ T,((N:Int)-(s:Int)-4)*(P:Int)=T:=⟨_,rfl⟩
      rw[hT] at hlo hhi ⊢
      have m5:IntKind.i64.wrap T=T:=bR (by omega) (by omega)
      have m6:wrap64 T=T:=IntWalk.wrap64_in _ ⟨by omega,by omega⟩
      clear hG h1 hNe
      by_cases h5:T<lb
      .rw[if_pos h5]
       go_enter Al.func32,Tryz.ntmps32
       go_wp2
       go_ret
       exact⟨rfl,HB.out _⟩
      .rw[if_neg h5]
       go_enter Al.func32,Tryz.ntmps32
       go_wp2
       go_ret
       exact⟨rfl,HB.out _⟩
