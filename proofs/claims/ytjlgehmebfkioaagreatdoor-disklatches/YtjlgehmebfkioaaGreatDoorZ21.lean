/- Part of the proof. -/
import Derived.Test.YtjlgehmebfkioaaGreatDoorZ20
namespace Go.Proofs.YtjlgehmebfkioaaGreatDoor
open Go Go.Conc
open Go.ConcN (sumTo upd sumTo_upd upd_ne upd_same sumTo_congr WgLive RW PayAt Has)
open Go.ConcR (KK wgBlock WgAt stA smA rd wr Payload DC0)
section
variable {x:Cx} {tz:Nat} {Sx:Nat->Prop} {s:Sg} {j:Nat} {T:Nat->Th} {q:Nat->Nat} {gs:Array Goroutine} {w:World} {t:Trace} {k:Nat} {g:Goroutine}
theorem KH{p lp:Nat}(hk:k<s.j)(hp:s.ph k<=4)(hp':4<p):x.v { s with ph:=upd s.ph k p,lp:=lp }+1=x.v s:=by
 have:=I_ (s':={ s with ph:=upd s.ph k p,lp:=lp }) hk rfl rfl
 rw[if_pos hp,if_neg (by omega)] at this
 unfold Cx.v
 simp only
 omega
theorem Uk(h:x.ok s):x.v s<=x.n:=by
 have:=Yk s
 have:=h.jn
 unfold Cx.v
 omega
theorem Ja(h:x.ok s)(hk:k<s.j)(oW:s.ph k=4){p lp:Nat}
 (hp:(p=8/\lp=s.lp/\((s.mp=7\/s.mp=8)->0<x.v { s with ph:=upd s.ph k p,lp:=lp }))\/(p=5/\lp=5/\(s.mp=7\/s.mp=8)/\x.v { s with ph:=upd s.ph k p,lp:=lp }=0)):x.ok { s with ph:=upd s.ph k p,lp:=lp }:=by
 obtain⟨h1,h2,h3⟩:=h.early hk (by omega)
 have hv:=KH (x:=x) (lp:=lp) hk (by omega) (p:=p) (by omega)
 have hpt:x.nu { s with ph:=upd s.ph k p,lp:=lp }<x.nu s:=iJ hk (by omega) (by omega) (by omega) (by omega)
 refine⟨h.jn,h.j0,h.jN,h.mp,λi hi=>?_,λi hi y=>?_,λi hi y z=>?_,λy=>?_,λy=>?_,λy=>?_,?_,?_⟩
 .by_cases hik:i=k
  .subst hik;simp only[upd_same];omega
  .simp only[upd_ne _ _ hik];exact h.Yj i hi
 .by_cases hik:i=k
  .subst hik;exact h.late i hi (by omega)
  .simp only[upd_ne _ _ hik] at y;exact h.late i hi y
 .by_cases hik:i=k
  .subst hik
   simp only[upd_same] at y z ⊢
   rcases hp with ⟨rfl,_⟩|⟨rfl,rfl,hm,hv0⟩
   .omega
   .refine⟨hm,rfl,λi' hi' hne=>?_⟩
    have hc:cnt { s with ph:=upd s.ph i 5,lp:=5 }=0:=by unfold Cx.v at hv0;omega
    have:=Gj hc i' hi'
    simp only[upd_ne _ _ hne] at this ⊢
    have:=h1 i' hi'
    omega
  .simp only[upd_ne _ _ hik] at y z
   have:=h1 i hi
   omega
 .rcases hp with ⟨rfl,rfl,hm⟩|⟨rfl,rfl,hm,hv0⟩
  .exact .inl ⟨(h3 y).1,hm y⟩
  .exact .inr (.inl ⟨by simp,by simp,k,hk,by simp[upd_same]⟩)
 .simp only at y;omega
 .have:=h.cas y
  refine⟨this.1,?_⟩
  have h2:=this.2
  simp only at hv ⊢
  omega
 .rw[mV (by omega) (by omega)];exact h.perm
 .have:=h.big
  simp only
  omega
theorem acF[Payload](F:x.Fit)(hG:GI x.P x.m0 tz Sx x.dP x.Fz x.Sh x.Ex j T q gs w t)(hP:PI x.jU x.Wg x.m0 s j T w t)(hk:k<s.j)(oW:s.ph k=4)(hg:gs[x.m0+k]?=some g)(hkd:(T (x.m0+k)).kind=0)
 (hS:x.AtD1 (T (x.m0+k)).O g w) (sl:Option (Nat × Nat)):x.Goes tz Sx s gs w t sl (x.m0+k):=by
 obtain⟨ok,hwg,hnx,a,r,tm,hch⟩:=hP.zJ
 obtain⟨hd,hdf,hrl⟩:=wd hG hP hk hkd
 rw[oW] at hd
 obtain⟨h1,h2,h3⟩:=ok.early hk (by omega)
 have hm4:4<=s.mp:=Nat.le_of_not_lt λy=>by have:=ok.j0 y;omega
 have hvl:=Uk ok
 have hn:=F.n1
 obtain⟨r0,hr0⟩:=hrl (by omega)
 have hr:∀ p,3<=p->∃ r,jl x.Wg (x.m0+k) r (t++MemOp.ofEvents (x.m0+k) g.frame.fn g.frame.place #[rd (stA x.Wg),wr (stA x.Wg)]):=λ_ _=>⟨r0,hr0.deaf (by rw[hdf,hd];decide) λe he=>by
  have:e=rd (stA x.Wg)\/e=wr (stA x.Wg):=by simpa using he
  rcases this with rfl|rfl
  .exact⟨rfl,stA x.Wg,rfl,rfl⟩
  .exact⟨rfl,stA x.Wg,rfl,rfl⟩⟩
 have Yn:∀ v,x.I7 (w.setCell (stA x.Wg) (.int .u64 v)) s.c:=λv=>(aY w _ _ (Ne.symm F.wn)).trans hnx
 have hch':∀ v,(w.setCell (stA x.Wg) (.int .u64 v)).heap[x.Ch]?=some (.chan x.len (s.bl.map x.sight).toArray false a r tm):=λv=>(aY w _ _ (Ne.symm F.wc)).trans hch
 by_cases Yo:s.mp=7\/s.mp=8
 .obtain⟨hl0,hv0⟩:=h3 Yo
  have o_:x.iN s=x.v s*KK+1:=by unfold Cx.iN;rw[if_neg (by omega),if_neg (by omega),if_pos (by omega),if_pos hl0]
  have zf:jq s=0:=by unfold jq;rw[if_neg (by omega)]
  obtain⟨v',hv'⟩:∃ v',x.v s=v'+1:=⟨x.v s-1,by omega⟩
  rw[o_,zf,hv'] at hwg
  obtain⟨g',hst,hA,hB⟩:=hS.2 v' 1 (Nat.le_refl _) (by omega) (by simpa using hwg)
  by_cases hz:v'=0
  .subst hz
   obtain⟨m,hgo⟩:=hA ⟨rfl,rfl⟩
   have hvd:=KH (x:=x) (lp:=5) hk (show s.ph k<=4 by omega) (p:=5) (by omega)
   have hok:=Ja ok hk oW (p:=5) (lp:=5) (.inr ⟨rfl,rfl,Yo,by omega⟩)
   refine pY hG hP hk hg hst (oZ hwg _) (s':={ s with ph:=upd s.ph k 5,lp:=5 }) rfl rfl rfl rfl (λi hi=>rfl) (iJ hk (by omega) (by omega) (by omega) (by omega)) ⟨hok,?_,Yn _,a,r,tm,hch' _⟩ (p8 hG (bZ _ _ _)) (.inr λ_=>(by simp))
    (dX:=⟨0,true,x.AtD2,(T (x.m0+k)).O,_,0,1⟩) (.inl ⟨rfl,ze F.C (λ_ _ y=>y.1) hgo,kN.refl (λ_ h=>h) _⟩) rfl ⟨?_,rfl,by simp,by simp,λ_=>rfl⟩ (by rw[hd];rfl) (hr 5) sl
   .have e1:x.iN { s with ph:=upd s.ph k 5,lp:=5 }=1:=by unfold Cx.iN;simp only;rw[if_neg (by omega),if_neg (by omega),if_pos (by omega)];rfl
    have e2:jq { s with ph:=upd s.ph k 5,lp:=5 }=0:=by unfold jq;simp
    rw[e1,e2]
    have:=hwg.setSt (((0:Nat):Int)*KK+((1:Nat):Int))
    simpa using this
   .unfold Cx.Sw
    simp only[upd_same]
  .obtain⟨qn,hq⟩:=hB λy=>hz y.1
   have hvd:=KH (x:=x) (lp:=s.lp) hk (show s.ph k<=4 by omega) (p:=8) (by omega)
   have hok:=Ja ok hk oW (p:=8) (lp:=s.lp) (.inl ⟨rfl,rfl,λ_=>by omega⟩)
   refine pY hG hP hk hg hst (oZ hwg _) (s':={ s with ph:=upd s.ph k 8,lp:=s.lp }) rfl rfl rfl rfl (λi hi=>rfl) (iJ hk (by omega) (by omega) (by omega) (by omega)) ⟨hok,?_,Yn _,a,r,tm,hch' _⟩ (p8 hG (bZ _ _ _)) (.inr λy=>y)
    (dX:=⟨1,true,x.AtD4,(T (x.m0+k)).O,w,qn,1⟩) (.inr (.inl ⟨rfl,rfl,hq⟩)) rfl ⟨?_,rfl,by simp,by simp,λy=>absurd rfl y⟩ (by rw[hd];rfl) (hr 8) sl
   .have e1:x.iN { s with ph:=upd s.ph k 8,lp:=s.lp }=(v':Int)*KK+((1:Nat):Int):=by
     unfold Cx.iN
     simp only
     rw[if_neg (by omega),if_neg (by omega),if_pos (by omega),if_pos hl0]
     have:x.v { s with ph:=upd s.ph k 8,lp:=s.lp }=v':=by omega
     rw[this]
     rfl
    have e2:jq { s with ph:=upd s.ph k 8,lp:=s.lp }=0:=zf
    rw[e1,e2]
    exact hwg.setSt _
   .unfold Cx.Sw
    simp only[upd_same]
 .have o_:x.iN s=x.v s*KK:=by unfold Cx.iN;rw[if_neg (by omega),if_pos (by omega)]
  have zf:jq s=0:=by unfold jq;rw[if_neg (by omega)]
  have hvd:=KH (x:=x) (lp:=s.lp) hk (show s.ph k<=4 by omega) (p:=8) (by omega)
  obtain⟨v',hv'⟩:∃ v',x.v s=v'+1:=⟨x.v s-1,by omega⟩
  rw[o_,zf,hv'] at hwg
  obtain⟨g',hst,_,hB⟩:=hS.2 v' 0 (by omega) (by omega) (by simpa using hwg)
  obtain⟨qn,hq⟩:=hB λy=>absurd y.2 (by decide)
  have hok:=Ja ok hk oW (p:=8) (lp:=s.lp) (.inl ⟨rfl,rfl,λy=>absurd y Yo⟩)
  refine pY hG hP hk hg hst (oZ hwg _) (s':={ s with ph:=upd s.ph k 8,lp:=s.lp }) rfl rfl rfl rfl (λi hi=>rfl) (iJ hk (by omega) (by omega) (by omega) (by omega)) ⟨hok,?_,Yn _,a,r,tm,hch' _⟩ (p8 hG (bZ _ _ _)) (.inr λy=>y)
   (dX:=⟨1,true,x.AtD4,(T (x.m0+k)).O,w,qn,1⟩) (.inr (.inl ⟨rfl,rfl,hq⟩)) rfl ⟨?_,rfl,by simp,by simp,λy=>absurd rfl y⟩ (by rw[hd];rfl) (hr 8) sl
  .have e1:x.iN { s with ph:=upd s.ph k 8,lp:=s.lp }=(v':Int)*KK+((0:Nat):Int):=by
    unfold Cx.iN
    simp only
    rw[if_neg (by omega),if_pos (by omega)]
    have:x.v { s with ph:=upd s.ph k 8,lp:=s.lp }=v':=by omega
    rw[this]
    simp
   have e2:jq { s with ph:=upd s.ph k 8,lp:=s.lp }=0:=zf
   rw[e1,e2]
   exact hwg.setSt _
  .unfold Cx.Sw
   simp only[upd_same]
end
section
variable {x:Cx} {tz:Nat} {Sx:Nat->Prop} {s:Sg} {j:Nat} {T:Nat->Th} {q:Nat->Nat} {gs:Array Goroutine} {w:World} {t:Trace} {k:Nat} {g:Goroutine}
theorem zh{a:Addr}{e:Event}(h:e∈#[rd a]):e∈#[rd a,wr a]:=by
 have:e=rd a:=by simpa using h
 simp[this]
theorem Yp{a:Addr}{e:Event}(h:e∈#[wr a]):e∈#[rd a,wr a]:=by
 have:e=wr a:=by simpa using h
 simp[this]
theorem Dr(h:x.ok s)(hk:k<s.j){p:Nat}(h5:5<=s.ph k)(hp:p=s.ph k+1)(hp8:p<=8):x.ok { s with ph:=upd s.ph k p,lp:=p }:=by
 obtain⟨hm,hl,ho⟩:=h.last k hk h5 (by omega)
 have hpt:x.nu { s with ph:=upd s.ph k p,lp:=p }<x.nu s:=iJ hk (by omega) (by omega) (by omega) (by omega)
 refine⟨h.jn,h.j0,h.jN,h.mp,λi hi=>?_,λi hi y=>?_,λi hi y z=>?_,λy=>?_,λy=>?_,λy=>?_,?_,?_⟩
 .by_cases hik:i=k
  .subst hik;simp only[upd_same];omega
  .simp only[upd_ne _ _ hik];exact h.Yj i hi
 .by_cases hik:i=k
  .subst hik;exact h.late i hi (by omega)
  .simp only[upd_ne _ _ hik] at y;exact h.late i hi y
 .by_cases hik:i=k
  .subst hik
   simp only[upd_same] at y z ⊢
   refine⟨hm,trivial,λi' hi' hne=>?_⟩
   simp only[upd_ne _ _ hne]
   exact ho i' hi' hne
  .simp only[upd_ne _ _ hik] at y z
   have:=ho i hi hik
   omega
 .by_cases h8:p=8
  .refine .inr (.inr ⟨h8,λi hi=>?_⟩)
   by_cases hik:i=k
   .subst hik;simp only[upd_same];exact h8
   .simp only[upd_ne _ _ hik];exact ho i hi hik
  .exact .inr (.inl ⟨by simp only;omega,by simp only;omega,k,hk,by simp[upd_same]⟩)
 .simp only at y;omega
 .simp only at y;omega
 .rw[mV (by omega) (by omega)];exact h.perm
 .have:=h.big
  simp only
  omega
theorem afi[Payload](F:x.Fit)(hG:GI x.P x.m0 tz Sx x.dP x.Fz x.Sh x.Ex j T q gs w t)(hP:PI x.jU x.Wg x.m0 s j T w t)(hk:k<s.j)(oW:s.ph k=5)(hg:gs[x.m0+k]?=some g)(hkd:(T (x.m0+k)).kind=0)
 (hS:x.AtD2 (T (x.m0+k)).O g w) (sl:Option (Nat × Nat)):x.Goes tz Sx s gs w t sl (x.m0+k):=by
 obtain⟨ok,hwg,hnx,a,r,tm,hch⟩:=hP.zJ
 obtain⟨hd,hdf,hrl⟩:=wd hG hP hk hkd
 rw[oW] at hd
 obtain⟨hm,hl,ho⟩:=ok.last k hk (by omega) (by omega)
 have o_:x.iN s=1:=by unfold Cx.iN;rw[if_neg (by omega),if_neg (by omega),if_pos (by omega),if_neg (by omega),if_pos (by omega)]
 have zf:jq s=0:=by unfold jq;rw[if_neg (by omega)]
 rw[o_,zf] at hwg
 obtain⟨g',hst,m,hgo⟩:=hS.2 hwg
 obtain⟨r0,hr0⟩:=hrl (by omega)
 have hev:=p8 hG (i:=x.m0+k) (w':=w) rfl
 refine pY hG hP hk hg hst (Cx.Only.refl w) (s':={ s with ph:=upd s.ph k 6,lp:=6 }) rfl rfl rfl rfl (λi hi=>rfl) (iJ hk (by omega) (by omega) (by omega) (by omega)) ⟨Dr ok hk (by omega) (by omega) (by omega),?_,hnx,a,r,tm,hch⟩ (λe he=>hev e (zh he)) (.inr λ_=>(by simp))
  (dX:=⟨0,true,x.AtD3,(T (x.m0+k)).O,w,0,1⟩) (.inl ⟨rfl,ze F.C (λ_ _ y=>y.1) hgo,kN.refl (λ_ h=>h) _⟩) rfl ⟨?_,rfl,by simp,by simp,λ_=>rfl⟩ (by rw[hd];rfl) (λ_=>⟨r0,hr0.deaf (by rw[hdf,hd];decide) λe he=>?_⟩) sl
 .have e1:x.iN { s with ph:=upd s.ph k 6,lp:=6 }=1:=by unfold Cx.iN;simp only;rw[if_neg (by omega),if_neg (by omega),if_pos (by omega)];rfl
  have e2:jq { s with ph:=upd s.ph k 6,lp:=6 }=0:=by unfold jq;simp
  rw[e1,e2];exact hwg
 .unfold Cx.Sw
  simp only[upd_same]
 .have:e=rd (stA x.Wg):=by simpa using he
  subst this
  exact⟨rfl,stA x.Wg,rfl,rfl⟩
theorem afj[Payload](F:x.Fit)(hG:GI x.P x.m0 tz Sx x.dP x.Fz x.Sh x.Ex j T q gs w t)(hP:PI x.jU x.Wg x.m0 s j T w t)(hk:k<s.j)(oW:s.ph k=6)(hg:gs[x.m0+k]?=some g)(hkd:(T (x.m0+k)).kind=0)
 (hS:x.AtD3 (T (x.m0+k)).O g w) (sl:Option (Nat × Nat)):x.Goes tz Sx s gs w t sl (x.m0+k):=by
 obtain⟨ok,hwg,hnx,a,r,tm,hch⟩:=hP.zJ
 obtain⟨hd,hdf,hrl⟩:=wd hG hP hk hkd
 rw[oW] at hd
 obtain⟨hm,hl,ho⟩:=ok.last k hk (by omega) (by omega)
 have o_:x.iN s=1:=by unfold Cx.iN;rw[if_neg (by omega),if_neg (by omega),if_pos (by omega),if_neg (by omega),if_pos (by omega)]
 have zf:jq s=0:=by unfold jq;rw[if_neg (by omega)]
 rw[o_,zf] at hwg
 obtain⟨g',hst,m,hgo⟩:=hS.2 hwg
 obtain⟨r0,hr0⟩:=hrl (by omega)
 have hev:=p8 hG (i:=x.m0+k) (w':=w.setCell (stA x.Wg) (.int .u64 0)) (bZ _ _ _)
 refine pY hG hP hk hg hst (oZ hwg _) (s':={ s with ph:=upd s.ph k 7,lp:=7 }) rfl rfl rfl rfl (λi hi=>rfl) (iJ hk (by omega) (by omega) (by omega) (by omega)) ⟨Dr ok hk (by omega) (by omega) (by omega),?_,(aY w _ _ (Ne.symm F.wn)).trans hnx,a,r,tm,(aY w _ _ (Ne.symm F.wc)).trans hch⟩ (λe he=>hev e (Yp he)) (.inr λ_=>(by simp))
  (dX:=⟨0,true,x.AtD4,(T (x.m0+k)).O,_,0,1⟩) (.inl ⟨rfl,ze F.C (λ_ _ y=>y.1) hgo,kN.refl (λ_ h=>h) _⟩) rfl ⟨?_,rfl,by simp,by simp,λ_=>rfl⟩ (by rw[hd];rfl) (λ_=>⟨r0,hr0.deaf (by rw[hdf,hd];decide) λe he=>?_⟩) sl
 .have e1:x.iN { s with ph:=upd s.ph k 7,lp:=7 }=0:=by unfold Cx.iN;simp only;rw[if_neg (by omega),if_neg (by omega),if_pos (by omega)];rfl
  have e2:jq { s with ph:=upd s.ph k 7,lp:=7 }=0:=by unfold jq;simp
  rw[e1,e2];exact hwg.setSt 0
 .unfold Cx.Sw
  simp only[upd_same]
 .have:e=wr (stA x.Wg):=by simpa using he
  subst this
  exact⟨rfl,stA x.Wg,rfl,rfl⟩
theorem afk[Payload](F:x.Fit)(hG:GI x.P x.m0 tz Sx x.dP x.Fz x.Sh x.Ex j T q gs w t)(hP:PI x.jU x.Wg x.m0 s j T w t)(hk:k<s.j)(oW:s.ph k=7)(hg:gs[x.m0+k]?=some g)(hkd:(T (x.m0+k)).kind=0)
 (hS:x.AtD4 (T (x.m0+k)).O g w) (sl:Option (Nat × Nat)):x.Goes tz Sx s gs w t sl (x.m0+k):=by
 obtain⟨ok,hwg,hnx,a,r,tm,hch⟩:=hP.zJ
 obtain⟨hd,hdf,hrl⟩:=wd hG hP hk hkd
 rw[oW] at hd
 obtain⟨hm,hl,ho⟩:=ok.last k hk (by omega) (by omega)
 have o_:x.iN s=0:=by unfold Cx.iN;rw[if_neg (by omega),if_neg (by omega),if_pos (by omega),if_neg (by omega),if_neg (by omega)]
 have zf:jq s=0:=by unfold jq;rw[if_neg (by omega)]
 rw[o_,zf] at hwg
 obtain⟨_,hmay,hgo⟩:=hS
 obtain⟨g',hst,qn,hq⟩:=hgo hwg
 obtain⟨r0,hr0⟩:=hrl (by omega)
 have hW:(smA x.Wg).block<(w.setCell (smA x.Wg) (.int .u32 1)).heap.size:=by rw[bZ];exact(hG.shl x.Wg (.inl rfl)).1
 have hwk:wk x.P g g'=true:=by
  unfold wk
  rw[hmay]
  rcases hq.status with y|y<;>rw[y]<;>rfl
 refine pY hG hP hk hg hst (KG hwg _) (s':={ s with ph:=upd s.ph k 8,lp:=8 }) rfl rfl rfl rfl (λi hi=>rfl) (iJ hk (by omega) (by omega) (by omega) (by omega)) ⟨Dr ok hk (by omega) (by omega) (by omega),?_,(aY w _ _ (Ne.symm F.wn)).trans hnx,a,r,tm,(aY w _ _ (Ne.symm F.wc)).trans hch⟩ (λe he=>⟨KC (.inl rfl) hW e he,?_⟩) (.inl hwk)
  (dX:=⟨1,true,x.AtD4,(T (x.m0+k)).O,w,qn,1⟩) (.inr (.inl ⟨rfl,rfl,hq⟩)) rfl ⟨?_,rfl,by simp,by simp,λy=>absurd rfl y⟩ (by rw[hd];rfl) (λ_=>⟨r0,hr0.sem⟩) sl
 .have e1:x.iN { s with ph:=upd s.ph k 8,lp:=8 }=0:=by unfold Cx.iN;simp only;rw[if_neg (by omega),if_neg (by omega),if_pos (by omega)];rfl
  have e2:jq { s with ph:=upd s.ph k 8,lp:=8 }=1:=by unfold jq;simp only;rw[if_pos ⟨hm,trivial⟩]
  rw[e1,e2];exact hwg.setSm 1
 .have:e=ConcR.mk .disable\/e=rd (smA x.Wg)\/e=wr (smA x.Wg)\/e=ConcR.mk .enable:=by simpa [semEvents,ConcR.mk,rd,wr] using he
  rcases this with rfl|rfl|rfl|rfl<;>simp[MemAct.ofEvent,ConcR.mk,rd,wr]
 .unfold Cx.Sw
  simp only[upd_same]
end
section
variable {x:Cx} {tz:Nat} {Sx:Nat->Prop} {s:Sg} {j:Nat} {T:Nat->Th} {q:Nat->Nat} {gs:Array Goroutine} {w:World} {t:Trace} {g:Goroutine}
theorem rT{m vs lp:Nat}(h:x.mw { s with mp:=m,vs:=vs,lp:=lp }<x.mw s):x.nu { s with mp:=m,vs:=vs,lp:=lp }<x.nu s:=by
 unfold Cx.nu
 simp only
 omega
theorem uP(h:x.ok s){m vs lp:Nat}(a1:m<4->s.j=0)(a2:4<m->s.j=x.n)(a3:m<=11)
 (a4:∀ i,i<s.j->5<=s.ph i->s.ph i<=7->(m=7\/m=8)/\lp=s.ph i)
 (a5:(m=7\/m=8)->(lp=0/\0<x.v s)\/(5<=lp/\lp<=7/\∃ i,i<s.j/\s.ph i=lp)\/(lp=8/\∀ i,i<s.j->s.ph i=8))
 (a6:9<=m->∀ i,i<s.j->s.ph i=8) (a7:m=6->1<=vs/\x.v s<=vs) (hw:x.mw { s with mp:=m,vs:=vs,lp:=lp }<x.mw s):x.ok { s with mp:=m,vs:=vs,lp:=lp } :=
 ⟨h.jn,a1,a2,a3,h.Yj,h.late,λi hi y z=>⟨(a4 i hi y z).1,(a4 i hi y z).2,(h.last i hi y z).2.2⟩,a5,a6,a7,h.perm,by
  have:=rT hw
  have:=h.big
  simp only
  omega⟩
theorem gX(h:x.ok s)(hm:s.mp≠7/\s.mp≠8):∀ i,i<s.j->5<=s.ph i->s.ph i<=7->False:=λi hi y z=>by
 have:=(h.last i hi y z).1
 omega
theorem zi{m:Mark}{B:Nat}(h1:(MemAct.mark m).touch?=none)(h2:(MemAct.mark m).low B)(h3:m≠.release (sA x.Wg)):∀ e∈#[ConcR.mk m],M0 x.dP x.Fz (λg b=>(T g).O b) 0 B e/\MemAct.ofEvent e≠.mark (.release (sA x.Wg)):=λe he=>by
 have:e=ConcR.mk m:=by simpa using he
 subst this
 exact⟨y9 h1 h2,λy=>h3 (by injection y)⟩
theorem Qo{m:Mark}{a:Addr}{B:Nat}(hm:m=.read a\/m=.write a)(ha:a.block=x.Wg)(hb:x.Wg<B):∀ e∈#[ConcR.mk m],M0 x.dP x.Fz (λg b=>(T g).O b) 0 B e/\MemAct.ofEvent e≠.mark (.release (sA x.Wg)):=λe he=>by
 have:e=ConcR.mk m:=by simpa using he
 subst this
 exact⟨Qk hm (.inl ha) (ha▸hb),λy=>by
  have:m=.release (sA x.Wg):=by injection y
  rcases hm with z|z<;>rw[z] at this<;>cases this⟩
theorem M4[Payload](hG:GI x.P x.m0 tz Sx x.dP x.Fz x.Sh x.Ex j T q gs w t)(hP:PI x.jU x.Wg x.m0 s j T w t)(hg:gs[0]?=some g)(hk0:(T 0).kind=0){mk:Mark}{S:(Nat->Prop)->Goroutine->World->Prop}(hS:x.Gi mk S (T 0).O g w){m vs lp:Nat}
 (hok:x.ok { s with mp:=m,vs:=vs,lp:=lp }) (hst:x.iN { s with mp:=m,vs:=vs,lp:=lp }=x.iN s) (hsm:jq { s with mp:=m,vs:=vs,lp:=lp }=jq s) (hw:x.mw { s with mp:=m,vs:=vs,lp:=lp }<x.mw s)
 (hev:∀ e∈#[ConcR.mk mk],M0 x.dP x.Fz (λg b=>(T g).O b) 0 w.heap.size e/\MemAct.ofEvent e≠.mark (.release (sA x.Wg))) (hSm:∀ O g w,x.GX S O g w->x.GX (x.Sm { s with mp:=m,vs:=vs,lp:=lp }) O g w)
 (hd:deafBehind (if s.mp=0\/s.mp=4\/s.mp=11 then 0 else 1) #[ConcR.mk mk]=if m=0\/m=4\/m=11 then 0 else 1) (sl:Option (Nat × Nat)):x.Goes tz Sx s gs w t sl 0:=by
 obtain⟨_,hwg,hnx,hch⟩:=hP.zJ
 obtain⟨g',hstp,hco⟩:=hS
 exact vk hG hP hg hk0 hstp (Cx.Only.refl w) (s':={ s with mp:=m,vs:=vs,lp:=lp }) rfl rfl rfl (rT hw) ⟨hok,by rw[hst,hsm];exact hwg,hnx,hch⟩ hev (λw' r=>hSm _ _ _ (hco w' r)) hd sl
theorem NA{m vs lp:Nat}:x.v { s with mp:=m,vs:=vs,lp:=lp }=x.v s:=rfl
theorem acG[Payload](F:x.Fit)(hG:GI x.P x.m0 tz Sx x.dP x.Fz x.Sh x.Ex j T q gs w t)(hP:PI x.jU x.Wg x.m0 s j T w t)(hg:gs[0]?=some g)(hk0:(T 0).kind=0)(hm:s.mp=1)(hS:x.Uj (T 0).O g w)(sl:Option (Nat × Nat)):x.Goes tz Sx s gs w t sl 0:=by
 obtain⟨ok,hwg,hnx,a,r,tm,hch⟩:=hP.zJ
 have hj:=ok.j0 (by omega)
 have e0:x.iN s=0:=by unfold Cx.iN;rw[if_pos (by omega)]
 have e1:jq s=0:=by unfold jq;rw[if_neg (by omega)]
 have hv:x.v s=x.n:=by unfold Cx.v cnt;rw[hj];simp[sumTo]
 rw[e0,e1] at hwg
 obtain⟨g',hst,hco⟩:=hS hwg
 have hmw:x.mw { s with mp:=2,vs:=s.vs,lp:=s.lp }<x.mw s:=by unfold Cx.mw;simp only[hm];simp
 refine vk hG hP hg hk0 hst (oZ hwg _) (s':={ s with mp:=2,vs:=s.vs,lp:=s.lp }) rfl rfl rfl (rT hmw) ⟨uP ok (λ_=>hj) (λy=>by omega) (by omega) (λi hi=>by omega) (λy=>by omega) (λy=>by omega) (λy=>by omega) hmw,?_,(aY w _ _ (Ne.symm F.wn)).trans hnx,a,r,tm,(aY w _ _ (Ne.symm F.wc)).trans hch⟩ (p8 hG (bZ _ _ _)) hco (by simp only[hm];rfl) sl
 have e2:x.iN { s with mp:=2,vs:=s.vs,lp:=s.lp }=x.n*KK:=by unfold Cx.iN;simp only[NA,hv];rfl
 have e3:jq { s with mp:=2,vs:=s.vs,lp:=s.lp }=0:=by unfold jq;simp
 rw[e2,e3]
 exact hwg.setSt _
theorem Yq[Payload](F:x.Fit)(hG:GI x.P x.m0 tz Sx x.dP x.Fz x.Sh x.Ex j T q gs w t)(hP:PI x.jU x.Wg x.m0 s j T w t)(hg:gs[0]?=some g)(hk0:(T 0).kind=0)(hm:s.mp=5)(hS:x.AtW1 (T 0).O g w)(sl:Option (Nat × Nat)):x.Goes tz Sx s gs w t sl 0:=by
 obtain⟨ok,hwg,hnx,hch⟩:=hP.zJ
 have e0:x.iN s=x.v s*KK:=by unfold Cx.iN;rw[if_neg (by omega),if_pos (by omega)]
 have e1:jq s=0:=by unfold jq;rw[if_neg (by omega)]
 have hvl:=Uk ok
 have hn:=F.n1
 rw[e0,e1] at hwg
 obtain⟨g',hst,hco⟩:=hS (x.v s) (by omega) hwg
 have hev:=p8 hG (i:=0) (w':=w) rfl
 have hno:=gX ok (by omega)
 have hj:=ok.jN (by omega)
 by_cases hv:x.v s=0
 .have hmw:x.mw { s with mp:=10,vs:=s.vs,lp:=s.lp }<x.mw s:=by unfold Cx.mw;simp only[hm];simp
  have h8:∀ i,i<s.j->s.ph i=8:=λi hi=>by
   have hc:cnt s=0:=by unfold Cx.v at hv;omega
   have h5:=Gj hc i hi
   have h8:=ok.Yj i hi
   exact Classical.byContradiction λhne=>hno i hi h5 (by omega)
  refine vk hG hP hg hk0 hst (Cx.Only.refl w) (s':={ s with mp:=10,vs:=s.vs,lp:=s.lp }) rfl rfl rfl (rT hmw) ⟨uP ok (λy=>by omega) (λ_=>hj) (by omega) (λi hi y z=>(hno i hi y z).elim) (λy=>by omega) (λ_=>h8) (λy=>by omega) hmw,?_,hnx,hch⟩ (λe he=>hev e (zh he)) (λw' r=>(hco w' r).1 hv) (by simp only[hm];rfl) sl
  have e2:x.iN { s with mp:=10,vs:=s.vs,lp:=s.lp }=0:=by unfold Cx.iN;simp
  have e3:jq { s with mp:=10,vs:=s.vs,lp:=s.lp }=0:=by unfold jq;simp
  rw[e2,e3]
  rw[hv] at hwg
  simpa using hwg
 .have hmw:x.mw { s with mp:=6,vs:=x.v s,lp:=s.lp }<x.mw s:=by unfold Cx.mw;simp only[hm];simp
  refine vk hG hP hg hk0 hst (Cx.Only.refl w) (s':={ s with mp:=6,vs:=x.v s,lp:=s.lp }) rfl rfl rfl (rT hmw) ⟨uP ok (λy=>by omega) (λ_=>hj) (by omega) (λi hi y z=>(hno i hi y z).elim) (λy=>by omega) (λy=>by omega) (λ_=>⟨by omega,Nat.le_refl _⟩) hmw,?_,hnx,hch⟩ (λe he=>hev e (zh he)) (λw' r=>(hco w' r).2 hv) (by simp only[hm];rfl) sl
  have e2:x.iN { s with mp:=6,vs:=x.v s,lp:=s.lp }=x.v s*KK:=by unfold Cx.iN;simp only[NA];rfl
  have e3:jq { s with mp:=6,vs:=x.v s,lp:=s.lp }=0:=by unfold jq;simp
  rw[e2,e3]
  exact hwg
theorem acH[Payload](F:x.Fit)(hAW:∀ O g w,x.AnchW O g w->x.GX x.AtW1 O g w)(hG:GI x.P x.m0 tz Sx x.dP x.Fz x.Sh x.Ex j T q gs w t)(hP:PI x.jU x.Wg x.m0 s j T w t)(hg:gs[0]?=some g)(hk0:(T 0).kind=0)(hm:s.mp=6)(hS:x.AtW2 s.vs (T 0).O g w)(sl:Option (Nat × Nat)):x.Goes tz Sx s gs w t sl 0:=by
 obtain⟨ok,hwg,hnx,a,r,tm,hch⟩:=hP.zJ
 have e0:x.iN s=x.v s*KK:=by unfold Cx.iN;rw[if_neg (by omega),if_pos (by omega)]
 have e1:jq s=0:=by unfold jq;rw[if_neg (by omega)]
 have hvl:=Uk ok
 have hn:=F.n1
 rw[e0,e1] at hwg
 have hno:=gX ok (by omega)
 have hj:=ok.jN (by omega)
 have hcas:=ok.cas hm
 obtain⟨hA,hB⟩:=hS (x.v s) (by omega) hwg
 by_cases hv:x.v s=s.vs
 .obtain⟨g',hst,hco⟩:=hA hv
  have hmw:x.mw { s with mp:=7,vs:=s.vs,lp:=0 }<x.mw s:=by unfold Cx.mw;simp only[hm];simp;omega
  refine vk hG hP hg hk0 hst (oZ hwg _) (s':={ s with mp:=7,vs:=s.vs,lp:=0 }) rfl rfl rfl (rT hmw) ⟨uP ok (λy=>by omega) (λ_=>hj) (by omega) (λi hi y z=>(hno i hi y z).elim) (λ_=>.inl ⟨rfl,by omega⟩) (λy=>by omega) (λy=>by omega) hmw,?_,(aY w _ _ (Ne.symm F.wn)).trans hnx,a,r,tm,(aY w _ _ (Ne.symm F.wc)).trans hch⟩ (p8 hG (bZ _ _ _)) hco (by simp only[hm];rfl) sl
  have e2:x.iN { s with mp:=7,vs:=s.vs,lp:=0 }=x.v s*KK+1:=by unfold Cx.iN;simp only[NA];rfl
  have e3:jq { s with mp:=7,vs:=s.vs,lp:=0 }=0:=by unfold jq;simp
  rw[e2,e3]
  exact hwg.setSt _
 .obtain⟨g',hst,hco⟩:=hB hv
  have hev:=p8 hG (i:=0) (w':=w) rfl
  have hmw:x.mw { s with mp:=5,vs:=s.vs,lp:=s.lp }<x.mw s:=by unfold Cx.mw;simp only[hm,NA];simp;omega
  refine vk hG hP hg hk0 hst (Cx.Only.refl w) (s':={ s with mp:=5,vs:=s.vs,lp:=s.lp }) rfl rfl rfl (rT hmw) ⟨uP ok (λy=>by omega) (λ_=>hj) (by omega) (λi hi y z=>(hno i hi y z).elim) (λy=>by omega) (λy=>by omega) (λy=>by omega) hmw,?_,hnx,a,r,tm,hch⟩ (λe he=>hev e (zh he)) (λw' r=>(hco w' r).bind (λ_ h=>h) hAW) (by simp only[hm];rfl) sl
  have e2:x.iN { s with mp:=5,vs:=s.vs,lp:=s.lp }=x.v s*KK:=by unfold Cx.iN;simp only[NA];rfl
  have e3:jq { s with mp:=5,vs:=s.vs,lp:=s.lp }=0:=by unfold jq;simp
  rw[e2,e3]
  exact hwg
theorem acI[Payload](F:x.Fit)(hG:GI x.P x.m0 tz Sx x.dP x.Fz x.Sh x.Ex j T q gs w t)(hP:PI x.jU x.Wg x.m0 s j T w t)(hg:gs[0]?=some g)(hk0:(T 0).kind=0)(hm:s.mp=8)(hS:x.AtW3 (T 0).O g w)(sl:Option (Nat × Nat)) :
 (stepG x.P true g w=.go { g with status:=.blocked } w #[]/\g.offers=none/\x.jU.Uf s)\/x.Goes tz Sx s gs w t sl 0:=by
 obtain⟨ok,hwg,hnx,a,r,tm,hch⟩:=hP.zJ
 obtain⟨ho,hA,hB⟩:=hS
 by_cases h8:s.lp=8
 .have e0:x.iN s=0:=by unfold Cx.iN;rw[if_neg (by omega),if_neg (by omega),if_pos (by omega),if_neg (by omega),if_neg (by omega)]
  have e1:jq s=1:=by unfold jq;rw[if_pos ⟨.inr hm,h8⟩]
  rw[e0,e1] at hwg
  obtain⟨g',hst,hco⟩:=hB hwg
  have hj:=ok.jN (by omega)
  have hall:∀ i,i<s.j->s.ph i=8:=by
   rcases ok.reg (.inr hm) with y|y|y
   .omega
   .omega
   .exact y.2
  have hmw:x.mw { s with mp:=9,vs:=s.vs,lp:=s.lp }<x.mw s:=by unfold Cx.mw;simp only[hm];simp
  have hW:(smA x.Wg).block<(w.setCell (smA x.Wg) (.int .u32 0)).heap.size:=by rw[bZ];exact(hG.shl x.Wg (.inl rfl)).1
  refine .inr (vk hG hP hg hk0 hst (KG hwg _) (s':={ s with mp:=9,vs:=s.vs,lp:=s.lp }) rfl rfl rfl (rT hmw) ⟨uP ok (λy=>by omega) (λ_=>hj) (by omega) (λi hi y z=>by have:=hall i hi;omega) (λy=>by omega) (λ_=>hall) (λy=>by omega) hmw,?_,(aY w _ _ (Ne.symm F.wn)).trans hnx,a,r,tm,(aY w _ _ (Ne.symm F.wc)).trans hch⟩ (λe he=>⟨KC (.inl rfl) hW e he,?_⟩) hco (by simp only[hm];rfl) sl)
  .have e2:x.iN { s with mp:=9,vs:=s.vs,lp:=s.lp }=0:=by unfold Cx.iN;simp
   have e3:jq { s with mp:=9,vs:=s.vs,lp:=s.lp }=0:=by unfold jq;simp
   rw[e2,e3]
   exact hwg.setSm 0
  .have:e=ConcR.mk .disable\/e=rd (smA x.Wg)\/e=wr (smA x.Wg)\/e=ConcR.mk .enable:=by simpa [semEvents,ConcR.mk,rd,wr] using he
   rcases this with rfl|rfl|rfl|rfl<;>simp[MemAct.ofEvent,ConcR.mk,rd,wr]
 .have e1:jq s=0:=by unfold jq;rw[if_neg (λy=>h8 y.2)]
  rw[e1] at hwg
  exact .inl ⟨hA ⟨_,hwg⟩,ho,hm,h8⟩
theorem Yr[Payload](hG:GI x.P x.m0 tz Sx x.dP x.Fz x.Sh x.Ex j T q gs w t)(hP:PI x.jU x.Wg x.m0 s j T w t)(hg:gs[0]?=some g)(hk0:(T 0).kind=0)(hm:s.mp=9)(hS:x.AtW4 (T 0).O g w)(sl:Option (Nat × Nat)):x.Goes tz Sx s gs w t sl 0:=by
 obtain⟨ok,hwg,hnx,hch⟩:=hP.zJ
 have e0:x.iN s=0:=by unfold Cx.iN;rw[if_neg (by omega),if_neg (by omega),if_neg (by omega)]
 have e1:jq s=0:=by unfold jq;rw[if_neg (by omega)]
 rw[e0,e1] at hwg
 obtain⟨g',hst,hco⟩:=hS hwg
 have hev:=p8 hG (i:=0) (w':=w) rfl
 have hno:=gX ok (by omega)
 have hmw:x.mw { s with mp:=10,vs:=s.vs,lp:=s.lp }<x.mw s:=by unfold Cx.mw;simp only[hm];simp
 refine vk hG hP hg hk0 hst (Cx.Only.refl w) (s':={ s with mp:=10,vs:=s.vs,lp:=s.lp }) rfl rfl rfl (rT hmw) ⟨uP ok (λy=>by omega) (λ_=>ok.jN (by omega)) (by omega) (λi hi y z=>(hno i hi y z).elim) (λy=>by omega) (λ_=>ok.fin (by omega)) (λy=>by omega) hmw,?_,hnx,hch⟩ (λe he=>hev e (zh he)) hco (by simp only[hm];rfl) sl
 have e2:x.iN { s with mp:=10,vs:=s.vs,lp:=s.lp }=0:=by unfold Cx.iN;simp
 have e3:jq { s with mp:=10,vs:=s.vs,lp:=s.lp }=0:=by unfold jq;simp
 rw[e2,e3]
 exact hwg
end
section
variable [Payload] {x:Cx} {tz:Nat} {Sx:Nat->Prop} {s:Sg} {j:Nat} {T:Nat->Th} {q:Nat->Nat} {gs:Array Goroutine} {w:World} {t:Trace} {g:Goroutine}
theorem afl(hG:GI x.P x.m0 tz Sx x.dP x.Fz x.Sh x.Ex j T q gs w t)(hP:PI x.jU x.Wg x.m0 s j T w t)(hg:gs[0]?=some g)(hk0:(T 0).kind=0)(hm:s.mp=4)(hjn:s.j<x.n)(hS:x.AtGo (x.n-s.j) (T 0).O g w)(sl:Option (Nat × Nat)):x.Goes tz Sx s gs w t sl 0:=by
 obtain⟨ok,hwg,hnx,hch⟩:=hP.zJ
 have hj:s.j=j:=hP.cnt
 have hp:=hG.pos
 obtain⟨r,hr⟩:∃ r,x.n-s.j=r+1:=⟨x.n-s.j-1,by omega⟩
 rw[hr] at hS
 obtain⟨g',child,hst,hco,afm⟩:=hS
 have hcn:cnt { s with j:=s.j+1,ph:=upd s.ph s.j 0 }=cnt s+1:=by
  unfold cnt
  simp only[sumTo,upd_same]
  rw[sumTo_congr (g:=λi=>if s.ph i<=4 then 1 else 0) λi hi=>by simp only[upd_ne s.ph 0 (show i≠s.j by omega)]]
  rfl
 have hv:x.v { s with j:=s.j+1,ph:=upd s.ph s.j 0 }=x.v s:=by
  unfold Cx.v
  rw[hcn]
  simp only
  omega
 have hmw:x.mw { s with j:=s.j+1,ph:=upd s.ph s.j 0 }=x.mw s:=by unfold Cx.mw;simp only[hm];rfl
 have hpt:x.nu { s with j:=s.j+1,ph:=upd s.ph s.j 0 }<x.nu s:=by
  have hw0:sumTo (s.j+1) (λi=>MZ (upd s.ph s.j 0 i))=sumTo s.j (λi=>MZ (s.ph i))+10:=by
   simp only[sumTo,upd_same]
   rw[sumTo_congr (g:=λi=>MZ (s.ph i)) λi hi=>by rw[upd_ne _ _ (by omega)]]
   rfl
  unfold Cx.nu
  rw[hmw]
  simp only
  rw[hw0]
  omega
 have hno:=gX ok (by omega)
 have hhd:hands { s with j:=s.j+1,ph:=upd s.ph s.j 0 }=hands s:=by
  unfold hands
  simp only[List.range_succ,List.filterMap_append,List.filterMap_cons,List.filterMap_nil,upd_same]
  rw[vV (f:=λi=>if s.ph i=1 then some (s.hd i) else none) λi hi=>by rw[upd_ne _ _ (by omega)]]
  simp
 have hold:∀ i,i<s.j+1->i≠s.j->i<s.j:=λi h1 h2=>by omega
 have hok:x.ok { s with j:=s.j+1,ph:=upd s.ph s.j 0 }:=by
  refine⟨by simp only;omega,λy=>by simp only at y;omega,λy=>by simp only at y;omega,ok.mp,λi hi=>?_,λi hi y=>?_,λi hi y z=>?_,λy=>by simp only at y;omega,λy=>by simp only at y;omega,λy=>by simp only at y;omega,by rw[hhd];exact ok.perm,by have:=ok.big;simp only;omega⟩
  .by_cases hik:i=s.j
   .rw[hik];simp[upd_same]
   .simp only[upd_ne _ _ hik];exact ok.Yj i (hold i hi hik)
  .by_cases hik:i=s.j
   .rw[hik] at y;simp[upd_same] at y
   .simp only[upd_ne _ _ hik] at y;exact ok.late i (hold i hi hik) y
  .by_cases hik:i=s.j
   .rw[hik] at y;simp[upd_same] at y
   .simp only[upd_ne _ _ hik] at y z;exact(hno i (hold i hi hik) y z).elim
 have hd0:(T 0).d=0:=by
  have:=(hP.tag 0 (.inl rfl)).2.2.2.2 (by rw[hk0];decide)
  rw[this]
  simp only[Cx.jU,if_true,hm]
  rfl
 have hrr:∀ O,x.R O w w:=λO=>kN.refl (λ_ h=>h) w
 obtain⟨gs',u,f1,f2,f3,_,_⟩:=hG.spawn (dX:=⟨0,false,x.AtGo r,(T 0).O,w,0,0⟩) (c':=⟨0,false,x.kP,λ_=>False,w,0,0⟩) hg hst (.inl ⟨rfl,hco w (hrr _),hrr _⟩) rfl hd0 rfl (.inl ⟨rfl,afm w (hrr _),hrr _⟩) (λ_ h=>h) rfl sl
 refine⟨gs',w,u,f1,{ s with j:=s.j+1,ph:=upd s.ph s.j 0 },j+1,_,q,hpt,f3,by simp only[Cx.jU];omega,λi hi=>?_,⟨hok,?_,hnx,hch⟩,λi hi hrl=>?_,hP.nor.app λop hop=>(f2 op hop).2.2 _⟩
 .by_cases hij:i=x.m0+j
  .subst hij
   rw[upd_same]
   simp only[Cx.jU,if_neg (show x.m0+j≠0 by omega),show x.m0+j-x.m0=j by omega,hj,upd_same]
   refine⟨?_,by simp,by simp,λy=>(by cases y),λ_=>rfl⟩
   unfold Cx.Sw
   simp only[upd_same]
  .rw[upd_ne _ _ hij]
   by_cases hi0:i=0
   .subst hi0
    rw[upd_same]
    simp only[Cx.jU,if_true]
    refine⟨?_,rfl,by simp,λy=>(by cases y),λ_=>by simp only[hm];rfl⟩
    unfold Cx.Sm
    simp only[hm]
    rw[show x.n-(s.j+1)=r by omega]
   .rw[upd_ne _ _ hi0]
    have hic:bn x.m0 j i:=hi.imp id λz=>⟨z.1,by omega⟩
    have hne:i-x.m0≠s.j:=by rcases hic with z|z<;>omega
    obtain⟨a1,a2,a3,a4,a5⟩:=hP.tag i hic
    simp only[Cx.jU,if_neg hi0] at a1 a2 a3 a4 a5 ⊢
    simp only[upd_ne _ _ hne]
    refine⟨a1.trans ?_,a2,a3,a4,a5⟩
    unfold Cx.Sw
    simp only[upd_ne _ _ hne]
 .have e1:x.iN { s with j:=s.j+1,ph:=upd s.ph s.j 0 }=x.iN s:=by unfold Cx.iN;rw[hv]
  rw[e1];exact hwg
 .by_cases hij:i=x.m0+j
  .subst hij
   have:=hrl.2
   rw[show x.m0+j-x.m0=s.j by omega] at this
   simp[upd_same] at this
  .have hi0:=hrl.1
   have hic:bn x.m0 j i:=hi.imp id λz=>⟨z.1,by omega⟩
   have hne:i-x.m0≠s.j:=by rcases hic with z|z<;>omega
   have h3:=hrl.2
   simp only[upd_ne _ _ hne] at h3
   obtain⟨r0,h0⟩:=hP.rel i hic ⟨hi0,h3⟩
   exact⟨r0,h0.still λop hop=>(f2 op hop).1⟩
structure Cx.Fin(x:Cx)(Sx:Nat->Prop)(gs:Array Goroutine)(w:World)(t:Trace):Prop where
 main:∃ O g,gs[0]?=some g/\x.GX x.Next O g w/\(∀ b,O b->b<w.heap.size/\¬x.Fz b/\¬x.Sh b/\¬Sx b)
 size:gs.size=x.m0+x.n
 gone:∃ q,Leavers x.P t gs q
 past:Past (dZ λb=>Sx b\/b=x.Wg) w.heap.size t
 deaf:Deaf t 0=0
 chan:∃ (bl:List Nat) (a r:Nat) (tm:Bool),bl.Perm (List.range x.len)/\w.heap[x.Ch]?=some (.chan x.len (bl.map x.sight).toArray false a r tm)
 low:(∀ b,x.Fz b->b<w.heap.size/\¬x.Sh b/\¬Sx b)/\(∀ b,x.Sh b->b<w.heap.size/\¬Sx b)/\∀ b,Sx b->b<w.heap.size
theorem acJ(F:x.Fit)(hG:GI x.P x.m0 tz Sx x.dP x.Fz x.Sh x.Ex j T q gs w t)(hP:PI x.jU x.Wg x.m0 s j T w t)(hg:gs[0]?=some g)(hk0:(T 0).kind=0)(hm:s.mp=11)(hS:x.AtAcq (T 0).O g w)(sl:Option (Nat × Nat)) :
 ∃ gs' w' u,runT x.P (crowd gs w sl) 0=(.next (crowd gs' w' sl),u)/\x.Fin Sx gs' w' (t++u):=by
 obtain⟨ok,hwg,hnx,a,r,tm,hch⟩:=hP.zJ
 have hj:s.j=j:=hP.cnt
 have hn:s.j=x.n:=ok.jN (by omega)
 have hp:=hG.pos
 obtain⟨g',hst,hco⟩:=hS
 have hall:=ok.fin (by omega)
 have hW:=(hG.shl x.Wg (.inl rfl)).1
 have hd0:(T 0).d=0:=by
  have:=(hP.tag 0 (.inl rfl)).2.2.2.2 (by rw[hk0];decide)
  rw[this]
  simp only[Cx.jU,if_true,hm]
  rfl
 have hdf:Deaf t 0=0:=by
  obtain⟨_,_,_,h⟩:=hG.th 0 (.inl rfl)
  rw[h,hd0]
 have Ue:(λg b=>(upd T 0 ⟨0,false,x.Next,(T 0).O,w,0,0⟩ g).O b)=λg b=>(T g).O b:=by
  funext g
  by_cases hgi:g=0
  .subst hgi;rw[upd_same]
  .rw[upd_ne _ _ hgi]
 have hrr:x.R (T 0).O w w:=kN.refl (λ_ h=>h) w
 obtain⟨f1,f2⟩:=hG.go nY (.inl rfl) (w':=w) (dX:=⟨0,false,x.Next,(T 0).O,w,0,0⟩) hg hst (.inl ⟨rfl,hco w hrr,hrr⟩) (by rw[hd0];rfl) (λb y=>y) (λb y=>.inl y) (λ_ _ _ _=>rfl) (Nat.le_refl _) rfl rfl rfl (λh=>h)
  (λe he=>by rw[Ue];exact(zi (x:=x) (T:=T) (m:=.acquire (stA x.Wg)) (B:=w.heap.size) rfl hW (by simp) e he).1) sl
 have eu:MemOp.ofEvents 0 g.frame.fn g.frame.place #[ConcR.mk (.acquire (stA x.Wg))]=#[{ g:=0,fn:=g.frame.fn,pos:=g.frame.place,act:=.mark (.acquire (stA x.Wg)) }]:=by simp[ofEvents_eq,ConcR.mk,MemAct.ofEvent]
 refine⟨_,_,_,f1,?_,by rw[f2.sz];omega,⟨λi=>if i<x.m0 then q i else(T i).q,λi y hi hy=>?_,λi hi=>?_⟩,?_,?_,⟨s.bl,a,r,tm,?_,hch⟩,⟨hG.MS,hG.shl,hG.sxl⟩⟩
 .obtain⟨z,hz,Ud,_⟩:=f2.th 0 (.inl rfl)
  rw[upd_same] at Ud
  refine⟨(T 0).O,z,hz,?_,λb=>hG.pJ 0 b⟩
  rcases Ud with ⟨_,hz1,_⟩|⟨hz1,_⟩|⟨hz1,_⟩
  .exact hz1
  .cases hz1
  .cases hz1
 .by_cases him:i<x.m0
  .simp only[if_pos him]
   exact f2.lv i y hi him hy
  .simp only[if_neg him]
   have hlt:i<gs.size:=by
    have:=(Array.getElem?_eq_some_iff.1 hy).1
    simpa using this
   rw[hG.sz] at hlt
   have hic:bn x.m0 j i:=.inr ⟨by omega,hlt⟩
   obtain⟨z,hz,Ud,hzd⟩:=f2.th i hic
   rw[hy] at hz
   cases hz
   rw[upd_ne _ _ (by omega)] at Ud hzd
   have hq1:(T i).kind=1:=(hP.tag i hic).2.2.1.2 ⟨by omega,hall _ (by omega)⟩
   have hq2:(dQ (wk x.P g g') (T i)).kind=1:=(kV _ _).1.2 hq1
   rcases Ud with ⟨z1,_⟩|⟨_,_,z1⟩|⟨z1,_⟩
   .rw[hq2] at z1;cases z1
   .rw[hzd];exact z1
   .rw[hq2] at z1;cases z1
 .exact f2.above i (by rw[<-f2.sz];exact hi)
 .rw[eu]
  have hti:=hG.ti
  rw[<-hj,hn] at hti
  exact Qh hti (λk h1 h2=>hP.rel k (.inr ⟨h1,by omega⟩) ⟨by omega,by rw[hall _ (by omega)];omega⟩) hP.nor hdf hW rfl rfl
 .obtain⟨_,_,_,h⟩:=f2.th 0 (.inl rfl)
  rw[h,upd_same]
 .have hpm:=ok.perm
  have hh:hands s=[]:=by
   unfold hands
   rw[vV (f:=λ_=>none) λi hi=>by rw[if_neg (by rw[hall i hi];decide)]]
   simp
  have hl:=ok.late 0 (by have:=F.n0;omega) (by rw[hall 0 (by have:=F.n0;omega)];decide)
  rw[hh,List.append_nil,show min s.c x.len=x.len by omega] at hpm
  exact hpm
theorem M5(F:x.Fit)(hAT:∀ O g w,x.KA O g w->x.Uh false x.kP O g w)(hAW:∀ O g w,x.AnchW O g w->x.GX x.AtW1 O g w)(sl:Option (Nat × Nat))
 (hG:GI x.P x.m0 tz Sx x.dP x.Fz x.Sh x.Ex j T q gs w t) (hP:PI x.jU x.Wg x.m0 s j T w t) :
 ∃ N gs' w' sl' t',runNT x.P N (crowd gs w sl) t=(.next (crowd gs' w' sl'),t')/\x.Fin Sx gs' w' t':=by
 refine engine (pr:=x.jU) nY acB aff (λs i h=>?_) (λs h=>h.1 rfl) (x.Fin Sx) ?_ ?_ (x.nu s) s rfl j T q gs w t sl hG hP
 .simp only[Cx.jU]
  have h1:=h.1
  have h2:=h.2
  simp[h1,h2]
 .intro s j T q gs w t hG hP hk
  obtain⟨ok,_⟩:=hP.zJ
  have hj:s.j=j:=hP.cnt
  obtain⟨_,hm,hl⟩:=(hP.tag 0 (.inl rfl)).2.2.2.1 hk
  have hn:=ok.jN (by omega)
  have hp:=hG.pos
  obtain⟨i,hi,h8⟩:∃ i,i<s.j/\s.ph i≠8:=by
   rcases ok.reg (.inr hm) with ⟨_,y⟩|⟨y1,y2,i,hi,y3⟩|⟨y,_⟩
   .apply Classical.byContradiction
    intro hc
    have:cnt s=0:=Qm λi hi=>Classical.byContradiction λh=>hc ⟨i,hi,h⟩
    unfold Cx.v at y
    omega
   .exact⟨i,hi,by omega⟩
   .exact(hl y).elim
  have hic:bn x.m0 j (x.m0+i):=.inr ⟨by omega,by omega⟩
  refine⟨x.m0+i,hic,?_⟩
  obtain⟨z,hz,Ud,_⟩:=hG.th _ hic
  obtain⟨_,_,a3,a4,_⟩:=hP.tag _ hic
  rcases Ud with ⟨z1,_⟩|⟨z1,_⟩|⟨z1,_⟩
  .exact z1
  .have:=(a3.1 z1).2
   rw[show x.m0+i-x.m0=i by omega] at this
   exact(h8 this).elim
  .have:=(a4 z1).1
   omega
 .intro s j T q gs w t sl i g hG hP hic hg hk _ hS
  obtain⟨ok,_⟩:=hP.zJ
  have hj:s.j=j:=hP.cnt
  have hp:=hG.pos
  have fin:x.Goes tz Sx s gs w t sl i->∃ gs' w' u,runT x.P (crowd gs w sl) i=(.next (crowd gs' w' sl),u)/\(x.Fin Sx gs' w' (t++u)\/∃ s' j' T' q',x.jU.Φ s'<x.jU.Φ s/\GI x.P x.m0 tz Sx x.dP x.Fz x.Sh x.Ex j' T' q' gs' w' (t++u)/\PI x.jU x.Wg x.m0 s' j' T' w' (t++u)):=λ⟨gs',w',u,h1,h2⟩=>⟨gs',w',u,h1,.inr h2⟩
  obtain⟨a1,_,a3,_⟩:=hP.tag i hic
  by_cases hi0:i=0
  .subst hi0
   rw[a1] at hS
   simp only[Cx.jU,if_true] at hS
   have ahT:=ok.mp
   have hW:=(hG.shl x.Wg (.inl rfl)).1
   unfold Cx.Sm at hS
   rcases (by omega:s.mp=0\/s.mp=1\/s.mp=2\/s.mp=3\/s.mp=4\/s.mp=5\/s.mp=6\/s.mp=7\/s.mp=8\/s.mp=9\/s.mp=10\/s.mp=11) with hm|hm|hm|hm|hm|hm|hm|hm|hm|hm|hm|hm<;>simp only[hm] at hS
   .have hmw:x.mw { s with mp:=1,vs:=s.vs,lp:=s.lp }<x.mw s:=by unfold Cx.mw;simp only[hm];simp
    exact .inr (fin (M4 hG hP hg hk hS (uP ok (λ_=>ok.j0 (by omega)) (λy=>by omega) (by omega) (λi hi y z=>(gX ok (by omega) i hi y z).elim) (λy=>by omega) (λy=>by omega) (λy=>by omega) hmw) (by unfold Cx.iN;simp only[hm,NA];rfl) (by unfold jq;simp only[hm];rfl) hmw (zi rfl trivial (by simp)) (λ_ _ _ h=>h) (by simp only[hm];rfl) sl))
   .exact .inr (fin (acG F hG hP hg hk hm hS sl))
   .have hmw:x.mw { s with mp:=3,vs:=s.vs,lp:=s.lp }<x.mw s:=by unfold Cx.mw;simp only[hm];simp
    exact .inr (fin (M4 hG hP hg hk hS (uP ok (λ_=>ok.j0 (by omega)) (λy=>by omega) (by omega) (λi hi y z=>(gX ok (by omega) i hi y z).elim) (λy=>by omega) (λy=>by omega) (λy=>by omega) hmw) (by unfold Cx.iN;simp only[hm,NA];rfl) (by unfold jq;simp only[hm];rfl) hmw (Qo (.inl rfl) rfl hW) (λ_ _ _ h=>h) (by simp only[hm];rfl) sl))
   .have hmw:x.mw { s with mp:=4,vs:=s.vs,lp:=s.lp }<x.mw s:=by unfold Cx.mw;simp only[hm];simp
    exact .inr (fin (M4 hG hP hg hk hS (uP ok (λy=>by omega) (λy=>by omega) (by omega) (λi hi y z=>(gX ok (by omega) i hi y z).elim) (λy=>by omega) (λy=>by omega) (λy=>by omega) hmw) (by unfold Cx.iN;simp only[hm,NA];rfl) (by unfold jq;simp only[hm];rfl) hmw (zi rfl trivial (by simp)) (λ_ _ _ h=>by
     unfold Cx.Sm
     simp only
     rw[ok.j0 (by omega)]
     exact h) (by simp only[hm];rfl) sl))
   .by_cases hjn:s.j<x.n
    .exact .inr (fin (afl hG hP hg hk hm hjn hS sl))
    .have hjj:s.j=x.n:=by have:=ok.jn;omega
     rw[show x.n-s.j=0 by omega] at hS
     have hvl:=Uk ok
     have hmw:x.mw { s with mp:=5,vs:=s.vs,lp:=s.lp }<x.mw s:=by unfold Cx.mw;simp only[hm,NA];simp;omega
     exact .inr (fin (M4 hG hP hg hk hS (uP ok (λy=>by omega) (λ_=>hjj) (by omega) (λi hi y z=>(gX ok (by omega) i hi y z).elim) (λy=>by omega) (λy=>by omega) (λy=>by omega) hmw) (by unfold Cx.iN;simp only[hm,NA];rfl) (by unfold jq;simp only[hm];rfl) hmw (zi rfl trivial (by simp)) (λ_ _ _ h=>h.bind (λ_ h=>h) hAW) (by simp only[hm];rfl) sl))
   .exact .inr (fin (Yq F hG hP hg hk hm hS sl))
   .exact .inr (fin (acH F hAW hG hP hg hk hm hS sl))
   .have hmw:x.mw { s with mp:=8,vs:=s.vs,lp:=s.lp }<x.mw s:=by unfold Cx.mw;simp only[hm];simp
    exact .inr (fin (M4 hG hP hg hk hS (uP ok (λy=>by omega) (λ_=>ok.jN (by omega)) (by omega) (λi hi y z=>⟨.inr rfl,(ok.last i hi y z).2.1⟩) (λ_=>ok.reg (.inl hm)) (λy=>by omega) (λy=>by omega) hmw) (by unfold Cx.iN;simp only[hm,NA];rfl) (by unfold jq;simp only[hm];simp) hmw (Qo (.inr rfl) rfl hW) (λ_ _ _ h=>h) (by simp only[hm];rfl) sl))
   .rcases acI F hG hP hg hk hm hS sl with ⟨y1,y2,y3⟩|y
    .exact .inl ⟨rfl,y1,y2,y3⟩
    .exact .inr (fin y)
   .exact .inr (fin (Yr hG hP hg hk hm hS sl))
   .have hmw:x.mw { s with mp:=11,vs:=s.vs,lp:=s.lp }<x.mw s:=by unfold Cx.mw;simp only[hm];simp
    exact .inr (fin (M4 hG hP hg hk hS (uP ok (λy=>by omega) (λ_=>ok.jN (by omega)) (by omega) (λi hi y z=>(gX ok (by omega) i hi y z).elim) (λy=>by omega) (λ_=>ok.fin (by omega)) (λy=>by omega) hmw) (by unfold Cx.iN;simp only[hm,NA];rfl) (by unfold jq;simp only[hm];rfl) hmw (zi rfl trivial (by simp)) (λ_ _ _ h=>h) (by simp only[hm];rfl) sl))
   .obtain⟨gs',w',u,h1,h2⟩:=acJ F hG hP hg hk hm hS sl
    exact .inr ⟨gs',w',u,h1,.inl h2⟩
  .obtain⟨k,rfl⟩:∃ k,i=x.m0+k:=⟨i-x.m0,by rcases hic with y|y<;>omega⟩
   have hkj:k<s.j:=by rcases hic with y|y<;>omega
   have h8:s.ph k<=7:=by
    have:=ok.Yj k hkj
    have:s.ph k≠8:=λy=>by
     have:=a3.2 ⟨hi0,by rw[show x.m0+k-x.m0=k by omega];exact y⟩
     rw[hk] at this
     cases this
    omega
   rw[a1] at hS
   simp only[Cx.jU,if_neg hi0] at hS
   rw[show x.m0+k-x.m0=k by omega] at hS
   unfold Cx.Sw at hS
   refine .inr (fin ?_)
   rcases (by omega:s.ph k=0\/s.ph k=1\/s.ph k=2\/s.ph k=3\/s.ph k=4\/s.ph k=5\/s.ph k=6\/s.ph k=7) with hm|hm|hm|hm|hm|hm|hm|hm<;>simp only[hm] at hS
   .exact Yl F hG hP hkj hm hg hk hS sl
   .exact Ym F hAT hG hP hkj hm hg hk hS sl
   .exact acD F hG hP hkj hm hg hk hS sl
   .exact acE F hG hP hkj hm hg hk hS sl
   .exact acF F hG hP hkj hm hg hk hS sl
   .exact afi F hG hP hkj hm hg hk hS sl
   .exact afj F hG hP hkj hm hg hk hS sl
   .exact afk F hG hP hkj hm hg hk hS sl
end
end Go.Proofs.YtjlgehmebfkioaaGreatDoor
namespace Go.Proofs.YtjlgehmebfkioaaGreatDoor
open Go Go.Conc
def nx(P:Program)(main:Bool)(g:Goroutine):Goroutine:=match stepG P main g default with | .go g' _ _=>g'|_=>g
def dM(P:Program)(main:Bool):Nat->Goroutine->Goroutine
 |0,g=>g
 |n+1,g=>dM P main n (nx P main g)
def aP(P:Program)(main:Bool):Nat->Goroutine->Prop
 |0,_=>True
 |n+1,g=>(g.status=.running/\∀ w,stepG P main g w=.go (nx P main g) w #[])/\aP P main n (nx P main g)
theorem aP.step{P:Program}{main:Bool}{n:Nat}{g:Goroutine}(hr:g.status=.running)(h:∀ w,stepG P main g w=.go (nx P main g) w #[])(k:aP P main n (nx P main g)):aP P main (n+1) g:=⟨⟨hr,h⟩,k⟩
theorem aP.nil{P:Program}{main:Bool}{g:Goroutine}:aP P main 0 g:=trivial
variable {P:Program} {main g_:Bool} {Fz:Nat->Prop} {Ex:World->World->Prop} {O:Nat->Prop} {Stop:(Nat->Prop)->Goroutine->World->Prop} {K:World->Prop}
def CK(P:Program)(main g_:Bool)(Fz:Nat->Prop)(Ex:World->World->Prop)(Stop:(Nat->Prop)->Goroutine->World->Prop)(K:World->Prop)(O:Nat->Prop)(g:Goroutine):Prop:=∀ w,K w->Co P main g_ Fz Ex Stop O g w
def M6(Fz:Nat->Prop)(Ex:World->World->Prop)(K:World->Prop)(O:Nat->Prop):Prop:=∀ w w₁,kN Fz Ex O w w₁->K w->K w₁
theorem bM(hK:M6 Fz Ex K O):∀ (n:Nat) {g:Goroutine},aP P main n g->CK P main g_ Fz Ex Stop K O (dM P main n g)->CK P main g_ Fz Ex Stop K O g
 |0,_,_,h=>h
 |n+1,_,hp,h=>λw hw=>Ub hp.1.1 hp.1.2 λw₁ r=>bM hK n hp.2 h w₁ (hK w w₁ r hw)
theorem dD(hK:M6 Fz Ex K O){g:Goroutine}(hr:g.status=.running)(h:∀ w,K w->Stop O g w):CK P main g_ Fz Ex Stop K O g:=λw hw=>Co.stop hr λw₁ r=>h w₁ (hK w w₁ r hw)
theorem vW(hK:M6 Fz Ex K O){g:Goroutine}(hr:g.status=.running)(h:∀ w,K w->∃ g' w' es,stepG P main g w=.go g' w' es/\I6 O w w'/\(∀ e∈es,EvC Fz (grow O w w') e)/\(g_=true->es=#[])/\Co P main g_ Fz Ex Stop (grow O w w') g' w'):CK P main g_ Fz Ex Stop K O g :=
 λw hw=>Co.step hr λw₁ r=>h w₁ (hK w w₁ r hw)
theorem Jb(hK:M6 Fz Ex K O){g g':Goroutine}(hr:g.status=.running)(hs:∀ w,K w->stepG P main g w=.go g' w #[])(h:CK P main g_ Fz Ex Stop K O g'):CK P main g_ Fz Ex Stop K O g :=
 vW hK hr λw hw=>⟨g',w,#[],hs w hw,I6.refl,λe he=>by simp at he,λ_=>rfl,by rw[l7];exact h w hw⟩
theorem Ul(hK:M6 Fz Ex K O){g g':Goroutine}{es:Array Event}(hr:g.status=.running)(hs:∀ w,K w->stepG P main g w=.go g' w es)(he:∀ e∈es,EvC Fz O e)(h:CK P main false Fz Ex Stop K O g'):CK P main false Fz Ex Stop K O g :=
 vW hK hr λw hw=>⟨g',w,es,hs w hw,I6.refl,λe hm=>by rw[l7];exact he e hm,λx=>(by cases x),by rw[l7];exact h w hw⟩
theorem Um{K':World->Prop}{g:Goroutine}(h:CK P main g_ Fz Ex Stop K' O g)(hk:∀ w,K w->K' w):CK P main g_ Fz Ex Stop K O g:=λw hw=>h w (hk w hw)
structure An where
 v:Value:=.nilFunc
 sh:Option (TypeId × Nat):=none
 b:Bool:=false
 n:Nat:=0
structure Qa where
 k:Nat
 ad:Addr:=default
 v:Value:=.nilFunc
 sy:Bool:=false
 sh:Option (TypeId × Nat):=none
 b:Bool:=false
 o:Obj:=default
 m:Mark:=default
def cellV:Value->Bool
 | .agg _ | .tuple _=>false
 |_=>true
def jF(P:Program){α:Type}:Sem α->List An->Option (α × List Qa)
 | .pure a,l=>if l.isEmpty then some (a,[]) else none
 | .load m a k,l=>(jF P (k (l.headD {}).v) l.tail).map λr=>(r.1,{ k:=0,ad:=a,v:=(l.headD {}).v,sy:=m==.atomic }::r.2)
 | .store m a v k,l=>if cellV v then(jF P k l).map λr=>(r.1,{ k:=1,ad:=a,v:=v,sy:=m==.atomic }::r.2) else none
 | .new o k,l=>(jF P (k (l.headD {}).n) l.tail).map λr=>(r.1,{ k:=4,ad:=⟨(l.headD {}).n,0,none⟩,o:=o }::r.2)
 | .shape b k,l=>(jF P (k (l.headD {}).sh) l.tail).map λr=>(r.1,{ k:=2,ad:=⟨b,0,none⟩,sh:=(l.headD {}).sh }::r.2)
 | .frozen a k,l=>(jF P (k (l.headD {}).b) l.tail).map λr=>(r.1,{ k:=3,ad:=a,b:=(l.headD {}).b }::r.2)
 | .program k,l=>jF P (k P) l
 | .mark m k,l=>(jF P k l).map λr=>(r.1,{ k:=5,m:=m }::r.2)
 | .choose q k,l=>if q.forced then jF P (k 0) l else none
 | .freeze _ _ _,_=>none
 | .getObj _ _,_=>none
 | .setObj _ _ _,_=>none
 | .sys _ _,_=>none
 | .halt _,_=>none
def eX:List Qa->World->World->Prop
 | [],w,w'=>w'=w
 |q::l,w,w' =>
  if q.k=0 then w.cell? q.ad=some q.v/\eX l w w'
  else if q.k=1 then(w.cell? q.ad).isSome=true/\w.frozen? q.ad=false/\eX l (w.setCell q.ad q.v) w'
  else if q.k=2 then w.shape? q.ad.block=q.sh/\eX l w w'
  else if q.k=3 then w.frozen? q.ad=q.b/\eX l w w'
  else if q.k=4 then w.heap.size=q.ad.block/\eX l { w with heap:=w.heap.push q.o } w'
  else eX l w w'
def Un(q:Qa):Option Event:=if q.k=0 then some ⟨.cell q.ad,false,q.sy⟩ else if q.k=1 then some ⟨.cell q.ad,true,q.sy⟩ else if q.k=5 then some ⟨.mark q.m,false,true⟩ else none
theorem Qp{α:Type}:∀ (s:Sem α) (l:List An) (x:α) (qs:List Qa) (w w':World) (es:Array Event),jF P s l=some (x,qs)->eX qs w w'->s.runT P w es=(.ok x w',es++(qs.filterMap Un).toArray):=by
 intro s
 induction s with
 |pure a =>
  intro l x qs w w' es h hq
  simp only[jF] at h
  split at h
  .cases h
   simp only[eX] at hq
   subst hq
   simp[Sem.runT]
  .cases h
 |load m a k ih =>
  intro l x qs w w' es h hq
  simp only[jF,Option.map_eq_some_iff] at h
  obtain⟨⟨x1,q1⟩,h1,h2⟩:=h
  cases h2
  simp only[eX,if_true] at hq
  simp only[Sem.runT,hq.1]
  rw[ih _ _ _ _ _ _ _ h1 hq.2]
  simp[Un]
 |store m a v k ih =>
  intro l x qs w w' es h hq
  simp only[jF] at h
  split at h
  .rename_i hv
   simp only[Option.map_eq_some_iff] at h
   obtain⟨⟨x1,q1⟩,h1,h2⟩:=h
   cases h2
   simp only[eX,Nat.one_ne_zero,if_false,if_true] at hq
   obtain⟨hc,hf,hq⟩:=hq
   obtain⟨u,hu⟩:=Option.isSome_iff_exists.1 hc
   have e:(Sem.store m a v k).runT P w es=k.runT P (w.setCell a v) (es.push ⟨.cell a,true,m==.atomic⟩):=by
    cases v<;>first|(cases hv;done)|(simp only[Sem.runT,hu,hf];rfl)
   rw[e,ih _ _ _ _ _ _ h1 hq]
   simp[Un]
  .cases h
 |new o k ih =>
  intro l x qs w w' es h hq
  simp only[jF,Option.map_eq_some_iff] at h
  obtain⟨⟨x1,q1⟩,h1,h2⟩:=h
  cases h2
  simp only[eX,show ¬(4:Nat)=0 by decide,show ¬(4:Nat)=1 by decide,show ¬(4:Nat)=2 by decide,show ¬(4:Nat)=3 by decide,if_false,if_true] at hq
  simp only[Sem.runT,hq.1]
  rw[ih _ _ _ _ _ _ _ h1 hq.2]
  simp[Un]
 |shape b k ih =>
  intro l x qs w w' es h hq
  simp only[jF,Option.map_eq_some_iff] at h
  obtain⟨⟨x1,q1⟩,h1,h2⟩:=h
  cases h2
  simp only[eX,show ¬(2:Nat)=0 by decide,show ¬(2:Nat)=1 by decide,if_false,if_true] at hq
  simp only[Sem.runT,hq.1]
  rw[ih _ _ _ _ _ _ _ h1 hq.2]
  simp[Un]
 |frozen a k ih =>
  intro l x qs w w' es h hq
  simp only[jF,Option.map_eq_some_iff] at h
  obtain⟨⟨x1,q1⟩,h1,h2⟩:=h
  cases h2
  simp only[eX,show ¬(3:Nat)=0 by decide,show ¬(3:Nat)=1 by decide,show ¬(3:Nat)=2 by decide,if_false,if_true] at hq
  simp only[Sem.runT,hq.1]
  rw[ih _ _ _ _ _ _ _ h1 hq.2]
  simp[Un]
 |program k ih =>
  intro l x qs w w' es h hq
  simp only[jF] at h
  simp only[Sem.runT]
  exact ih _ _ _ _ _ _ _ h hq
 |mark m k ih =>
  intro l x qs w w' es h hq
  simp only[jF,Option.map_eq_some_iff] at h
  obtain⟨⟨x1,q1⟩,h1,h2⟩:=h
  cases h2
  simp only[eX,show ¬(5:Nat)=0 by decide,show ¬(5:Nat)=1 by decide,show ¬(5:Nat)=2 by decide,show ¬(5:Nat)=3 by decide,show ¬(5:Nat)=4 by decide,if_false] at hq
  simp only[Sem.runT]
  rw[ih _ _ _ _ _ _ h1 hq]
  simp[Un]
 |choose q k ih =>
  intro l x qs w w' es h hq
  simp only[jF] at h
  split at h
  .rename_i hf
   simp only[Sem.runT,hf,if_true]
   exact ih _ _ _ _ _ _ _ h hq
  .cases h
 |freeze=>intro l x qs w w' es h;simp[jF] at h
 |getObj=>intro l x qs w w' es h;simp[jF] at h
 |setObj=>intro l x qs w w' es h;simp[jF] at h
 |sys=>intro l x qs w w' es h;simp[jF] at h
 |halt=>intro l x qs w w' es h;simp[jF] at h
def p9(g:Goroutine):Sem Next:=match g.frame.oper? with
 |some o=>execOp g.frame.eval o
 |none=>Go.stuck ""
def Qq(P:Program)(main:Bool)(g:Goroutine):Prop:=(g.frame.kind==.early)=false/\∀ w,stepG P main g w=stepG.apply P true g.frame g.callers none (p9 g) w
def upon(P:Program)(g:Goroutine):Next->Option Goroutine
 | .value v=>some (G (g.frame.finish v) g.callers)
 | .skip=>some (G (g.frame.finish undef) g.callers)
 | .enter f a=>some (G (Frame.enter P f a .normal) (g.frame::g.callers))
 |_=>none
def Dt(g:Goroutine):Bool:=match g.frame.todo with
 | .call _ _ _ _::_=>false
 |_=>true
theorem Bj{g:Goroutine}(h:Dt g=true)(d:Deferred)(a:Bool)(b:String)(c:Array Value)(k:List Item):g.frame.todo≠.call d a b c::k:=by
 intro e
 unfold Dt at h
 rw[e] at h
 cases h
theorem Qr{g g':Goroutine}{w w':World}{l:List An}{x:Next}{qs:List Qa}(ha:Qq P main g)(hn:∀ d a b c k,g.frame.todo≠.call d a b c::k)(h:jF P (p9 g) l=some (x,qs))(hu:upon P g x=some g')(hq:eX qs w w') :
 stepG P main g w=.go g' w' (seen P g.frame.fn (qs.filterMap Un).toArray):=by
 rw[ha.2 w]
 unfold stepG.apply
 simp only[if_true,Qp _ _ _ _ _ _ #[] h hq,Array.empty_append,ha.1,Bool.false_eq_true,if_false]
 cases x with
 |value v =>
  simp only[upon,Option.some.injEq] at hu
  subst hu
  simp[GStep.after,G]
 |skip =>
  simp only[upon,Option.some.injEq] at hu
  subst hu
  simp[GStep.after,G]
 |enter f a =>
  simp only[upon,Option.some.injEq] at hu
  subst hu
  simp only[GStep.after,Array.append_empty,G]
  congr 2
  split
  .rename_i he
   exact absurd he (hn _ _ _ _ _)
  .rfl
 |_=>cases hu
