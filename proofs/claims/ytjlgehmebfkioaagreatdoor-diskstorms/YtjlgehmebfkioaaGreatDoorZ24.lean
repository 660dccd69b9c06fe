/- Part of the proof. -/
import Derived.Test.YtjlgehmebfkioaaGreatDoorZ23
open Go.Proofs.Tryz renaming prog->aa
open Go renaming World->ae,Addr->cy,Value->ai,Goroutine->ag
open Go.Frame renaming enter->b9
open Go.World renaming cell?->ck,frozen?->ju
open List renaming size_toArray->mn,length_cons->ib,getElem_toArray->pZ,getElem_cons_zero->pe,getElem_cons_succ->pf
open Nat renaming zero_add->dp,lt_of_lt_of_le->cI,le_of_eq->mS
open Option.some renaming inj->cd
namespace Go.Proofs.YtjlgehmebfkioaaGreatDoor
open Go Go.Conc
open Go.ConcN (WgLive Has AtR0 RW DWs)
open Go.ConcR (KK wgBlock WgAt stA smA rd wr Payload DC0)
def uZ(w:ae)(ad:cy)(c:Array ai)(el:TypeId)(n:Nat):ae:={ w with heap:=w.heap.setIfInBounds ad.block (.cells (c.extract 0 n) el (0,n)) }
def Nz(a:Option cy)(b:Nat):Nat:=match a with
 |some ad=>if b=ad.block then ad.off else 0
 |none=>0
theorem adB{fns:Fx}{E:Nat->Nat->Prop}{k l s:Nat}{a:Option cy}{d c st:Nat}{v':ai}(h:VR fns E (fv k l s a d c st) v'):∃ a',v'=fv k l s a' d c st:=by
 obtain⟨x',rfl,hx⟩:=bL.1 h
 obtain⟨h1,h2⟩:=hx
 obtain⟨l'⟩:=x'
 simp only[mn,ib,List.length_nil] at h1
 rcases l' with _|⟨p,_|⟨q,_|⟨_,_⟩⟩⟩
 .simp at h1
 .simp at h1
 .have e0:=h2 0 (by simp) (by simp)
  have e1:=h2 1 (by simp) (by simp)
  simp only[pZ,pe,pf] at e0 e1
  rw[dH] at e1
  subst e1
  obtain⟨z,rfl,hz⟩:=bY.1 e0
  obtain⟨z⟩:=z
  obtain⟨g1,g2⟩:=hz
  simp only[mn,ib,List.length_nil] at g1
  rcases z with _|⟨z0,_|⟨z1,_|⟨z2,_|⟨z3,_|⟨_,_⟩⟩⟩⟩⟩
  .simp at g1
  .simp at g1
  .simp at g1
  .simp at g1
  .have f0:=g2 0 (by simp) (by simp)
   have f1:=g2 1 (by simp) (by simp)
   have f2:=g2 2 (by simp) (by simp)
   have f3:=g2 3 (by simp) (by simp)
   simp only[pZ,pe,pf] at f0 f1 f2 f3
   rw[dH] at f0 f1 f2
   obtain⟨b,rfl,_⟩:=aJ.1 f3
   subst f0 f1 f2
   exact⟨b,rfl⟩
  .simp at g1
 .simp at h1
theorem Ri{y:Lk}{i:Nat}{ad:cy}{cc:Array ai}{el:TypeId}{fr:Nat × Nat}(ha:y.ha i=some ad)(hfz:y.Fz ad.block)(hgl:aa.globals.size<y.w0.heap.size)(hc1:y.w0.heap[ad.block]?=some (.cells cc el fr))(hc2:ad.off+y.hl i<=cc.size)(hc3:∀ j,j<y.hl i->∃ z:Nat,cc[ad.off+j]?=some (.int .u8 (z:Int)))
 (opens:∀ w:ae,(∀ j,j<y.hl i->w.cell? ⟨ad.block,ad.off+j,none⟩=y.w0.cell? ⟨ad.block,ad.off+j,none⟩)->Calls aa 59 #[.slice (y.ha i) (y.hl i) (y.hc i)] w (λe _=>∃ a d c,e=.returned (fv (y.kd i) (y.lb i) (y.sq i) a d c (y.st i)))):Zj aa y i:=by
 have hlt:ad.block<y.w0.heap.size:=(Array.getElem?_eq_some_iff.1 hc1).1
 have hg:(uZ y.w0 ad cc el (ad.off+y.hl i)).heap[ad.block]?=some (.cells (cc.extract 0 (ad.off+y.hl i)) el (0,ad.off+y.hl i)):=by
  simp only[uZ]
  exact Array.getElem?_setIfInBounds_self_of_lt hlt
 have hsz:(uZ y.w0 ad cc el (ad.off+y.hl i)).heap.size=y.w0.heap.size:=by simp[uZ]
 refine⟨Nz (y.ha i),λa b=>a=b/\a=ad.block,uZ y.w0 ad cc el (ad.off+y.hl i),.slice (y.ha i) (y.hl i) (y.hc i),λa b x=>by rw[<-x.1,x.2];exact hfz,⟨λa hz=>?_,⟨λa hz=>?_,λh=>by cases h⟩,by rw[hsz];exact hgl,hgl,λa b x _=>x.1,λa b a' b' x x'=>?_,λa b x=>?_⟩,?_,λw hw=>opens w λj hj=>?_⟩
 .obtain⟨b,_,rfl⟩:=hz
  rw[hsz];exact hlt
 .show (Nz (y.ha i) a==0)=true
  rw[beq_iff_eq,ha]
  unfold Nz
  simp only
  rw[if_neg λe=>hz ⟨a,rfl,e⟩]
 .rw[<-x.1,<-x'.1]
  exact⟨λe=>e,λe _=>e⟩
 .obtain⟨rfl,rfl⟩:=x
  refine .inl ⟨cc.extract 0 (ad.off+y.hl i),cc,el,(0,ad.off+y.hl i),fr,hg,hc1,⟨by simp;omega,λhz=>(hz ⟨_,rfl,rfl⟩).elim,λk h1 h2 hl=>?_⟩,λhz=>(hz ⟨_,rfl,rfl⟩).elim,λ_ k hk=>⟨Nat.zero_le _,by simp at hk;omega⟩⟩
  have hlo:ad.off<=k:=by
   have:(iQ aa (Nz (y.ha i))).lo ad.block=ad.off:=by rw[ha];simp[iQ,Nz]
   rw[<-this];exact hl
  have hk:k<ad.off+y.hl i:=by simp at h1;omega
  obtain⟨z,hz⟩:=hc3 (k-ad.off) (by omega)
  rw[show ad.off+(k-ad.off)=k by omega] at hz
  have e1:cc[k]=.int .u8 (z:Int):=by
   rw[Array.getElem?_eq_getElem h2] at hz
   exact cd hz
  simp only[Array.getElem_extract,dp,e1]
  exact aG rfl
 .refine aJ.2 ⟨_,rfl,.inl ?_⟩
  rw[ha]
  exact⟨⟨rfl,rfl⟩,rfl,rfl,by simp[iQ,Nz]⟩
 .have:w.cell? ⟨ad.block,ad.off+j,none⟩=(uZ y.w0 ad cc el (ad.off+y.hl i)).cell? ⟨ad.block,ad.off+j,none⟩:=by unfold ck;rw[hw]
  rw[this]
  simp only[ck,hg,hc1]
  simp only[Option.isSome_none,Bool.false_eq_true,if_false]
  rw[Array.getElem?_extract]
  rw[if_pos (by omega),dp]
section
variable {y:Lk} {AW Nx:(Nat->Prop)->ag->ae->Prop} {O:Nat->Prop} {Stop:(Nat->Prop)->ag->ae->Prop}
theorem U7(ok:y.Ok aa){i:Nat}(hi:i<y.len){c:Frame}{cs:List Frame}(hO:Own y O)(w:ae)(hw:Kw y w)
 (next:∀ O1 a d e w1,Own y O1->Kw y w1->Co aa false false y.Fz (y.cx aa AW Nx).Ex Stop O1 (G (c.finish (fv (y.kd i) (y.lb i) (y.sq i) a d e (y.st i))) cs) w1) :
 Co aa false false y.Fz (y.cx aa AW Nx).Ex Stop O (G (b9 aa 59 #[.slice (y.ha i) (y.hl i) (y.hc i)] .normal) (c::cs)) w:=by
 obtain⟨lo,E,gh,av,Oe,NA,hv,Zl⟩:=(ok.pg i hi).gh
 let Z:Nat->Prop:=λa=>∃ b,E a b
 have hgl:aa.globals.size<w.heap.size:=cI ok.glob hw.size
 have adC:WR aa (iQ aa lo) E Z gh w:=⟨NA.jG,NA.jQ,NA.kN,hgl,NA.glob,NA.inj,λa b x=>by rw[hw.fz b (Oe a b x)];exact NA.cells a b x⟩
 have hargs:aW (iQ aa lo) E #[av] #[.slice (y.ha i) (y.hl i) (y.hc i)]:=fP hv
 have hfn:rV aa (iQ aa lo) 59=true:=(o_ _).1.1 _ (by simp[iQ])
 have hF:=FR.enter (o_ lo).1 hfn rfl (λg hg=>by cases hg) hargs
 have hGR:GR aa (iQ aa lo) E [] [aL] (c::cs) (G (b9 aa 59 #[av] .normal) [aL]) (G (b9 aa 59 #[.slice (y.ha i) (y.hl i) (y.hc i)] .normal) (c::cs)):=⟨_,_,[],rfl,rfl,hF,trivial⟩
 have adD:=Jm (Q:=λv _=>∃ a d e,v=fv (y.kd i) (y.lb i) (y.sq i) a d e (y.st i)) (ac9 hGR adC) λt d=>(Zl (eZ gh t d) rfl).mono λe w' ⟨a,d,e',h⟩=>⟨_,h,a,d,e',rfl⟩
 have vH:=adD.runs (zJ _) zK (o_ _) zl.on
 have key:=QS (zJ lo) zK (o_ lo) (main:=false) (Fz:=y.Fz) (Ex:=(y.cx aa AW Nx).Ex) (Stop:=Stop) (c:=c) (cs:=cs) (Oi:=O) (K:=Kw y) (Hold:=λb=>y.Fz b\/b=y.b7) (B0:=w.heap.size) (E0:=E) (Z:=Z)
  (Q:=λv _=>∃ a d e,v=fv (y.kd i) (y.lb i) (y.sq i) a d e (y.st i))
  (λO w w₁ r h=>mW _ O w w₁ r h)
  (λw w' h hk hs=>by
   refine⟨λb hb=>(hk b (.inl hb)).trans (h.fz b hb),Nat.le_trans h.size hs,?_⟩
   obtain⟨st,sm,h2⟩:=h.live
   exact⟨st,sm,(hk _ (.inr rfl)).trans h2⟩)
  (λE1 v v' eX w1 hq hv hwr hk hfr=>by
   obtain⟨a,d,e,rfl⟩:=hq
   obtain⟨a',rfl⟩:=adB hv
   refine next _ a' d e w1 (λb hb=>?_) hk
   rcases hb with hb|⟨hb,a,hx⟩
   .exact hO b hb
   .rcases hfr a b hx with h|h
    .exact(hb (Oe a b h)).elim
    .have:=hw.size;omega)
  _ vH.acc E _ w ⟨hGR,adC,vH⟩
  (λa b x _=>Oe a b x)
  (λa b x hz=>(hz ⟨b,x⟩).elim)
  (λb hb=>cI (ok.fl b hb).1 hw.size)
  hw
  (λb hb=>by
   rcases hb with hb|rfl
   .exact⟨cI (ok.fl b hb).1 hw.size,.inl hb⟩
   .refine⟨cI ok.low.2.1 hw.size,.inr λa x=>?_⟩
    exact(ok.fl _ (Oe a _ x)).2.2.1 rfl)
  (λa b x=>.inl x) (Nat.le_refl _)
 have hset:(λb=>O b\/(¬y.Fz b/\∃ a,E a b))=O:=by
  funext b
  refine propext ⟨λh=>h.elim id λ⟨h1,a,h2⟩=>?_,.inl⟩
  exact(h1 (Oe a b h2)).elim
 rw[hset] at key
 exact key
end
structure Kn(y:Lk)(bx:Nat)(o:Obj)(w:ae):Prop where
 kw:Kw y w
 own:w.heap[bx]?=some o
def DZ(k l s:Nat)(a:Option cy)(d e:Nat):Obj:=.cells #[.int .i64 (k:Nat),.int .i64 (l:Nat),.int .i64 (s:Nat),.slice a d e] 88
section
variable {y:Lk} {AW Nx:(Nat->Prop)->ag->ae->Prop} {O:Nat->Prop}
theorem Zm(P:Program){bx:Nat}{o:Obj}(hb:O bx):Nw y.Fz (y.cx P AW Nx).Ex (Kn y bx o) O:=λw w₁ r h=>⟨mW P O w w₁ r h.kw,(r.mine bx hb).trans h.own⟩
theorem U8[Payload](ok:y.Ok aa)(t:Nat->ai)(c:Nat):CK aa false false y.Fz (y.cx aa AW Nx).Ex (y.cx aa AW Nx).AtRel (Kw y) O (g3 aa y t c true):=by
 have hK:=mW (y:=y) (AW:=AW) (Nx:=Nx) aa O
 refine bN hK 7 (UZ y t c) (bN hK 14 (Q7 y t c) ?_)
 refine Ju hK (Jy y t c).run (g':=gM aa y t c) (λw hw=>?_) (dG hK (Y5 y t c) λw hw=>Zk ok t c w hw)
 have hshape:w.shape? y.b7=some (203,2):=by
  obtain⟨st,sm,h⟩:=hw.live
  have h':w.heap[y.b7]?=some (wgBlock 203 st sm):=h
  simp[World.shape?,h',wgBlock]
 exact(Jy y t c).step (show fq _ _ _ from⟨hshape,hshape,rfl⟩)
theorem evC_read{Fz O:Nat->Prop}{a:cy}(h:Fz a.block\/O a.block):∀ e∈#[(⟨.cell a,false,false⟩:Event)],EvC Fz O e:=λe he=>by
 have:e=⟨.cell a,false,false⟩:=by simpa using he
 subst this
 exact .inl ⟨a.block,rfl,rfl,h.elim (λh=>.inr ⟨h,rfl⟩) .inl⟩
theorem Rj(ok:y.Ok aa)(t:Nat->ai){c pb po:Nat}(v:ai)(a:Option cy)(d e:Nat)(hO:Own y O):CK aa false false y.Fz (y.cx aa AW Nx).Ex ((y.cx aa AW Nx).AtSend c) (Kw y) O (g6 aa y t c pb po v (fv (y.kd c) (y.lb c) (y.sq c) a d e (y.st c))):=by
 have hK:=mW (y:=y) (AW:=AW) (Nx:=Nx) aa O
 refine bN hK 3 (Za y t c pb po v _ _ _ a d e _) (Y0 hK (Zb y t c pb po v _ _ _ a d e _) λw hw=>?_)
 obtain⟨bx,hbx⟩:∃ bx,bx=w.heap.size:=⟨_,rfl⟩
 rw[<-hbx]
 have hbig:y.w0.heap.size<=bx:=by rw[hbx];exact hw.size
 have hO1:Own y (λb=>O b\/b=bx):=λb hb=>hb.elim (hO b) λh=>h▸hbig
 have hin:(λb=>O b\/b=bx) bx:=.inr rfl
 have hK1:∀ o,Nw y.Fz (y.cx aa AW Nx).Ex (Kn y bx o) (λb=>O b\/b=bx):=λo=>Zm aa hin
 refine UQ (K':=Kn y bx DX) ?_ λw' h=>⟨hw.keep ok (λb hb=>h.2.2.1 b (by omega)) (by omega),h.2.2.2.2⟩
 refine QT (K':=Kn y bx (DZ (y.kd c) (y.lb c) (y.sq c) a d e)) (hK1 _) (Zc y t c pb po v _ _ _ a d e _ bx) (λw hw=>?_) (λe he=>?_) ?_
 ·-- four cells are written
  have h0:w.heap[bx]?=some DX:=hw.own
  unfold DX at h0
  have s0:=heap_setCell (w:=w) (a:=⟨bx,0,none⟩) (v:=.int .i64 (y.kd c:Nat)) h0 rfl
  have g0:=s0 bx
  rw[if_pos rfl] at g0
  have s1:=heap_setCell (a:=⟨bx,1,none⟩) (v:=.int .i64 (y.lb c:Nat)) g0 rfl
  have g1:=s1 bx
  rw[if_pos rfl] at g1
  have s2:=heap_setCell (a:=⟨bx,2,none⟩) (v:=.int .i64 (y.sq c:Nat)) g1 rfl
  have g2:=s2 bx
  rw[if_pos rfl] at g2
  have s3:=heap_setCell (a:=⟨bx,3,none⟩) (v:=.slice a d e) g2 rfl
  have g3:=s3 bx
  rw[if_pos rfl] at g3
  have hoth:∀ b,b≠bx->((((w.setCell ⟨bx,0,none⟩ (.int .i64 (y.kd c:Nat))).setCell ⟨bx,1,none⟩ (.int .i64 (y.lb c:Nat))).setCell ⟨bx,2,none⟩ (.int .i64 (y.sq c:Nat))).setCell ⟨bx,3,none⟩ (.slice a d e)).heap[b]?=w.heap[b]?:=λb hb=>by
   rw[s3,if_neg hb,s2,if_neg hb,s1,if_neg hb,s0,if_neg hb]
  have hsz:((((w.setCell ⟨bx,0,none⟩ (.int .i64 (y.kd c:Nat))).setCell ⟨bx,1,none⟩ (.int .i64 (y.lb c:Nat))).setCell ⟨bx,2,none⟩ (.int .i64 (y.sq c:Nat))).setCell ⟨bx,3,none⟩ (.slice a d e)).heap.size=w.heap.size:=by simp only[cu]
  refine⟨_,show fq _ _ _ from⟨by simp[ck,h0],by simp[ju,h0],by simp[ck,g0],by simp[ju,g0],by simp[ck,g1],by simp[ju,g1],by simp[ck,g2],by simp[ju,g2],rfl⟩,⟨λb _ hno=>hoth b λh=>hno (.inr h),mS hsz.symm,rfl,rfl,rfl⟩,hsz,hw.kw.keep ok (λb hb=>hoth b (by omega)) (mS hsz.symm),?_⟩
  rw[g3]
  rfl
 .have:e=⟨.cell ⟨bx,0,none⟩,true,false⟩\/e=⟨.cell ⟨bx,1,none⟩,true,false⟩\/e=⟨.cell ⟨bx,2,none⟩,true,false⟩\/e=⟨.cell ⟨bx,3,none⟩,true,false⟩:=by simpa using he
  rcases this with rfl|rfl|rfl|rfl<;>exact .inl ⟨bx,rfl,rfl,.inl (.inr rfl)⟩
 have hcell:∀ w,Kn y bx (DZ (y.kd c) (y.lb c) (y.sq c) a d e) w->w.cell? ⟨bx,0,none⟩=some (.int .i64 (y.kd c:Nat))/\w.cell? ⟨bx,1,none⟩=some (.int .i64 (y.lb c:Nat))/\w.cell? ⟨bx,2,none⟩=some (.int .i64 (y.sq c:Nat)):=λw hw=>by
  have h0:w.heap[bx]?=some (DZ (y.kd c) (y.lb c) (y.sq c) a d e):=hw.own
  unfold DZ at h0
  exact⟨by simp[ck,h0],by simp[ck,h0],by simp[ck,h0]⟩
 refine bN (hK1 _) 6 (Zd y t c pb po v _ _ _ a d e _ bx) ?_
 refine uX (hK1 _) (Ze y t c pb po v _ _ _ a d e _ bx) (λw hw=>show fq _ _ _ from⟨(hcell w hw).2.1,rfl⟩) (evC_read (.inr (.inr rfl))) ?_
 refine bN (hK1 _) 2 (Zf y t c pb po v _ _ _ a d e _ bx) ?_
 refine uX (hK1 _) (Zg y t c pb po v _ _ _ a d e _ bx) (λw hw=>show fq _ _ _ from⟨(hcell w hw).2.2,rfl⟩) (evC_read (.inr (.inr rfl))) ?_
 refine bN (hK1 _) 1 (Zh y t c pb po v _ _ _ a d e _ bx) ?_
 refine uX (hK1 _) (U3 y t c pb po v _ _ _ a d e _ bx) (λw hw=>show fq _ _ _ from⟨(hcell w hw).1,rfl⟩) (evC_read (.inr (.inr rfl))) ?_
 refine bN (hK1 _) 2 (U4 y t c pb po v _ _ _ a d e _ bx) ?_
 refine dG (hK1 _) (U6 y t c pb po v _ _ _ a d e _ bx) λw hw=>⟨_,_,Q8 y t c pb po v _ _ _ a d e _ bx w,λw' r=>?_⟩
 have hw':=hK1 _ w w' r hw
 have hK2:=mW (y:=y) (AW:=AW) (Nx:=Nx) aa (λb=>O b\/b=bx)
 have hback:CK aa false false y.Fz (y.cx aa AW Nx).Ex (Rh aa y) (Kw y) (λb=>O b\/b=bx) (g12 aa y t c pb po v (y.kd c) (y.lb c) (y.sq c) a d e (y.st c) bx):=by
  refine bN hK2 3 (U5 y t c pb po v _ _ _ a d e _ bx) ?_
  rw[Q9]
  exact dG hK2 (Ra y _) λw hw=>⟨⟨_,rfl,Q_ y t c pb po v _ _ _ a d e _ bx,ady y t c pb po v _ _ _ a d e _ bx,adz y t c pb po v _ _ _ a d e _ bx,adA y t c pb po v _ _ _ a d e _ bx⟩,hw,hO1⟩
 exact hback w' hw'.kw
theorem Rk(ok:y.Ok aa)(t:Nat->ai){c:Nat}(hc:c<y.len)(hO:Own y O):CK aa false false y.Fz (y.cx aa AW Nx).Ex ((y.cx aa AW Nx).AtSend c) (Kw y) O (g3 aa y t c false):=by
 have hK:=mW (y:=y) (AW:=AW) (Nx:=Nx) aa O
 obtain⟨pb,po,hpa,hfz,hcell⟩:=ok.page c hc
 refine bN hK 7 (Y6 y t c) (zG hK (Y8 y t c pb po hpa hc) ?_)
 refine uX hK (Y9 y t c pb po (y.ha c) (y.hl c) (y.hc c)) (λw hw=>show fq _ _ _ from⟨(hw.cell hfz).trans hcell,rfl⟩) (evC_read (.inl hfz)) ?_
 refine bN hK 1 (Y_ y t c pb po _) ?_
 have e5:=U2 y t c pb po (.slice (y.ha c) (y.hl c) (y.hc c))
 unfold g5 g4 gI at e5
 rw[e5]
 intro w hw
 refine U7 ok hc hO w hw λO1 a d e w1 h1 h2=>?_
 exact Rj ok t (.slice (y.ha c) (y.hl c) (y.hc c)) a d e h1 w1 h2
theorem GH[Payload](ok:y.Ok aa)(t:Nat->ai)(hO:Own y O):CK aa false false y.Fz (y.cx aa AW Nx).Ex (y.cx aa AW Nx).kR (Kw y) O (sj aa y (wT y t)):=by
 have hK:=mW (y:=y) (AW:=AW) (Nx:=Nx) aa O
 refine bN hK 15 (QZ y t) (dG hK (Rb y t) λw hw c hc hcell hfr=>?_)
 have e1:IntKind.i64.wrap ((c:Int)+1)=((c+1:Nat):Int):=by rw[wrap_small (by omega) (by omega)];omega
 have Jz:=Q0 y t c
 rw[e1] at Jz
 refine⟨g1 aa y t c,Jz.step (show fq _ _ _ from⟨hcell,by rw[show w.cell? ⟨y.b6,0,none⟩=_ from hcell];rfl,hfr,rfl⟩),λw' r=>?_⟩
 have hw':=hK w w' r hw
 have e2:IntKind.i64.wrap (((c+1:Nat):Int)-1)=((c:Nat):Int):=by rw[wrap_small (by omega) (by omega)];omega
 have hsub:=UW y t c
 rw[e2] at hsub
 have hgeq:=UY y t c
 refine⟨λhlt=>?_,λhle=>?_⟩
 .have e3:decide ((y.len:Int)<=(c:Int))=false:=decide_eq_false (by have:c<y.len:=hlt;omega)
  rw[e3] at hgeq
  have h3:=Rk ok t hlt hO (AW:=AW) (Nx:=Nx)
  unfold g3 at h3
  have h2:=bN hK 8 (Q6 y t c) (zG hK hgeq h3)
  unfold g2 at h2
  exact bN hK 4 (Q5 y t c) (zG hK hsub h2) w' hw'
 .have e3:decide ((y.len:Int)<=(c:Int))=true:=decide_eq_true (by have:y.len<=c:=hle;omega)
  rw[e3] at hgeq
  have h3:=U8 ok t c (AW:=AW) (Nx:=Nx) (O:=O)
  unfold g3 at h3
  have h2:=bN hK 8 (Q6 y t c) (zG hK hgeq h3)
  unfold g2 at h2
  exact bN hK 4 (Q5 y t c) (zG hK hsub h2) w' hw'
theorem Rl[Payload](ok:y.Ok aa)(g:ag)(w:ae)(h:Rh aa y O g w):(y.cx aa AW Nx).UK false (y.cx aa AW Nx).kR O g w:=by
 obtain⟨⟨T,hg,hT,t0,t1,t2⟩,hw,hO⟩:=h
 obtain⟨v0,v1,v2,t,hTe⟩:=adq T hT
 rw[hTe] at hg t0 t1 t2
 rw[hg]
 have e0:v0=y.pages:=cd t0
 have e1:v1=ptr y.b6:=cd t1
 have e2:v2=.chan (some y.bc):=cd t2
 rw[e0,e1,e2]
 exact GH ok t hO w hw
theorem U9[Payload](ok:y.Ok aa)(w:ae)(hw:Kw y w):(y.cx aa AW Nx).UK false (y.cx aa AW Nx).kR (λ_=>False) (kid aa y) w:=by
 have hK:=mW (y:=y) (AW:=AW) (Nx:=Nx) aa (λ_=>False)
 refine(?_:CK aa false false y.Fz (y.cx aa AW Nx).Ex (y.cx aa AW Nx).kR (Kw y) (λ_=>False) (kid aa y)) w hw
 refine bN hK 6 (UU y) ?_
 refine uX hK (QW y) (λw hw=>show fq _ _ _ from⟨by rw[hw.cell (a:=⟨y.b2,0,none⟩) ok.f2];simp[ck,ok.b2],rfl⟩) (evC_read (.inl ok.f2)) ?_
 refine uX hK (QX y) (λw hw=>show fq _ _ _ from⟨by rw[hw.cell (a:=⟨y.b8,0,none⟩) ok.f8];simp[ck,ok.b8],rfl⟩) (evC_read (.inl ok.f8)) ?_
 refine bN hK 3 (QY y) ?_
 have e2:=Ny y
 unfold QV Y1 at e2
 rw[e2]
 exact GH ok _ λ_ h=>h.elim
end
