/- Part of the proof. -/
import Derived.Test.YthbndfpeffcigaaGreatDoorZ28
open Go.Proofs.Tryz (prog)
namespace Go.Proofs.YthbndfpeffcigaaGreatDoor
open Go Go.Conc
open Go.ConcN (WgLive Has AtR0 RW DWs)
open Go.ConcR (KK wgBlock WgAt stA smA rd wr Payload DC0)
def tu(w:World)(ad:Addr)(c:Array Value)(el:TypeId)(n:Nat):World:={ w with heap:=w.heap.setIfInBounds ad.block (.cells (c.extract 0 n) el (0,n)) }
def L8(a:Option Addr)(b:Nat):Nat:=match a with
 |some ad=>if b=ad.block then ad.off else 0
 |none=>0
theorem ac6{fns:Fx}{E:Nat->Nat->Prop}{k l s:Nat}{a:Option Addr}{d c st:Nat}{v':Value}(h:VR fns E (fv k l s a d c st) v'):∃ a',v'=fv k l s a' d c st:=by
 obtain⟨x',rfl,hx⟩:=bq.1 h
 obtain⟨h1,h2⟩:=hx
 obtain⟨l'⟩:=x'
 simp only[List.size_toArray,List.length_cons,List.length_nil] at h1
 rcases l' with _|⟨p,_|⟨q,_|⟨_,_⟩⟩⟩
 .simp at h1
 .simp at h1
 .have e0:=h2 0 (by simp) (by simp)
  have e1:=h2 1 (by simp) (by simp)
  simp only[List.getElem_toArray,List.getElem_cons_zero,List.getElem_cons_succ] at e0 e1
  rw[dB] at e1
  subst e1
  obtain⟨z,rfl,hz⟩:=bQ.1 e0
  obtain⟨z⟩:=z
  obtain⟨g1,g2⟩:=hz
  simp only[List.size_toArray,List.length_cons,List.length_nil] at g1
  rcases z with _|⟨z0,_|⟨z1,_|⟨z2,_|⟨z3,_|⟨_,_⟩⟩⟩⟩⟩
  .simp at g1
  .simp at g1
  .simp at g1
  .simp at g1
  .have f0:=g2 0 (by simp) (by simp)
   have f1:=g2 1 (by simp) (by simp)
   have f2:=g2 2 (by simp) (by simp)
   have f3:=g2 3 (by simp) (by simp)
   simp only[List.getElem_toArray,List.getElem_cons_zero,List.getElem_cons_succ] at f0 f1 f2 f3
   rw[dB] at f0 f1 f2
   obtain⟨b,rfl,_⟩:=aO.1 f3
   subst f0 f1 f2
   exact⟨b,rfl⟩
  .simp at g1
 .simp at h1
theorem Qr{y:Lk}{i:Nat}{ad:Addr}{cc:Array Value}{el:TypeId}{fr:Nat × Nat}(ha:y.ha i=some ad)(hfz:y.Fz ad.block)(hgl:prog.globals.size<y.w0.heap.size)(hc1:y.w0.heap[ad.block]?=some (.cells cc el fr))(hc2:ad.off+y.hl i<=cc.size)(hc3:∀ j,j<y.hl i->∃ z:Nat,cc[ad.off+j]?=some (.int .u8 (z:Int)))
 (opens:∀ w:World,(∀ j,j<y.hl i->w.cell? ⟨ad.block,ad.off+j,none⟩=y.w0.cell? ⟨ad.block,ad.off+j,none⟩)->Calls prog 158 #[.slice (y.ha i) (y.hl i) (y.hc i)] w (λe _=>∃ a d c,e=.returned (fv (y.kd i) (y.lb i) (y.sq i) a d c (y.st i)))):YK prog y i:=by
 have hlt:ad.block<y.w0.heap.size:=(Array.getElem?_eq_some_iff.1 hc1).1
 have hg:(tu y.w0 ad cc el (ad.off+y.hl i)).heap[ad.block]?=some (.cells (cc.extract 0 (ad.off+y.hl i)) el (0,ad.off+y.hl i)):=by
  simp only[tu]
  exact Array.getElem?_setIfInBounds_self_of_lt hlt
 have hsz:(tu y.w0 ad cc el (ad.off+y.hl i)).heap.size=y.w0.heap.size:=by simp[tu]
 refine⟨L8 (y.ha i),λa b=>a=b/\a=ad.block,tu y.w0 ad cc el (ad.off+y.hl i),.slice (y.ha i) (y.hl i) (y.hc i),λa b x=>by rw[<-x.1,x.2];exact hfz,⟨λa hz=>?_,⟨λa hz=>?_,λh=>by cases h⟩,by rw[hsz];exact hgl,hgl,λa b x _=>x.1,λa b a' b' x x'=>?_,λa b x=>?_⟩,?_,λw hw=>opens w λj hj=>?_⟩
 .obtain⟨b,_,rfl⟩:=hz
  rw[hsz];exact hlt
 .show (L8 (y.ha i) a==0)=true
  rw[beq_iff_eq,ha]
  unfold L8
  simp only
  rw[if_neg λe=>hz ⟨a,rfl,e⟩]
 .rw[<-x.1,<-x'.1]
  exact⟨λe=>e,λe _=>e⟩
 .obtain⟨rfl,rfl⟩:=x
  refine .inl ⟨cc.extract 0 (ad.off+y.hl i),cc,el,(0,ad.off+y.hl i),fr,hg,hc1,⟨by simp;omega,λhz=>(hz ⟨_,rfl,rfl⟩).elim,λk h1 h2 hl=>?_⟩,λhz=>(hz ⟨_,rfl,rfl⟩).elim,λ_ k hk=>⟨Nat.zero_le _,by simp at hk;omega⟩⟩
  have hlo:ad.off<=k:=by
   have:(g_ prog (L8 (y.ha i))).lo ad.block=ad.off:=by rw[ha];simp[g_,L8]
   rw[<-this];exact hl
  have hk:k<ad.off+y.hl i:=by simp at h1;omega
  obtain⟨z,hz⟩:=hc3 (k-ad.off) (by omega)
  rw[show ad.off+(k-ad.off)=k by omega] at hz
  have e1:cc[k]=.int .u8 (z:Int):=by
   rw[Array.getElem?_eq_getElem h2] at hz
   exact Option.some.inj hz
  simp only[Array.getElem_extract,Nat.zero_add,e1]
  exact aH rfl
 .refine aO.2 ⟨_,rfl,.inl ?_⟩
  rw[ha]
  exact⟨⟨rfl,rfl⟩,rfl,rfl,by simp[g_,L8]⟩
 .have:w.cell? ⟨ad.block,ad.off+j,none⟩=(tu y.w0 ad cc el (ad.off+y.hl i)).cell? ⟨ad.block,ad.off+j,none⟩:=by unfold World.cell?;rw[hw]
  rw[this]
  simp only[World.cell?,hg,hc1]
  simp only[Option.isSome_none,Bool.false_eq_true,if_false]
  rw[Array.getElem?_extract]
  rw[if_pos (by omega),Nat.zero_add]
section
variable {y:Lk} {AW Nx:(Nat->Prop)->Goroutine->World->Prop} {O:Nat->Prop} {Stop:(Nat->Prop)->Goroutine->World->Prop}
theorem Us(ok:y.Ok prog){i:Nat}(hi:i<y.len){c:Frame}{cs:List Frame}(hO:Own y O)(w:World)(hw:Kw y w)
 (next:∀ O1 a d e w1,Own y O1->Kw y w1->Co prog false false y.Fz (y.cx prog AW Nx).Ex Stop O1 (G (c.finish (fv (y.kd i) (y.lb i) (y.sq i) a d e (y.st i))) cs) w1) :
 Co prog false false y.Fz (y.cx prog AW Nx).Ex Stop O (G (Frame.enter prog 158 #[.slice (y.ha i) (y.hl i) (y.hc i)] .normal) (c::cs)) w:=by
 obtain⟨lo,E,gh,av,MF,L9,hv,YM⟩:=(ok.pg i hi).gh
 let Z:Nat->Prop:=λa=>∃ b,E a b
 have hgl:prog.globals.size<w.heap.size:=Nat.lt_of_lt_of_le ok.glob hw.size
 have ac7:WR prog (g_ prog lo) E Z gh w:=⟨L9.iO,L9.iY,L9.jG,hgl,L9.glob,L9.inj,λa b x=>by rw[hw.fz b (MF a b x)];exact L9.cells a b x⟩
 have hargs:aV (g_ prog lo) E #[av] #[.slice (y.ha i) (y.hl i) (y.hc i)]:=dR hv
 have hfn:lJ prog (g_ prog lo) 158=true:=(oI _).1.1 _ (by simp[g_])
 have hF:=FR.enter (oI lo).1 hfn rfl (λg hg=>by cases hg) hargs
 have hGR:GR prog (g_ prog lo) E [aQ] (c::cs) (G (Frame.enter prog 158 #[av] .normal) [aQ]) (G (Frame.enter prog 158 #[.slice (y.ha i) (y.hl i) (y.hc i)] .normal) (c::cs)):=⟨_,_,[],rfl,rfl,hF,trivial⟩
 have ac8:=G9 (Q:=λv _=>∃ a d e,v=fv (y.kd i) (y.lb i) (y.sq i) a d e (y.st i)) (acD hGR ac7) λt d=>(YM (eP gh t d) rfl).mono λe w' ⟨a,d,e',h⟩=>⟨_,h,a,d,e',rfl⟩
 have uz:=ac8.runs (xX _) xY (oI _) xg.on
 have key:=P8 (xX lo) xY (oI lo) (main:=false) (Fz:=y.Fz) (Ex:=(y.cx prog AW Nx).Ex) (Stop:=Stop) (c:=c) (cs:=cs) (Oi:=O) (K:=Kw y) (Hold:=λb=>y.Fz b\/b=y.b7) (B0:=w.heap.size) (E0:=E) (Z:=Z)
  (Q:=λv _=>∃ a d e,v=fv (y.kd i) (y.lb i) (y.sq i) a d e (y.st i))
  (λO w w₁ r h=>mM _ O w w₁ r h)
  (λw w' h hk hs=>by
   refine⟨λb hb=>(hk b (.inl hb)).trans (h.fz b hb),Nat.le_trans h.size hs,?_⟩
   obtain⟨st,sm,h2⟩:=h.live
   exact⟨st,sm,(hk _ (.inr rfl)).trans h2⟩)
  (λE1 v v' dW w1 hq hv hwr hk hfr=>by
   obtain⟨a,d,e,rfl⟩:=hq
   obtain⟨a',rfl⟩:=ac6 hv
   refine next _ a' d e w1 (λb hb=>?_) hk
   rcases hb with hb|⟨hb,a,hx⟩
   .exact hO b hb
   .rcases hfr a b hx with h|h
    .exact(hb (MF a b h)).elim
    .have:=hw.size;omega)
  _ uz.acc E _ w ⟨hGR,ac7,uz⟩
  (λa b x _=>MF a b x)
  (λa b x hz=>(hz ⟨b,x⟩).elim)
  (λb hb=>Nat.lt_of_lt_of_le (ok.fl b hb).1 hw.size)
  hw
  (λb hb=>by
   rcases hb with hb|rfl
   .exact⟨Nat.lt_of_lt_of_le (ok.fl b hb).1 hw.size,.inl hb⟩
   .refine⟨Nat.lt_of_lt_of_le ok.low.2.1 hw.size,.inr λa x=>?_⟩
    exact(ok.fl _ (MF a _ x)).2.2.1 rfl)
  (λa b x=>.inl x) (Nat.le_refl _)
 have hset:(λb=>O b\/(¬y.Fz b/\∃ a,E a b))=O:=by
  funext b
  refine propext ⟨λh=>h.elim id λ⟨h1,a,h2⟩=>?_,.inl⟩
  exact(h1 (MF a b h2)).elim
 rw[hset] at key
 exact key
end
structure Kn(y:Lk)(bx:Nat)(o:Obj)(w:World):Prop where
 kw:Kw y w
 own:w.heap[bx]?=some o
def Cj(k l s:Nat)(a:Option Addr)(d e:Nat):Obj:=.cells #[.int .i64 (k:Nat),.int .i64 (l:Nat),.int .i64 (s:Nat),.slice a d e] 293
section
variable {y:Lk} {AW Nx:(Nat->Prop)->Goroutine->World->Prop} {O:Nat->Prop}
theorem YN(P:Program){bx:Nat}{o:Obj}(hb:O bx):LY y.Fz (y.cx P AW Nx).Ex (Kn y bx o) O:=λw w₁ r h=>⟨mM P O w w₁ r h.kw,(r.mine bx hb).trans h.own⟩
theorem Ut[Payload](ok:y.Ok prog)(t:Nat->Value)(c:Nat):CK prog false false y.Fz (y.cx prog AW Nx).Ex (y.cx prog AW Nx).AtRel (Kw y) O (g3 prog y t c true):=by
 have hK:=mM (y:=y) (AW:=AW) (Nx:=Nx) prog O
 refine bM hK 7 (Uj y t c) (bM hK 14 (Qj y t c) ?_)
 refine Ht hK (Hy y t c).run (g':=gM prog y t c) (λw hw=>?_) (dx hK (Yv y t c) λw hw=>YL ok t c w hw)
 have hshape:w.shape? y.b7=some (266,2):=by
  obtain⟨st,sm,h⟩:=hw.live
  have h':w.heap[y.b7]?=some (wgBlock 266 st sm):=h
  simp[World.shape?,h',wgBlock]
 exact(Hy y t c).step (show eG _ _ _ from⟨hshape,hshape,rfl⟩)
theorem evC_read{Fz O:Nat->Prop}{a:Addr}(h:Fz a.block\/O a.block):∀ e∈#[(⟨.cell a,false,false⟩:Event)],EvC Fz O e:=λe he=>by
 have:e=⟨.cell a,false,false⟩:=by simpa using he
 subst this
 exact .inl ⟨a.block,rfl,rfl,h.elim (λh=>.inr ⟨h,rfl⟩) .inl⟩
theorem Qt(ok:y.Ok prog)(t:Nat->Value){c pb po:Nat}(v:Value)(a:Option Addr)(d e:Nat)(hO:Own y O):CK prog false false y.Fz (y.cx prog AW Nx).Ex ((y.cx prog AW Nx).AtSend c) (Kw y) O (g6 prog y t c pb po v (fv (y.kd c) (y.lb c) (y.sq c) a d e (y.st c))):=by
 have hK:=mM (y:=y) (AW:=AW) (Nx:=Nx) prog O
 refine bM hK 3 (YB y t c pb po v _ _ _ a d e _) (Yp hK (YC y t c pb po v _ _ _ a d e _) λw hw=>?_)
 obtain⟨bx,hbx⟩:∃ bx,bx=w.heap.size:=⟨_,rfl⟩
 rw[<-hbx]
 have hbig:y.w0.heap.size<=bx:=by rw[hbx];exact hw.size
 have hO1:Own y (λb=>O b\/b=bx):=λb hb=>hb.elim (hO b) λh=>h▸hbig
 have hin:(λb=>O b\/b=bx) bx:=.inr rfl
 have hK1:∀ o,LY y.Fz (y.cx prog AW Nx).Ex (Kn y bx o) (λb=>O b\/b=bx):=λo=>YN prog hin
 refine Ue (K':=Kn y bx Cg) ?_ λw' h=>⟨hw.keep ok (λb hb=>h.2.2.1 b (by omega)) (by omega),h.2.2.2.2⟩
 refine P9 (K':=Kn y bx (Cj (y.kd c) (y.lb c) (y.sq c) a d e)) (hK1 _) (YD y t c pb po v _ _ _ a d e _ bx) (λw hw=>?_) (λe he=>?_) ?_
 ·-- four cells are written
  have h0:w.heap[bx]?=some Cg:=hw.own
  unfold Cg at h0
  have s0:=heap_setCell (w:=w) (a:=⟨bx,0,none⟩) (v:=.int .i64 (y.kd c:Nat)) h0 rfl
  have g0:=s0 bx
  rw[if_pos rfl] at g0
  have s1:=heap_setCell (a:=⟨bx,1,none⟩) (v:=.int .i64 (y.lb c:Nat)) g0 rfl
  have g1:=s1 bx
  rw[if_pos rfl] at g1
  have s2:=heap_setCell (a:=⟨bx,2,none⟩) (v:=.int .i64 (y.sq c:Nat)) g1 rfl
  have g2:=s2 bx
  rw[if_pos rfl] at g2
  have s3:=heap_setCell (a:=⟨bx,3,none⟩) (v:=.slice a d e) g2 rfl
  have g3:=s3 bx
  rw[if_pos rfl] at g3
  have hoth:∀ b,b≠bx->((((w.setCell ⟨bx,0,none⟩ (.int .i64 (y.kd c:Nat))).setCell ⟨bx,1,none⟩ (.int .i64 (y.lb c:Nat))).setCell ⟨bx,2,none⟩ (.int .i64 (y.sq c:Nat))).setCell ⟨bx,3,none⟩ (.slice a d e)).heap[b]?=w.heap[b]?:=λb hb=>by
   rw[s3,if_neg hb,s2,if_neg hb,s1,if_neg hb,s0,if_neg hb]
  have hsz:((((w.setCell ⟨bx,0,none⟩ (.int .i64 (y.kd c:Nat))).setCell ⟨bx,1,none⟩ (.int .i64 (y.lb c:Nat))).setCell ⟨bx,2,none⟩ (.int .i64 (y.sq c:Nat))).setCell ⟨bx,3,none⟩ (.slice a d e)).heap.size=w.heap.size:=by simp only[bX]
  refine⟨_,show eG _ _ _ from⟨by simp[World.cell?,h0],by simp[World.frozen?,h0],by simp[World.cell?,g0],by simp[World.frozen?,g0],by simp[World.cell?,g1],by simp[World.frozen?,g1],by simp[World.cell?,g2],by simp[World.frozen?,g2],rfl⟩,⟨λb _ hno=>hoth b λh=>hno (.inr h),Nat.le_of_eq hsz.symm,rfl,rfl,rfl⟩,hsz,hw.kw.keep ok (λb hb=>hoth b (by omega)) (Nat.le_of_eq hsz.symm),?_⟩
  rw[g3]
  rfl
 .have:e=⟨.cell ⟨bx,0,none⟩,true,false⟩\/e=⟨.cell ⟨bx,1,none⟩,true,false⟩\/e=⟨.cell ⟨bx,2,none⟩,true,false⟩\/e=⟨.cell ⟨bx,3,none⟩,true,false⟩:=by simpa using he
  rcases this with rfl|rfl|rfl|rfl<;>exact .inl ⟨bx,rfl,rfl,.inl (.inr rfl)⟩
 have hcell:∀ w,Kn y bx (Cj (y.kd c) (y.lb c) (y.sq c) a d e) w->w.cell? ⟨bx,0,none⟩=some (.int .i64 (y.kd c:Nat))/\w.cell? ⟨bx,1,none⟩=some (.int .i64 (y.lb c:Nat))/\w.cell? ⟨bx,2,none⟩=some (.int .i64 (y.sq c:Nat)):=λw hw=>by
  have h0:w.heap[bx]?=some (Cj (y.kd c) (y.lb c) (y.sq c) a d e):=hw.own
  unfold Cj at h0
  exact⟨by simp[World.cell?,h0],by simp[World.cell?,h0],by simp[World.cell?,h0]⟩
 refine bM (hK1 _) 6 (YE y t c pb po v _ _ _ a d e _ bx) ?_
 refine sZ (hK1 _) (YF y t c pb po v _ _ _ a d e _ bx) (λw hw=>show eG _ _ _ from⟨(hcell w hw).2.1,rfl⟩) (evC_read (.inr (.inr rfl))) ?_
 refine bM (hK1 _) 2 (YG y t c pb po v _ _ _ a d e _ bx) ?_
 refine sZ (hK1 _) (YH y t c pb po v _ _ _ a d e _ bx) (λw hw=>show eG _ _ _ from⟨(hcell w hw).2.2,rfl⟩) (evC_read (.inr (.inr rfl))) ?_
 refine bM (hK1 _) 1 (YI y t c pb po v _ _ _ a d e _ bx) ?_
 refine sZ (hK1 _) (Un y t c pb po v _ _ _ a d e _ bx) (λw hw=>show eG _ _ _ from⟨(hcell w hw).1,rfl⟩) (evC_read (.inr (.inr rfl))) ?_
 refine bM (hK1 _) 2 (Uo y t c pb po v _ _ _ a d e _ bx) ?_
 refine dx (hK1 _) (Ur y t c pb po v _ _ _ a d e _ bx) λw hw=>⟨_,_,Qk y t c pb po v _ _ _ a d e _ bx w,λw' r=>?_⟩
 have hw':=hK1 _ w w' r hw
 have hK2:=mM (y:=y) (AW:=AW) (Nx:=Nx) prog (λb=>O b\/b=bx)
 have hback:CK prog false false y.Fz (y.cx prog AW Nx).Ex (Qq prog y) (Kw y) (λb=>O b\/b=bx) (g12 prog y t c pb po v (y.kd c) (y.lb c) (y.sq c) a d e (y.st c) bx):=by
  refine bM hK2 3 (Uq y t c pb po v _ _ _ a d e _ bx) ?_
  rw[Ql]
  exact dx hK2 (Qn y _) λw hw=>⟨⟨_,rfl,Qm y t c pb po v _ _ _ a d e _ bx,ac3 y t c pb po v _ _ _ a d e _ bx,ac4 y t c pb po v _ _ _ a d e _ bx,ac5 y t c pb po v _ _ _ a d e _ bx⟩,hw,hO1⟩
 exact hback w' hw'.kw
theorem Qu(ok:y.Ok prog)(t:Nat->Value){c:Nat}(hc:c<y.len)(hO:Own y O):CK prog false false y.Fz (y.cx prog AW Nx).Ex ((y.cx prog AW Nx).AtSend c) (Kw y) O (g3 prog y t c false):=by
 have hK:=mM (y:=y) (AW:=AW) (Nx:=Nx) prog O
 obtain⟨pb,po,hpa,hfz,hcell⟩:=ok.page c hc
 refine bM hK 7 (Yw y t c) (xU hK (Yy y t c pb po hpa hc) ?_)
 refine sZ hK (Yz y t c pb po (y.ha c) (y.hl c) (y.hc c)) (λw hw=>show eG _ _ _ from⟨(hw.cell hfz).trans hcell,rfl⟩) (evC_read (.inl hfz)) ?_
 refine bM hK 1 (YA y t c pb po _) ?_
 have e5:=Um y t c pb po (.slice (y.ha c) (y.hl c) (y.hc c))
 unfold g5 g4 gI at e5
 rw[e5]
 intro w hw
 refine Us ok hc hO w hw λO1 a d e w1 h1 h2=>?_
 exact Qt ok t (.slice (y.ha c) (y.hl c) (y.hc c)) a d e h1 w1 h2
theorem EI[Payload](ok:y.Ok prog)(t:Nat->Value)(hO:Own y O):CK prog false false y.Fz (y.cx prog AW Nx).Ex (y.cx prog AW Nx).jY (Kw y) O (qV prog y (wT y t)):=by
 have hK:=mM (y:=y) (AW:=AW) (Nx:=Nx) prog O
 refine bM hK 15 (Qf y t) (dx hK (Qo y t) λw hw c hc hcell hfr=>?_)
 have e1:IntKind.i64.wrap ((c:Int)+1)=((c+1:Nat):Int):=by rw[wrap_small (by omega) (by omega)];omega
 have Hz:=Qg y t c
 rw[e1] at Hz
 refine⟨g1 prog y t c,Hz.step (show eG _ _ _ from⟨hcell,by rw[show w.cell? ⟨y.b6,0,none⟩=_ from hcell];rfl,hfr,rfl⟩),λw' r=>?_⟩
 have hw':=hK w w' r hw
 have e2:IntKind.i64.wrap (((c+1:Nat):Int)-1)=((c:Nat):Int):=by rw[wrap_small (by omega) (by omega)];omega
 have hsub:=Uh y t c
 rw[e2] at hsub
 have hgeq:=Ui y t c
 refine⟨λhlt=>?_,λhle=>?_⟩
 .have e3:decide ((y.len:Int)<=(c:Int))=false:=decide_eq_false (by have:c<y.len:=hlt;omega)
  rw[e3] at hgeq
  have h3:=Qu ok t hlt hO (AW:=AW) (Nx:=Nx)
  unfold g3 at h3
  have h2:=bM hK 8 (Qi y t c) (xU hK hgeq h3)
  unfold g2 at h2
  exact bM hK 4 (Qh y t c) (xU hK hsub h2) w' hw'
 .have e3:decide ((y.len:Int)<=(c:Int))=true:=decide_eq_true (by have:y.len<=c:=hle;omega)
  rw[e3] at hgeq
  have h3:=Ut ok t c (AW:=AW) (Nx:=Nx) (O:=O)
  unfold g3 at h3
  have h2:=bM hK 8 (Qi y t c) (xU hK hgeq h3)
  unfold g2 at h2
  exact bM hK 4 (Qh y t c) (xU hK hsub h2) w' hw'
theorem Qv[Payload](ok:y.Ok prog)(g:Goroutine)(w:World)(h:Qq prog y O g w):(y.cx prog AW Nx).T_ false (y.cx prog AW Nx).jY O g w:=by
 obtain⟨⟨T,hg,hT,t0,t1,t2⟩,hw,hO⟩:=h
 obtain⟨v0,v1,v2,t,hTe⟩:=acU T hT
 rw[hTe] at hg t0 t1 t2
 rw[hg]
 have e0:v0=y.pages:=Option.some.inj t0
 have e1:v1=ptr y.b6:=Option.some.inj t1
 have e2:v2=.chan (some y.bc):=Option.some.inj t2
 rw[e0,e1,e2]
 exact EI ok t hO w hw
theorem Uu[Payload](ok:y.Ok prog)(w:World)(hw:Kw y w):(y.cx prog AW Nx).T_ false (y.cx prog AW Nx).jY (λ_=>False) (kid prog y) w:=by
 have hK:=mM (y:=y) (AW:=AW) (Nx:=Nx) prog (λ_=>False)
 refine(?_:CK prog false false y.Fz (y.cx prog AW Nx).Ex (y.cx prog AW Nx).jY (Kw y) (λ_=>False) (kid prog y)) w hw
 refine bM hK 6 (Ug y) ?_
 refine sZ hK (Qc y) (λw hw=>show eG _ _ _ from⟨by rw[hw.cell (a:=⟨y.b2,0,none⟩) ok.f2];simp[World.cell?,ok.b2],rfl⟩) (evC_read (.inl ok.f2)) ?_
 refine sZ hK (Qd y) (λw hw=>show eG _ _ _ from⟨by rw[hw.cell (a:=⟨y.b8,0,none⟩) ok.f8];simp[World.cell?,ok.b8],rfl⟩) (evC_read (.inl ok.f8)) ?_
 refine bM hK 3 (Qe y) ?_
 have e2:=LZ y
 unfold Qb Yq at e2
 rw[e2]
 exact EI ok _ λ_ h=>h.elim
end
