/- Part of the proof. -/
import Derived.Test.YtjlgehmebfkioaaGreatDoorZ22
open Go.Proofs.Tryz (prog)
namespace Go.Proofs.YtjlgehmebfkioaaGreatDoor
open Go Go.Conc
open Go.ConcN (WgLive Has AtR0 RW DWs)
open Go.ConcR (KK wgBlock WgAt stA smA rd wr Payload DC0)
structure Kn(y:Lk)(bx:Nat)(o:Obj)(w:World):Prop where
 kw:Kw y w
 own:w.heap[bx]?=some o
def Dx(k l s:Nat)(a:Option Addr)(d e:Nat):Obj:=.cells #[.int .i64 (k:Nat),.int .i64 (l:Nat),.int .i64 (s:Nat),.slice a d e] 88
section
variable {y:Lk} {AW Nx:(Nat->Prop)->Goroutine->World->Prop} {O:Nat->Prop}
theorem YQ(P:Program){bx:Nat}{o:Obj}(hb:O bx):M6 y.Fz (y.cx P AW Nx).Ex (Kn y bx o) O:=λw w₁ r h=>⟨mW P O w w₁ r h.kw,(r.mine bx hb).trans h.own⟩
theorem UC[Payload](ok:y.Ok prog)(t:Nat->Value)(c:Nat):CK prog false false y.Fz (y.cx prog AW Nx).Ex (y.cx prog AW Nx).AtRel (Kw y) O (g3 prog y t c true):=by
 have hK:=mW (y:=y) (AW:=AW) (Nx:=Nx) prog O
 refine bM hK 7 (Us y t c) (bM hK 14 (QD y t c) ?_)
 refine Jb hK (Je y t c).run (g':=gM prog y t c) (λw hw=>?_) (dD hK (Yy y t c) λw hw=>YO ok t c w hw)
 have hshape:w.shape? y.b7=some (203,2):=by
  obtain⟨st,sm,h⟩:=hw.live
  have h':w.heap[y.b7]?=some (wgBlock 203 st sm):=h
  simp[World.shape?,h',wgBlock]
 exact(Je y t c).step (show eX _ _ _ from⟨hshape,hshape,rfl⟩)
theorem evC_read{Fz O:Nat->Prop}{a:Addr}(h:Fz a.block\/O a.block):∀ e∈#[(⟨.cell a,false,false⟩:Event)],EvC Fz O e:=λe he=>by
 have:e=⟨.cell a,false,false⟩:=by simpa using he
 subst this
 exact .inl ⟨a.block,rfl,rfl,h.elim (λh=>.inr ⟨h,rfl⟩) .inl⟩
theorem QM(ok:y.Ok prog)(t:Nat->Value){c pb po:Nat}(v:Value)(a:Option Addr)(d e:Nat)(hO:Own y O):CK prog false false y.Fz (y.cx prog AW Nx).Ex ((y.cx prog AW Nx).AtSend c) (Kw y) O (g6 prog y t c pb po v (fv (y.kd c) (y.lb c) (y.sq c) a d e (y.st c))):=by
 have hK:=mW (y:=y) (AW:=AW) (Nx:=Nx) prog O
 refine bM hK 3 (YE y t c pb po v _ _ _ a d e _) (Yt hK (YF y t c pb po v _ _ _ a d e _) λw hw=>?_)
 obtain⟨bx,hbx⟩:∃ bx,bx=w.heap.size:=⟨_,rfl⟩
 rw[<-hbx]
 have hbig:y.w0.heap.size<=bx:=by rw[hbx];exact hw.size
 have hO1:Own y (λb=>O b\/b=bx):=λb hb=>hb.elim (hO b) λh=>h▸hbig
 have hin:(λb=>O b\/b=bx) bx:=.inr rfl
 have hK1:∀ o,M6 y.Fz (y.cx prog AW Nx).Ex (Kn y bx o) (λb=>O b\/b=bx):=λo=>YQ prog hin
 refine Um (K':=Kn y bx Dv) ?_ λw' h=>⟨hw.keep ok (λb hb=>h.2.2.1 b (by omega)) (by omega),h.2.2.2.2⟩
 refine Qt (K':=Kn y bx (Dx (y.kd c) (y.lb c) (y.sq c) a d e)) (hK1 _) (YG y t c pb po v _ _ _ a d e _ bx) (λw hw=>?_) (λe he=>?_) ?_
 ·-- four cells are written
  have h0:w.heap[bx]?=some Dv:=hw.own
  unfold Dv at h0
  have s0:=heap_setCell (w:=w) (a:=⟨bx,0,none⟩) (v:=.int .i64 (y.kd c:Nat)) h0 rfl
  have g0:=s0 bx
  rw[if_pos rfl] at g0
  have s1:=heap_setCell (a:=⟨bx,1,none⟩) (v:=.int .i64 (y.lb c:Nat)) g0 rfl
  have g1:=s1 bx
  rw[if_pos rfl] at g1
  have s2:=heap_setCell (a:=⟨bx,2,none⟩) (v:=.int .i64 (y.sq c:Nat)) g1 rfl
  have g2:=s2 bx
  rw[if_pos rfl] at g2
  have s3:=heap_setCell (a:=⟨bx,3,none⟩) (v:=.slice a d e) g2 rfl
  have g3:=s3 bx
  rw[if_pos rfl] at g3
  have hoth:∀ b,b≠bx->((((w.setCell ⟨bx,0,none⟩ (.int .i64 (y.kd c:Nat))).setCell ⟨bx,1,none⟩ (.int .i64 (y.lb c:Nat))).setCell ⟨bx,2,none⟩ (.int .i64 (y.sq c:Nat))).setCell ⟨bx,3,none⟩ (.slice a d e)).heap[b]?=w.heap[b]?:=λb hb=>by
   rw[s3,if_neg hb,s2,if_neg hb,s1,if_neg hb,s0,if_neg hb]
  have hsz:((((w.setCell ⟨bx,0,none⟩ (.int .i64 (y.kd c:Nat))).setCell ⟨bx,1,none⟩ (.int .i64 (y.lb c:Nat))).setCell ⟨bx,2,none⟩ (.int .i64 (y.sq c:Nat))).setCell ⟨bx,3,none⟩ (.slice a d e)).heap.size=w.heap.size:=by simp only[bZ]
  refine⟨_,show eX _ _ _ from⟨by simp[World.cell?,h0],by simp[World.frozen?,h0],by simp[World.cell?,g0],by simp[World.frozen?,g0],by simp[World.cell?,g1],by simp[World.frozen?,g1],by simp[World.cell?,g2],by simp[World.frozen?,g2],rfl⟩,⟨λb _ hno=>hoth b λh=>hno (.inr h),Nat.le_of_eq hsz.symm,rfl,rfl,rfl⟩,hsz,hw.kw.keep ok (λb hb=>hoth b (by omega)) (Nat.le_of_eq hsz.symm),?_⟩
  rw[g3]
  rfl
 .have:e=⟨.cell ⟨bx,0,none⟩,true,false⟩\/e=⟨.cell ⟨bx,1,none⟩,true,false⟩\/e=⟨.cell ⟨bx,2,none⟩,true,false⟩\/e=⟨.cell ⟨bx,3,none⟩,true,false⟩:=by simpa using he
  rcases this with rfl|rfl|rfl|rfl<;>exact .inl ⟨bx,rfl,rfl,.inl (.inr rfl)⟩
 have hcell:∀ w,Kn y bx (Dx (y.kd c) (y.lb c) (y.sq c) a d e) w->w.cell? ⟨bx,0,none⟩=some (.int .i64 (y.kd c:Nat))/\w.cell? ⟨bx,1,none⟩=some (.int .i64 (y.lb c:Nat))/\w.cell? ⟨bx,2,none⟩=some (.int .i64 (y.sq c:Nat)):=λw hw=>by
  have h0:w.heap[bx]?=some (Dx (y.kd c) (y.lb c) (y.sq c) a d e):=hw.own
  unfold Dx at h0
  exact⟨by simp[World.cell?,h0],by simp[World.cell?,h0],by simp[World.cell?,h0]⟩
 refine bM (hK1 _) 6 (YH y t c pb po v _ _ _ a d e _ bx) ?_
 refine uR (hK1 _) (YI y t c pb po v _ _ _ a d e _ bx) (λw hw=>show eX _ _ _ from⟨(hcell w hw).2.1,rfl⟩) (evC_read (.inr (.inr rfl))) ?_
 refine bM (hK1 _) 2 (YJ y t c pb po v _ _ _ a d e _ bx) ?_
 refine uR (hK1 _) (YK y t c pb po v _ _ _ a d e _ bx) (λw hw=>show eX _ _ _ from⟨(hcell w hw).2.2,rfl⟩) (evC_read (.inr (.inr rfl))) ?_
 refine bM (hK1 _) 1 (YL y t c pb po v _ _ _ a d e _ bx) ?_
 refine uR (hK1 _) (Uw y t c pb po v _ _ _ a d e _ bx) (λw hw=>show eX _ _ _ from⟨(hcell w hw).1,rfl⟩) (evC_read (.inr (.inr rfl))) ?_
 refine bM (hK1 _) 2 (Ux y t c pb po v _ _ _ a d e _ bx) ?_
 refine dD (hK1 _) (Uz y t c pb po v _ _ _ a d e _ bx) λw hw=>⟨_,_,QE y t c pb po v _ _ _ a d e _ bx w,λw' r=>?_⟩
 have hw':=hK1 _ w w' r hw
 have hK2:=mW (y:=y) (AW:=AW) (Nx:=Nx) prog (λb=>O b\/b=bx)
 have hback:CK prog false false y.Fz (y.cx prog AW Nx).Ex (QK prog y) (Kw y) (λb=>O b\/b=bx) (g12 prog y t c pb po v (y.kd c) (y.lb c) (y.sq c) a d e (y.st c) bx):=by
  refine bM hK2 3 (Uy y t c pb po v _ _ _ a d e _ bx) ?_
  rw[QF]
  exact dD hK2 (QH y _) λw hw=>⟨⟨_,rfl,QG y t c pb po v _ _ _ a d e _ bx,acV y t c pb po v _ _ _ a d e _ bx,acW y t c pb po v _ _ _ a d e _ bx,acX y t c pb po v _ _ _ a d e _ bx⟩,hw,hO1⟩
 exact hback w' hw'.kw
theorem QN(ok:y.Ok prog)(t:Nat->Value){c:Nat}(hc:c<y.len)(hO:Own y O):CK prog false false y.Fz (y.cx prog AW Nx).Ex ((y.cx prog AW Nx).AtSend c) (Kw y) O (g3 prog y t c false):=by
 have hK:=mW (y:=y) (AW:=AW) (Nx:=Nx) prog O
 obtain⟨pb,po,hpa,hfz,hcell⟩:=ok.page c hc
 refine bM hK 7 (Yz y t c) (zk hK (YB y t c pb po hpa hc) ?_)
 refine uR hK (YC y t c pb po (y.ha c) (y.hl c) (y.hc c)) (λw hw=>show eX _ _ _ from⟨(hw.cell hfz).trans hcell,rfl⟩) (evC_read (.inl hfz)) ?_
 refine bM hK 1 (YD y t c pb po _) ?_
 have e5:=Uv y t c pb po (.slice (y.ha c) (y.hl c) (y.hc c))
 unfold g5 g4 gI at e5
 rw[e5]
 intro w hw
 refine UA ok hc hO w hw λO1 a d e w1 h1 h2=>?_
 exact QM ok t (.slice (y.ha c) (y.hl c) (y.hc c)) a d e h1 w1 h2
theorem Gn[Payload](ok:y.Ok prog)(t:Nat->Value)(hO:Own y O):CK prog false false y.Fz (y.cx prog AW Nx).Ex (y.cx prog AW Nx).kP (Kw y) O (rW prog y (wT y t)):=by
 have hK:=mW (y:=y) (AW:=AW) (Nx:=Nx) prog O
 refine bM hK 15 (Qz y t) (dD hK (QI y t) λw hw c hc hcell hfr=>?_)
 have e1:IntKind.i64.wrap ((c:Int)+1)=((c+1:Nat):Int):=by rw[wrap_small (by omega) (by omega)];omega
 have Jf:=QA y t c
 rw[e1] at Jf
 refine⟨g1 prog y t c,Jf.step (show eX _ _ _ from⟨hcell,by rw[show w.cell? ⟨y.b6,0,none⟩=_ from hcell];rfl,hfr,rfl⟩),λw' r=>?_⟩
 have hw':=hK w w' r hw
 have e2:IntKind.i64.wrap (((c+1:Nat):Int)-1)=((c:Nat):Int):=by rw[wrap_small (by omega) (by omega)];omega
 have hsub:=Uq y t c
 rw[e2] at hsub
 have hgeq:=Ur y t c
 refine⟨λhlt=>?_,λhle=>?_⟩
 .have e3:decide ((y.len:Int)<=(c:Int))=false:=decide_eq_false (by have:c<y.len:=hlt;omega)
  rw[e3] at hgeq
  have h3:=QN ok t hlt hO (AW:=AW) (Nx:=Nx)
  unfold g3 at h3
  have h2:=bM hK 8 (QC y t c) (zk hK hgeq h3)
  unfold g2 at h2
  exact bM hK 4 (QB y t c) (zk hK hsub h2) w' hw'
 .have e3:decide ((y.len:Int)<=(c:Int))=true:=decide_eq_true (by have:y.len<=c:=hle;omega)
  rw[e3] at hgeq
  have h3:=UC ok t c (AW:=AW) (Nx:=Nx) (O:=O)
  unfold g3 at h3
  have h2:=bM hK 8 (QC y t c) (zk hK hgeq h3)
  unfold g2 at h2
  exact bM hK 4 (QB y t c) (zk hK hsub h2) w' hw'
theorem QO[Payload](ok:y.Ok prog)(g:Goroutine)(w:World)(h:QK prog y O g w):(y.cx prog AW Nx).Uh false (y.cx prog AW Nx).kP O g w:=by
 obtain⟨⟨T,hg,hT,t0,t1,t2⟩,hw,hO⟩:=h
 obtain⟨v0,v1,v2,t,hTe⟩:=acN T hT
 rw[hTe] at hg t0 t1 t2
 rw[hg]
 have e0:v0=y.pages:=Option.some.inj t0
 have e1:v1=ptr y.b6:=Option.some.inj t1
 have e2:v2=.chan (some y.bc):=Option.some.inj t2
 rw[e0,e1,e2]
 exact Gn ok t hO w hw
theorem UD[Payload](ok:y.Ok prog)(w:World)(hw:Kw y w):(y.cx prog AW Nx).Uh false (y.cx prog AW Nx).kP (λ_=>False) (kid prog y) w:=by
 have hK:=mW (y:=y) (AW:=AW) (Nx:=Nx) prog (λ_=>False)
 refine(?_:CK prog false false y.Fz (y.cx prog AW Nx).Ex (y.cx prog AW Nx).kP (Kw y) (λ_=>False) (kid prog y)) w hw
 refine bM hK 6 (Uo y) ?_
 refine uR hK (Qw y) (λw hw=>show eX _ _ _ from⟨by rw[hw.cell (a:=⟨y.b2,0,none⟩) ok.f2];simp[World.cell?,ok.b2],rfl⟩) (evC_read (.inl ok.f2)) ?_
 refine uR hK (Qx y) (λw hw=>show eX _ _ _ from⟨by rw[hw.cell (a:=⟨y.b8,0,none⟩) ok.f8];simp[World.cell?,ok.b8],rfl⟩) (evC_read (.inl ok.f8)) ?_
 refine bM hK 3 (Qy y) ?_
 have e2:=M7 y
 unfold Qv Yu at e2
 rw[e2]
 exact Gn ok _ λ_ h=>h.elim
end
