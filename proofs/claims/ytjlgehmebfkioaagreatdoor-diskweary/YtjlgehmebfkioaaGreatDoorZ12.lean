/- Part of the proof. -/
import Derived.Test.YtjlgehmebfkioaaGreatDoorZ11
set_option maxRecDepth 100000
open Go.Proofs.Tryz (prog)
open Go.Proofs.ah.Al (PB)
set_option maxHeartbeats 6400000
set_option linter.unusedVariables false
namespace Go.Proofs.aA
open ah ay aj Go.RowKit aB aD ah
theorem DK.book{g:Gm}{w w':World}{a:Ad}{x:Sd}(h:DK g w a x){k':Bk}(hc:BO g.L (g.D*g.B*g.P) w' a.kb a.ab a.ob k')(hk:Keep (BT a.ab a.ob) w w'):DK g w' a { x with k:=k' } :=
 have hm:∀ b,BT a.ab a.ob b->BM a.kb a.ab a.ob b:=λb hb=>Or.inr hb
 ⟨h.st.keep hk (λe=>h.n2 (hm _ e)),h.hc.keep h.iM.n.1 hk (λb hb e=>h.n3 b hb (hm _ e)),hc,h.n1,h.n2,h.n3,h.iM⟩
def O7(g:Gm)(x:Sd)(b l:Nat)(page:List Nat):Sd:={ zP g x b page with seq:=x.seq+1,k:=jP x.k l (b*g.P+x.s.next b) }
def kU(g:Gm)(x:Sd)(b l:Nat)(page:List Nat):Sd:=if x.cut=1 then AL g x b page else O7 g x b l page
structure PtQ(g:Gm)(w w':World)(a:Ad)(x:Sd)(b l:Nat)(page:List Nat):Prop where
 nx:vk g.P (g.D*g.B) (bS x.s) b
 dk:DK g w' a (kU g x b l page)
 kp:Keep (OD g a) w w'
def Tc(e:Ending)(g:Gm)(w w':World)(a:Ad)(x:Sd)(l:Nat)(page:List Nat):Prop:=∃ b,PtQ g w w' a x b l page/\e=.returned (jI x)
theorem O8{g:Gm}{w:World}{a:Ad}{x:Sd}(h:DK g w a x)(ho:x.s.off=false)(hc:x.cut<9223372036854775808)(hs:x.seq<4611686018427387904)(hx:∀ k,x.s.next k<=g.P)(hex:∃ k,k<g.D*g.B/\x.s.bad k=false/\x.s.next k≠g.P)
 (hfr:∀ b,vk g.P (g.D*g.B) (bS x.s) b->b*g.P+x.s.next b<g.D*g.B*g.P/\x.k.lb (b*g.P+x.s.next b)=-1)
 (kd l:Nat) (hl:l<g.L) (fa:Option Addr) (cap:Nat) (data:List Nat) (hF:Dy g.Y kd l x.seq data.length) (hA:aW data) (hL:bN w fa data) :
 Calls (PB prog false) 68 #[.pointer (some ⟨a.db,0,none⟩),.int .i64 (kd:Nat),.int .i64 (l:Nat),.slice fa data.length cap] w λe w'=>Tc e g w w' a x l (aR g.Y kd l x.seq data):=by
 have c3:w.cell? ⟨a.db,3,none⟩=some (.int .i64 (x.seq:Nat)):=h.st.cell 3
 have HX:=yh h ho hc hx hex kd l x.seq fa cap data hF hA hL
 clear h hex hx ho hF hA hL
 generalize aR g.Y kd l x.seq data=page at *
 generalize data.length=dl at *
 by_cases hcut:x.cut=1
 .have HQ:Calls (PB prog false) 45 #[.pointer (some ⟨a.db,0,none⟩),FV kd l x.seq fa dl cap] w λe w'=>e=.returned (.tuple #[.int .i64 0,.iface 31 (.int .i64 7)])/\Tc (.returned (.iface 31 (.int .i64 7))) g w w' a x l page:=HX.mono λe w' ⟨b,h1,h2⟩=>by
   have ep:jI x=.iface 31 (.int .i64 7):=if_pos hcut
   rw[ep,if_pos hcut] at h2
   refine⟨h2,b,⟨h1.nx,?_,h1.kp⟩,by rw[ep]⟩
   have e1:kU g x b l page=iV g x b page:=by unfold kU iV;rw[if_pos hcut,if_pos hcut]
   rw[e1]
   exact h1.dk
  clear HX hcut hfr
  generalize x.seq=sq at *
  go_enter Al.func68,Tryz.ntmps68
  go_wp2_with fail
  refine HQ.mono ?_
  rintro e w1 ⟨rfl,hp⟩
  have HP:Hid (Tc (.returned (.iface 31 (.int .i64 7))) g w w1 a x l page):=hp
  clear HQ hp
  go_wp2
  go_ret
  exact HP.out
 .have HQ:Calls (PB prog false) 45 #[.pointer (some ⟨a.db,0,none⟩),FV kd l x.seq fa dl cap] w λe w'=>∃ b:Nat,e=.returned (.tuple #[.int .i64 (b*g.P+x.s.next b:Nat),.nilIface])/\vk g.P (g.D*g.B) (bS x.s) b/\DK g w' a (zP g x b page)/\Keep (OD g a) w w':=HX.mono λe w' ⟨b,h1,h2⟩=>by
   have ep:jI x=.nilIface:=if_neg hcut
   rw[ep,if_neg hcut] at h2
   have e1:iV g x b page=zP g x b page:=by unfold iV;rw[if_neg hcut]
   have h3:=h1.dk
   rw[e1] at h3
   exact⟨b,h2,h1.nx,h3,h1.kp⟩
  clear HX
  obtain⟨sq,vC⟩:∃ sq,x.seq=sq:=⟨_,rfl⟩
  rw[vC] at c3 HQ hs
  have HSQ:Hid (x.seq=sq):=vC
  clear vC
  have HC:Hid (x.cut≠1):=hcut
  clear hcut
  go_enter Al.func68,Tryz.ntmps68
  go_wp2_with fail
  refine HQ.mono ?_
  rintro e w1 ⟨b,rfl,hnx,hdk,hkp⟩
  have HF:Hid (b*g.P+x.s.next b<g.D*g.B*g.P/\x.k.lb (b*g.P+x.s.next b)=-1):=hfr b hnx
  have H1:Hid (vk g.P (g.D*g.B) (bS x.s) b/\DK g w1 a (zP g x b page)/\Keep (OD g a) w w1):=⟨hnx,hdk,hkp⟩
  clear HQ hnx hdk hkp hfr c3
  have c3:w1.cell? ⟨a.db,3,none⟩=some (.int .i64 (x.seq:Nat)):=H1.out.2.1.st.cell 3
  rw[HSQ.out] at c3
  have f3:=H1.out.2.1.st.free 3
  have e1:IntKind.i64.wrap ((sq:Int)+1)=(sq:Int)+1:=bR (by omega) (by omega)
  have H2:Hid (DK g (w1.setCell ⟨a.db,3,none⟩ (.int .i64 ((sq:Int)+1))) a { zP g x b page with seq:=sq+1 }/\Keep (OD g a) w (w1.setCell ⟨a.db,3,none⟩ (.int .i64 ((sq:Int)+1)))):=⟨H1.out.2.1.cell { zP g x b page with seq:=sq+1 } 3 _ rfl rfl rfl,H1.out.2.2.trans (((Keep.refl (λb=>b=a.db) _).set1 _ _).mono λb e=>Or.inl e)⟩
  have c2:(w1.setCell ⟨a.db,3,none⟩ (.int .i64 ((sq:Int)+1))).cell? ⟨a.db,2,none⟩=some (.pointer (some ⟨a.kb,0,none⟩)):=H2.out.1.st.cell 2
  have HS:=JK H2.out.1.ho (l:Int) ((b*g.P+x.s.next b:Nat):Int)
  have es:o9 g.L (g.D*g.B*g.P) x.k (l:Int) ((b*g.P+x.s.next b:Nat):Int)=(0,jP x.k l (b*g.P+x.s.next b)):=by
   unfold o9
   rw[if_neg (by rw[r_ hl,r_ HF.out.1];simp),if_neg (λh=>h.1 (by rw[Int.toNat_natCast];exact HF.out.2)),Int.toNat_natCast,Int.toNat_natCast]
  have hxk:({ zP g x b page with seq:=sq+1 }:Sd).k=x.k:=rfl
  rw[hxk,es] at HS
  have HE:Hid (∀ w',BO g.L (g.D*g.B*g.P) w' a.kb a.ab a.ob (jP x.k l (b*g.P+x.s.next b))->Keep (BT a.ab a.ob) (w1.setCell ⟨a.db,3,none⟩ (.int .i64 ((sq:Int)+1))) w'->Tc (.returned .nilIface) g w w' a x l page):=λw' q1 q2=>by
   refine⟨b,⟨H1.out.1,?_,H2.out.2.trans (q2.mono λb hb=>Or.inr (Or.inr (Or.inr hb)))⟩,by unfold jI;rw[if_neg HC.out]⟩
   have e2:kU g x b l page={ ({ zP g x b page with seq:=sq+1 }:Sd) with k:=jP x.k l (b*g.P+x.s.next b) }:=by
    unfold kU O7
    rw[if_neg HC.out,HSQ.out]
   rw[e2]
   exact H2.out.1.book q1 q2
  clear H1 H2 HF hxk es HC HSQ
  generalize jP x.k l (b*g.P+x.s.next b)=k' at *
  generalize b*g.P+x.s.next b=pl at *
  go_wp2_with fail
  refine HS.mono ?_
  rintro e w2 ⟨rfl,q1,q2⟩
  have HZ:Hid (Tc (.returned .nilIface) g w w2 a x l page):=HE.out w2 q1 q2
  clear HS HE q1 q2
  rw[bV]
  go_wp2
  go_ret
  exact HZ.out
variable {a:Ad} {g:Gm} {w:World}
def CS:Prop:=∀ (n m:Nat),m≠0->∀ W:World,Calls (PB prog false) 42 #[cK n,.iface 31 (.int .i64 (m:Int))] W λe w'=>e=.returned (.bool (decide (n=m)))/\Below W.heap.size W w'
structure DW(g:Gm)(x:Sd):Prop where
 dv:DV (g.D*g.B) g.P g.Y g.L x.s.bytes (bS x.s) x.k x.seq
 y:24<=g.Y
 y1:g.Y<=256
 l:g.L<=256
def DW.see(g:Gm)(x:Sd)(l:Nat):List Nat:=nu g.P g.Y x.s.bytes x.k l
theorem DW.free{x:Sd}(h:DW g x):∀ b,vk g.P (g.D*g.B) (bS x.s) b->b*g.P+x.s.next b<g.D*g.B*g.P/\x.k.lb (b*g.P+x.s.next b)=-1:=λb hb=>(h.dv.blank hb).2
theorem DW.put{x:Sd}(h:DW g x){b kd l:Nat}{data:List Nat}(hx:vk g.P (g.D*g.B) (bS x.s) b)(hF:Dy g.Y kd l x.seq data.length)(hk:kd=1\/kd=2)(hd1:kd=1->data.length+21=g.Y)(hd2:kd=2->data=[])(hA:aW data)(hl:l<g.L) :
 DW g (kU g x b l (aR g.Y kd l x.seq data))/\∀ j,j<g.L->DW.see g (kU g x b l (aR g.Y kd l x.seq data)) j=if x.cut=1 then DW.see g x j else if j=l then(if kd=1 then data else List.replicate (g.Y-21) 0) else DW.see g x j:=by
 unfold kU
 by_cases hc:x.cut=1
 .rw[if_pos hc]
  obtain⟨t1,t2⟩:=h.dv.abp hx (page:=aR g.Y kd l x.seq data) (gJ _ _ _ _ _ hF.d1) (by have:=h.y;omega) (jr _ _ _ _ _ (by have:=hF.k1;omega) hA)
  exact⟨⟨t1,h.y,h.y1,h.l⟩,λj hj=>by rw[if_pos hc];exact t2 j hj⟩
 .rw[if_neg hc]
  obtain⟨t1,t2⟩:=h.dv.put hx hF hk hd1 hd2 hA hl
  exact⟨⟨t1,h.y,h.y1,h.l⟩,λj hj=>by rw[if_neg hc];exact t2 j hj⟩
theorem Tc.from{e:Ending}{W w':World}{x:Sd}{l:Nat}{page:List Nat}(h:Tc e g W w' a x l page)(hb:Below w.heap.size w W):Tc e g w w' a x l page:=by
 obtain⟨b,h1,h2⟩:=h
 exact⟨b,⟨h1.nx,h1.dk,(Keep.of_below (S:=OD g a) hb).trans h1.kp⟩,h2⟩
def iy(g:Gm)(x:Sd)(p:Nat):List Nat:=fP g.P g.Y x.s.bytes p
def anew(g:Gm)(x:Sd)(l p:Nat):List Nat:=aR g.Y (aQ (iy g x p)) l x.seq (aT (iy g x p))
theorem DW.live{x:Sd}(h:DW g x){l p:Nat}(hl:l<g.L)(hp:x.k.pa l=(p:Int))(hs:x.seq<4611686018427387904):p<g.D*g.B*g.P/\fZ (iy g x p)/\aW (iy g x p)/\aW (aT (iy g x p))/\(aT (iy g x p)).length=aX (iy g x p)/\Dy g.Y (aQ (iy g x p)) l x.seq (aT (iy g x p)).length/\(aQ (iy g x p)=1\/aQ (iy g x p)=2)/\(aQ (iy g x p)=1->(aT (iy g x p)).length+21=g.Y)/\(aQ (iy g x p)=2->aT (iy g x p)=[])/\DW.see g x l=(if aQ (iy g x p)=1 then aT (iy g x p) else List.replicate (g.Y-21) 0):=by
 obtain⟨q1,q2,q3,q4,q5,q6⟩:=h.dv.frame hl hp
 have Td:=h.dv.di.pz.all p q1
 have hlen:=h.dv.di.pz.len p q1
 have hy:=h.y
 have hy1:=h.y1
 have hL:=h.l
 refine⟨q1,q2.1,Td,h_ Td,gL ?_,⟨h.y,by omega,?_,?_,by omega,by omega,?_⟩,q2.2,q5,q6,q4⟩
 .exact q2.1.1.d1
 .show 1<=aQ (fP g.P g.Y x.s.bytes p)
  rcases q2.2 with e|e<;>omega
 .show aQ (fP g.P g.Y x.s.bytes p)<=3
  rcases q2.2 with e|e<;>omega
 .rcases q2.2 with e|e
  .have:=q5 e
   show (aT (fP g.P g.Y x.s.bytes p)).length+21<=g.Y
   omega
  .have:=q6 e
   show (aT (fP g.P g.Y x.s.bytes p)).length+21<=g.Y
   rw[this]
   simp
   omega
def XJ(e:Ending)(g:Gm)(w w':World)(a:Ad)(x:Sd)(p:Nat):Prop:=(x.k.lb p=-1/\e=.returned .nilIface/\Below w.heap.size w w')\/(∃ l:Nat,l<g.L/\x.k.pa l=(p:Int)/\Tc e g w w' a x l (anew g x l p))
theorem XJ.ret{e:Ending}{w':World}{x:Sd}{p:Nat}(h:XJ e g w w' a x p):∃ v,e=.returned v:=by
 rcases h with ⟨_,h,_⟩|⟨_,_,_,_,_,h⟩
 .exact⟨_,h⟩
 .exact⟨_,h⟩
theorem FI{x:Sd}(HI:CS)(h:DK g w a x)(hw:DW g x)(ho:x.s.off=false)(hc:x.cut<9223372036854775808)(hs:x.seq<4611686018427387904)(p:Nat)(hp:p<g.D*g.B*g.P)(hex:x.k.lb p≠-1->∃ k,k<g.D*g.B/\x.s.bad k=false/\x.s.next k≠g.P) :
 Calls (PB prog false) 93 #[.pointer (some ⟨a.db,0,none⟩),.int .i64 (p:Nat)] w λe w'=>XJ e g w w' a x p:=by
 have c2:w.cell? ⟨a.db,2,none⟩=some (.pointer (some ⟨a.kb,0,none⟩)):=h.st.cell 2
 have HX:=XF h.ho (p:Int)
 rcases hw.dv.inv.o p hp with hno|⟨l,hl,hlb,hpa⟩
 .rw[ql hp hno] at HX
  have Gw:=HI 4 4 (by decide)
  have HF:Hid (∀ w',Below w.heap.size w w'->XJ (.returned .nilIface) g w w' a x p):=λw' hb=>Or.inl ⟨hno,rfl,hb⟩
  clear h hw hex hno HI
  go_enter Al.func93,Tryz.ntmps93
  go_wp2_with fail
  refine HX.mono ?_
  rintro e w1 ⟨rfl,rfl⟩
  clear HX
  go_wp2_with fail
  refine(Gw _).mono ?_
  rintro e w2 ⟨rfl,hb⟩
  have HZ:=HF.out w2 hb
  have HZ2:Hid (XJ (.returned .nilIface) g w1 w2 a x p):=HZ
  clear Gw hb HF HZ
  go_wp2
  go_ret
  exact HZ2.out
 .have ht:jq (g.D*g.B*g.P) x.k.lb (p:Int)=((l:Int),0):=by rw[qm hp (by omega),hlb]
  rw[ht] at HX
  replace hex:=hex (by omega)
  obtain⟨q1,hV,Td,hAd,hdl,hF,hkd,hd1,hd2,-⟩:=hw.live hl hpa hs
  have Gw:=HI 0 4 (by decide)
  have XK:Hid (∀ W,Below w.heap.size w W->Calls (PB prog false) 43 #[.pointer (some ⟨a.db,0,none⟩),.int .i64 (p:Nat)] W λe w'=>FrP e W w' (iy g x p)):=λW hW=>yg (h.below hW) p hp ho Td hV
  have RI:Hid (∀ W fa cap,Below w.heap.size w W->bN W fa (aT (iy g x p))->Calls (PB prog false) 68 #[.pointer (some ⟨a.db,0,none⟩),.int .i64 (aQ (iy g x p):Nat),.int .i64 (l:Nat),.slice fa (aX (iy g x p)) cap] W λe w'=>XJ e g w w' a x p):=λW fa cap hW hL=>by
   have hq:=O8 (h.below hW) ho hc hs hw.dv.nx hex hw.free (aQ (iy g x p)) l hl fa cap (aT (iy g x p)) hF hAd hL
   rw[hdl] at hq
   exact hq.mono λe w' h1=>Or.inr ⟨l,hl,hpa,h1.from hW⟩
  clear h hw hex HI hc hs ho hp q1 hV Td hAd hdl hF hkd hd1 hd2 hlb hpa ht
  rw[bV] at Gw HX
  unfold FrP at XK
  generalize iy g x p=pg at *
  generalize aQ pg=KK at *
  generalize bT pg=LL at *
  generalize bM pg=SS at *
  generalize aX pg=DD at *
  generalize aT pg=DT at *
  go_enter Al.func93,Tryz.ntmps93
  go_wp2_with fail
  refine HX.mono ?_
  rintro e w1 ⟨rfl,rfl⟩
  clear HX
  go_wp2_with fail
  refine(Gw _).mono ?_
  rintro e w2 ⟨rfl,hb2⟩
  have HB2:Hid (Below w1.heap.size w1 w2):=hb2
  clear Gw hb2
  go_wp2_with fail
  refine(XK.out _ HB2.out).mono ?_
  rintro e w3 ⟨fa,fc,rfl,hO,hb3⟩
  have HB3:Hid (Below w1.heap.size w1 (w3.alloc (jw (KK:Nat) (LL:Nat) (SS:Nat) fa DD fc))/\bN (w3.alloc (jw (KK:Nat) (LL:Nat) (SS:Nat) fa DD fc)) fa DT):=⟨(HB2.out.trans (hb3.mono HB2.out.size)).alloc (HB2.out.trans (hb3.mono HB2.out.size)).size _,hO.lies.below (aC _ _)⟩
  have HQ:=RI.out _ fa fc HB3.out.1 HB3.out.2
  clear XK RI HB2 hO hb3
  go_wp2_with fail
  refine HQ.mono ?_
  rintro e w4 hm
  obtain⟨v,rfl⟩:=hm.ret
  have HM:Hid (XJ (.returned v) g w1 w4 a x p):=hm
  clear hm HQ HB3
  go_wp2
  go_ret
  exact HM.out
variable {a:Ad} {g:Gm}
theorem fK{w:World}{x:Sd}(h:DK g w a x) :
 Calls (PB prog false) 35 #[.pointer (some ⟨a.db,0,none⟩)] w λe w'=>e=.returned (.bool (decide (g.spare<x.bad)))/\Below w.heap.size w w':=by
 have c4:w.cell? ⟨a.db,4,none⟩=some (.int .i64 (x.bad:Nat)):=h.st.cell 4
 have c12:w.cell? ⟨a.db,12,none⟩=some (.int .i64 (g.spare:Nat)):=h.st.cell 12
 have HB:Hid (∀ s,Below w.heap.size w (w.drewN s)):=λs=>below_drewN (Below.refl _ _) s
 have e3:decide ((g.spare:Int)<(x.bad:Int))=decide (g.spare<x.bad):=by simp only[Int.ofNat_lt]
 rw[<-e3]
 clear h e3
 go_enter Al.func35,Tryz.ntmps35
 go_wp2
 go_quiet (fail)
 go_wp2
 go_ret
 exact⟨by simp,HB.out _⟩
def jA(x:Sd):Nat:=if x.cut=1 then 7 else if x.fails=0 then 0 else 6
def JO(g:Gm)(s:St)(v:Nat):St:={ s with off:=true,bytes:=upd s.bytes v (List.replicate (g.P*g.Y) 0),next:=upd s.next v g.P,aF:=upd s.aF v (s.aF v+1) }
def Wt(g:Gm)(s:St)(v:Nat):St:={ s with bytes:=upd s.bytes v (List.replicate (g.P*g.Y) 255),next:=upd s.next v 0,aF:=upd s.aF v (s.aF v+1) }
def Wu(s:St)(v:Nat):St:={ s with bad:=upd s.bad v true }
def ku(g:Gm)(x:Sd)(v:Nat):St:=if x.cut=1 then JO g x.s v else if x.fails=0 then Wt g x.s v else Wu x.s v
theorem O9{w5:World}{x:Sd}(ht:DK g w5 a (gq x))(v:Nat)(hv:v<g.D*g.B)(ho:x.s.off=false)(hb:x.s.bad v=false)(hwr:∀ k,x.s.aF k<4611686018427387904) :
 Calls (PB prog false) 125 #[.pointer (some ⟨a.cb,0,none⟩),.int .i64 ((v/g.B:Nat):Int),.int .i64 ((v%g.B:Nat):Int),.int .i64 (Ta x)] w5 λe w'=>e=.returned (cK (jA x))/\DK g w' a { gq x with s:=ku g x v }/\Keep (OD g a) w5 w':=by
 have h:=Mh ((v/g.B:Nat):Int) ((v%g.B:Nat):Int) (Ta x) w5 ht.iM ht.hc hwr
 refine h.mono λe w' hh=>?_
 obtain⟨h1,h2,h3⟩:=hh
 obtain⟨hh,hk⟩:=vP ht.iM.b0 hv
 have JJ:0<=((v/g.B:Nat):Int)/\((v/g.B:Nat):Int)<g.D/\0<=((v%g.B:Nat):Int)/\((v%g.B:Nat):Int)<g.B:=hh
 have hxs:(gq x).s=x.s:=rfl
 have e1:¬(x.s.off=true):=by rw[ho];simp
 have e3:¬(x.s.bad v=true):=by rw[hb];simp
 have key:xS g.D g.B g.P g.Y x.s ((v/g.B:Nat):Int) ((v%g.B:Nat):Int) (Ta x)=(jA x,ku g x v):=by
  unfold xS Ta jA ku
  rw[hk]
  by_cases hc:x.cut=1
  .rw[if_pos hc,if_pos hc,if_pos hc,if_neg e1,if_neg (λh=>h JJ),if_neg (λh=>h ⟨by omega,by omega⟩),if_neg e3,if_neg (by decide),if_neg (by decide)]
   rfl
  .rw[if_neg hc,if_neg hc,if_neg hc]
   by_cases hf:x.fails=0
   .rw[if_pos hf,if_pos hf,if_pos hf,if_neg e1,if_neg (λh=>h JJ),if_neg (λh=>h ⟨by omega,by omega⟩),if_neg e3,if_pos rfl]
    rfl
   .rw[if_neg hf,if_neg hf,if_neg hf,if_neg e1,if_neg (λh=>h JJ),if_neg (λh=>h ⟨by omega,by omega⟩),if_neg e3,if_neg (by decide),if_pos rfl]
    rfl
 rw[hxs,key] at h1 h2
 exact⟨h1,ht.XH h2 h3,h3.mono λb hb=>Or.inr (Or.inl hb)⟩
def fU(g:Gm)(x:Sd)(v:Nat):Sd:={ gq x with s:=ku g x v,bad:=if jA x=6 then x.bad+1 else x.bad }
def tX(g:Gm)(x:Sd):Nat:=if jA x=6 then(if g.spare<x.bad+1 then 9 else 0) else jA x
def XL(e:Ending)(g:Gm)(w w':World)(a:Ad)(x:Sd)(v:Nat):Prop:=e=.returned (cK (tX g x))/\DK g w' a (fU g x v)/\Keep (OD g a) w w'
theorem O_{w:World}{x:Sd}(HI:CS)(h:DK g w a x)(v:Nat)(hv:v<g.D*g.B)(ho:x.s.off=false)(hb:x.s.bad v=false)(hwr:∀ k,x.s.aF k<4611686018427387904)(hc:x.cut<9223372036854775808)(hf:x.fails<4611686018427387904)(hbd:x.bad<4611686018427387904) :
 Calls (PB prog false) 94 #[.pointer (some ⟨a.db,0,none⟩),.int .i64 (v:Nat)] w λe w'=>XL e g w w' a x v:=by
 have hN:=Gm.O4 h.iM
 have HS:=ow h.dc v (by omega)
 have HT:Hid (∀ W,Below w.heap.size w W->Calls (PB prog false) 126 #[.pointer (some ⟨a.db,0,none⟩)] W λe w'=>e=.returned (.int .i64 (Ta x))/\FH g W w' a (gq x)):=λW hW=>yc (h.below hW) hc hf
 have HQ:Hid (∀ W W5,Below w.heap.size w W->FH g W W5 a (gq x)->Calls (PB prog false) 125 #[.pointer (some ⟨a.cb,0,none⟩),.int .i64 ((v/g.B:Nat):Int),.int .i64 ((v%g.B:Nat):Int),.int .i64 (Ta x)] W5 λe w'=>e=.returned (cK (jA x))/\DK g w' a { gq x with s:=ku g x v }/\Keep (OD g a) w w'):=λW W5 hW ht =>
  (O9 ht.dk v hv ho hb hwr).mono λe w' hh=>⟨hh.1,hh.2.1,((Keep.of_below (S:=OD g a) hW).trans (ht.kp.mono λb e=>Or.inl e)).trans hh.2.2⟩
 have HD0:Hid (∀ W,Below w.heap.size w W->DK g W a x):=λW hW=>h.below hW
 have Gw:=HI (jA x) 6 (by decide)
 clear h hb hwr ho hv hN HI hc hf
 generalize v/g.B=q at *
 generalize v%g.B=r at *
 generalize Ta x=f at *
 go_enter Al.func94,Tryz.ntmps94
 go_wp2_with fail
 refine HS.mono ?_
 rintro e w1 ⟨rfl,hb1⟩
 have HB1:Hid (Below w.heap.size w w1):=hb1
 have c6:w1.cell? ⟨a.db,6,none⟩=some (.pointer (some ⟨a.cb,0,none⟩)):=(HD0.out w1 hb1).st.cell 6
 clear HS hb1
 go_wp2
 go_region_held3 (λw'=>w'.cell? ⟨a.db,6,none⟩=some (.pointer (some ⟨a.cb,0,none⟩))) (first|assumption|exact ht.dk.st.cell 6|exact hp.st.cell 6|go_keep) (first|(go_at_call 126;refine(HT.out _ (by first|exact HB1.out|exact HB1.out.drew)).mono ?_;rintro e w5 ⟨rfl,ht⟩)|(go_at_call 125;refine(HQ.out _ _ (by first|exact HB1.out|exact HB1.out.drew) ht).mono ?_;rintro e w6 ⟨rfl,hp,hk⟩))
 have H6:Hid (DK g w6 a { gq x with s:=ku g x v }/\Keep (OD g a) w w6):=⟨hp,hk⟩
 clear hp hk ht HT HQ c6 HB1 HD0
 go_wp2_with fail
 refine(Gw _).mono ?_
 rintro e w7 ⟨rfl,hb7⟩
 have H7:Hid (DK g w7 a { gq x with s:=ku g x v }/\Keep (OD g a) w w7):=⟨H6.out.1.below hb7,H6.out.2.trans (Keep.of_below hb7)⟩
 clear H6 hb7 Gw
 by_cases h6:jA x=6
 .have HF:Hid (∀ W,DK g W a { gq x with s:=ku g x v,bad:=x.bad+1 }->Keep (OD g a) w W->XL (.returned (cK (if g.spare<x.bad+1 then 9 else 0))) g w W a x v):=λW q1 q2=>by
   have e1:fU g x v={ gq x with s:=ku g x v,bad:=x.bad+1 }:=by unfold fU;rw[if_pos h6]
   have e2:tX g x=(if g.spare<x.bad+1 then 9 else 0):=by unfold tX;rw[if_pos h6]
   unfold XL
   rw[e1,e2]
   exact⟨rfl,q1,q2⟩
  have c4:w7.cell? ⟨a.db,4,none⟩=some (.int .i64 (x.bad:Nat)):=H7.out.1.st.cell 4
  have f4:=H7.out.1.st.free 4
  have H8:Hid (DK g (w7.setCell ⟨a.db,4,none⟩ (.int .i64 ((x.bad:Int)+1))) a { gq x with s:=ku g x v,bad:=x.bad+1 }/\Keep (OD g a) w (w7.setCell ⟨a.db,4,none⟩ (.int .i64 ((x.bad:Int)+1)))):=⟨H7.out.1.cell { gq x with s:=ku g x v,bad:=x.bad+1 } 4 _ rfl rfl rfl,H7.out.2.trans (((Keep.refl (λb=>b=a.db) _).set1 _ _).mono λb e=>Or.inl e)⟩
  have HL:=fK H8.out.1
  have hbe:({ gq x with s:=ku g x v,bad:=x.bad+1 }:Sd).bad=x.bad+1:=rfl
  rw[hbe] at HL
  have e1:IntKind.i64.wrap ((x.bad:Int)+1)=(x.bad:Int)+1:=bR (by omega) (by omega)
  clear hbe H7
  rw[h6]
  clear h6
  generalize x.bad=bd at *
  by_cases hl:g.spare<bd+1
  .rw[decide_eq_true hl] at HL
   rw[if_pos hl] at HF
   go_wp2_with fail
   refine HL.mono ?_
   rintro e w9 ⟨rfl,XM⟩
   have HZ:Hid (XL (.returned (cK 9)) g w w9 a x v):=HF.out w9 (H8.out.1.below XM) (H8.out.2.trans (Keep.of_below XM))
   clear HL HF H8 XM
   go_wp2
   go_ret
   exact HZ.out
  .rw[decide_eq_false hl] at HL
   rw[if_neg hl] at HF
   go_wp2_with fail
   refine HL.mono ?_
   rintro e w9 ⟨rfl,XM⟩
   have HZ:Hid (XL (.returned (cK 0)) g w w9 a x v):=HF.out w9 (H8.out.1.below XM) (H8.out.2.trans (Keep.of_below XM))
   clear HL HF H8 XM
   go_wp2
   go_ret
   exact HZ.out
 .have HF:Hid (XL (.returned (cK (jA x))) g w w7 a x v):=by
   have e1:fU g x v={ gq x with s:=ku g x v }:=by unfold fU;rw[if_neg h6];rfl
   have e2:tX g x=jA x:=by unfold tX;rw[if_neg h6]
   unfold XL
   rw[e1,e2]
   exact⟨rfl,H7.out.1,H7.out.2⟩
  rw[decide_eq_false h6]
  clear h6 H7
  generalize cK (jA x)=ev at *
  go_wp2
  go_ret
  exact HF.out
variable {kb rb wb:Nat} {bad:Nat->Bool} {f:Nat->Int} {aF:Nat->Nat} {w w2 wq:World}
def qp:Prop:=∀ (gb n:Nat) (f:Nat->Int) (W:World),1<=n->n<=64->IR W gb n f->Calls (PB prog false) 120 #[.slice (some ⟨gb,0,none⟩) n n] W λe w'=>e=.returned (.tuple #[])/\∃ f':Nat->Int,IR w' gb n f'/\(∀ i j,i<=j->j<n->f' i<=f' j)/\Keep (λb=>b=gb) W w'
def qw:Prop:=∀ (gb n:Nat) (f:Nat->Int) (v:Int) (W:World),1<=n->n<=64->IR W gb n f->(∀ i j,i<=j->j<n->f i<=f j)->Calls (PB prog false) 121 #[.slice (some ⟨gb,0,none⟩) n n,.int .i64 v] W λe w'=>∃ (k:Nat) (q:Bool),k<=n/\e=.returned (.tuple #[.int .i64 (k:Nat),.bool q])/\Below W.heap.size W w'
def Pb(n:Nat):Array Value:=madeCells #[.int .i64 0] n
theorem XO(n i:Nat)(h:i<n):(Pb n)[i]?=some (.int .i64 0):=by
 unfold Pb madeCells
 simp[h,Nat.mod_one]
theorem abZ:((PB prog false).info? 3).map (λi=>(i.zero,i.size,i.bytes))=some (some (.int .i64 0),1,8):=by kernel_rfl
theorem tu(n:Nat)(hn:n<=64)(w:World):(Instr.makeSlice 114 (.int .i64 (n:Int)) (.int .i64 (n:Int))).run (PB prog false) w=.ok (.slice (some ⟨w.heap.size,0,none⟩) n n) (w.alloc (.cells (Pb n) 3)):=by
 obtain⟨i0,hi,hz0,hz1,hz2⟩:=info_parts abZ
 have h:=run_make (P:=(PB prog false)) w 114 3 i0 (.int .i64 0) Al.underlying114 hi hz0 .i64 .i64 n n (by omega) (by omega) (by rw[hz2];omega) (by omega)
 rw[h,hz1,Int.toNat_natCast,Nat.mul_one]
 rfl
theorem IR.made(w:World)(n:Nat):IR (w.alloc (.cells (Pb n) 3)) w.heap.size n (λ_=>0):=by
 have hh:(w.alloc (.cells (Pb n) 3)).heap[w.heap.size]?=some (.cells (Pb n) 3 (0,0)):=heap_alloc_new w _
 refine⟨λk hk=>?_,λo=>dJ hh o⟩
 simp only[World.cell?,hh]
 exact XO n k hk
structure RW(w wq:World)(rb n:Nat)(bad:Nat->Bool)(next aF:Nat->Nat)(wb:Nat)(f:Nat->Int):Prop where
 br:BR wq rb n bad next aF
 ir:IR wq wb n f
 cO:Below w.heap.size w wq
 ge:w.heap.size<=wb
 lt:rb<w.heap.size
 n1:1<=n
theorem RW.below{n:Nat}{next:Nat->Nat}(h:RW w wq rb n bad next aF wb f)(hb:Below wq.heap.size wq w2):RW w w2 rb n bad next aF wb f :=
 ⟨h.br.below hb,h.ir.keep h.n1 (Keep.of_below (S:=λ_=>False) hb) (λe=>e),h.cO.trans (hb.mono h.cO.size),h.ge,h.lt,h.n1⟩
theorem RW.turn{n:Nat}{next:Nat->Nat}{f':Nat->Int}(h:RW w wq rb n bad next aF wb f)(hi:IR w2 wb n f')(hk:Keep (λb=>b=wb) wq w2):RW w w2 rb n bad next aF wb f' :=
 ⟨h.br.keep hk (λe=>by have:=h.lt;have:=h.ge;omega),hi,h.cO.trans (hk.below h.cO.size (λb e=>by have:=h.ge;omega)),h.ge,h.lt,h.n1⟩
theorem RW.set{n:Nat}{next:Nat->Nat}(h:RW w wq rb n bad next aF wb f)(k:Nat)(v:Int)(hk:k<n):RW w (wq.setCell ⟨wb,k,none⟩ (.int .i64 v)) rb n bad next aF wb (upd f k v) :=
 h.turn (h.ir.set k v hk) ((Keep.refl _ _).set1 _ _)
structure RX(w wq:World)(rb n:Nat)(bad:Nat->Bool)(next aF:Nat->Nat)(wb:Nat)(f:Nat->Int)(kb:Nat):Prop where
 rw:RW w wq rb n bad next aF wb f
 kr:∃ r:Nat->Int,IR wq kb n r/\∀ k,k<n->0<=r k/\r k<=64
 kb:wb<kb
theorem RX.below{n:Nat}{next:Nat->Nat}(h:RX w wq rb n bad next aF wb f kb)(hb:Below wq.heap.size wq w2):RX w w2 rb n bad next aF wb f kb:=by
 obtain⟨r,h1,h2⟩:=h.kr
 exact⟨h.rw.below hb,⟨r,h1.keep h.rw.n1 (Keep.of_below (S:=λ_=>False) hb) (λe=>e),h2⟩,h.kb⟩
theorem RX.set{n:Nat}{next:Nat->Nat}(h:RX w wq rb n bad next aF wb f kb)(k v:Nat)(hk:k<n)(hv:v<=64):RX w (wq.setCell ⟨kb,k,none⟩ (.int .i64 (v:Nat))) rb n bad next aF wb f kb:=by
 obtain⟨r,h1,h2⟩:=h.kr
 have hkk:Keep (λb=>b=kb) wq (wq.setCell ⟨kb,k,none⟩ (.int .i64 (v:Nat))):=(Keep.refl _ _).set1 _ _
 have h3:=h.kb
 have h4:=h.rw.ge
 have h5:=h.rw.lt
 refine⟨⟨h.rw.br.keep hkk (λe=>by omega),h.rw.ir.keep h.rw.n1 hkk (λe=>by omega),h.rw.cO.trans (hkk.below h.rw.cO.size (λb e=>by omega)),h4,h5,h.rw.n1⟩,⟨_,h1.set k (v:Int) hk,λj hj=>?_⟩,h3⟩
 by_cases e:j=k
 .rw[e,upd_same];omega
 .rw[upd_ne _ _ _ _ e];exact h2 j hj
theorem RX.start{n:Nat}{next:Nat->Nat}(h:RW w wq rb n bad next aF wb f):RX w (wq.alloc (.cells (Pb n) 3)) rb n bad next aF wb f wq.heap.size :=
 ⟨h.below (aC _ _),⟨_,IR.made wq n,λk _=>by omega⟩,h.ir.lt h.n1⟩
def RkP(e:Ending)(w w':World)(n:Nat):Prop:=∃ kb,e=.returned (.slice (some ⟨kb,0,none⟩) n n)/\(∃ r:Nat->Int,IR w' kb n r/\∀ k,k<n->0<=r k/\r k<=64)/\w.heap.size<=kb/\Below w.heap.size w w'
theorem RX.done{n:Nat}{next:Nat->Nat}(h:RX w wq rb n bad next aF wb f kb):RkP (.returned (.slice (some ⟨kb,0,none⟩) n n)) w wq n :=
 ⟨kb,rfl,h.kr,by have:=h.kb;have:=h.rw.ge;omega,h.rw.cO⟩
theorem zQ(HS:qp)(HK:qw)(rb n cap:Nat)(bad:Nat->Bool)(next aF:Nat->Nat)(w:World)(h:BR w rb n bad next aF)(hn1:1<=n)(hn:n<=64) :
 Calls (PB prog false) 90 #[.slice (some ⟨rb,0,none⟩) n cap] w λe w'=>RkP e w w' n:=by
 have hmk:=tu n hn
 have H0:Hid (RW w (w.alloc (.cells (Pb n) 3)) rb n bad next aF w.heap.size (λ_=>0)):=⟨h.below (aC _ _),IR.made w n,aC _ _,Nat.le_refl _,h.lt,hn1⟩
 clear h
 go_enter Al.func90,Tryz.ntmps90
 go_wp2
 obtain⟨W0,hW0⟩:∃ W0,(w.alloc (.cells (Pb n) 3))=W0:=⟨_,rfl⟩
 have H1:Hid (RW w W0 rb n bad next aF w.heap.size (λ_=>0)):=by rw[<-hW0];exact H0.out
 rw[hW0]
 clear H0 hW0
 go_loopw [14] (λj wq=>∃ (i:Nat),i<=n/\j=.int .i64 i/\Hid (∃ f,RW w wq rb n bad next aF w.heap.size f)) (λj _=>n-(intOf j).toNat)
 case atStart=>exact⟨0,Nat.zero_le _,rfl,⟨_,H1.out⟩⟩
 case round =>
  obtain⟨i,hi,rfl,hR⟩:=hrel
  obtain⟨f,hf⟩:=hR.out
  clear H1 hR
  have HF:Hid (RW w wr rb n bad next aF w.heap.size f):=hf
  clear hf
  by_cases hlt:i<n
  .have r0:=HF.out.br.b i hlt
   have r1:=HF.out.br.x i hlt
   have r2:=HF.out.br.r i hlt
   generalize bad i=vb at r0
   generalize next i=vn at r1
   generalize aF i=vw at r2
   have HC:Hid (RW w (wr.alloc (.cells #[.bool vb,.int .i64 (vn:Nat),.int .i64 (vw:Nat)] 133)) rb n bad next aF w.heap.size f):=HF.out.below (aC _ _)
   have s0:=HC.out.ir.cell i hlt
   have s1:=HC.out.ir.free i
   generalize f i=fi at s0
   have HG:Hid (RW w ((wr.alloc (.cells #[.bool vb,.int .i64 (vn:Nat),.int .i64 (vw:Nat)] 133)).setCell ⟨w.heap.size,i,none⟩ (.int .i64 (vw:Nat))) rb n bad next aF w.heap.size (upd f i (vw:Int))):=HC.out.set i _ hlt
   clear HF HC
   go_wp2
   exact⟨⟨i+1,by omega,by go_num,⟨_,HG.out⟩⟩,by simp[intOf];omega⟩
  .obtain rfl:i=n:=by omega
   have HX:=HS w.heap.size i f wr hn1 hn HF.out.ir
   go_wp2_with fail
   refine HX.mono ?_
   rintro e w2 ⟨rfl,f',hi2,hso,hk⟩
   have H2:Hid (RX w (w2.alloc (.cells (Pb i) 3)) rb i bad next aF w.heap.size f' w2.heap.size/\∀ a b,a<=b->b<i->f' a<=f' b):=⟨RX.start (HF.out.turn hi2 hk),hso⟩
   clear HX HF hi2 hso hk
   go_wp2
   obtain⟨W3,hW3⟩:∃ W3,(w2.alloc (.cells (Pb i) 3))=W3:=⟨_,rfl⟩
   have H3:Hid (RX w W3 rb i bad next aF w.heap.size f' w2.heap.size/\∀ a b,a<=b->b<i->f' a<=f' b):=by rw[<-hW3];exact H2.out
   rw[hW3]
   clear H2 hW3
   generalize w2.heap.size=kb at *
   go_loopw [32] (λj wq=>∃ (m:Nat),m<=i/\j=.int .i64 m/\Hid (RX w wq rb i bad next aF w.heap.size f' kb)) (λj _=>i-(intOf j).toNat)
   case atStart=>exact⟨0,Nat.zero_le _,rfl,H3.out.1⟩
   case round =>
    obtain⟨m,hm,rfl,hR⟩:=hrel
    by_cases hlt2:m<i
    .have HF:Hid (RX w wr rb i bad next aF w.heap.size f' kb):=hR.out
     clear hR
     have r0:=HF.out.rw.br.b m hlt2
     have r1:=HF.out.rw.br.x m hlt2
     have r2:=HF.out.rw.br.r m hlt2
     generalize bad m=vb at r0
     generalize next m=vn at r1
     generalize aF m=vw at r2
     have HC:Hid (RX w (wr.alloc (.cells #[.bool vb,.int .i64 (vn:Nat),.int .i64 (vw:Nat)] 133)) rb i bad next aF w.heap.size f' kb):=HF.out.below (aC _ _)
     have HX:=HK w.heap.size i f' (vw:Int) _ hn1 hn HC.out.rw.ir H3.out.2
     clear HF
     go_wp2_with fail
     refine HX.mono ?_
     rintro e w5 ⟨k,q,hk,rfl,hb⟩
     have HD:Hid (RX w w5 rb i bad next aF w.heap.size f' kb):=HC.out.below hb
     obtain⟨r,hr,hr2⟩:=HD.out.kr
     have s0:=hr.cell m hlt2
     have s1:=hr.free m
     have HG:Hid (RX w (w5.setCell ⟨kb,m,none⟩ (.int .i64 (k:Nat))) rb i bad next aF w.heap.size f' kb):=HD.out.set m k hlt2 (by omega)
     clear HC HX hb HD hr hr2 H3 r0 r1 r2
     generalize r m=rm at s0
     go_wp2
     exact⟨⟨m+1,by omega,by go_num,HG.out⟩,by simp[intOf];omega⟩
    .obtain rfl:m=i:=by omega
     have HZ:Hid (RkP (.returned (.slice (some ⟨kb,0,none⟩) m m)) w wr m):=hR.out.done
     clear hR H3
     go_wp2
     go_ret
     exact HZ.out
theorem nM{g:Gm}{w:World}{a:Ad}{x:Sd}(h:DK g w a x)(hy:21<=g.Y) :
 Calls (PB prog false) 13 #[.pointer (some ⟨a.db,0,none⟩)] w λe w'=>e=.returned (.int .i64 ((g.Y-21:Nat):Int))/\w'=w:=by
 have c10:w.cell? ⟨a.db,10,none⟩=some (.int .i64 (g.Y:Nat)):=h.st.cell 10
 have hy1:=h.iM.y1
 have e1:(g.Y:Int)-21=((g.Y-21:Nat):Int):=by omega
 have e2:IntKind.i64.wrap ((g.Y-21:Nat):Int)=((g.Y-21:Nat):Int):=bR (by omega) (by omega)
 clear h
 go_enter Al.func13,Tryz.ntmps13
 go_wp2
 go_ret
 exact⟨by first|rfl|simp[e1,e2],rfl⟩
def findF(L:Nat)(off:Bool)(l:Int):Nat:=if off=true then 7 else if 0<=l/\l<L then 0 else 1
theorem oz{g:Gm}{w:World}{a:Ad}{x:Sd}(h:DK g w a x)(l:Int) :
 Calls (PB prog false) 40 #[.pointer (some ⟨a.db,0,none⟩),.int .i64 l] w λe w'=>e=.returned (cK (findF g.L x.s.off l))/\w'=w:=by
 have c6:w.cell? ⟨a.db,6,none⟩=some (.pointer (some ⟨a.cb,0,none⟩)):=h.st.cell 6
 have c11:w.cell? ⟨a.db,11,none⟩=some (.int .i64 (g.L:Nat)):=h.st.cell 11
 have HO:=vN w h.hc
 unfold findF
 clear h
 generalize x.s.off=of at *
 cases of with
 |true =>
  rw[if_pos rfl]
  go_enter Al.func40,Tryz.ntmps40
  go_wp2_with fail
  refine HO.mono ?_
  rintro e w1 ⟨rfl,rfl⟩
  clear HO
  go_wp2
  go_ret
  exact⟨rfl,rfl⟩
 |false =>
  rw[if_neg (by simp)]
  by_cases h1:l<0
  .rw[if_neg (by omega)]
   go_enter Al.func40,Tryz.ntmps40
   go_wp2_with fail
   refine HO.mono ?_
   rintro e w1 ⟨rfl,rfl⟩
   clear HO
   go_wp2
   go_ret
   exact⟨rfl,rfl⟩
  .by_cases h2:(g.L:Int)<=l
   .rw[if_neg (by omega)]
    go_enter Al.func40,Tryz.ntmps40
    go_wp2_with fail
    refine HO.mono ?_
    rintro e w1 ⟨rfl,rfl⟩
    clear HO
    go_wp2
    go_ret
    exact⟨rfl,rfl⟩
   .rw[if_pos (by omega)]
    go_enter Al.func40,Tryz.ntmps40
    go_wp2_with fail
    refine HO.mono ?_
    rintro e w1 ⟨rfl,rfl⟩
    clear HO
    go_wp2
    go_ret
    exact⟨rfl,rfl⟩
end Go.Proofs.aA
namespace Go.Proofs.aA
open ay aj Go.RowKit aB aD ah
variable {g:Gm} {i:Nat} {y:Sd}
structure EM(g:Gm)(x y:Sd)(v i:Nat):Prop where
 dw:DW g y
 see:∀ j,j<g.L->DW.see g y j=DW.see g x j
 off:y.s.off=false
 bad:y.s.bad=x.s.bad
 aF:y.s.aF=x.s.aF
 nb:y.bad=x.bad
 fails:y.fails=x.fails
 ch:y.ch=x.ch
 cut:y.cut<=x.cut
 seq:y.seq<=x.seq+i
 full:Full g.P (bS y.s) v
 gone:∀ j,j<i->y.k.lb (v*g.P+j)=-1
 cnt:aN g.P (g.D*g.B) (bS y.s)+aY g.P x.k v=aN g.P (g.D*g.B) (bS x.s)+aY g.P y.k v
 liv:aY g.P y.k v<=aY g.P x.k v
 cz:x.s.off=false/\(x.cut=0\/1<=y.cut)
 nx:∀ k,x.s.next k<=y.s.next k
structure ET(g:Gm)(x y:Sd)(v:Nat):Prop where
 dw:DW g y
 see:∀ j,j<g.L->DW.see g y j=DW.see g x j
 off:y.s.off=true
 nb:y.bad=x.bad
 bad:y.s.bad=x.s.bad
 fails:y.fails=x.fails
 ch:y.ch=x.ch
 cut:y.cut=0
 one:1<=x.cut
 seq:y.seq<=x.seq+g.P
 aF:∀ k,y.s.aF k<=x.s.aF k+1
 full:Full g.P (bS y.s) v
 cnt:aN g.P (g.D*g.B) (bS y.s)+aY g.P x.k v+1=aN g.P (g.D*g.B) (bS x.s)+aY g.P y.k v
 liv:aY g.P y.k v<=aY g.P x.k v
 nx:∀ k,x.s.next k<=y.s.next k
theorem oG(n:Nat->Nat)(b k:Nat):n k<=upd n b (n b+1) k:=by
 by_cases e:k=b
 .rw[e,upd_same];omega
 .rw[upd_ne _ _ _ _ e];exact Nat.le_refl _
theorem EM.start{x:Sd}{v:Nat}(h:DW g x)(ho:x.s.off=false)(hv:Full g.P (bS x.s) v):EM g x x v 0 :=
 ⟨h,λ_ _=>rfl,ho,rfl,rfl,rfl,rfl,rfl,Nat.le_refl _,Nat.le_refl _,hv,λj hj=>by omega,rfl,Nat.le_refl _,⟨ho,by omega⟩,λ_=>Nat.le_refl _⟩
theorem EM.skip{x:Sd}{v:Nat}(h:EM g x y v i)(hl:y.k.lb (v*g.P+i)=-1):EM g x y v (i+1) :=
 ⟨h.dw,h.see,h.off,h.bad,h.aF,h.nb,h.fails,h.ch,h.cut,by have:=h.seq;omega,h.full,λj hj=>by
  by_cases e:j=i
  .rw[e];exact hl
  .exact h.gone j (by omega),h.cnt,h.liv,h.cz,h.nx⟩
theorem EM.some{x:Sd}{v l:Nat}(h:EM g x y v i)(hi:i<g.P)(hl:l<g.L)(hp:y.k.pa l=((v*g.P+i:Nat):Int))(hr:aY g.P x.k v<=aN g.P (g.D*g.B) (bS x.s)):∃ k,k<g.D*g.B/\y.s.bad k=false/\y.s.next k≠g.P:=by
 have hv:=div_mul (k:=v) hi
 have h1:=Ev (q:=(v+1)*g.P+0) h.dw.dv.inv hl hp hv.1 (by rw[(div_mul (k:=v+1) (j:=0) (P:=g.P) (by omega)).1];omega) (by omega) (λe=>by
  have e2:(v+1)*g.P=v*g.P+g.P:=by rw[Nat.add_mul,Nat.one_mul]
  omega)
 have h2:=h.cnt
 obtain⟨k,k1,k2,k3⟩:=BK (P:=g.P) (N:=g.D*g.B) (c:=bS y.s) (by omega)
 exact⟨k,k1,k2,Nat.ne_of_lt k3⟩
theorem EM.put{x:Sd}{v l b:Nat}(h:EM g x y v i)(hi:i<g.P)(hvN:v<g.D*g.B)(hl:l<g.L)(hp:y.k.pa l=((v*g.P+i:Nat):Int))(hs:y.seq<4611686018427387904)(hb:vk g.P (g.D*g.B) (bS y.s) b) :
 (y.cut≠1->EM g x (kU g y b l (anew g y l (v*g.P+i))) v (i+1))/\(y.cut=1->ET g x (kU g y b l (anew g y l (v*g.P+i))) v):=by
 obtain⟨q1,hV,Td,hAd,hdl,hF,hkd,hd1,hd2,pq⟩:=h.dw.live hl hp hs
 obtain⟨p1,p2⟩:=h.dw.put hb hF hkd hd1 hd2 hAd hl
 have JQ:∀ j,j<g.L->DW.see g (kU g y b l (anew g y l (v*g.P+i))) j=DW.see g x j:=λj hj=>by
  have e:=p2 j hj
  refine Eq.trans e ?_
  by_cases hc:y.cut=1
  .rw[if_pos hc];exact h.see j hj
  .rw[if_neg hc]
   by_cases ej:j=l
   .rw[if_pos ej,<-pq,<-ej];exact h.see j hj
   .rw[if_neg ej];exact h.see j hj
 have hbP:(bS y.s).next b<g.P:=hb.2.2.1
 obtain⟨f1,f2⟩:=Lu hbP h.full
 have aeS:=wJ hb.1 hb.2.1 hbP
 refine⟨λhc=>?_,λhc=>?_⟩
 .have e:kU g y b l (anew g y l (v*g.P+i))=O7 g y b l (anew g y l (v*g.P+i)):=if_neg hc
  rw[e] at JQ ⊢
  have p1':DW g (O7 g y b l (anew g y l (v*g.P+i))):=by rw[<-e];exact p1
  have hq:(b*g.P+y.s.next b)/g.P≠v:=by
   rw[(div_mul (k:=b) (j:=y.s.next b) hbP).1]
   exact λe=>f1 e.symm
  have hv:=div_mul (k:=v) hi
  have hne:v*g.P+i≠b*g.P+y.s.next b:=λe=>hq (by rw[<-e];exact hv.1)
  have hlp:=Ev (q:=b*g.P+y.s.next b) h.dw.dv.inv hl hp hv.1 hq (by omega) hne
  refine⟨p1',JQ,h.off,h.bad,h.aF,h.nb,h.fails,h.ch,?_,?_,f2,λj hj=>?_,?_,?_,⟨h.cz.1,?_⟩,λk=>Nat.le_trans (h.nx k) (oG _ _ _)⟩
  .show y.cut-1<=x.cut
   have:=h.cut;omega
  .show y.seq+1<=x.seq+(i+1)
   have:=h.seq;omega
  .show (jP y.k l (b*g.P+y.s.next b)).lb (v*g.P+j)=-1
   by_cases ej:j=i
   .rw[ej];exact Ac h.dw.dv.inv hl hp hne
   .have e1:v*g.P+j≠b*g.P+y.s.next b:=λe=>hq (by rw[<-e];exact(div_mul (by omega)).1)
    have e2:v*g.P+j≠v*g.P+i:=λe=>by omega
    show upd (fG y.k l).lb (b*g.P+y.s.next b) (l:Int) (v*g.P+j)=_
    rw[upd_ne _ _ _ _ e1]
    show (if y.k.pa l=-1 then y.k.lb else upd y.k.lb (y.k.pa l).toNat (-1)) (v*g.P+j)=_
    rw[if_neg (by omega),hp,Int.toNat_natCast,upd_ne _ _ _ _ e2]
    exact h.gone j (by omega)
  .have h2:=h.cnt
   show aN g.P (g.D*g.B) (dQ (bS y.s) b)+aY g.P x.k v=aN g.P (g.D*g.B) (bS x.s)+aY g.P (jP y.k l (b*g.P+y.s.next b)) v
   omega
  .have h2:=h.liv
   show aY g.P (jP y.k l (b*g.P+y.s.next b)) v<=aY g.P x.k v
   omega
  .show x.cut=0\/1<=y.cut-1
   have:=h.cz.2;have:=h.cut;omega
 .have e:kU g y b l (anew g y l (v*g.P+i))=AL g y b (anew g y l (v*g.P+i)):=if_pos hc
  rw[e] at JQ ⊢
  have p1':DW g (AL g y b (anew g y l (v*g.P+i))):=by rw[<-e];exact p1
  refine⟨p1',JQ,rfl,h.nb,h.bad,h.fails,h.ch,?_,?_,?_,λk=>?_,f2,?_,h.liv,λk=>Nat.le_trans (h.nx k) (oG _ _ _)⟩
  .show y.cut-1=0
   omega
  .have:=h.cut;omega
  .show y.seq<=x.seq+g.P
   have:=h.seq;omega
  .show y.s.aF k<=x.s.aF k+1
   rw[h.aF];omega
  .have h2:=h.cnt
   show aN g.P (g.D*g.B) (dQ (bS y.s) b)+aY g.P x.k v+1=aN g.P (g.D*g.B) (bS x.s)+aY g.P y.k v
   omega
end Go.Proofs.aA
namespace Go.Proofs.aA
open ah ay aj Go.RowKit aB aD ah
def lJ:Prop:=∀ (tb n P:Nat) (u:Nat->Bool) (lv rk:Nat->Nat) (W:World),1<=n->n<=64->1<=P->P<=16->BR W tb n u lv rk->(∀ k,k<n->lv k<=P/\rk k<=64)->(∃ k,k<n/\u k=true/\lv k<P) ->
    Calls (PB prog false) 92 #[.slice (some ⟨tb,0,none⟩) n n,.int .i64 (P:Nat)] W λe w'=>∃ v:Nat,v<n/\u v=true/\lv v<P/\(∀ k,k<n->u k=true->lv k<P->lv v<=lv k)/\e=.returned (.tuple #[.int .i64 (v:Nat),.nilIface])/\Below W.heap.size W w'
theorem XP:((PB prog false).info? 180).map (λi=>(i.zero,i.size,i.bytes))=some (some (.agg #[.bool false,.int .i64 0,.int .i64 0]),3,24):=by kernel_rfl
theorem Mv(n:Nat)(hn:n<=64)(w:World):(Instr.makeSlice 176 (.int .i64 (n:Int)) (.int .i64 (n:Int))).run (PB prog false) w=.ok (.slice (some ⟨w.heap.size,0,none⟩) n n) (w.alloc (.cells (AB n) 180)):=by
 obtain⟨i0,hi,hz0,hz1,hz2⟩:=info_parts XP
 have h:=run_make (P:=(PB prog false)) w 176 180 i0 (.agg #[.bool false,.int .i64 0,.int .i64 0]) Al.underlying176 hi hz0 .i64 .i64 n n (by omega) (by omega) (by rw[hz2];omega) (by omega)
 rw[h,hz1,Int.toNat_natCast]
 rfl
theorem BR.newS(w:World)(n:Nat):BR (w.alloc (.cells (AB n) 180)) w.heap.size n (λ_=>false) (λ_=>0) (λ_=>0):=by
 have hh:(w.alloc (.cells (AB n) 180)).heap[w.heap.size]?=some (.cells (AB n) 180 (0,0)):=heap_alloc_new w _
 have hc:∀ i,i<n*3->(w.alloc (.cells (AB n) 180)).cell? ⟨w.heap.size,i,none⟩=some (#[Value.bool false,.int .i64 0,.int .i64 0][i%3]!):=λi hi=>by
  rw[<-O5 n i hi]
  simp only[World.cell?,hh]
  rfl
 refine⟨λk hk=>?_,λk hk=>?_,λk hk=>?_,λo=>dJ hh o,by simp⟩
 .rw[hc _ (by omega),show k*3%3=0 by omega];rfl
 .rw[hc _ (by omega),show (k*3+1)%3=1 by omega];rfl
 .rw[hc _ (by omega),show (k*3+2)%3=2 by omega];rfl
def pO(P:Nat)(c:n_)(k:Nat):Bool:=!c.bad k&&decide (c.next k=P)
theorem tY{P:Nat}{c:n_}{k:Nat}:pO P c k=true↔Full P c k:=by
 unfold pO Full
 simp
structure TL(g:Gm)(w wq:World)(a:Ad)(x:Sd)(rb n tb kb:Nat)(r:Nat->Int)(i:Nat):Prop where
 dk:DK g wq a x
 br:BR wq rb n x.s.bad x.s.next x.s.aF
 tr:BR wq tb n (nL (pO g.P (bS x.s)) false i) (nL (aY g.P x.k) 0 i) (nL (λk=>(r k).toNat) 0 i)
 kr:IR wq kb n r
 kle:∀ k,k<n->0<=r k/\r k<=64
 cO:Below w.heap.size w wq
 gt:w.heap.size<=tb
 gk:tb<kb
 lt:rb<w.heap.size
 od:∀ b,OD g a b->b<w.heap.size
 n1:1<=n
theorem TL.below{g:Gm}{w wq w2:World}{a:Ad}{x:Sd}{rb n tb kb:Nat}{r:Nat->Int}{i:Nat}(h:TL g w wq a x rb n tb kb r i)(hb:Below wq.heap.size wq w2):TL g w w2 a x rb n tb kb r i :=
 ⟨h.dk.below hb,h.br.below hb,h.tr.below hb,h.kr.keep h.n1 (Keep.of_below (S:=λ_=>False) hb) (λe=>e),h.kle,h.cO.trans (hb.mono h.cO.size),h.gt,h.gk,h.lt,h.od,h.n1⟩
theorem TL.put{g:Gm}{w wq:World}{a:Ad}{x:Sd}{rb n tb kb:Nat}{r:Nat->Int}{i:Nat}(h:TL g w wq a x rb n tb kb r i)(hi:i<n):TL g w (((wq.setCell ⟨tb,i*3,none⟩ (.bool (pO g.P (bS x.s) i))).setCell ⟨tb,i*3+1,none⟩ (.int .i64 (aY g.P x.k i:Nat))).setCell ⟨tb,i*3+2,none⟩ (.int .i64 ((r i).toNat:Nat))) a x rb n tb kb r (i+1):=by
 have k:Keep (λb=>b=tb) wq (((wq.setCell ⟨tb,i*3,none⟩ (.bool (pO g.P (bS x.s) i))).setCell ⟨tb,i*3+1,none⟩ (.int .i64 (aY g.P x.k i:Nat))).setCell ⟨tb,i*3+2,none⟩ (.int .i64 ((r i).toNat:Nat))):=(((Keep.refl _ wq).set1 _ _).set1 _ _).set1 _ _
 have hgt:=h.gt
 have hgk:=h.gk
 have hlt:=h.lt
 refine⟨h.dk.keep k (λb hb e=>by have:=h.od b hb;omega),h.br.keep k (λe=>by omega),?_,h.kr.keep h.n1 k (λe=>by omega),h.kle,h.cO.trans (k.below h.cO.size (λb e=>by omega)),hgt,hgk,hlt,h.od,h.n1⟩
 have e:=h.tr.set hi (pO g.P (bS x.s) i) (aY g.P x.k i) ((r i).toNat)
 rw[lI,lI,show upd (nL (λk=>(r k).toNat) 0 i) i (r i).toNat=nL (λk=>(r k).toNat) 0 (i+1) from lI _ _ _] at e
 exact e
def EO(g:Gm)(x y:Sd)(c:Nat):Prop:=∃ v,(v<g.D*g.B/\Full g.P (bS x.s) v/\aY g.P x.k v<g.P/\(∀ u,u<g.D*g.B->Full g.P (bS x.s) u->aY g.P x.k u<g.P->aY g.P x.k v<=aY g.P x.k u))/\((c=7/\ET g x y v)\/∃ z:Sd,EM g x z v g.P/\y=fU g z v/\c=tX g z)
def EoP(e:Ending)(g:Gm)(w w':World)(a:Ad)(x:Sd):Prop:=∃ (y:Sd) (c:Nat),e=.returned (cK c)/\DK g w' a y/\Keep (OD g a) w w'/\EO g x y c
structure EP(g:Gm)(x:Sd):Prop where
 dw:DW g x
 off:x.s.off=false
 cut:x.cut<9223372036854775808
 fails:x.fails<4611686018427387904
 bad:x.bad<4611686018427387904
 seq:x.seq+16<4611686018427387904
 aF:∀ k,x.s.aF k<4611686018427387904
 cand:∃ k,k<g.D*g.B/\Full g.P (bS x.s) k/\aY g.P x.k k<g.P
 room:∀ v,v<g.D*g.B->Full g.P (bS x.s) v->aY g.P x.k v<g.P->(∀ u,u<g.D*g.B->Full g.P (bS x.s) u->aY g.P x.k u<g.P->aY g.P x.k v<=aY g.P x.k u)->aY g.P x.k v<=aN g.P (g.D*g.B) (bS x.s)
theorem FJ{g:Gm}{w:World}{a:Ad}{x:Sd}(HI:CS)(Te:qp)(Tf:qw)(Tg:lJ)(h:DK g w a x)(hp:EP g x)(rb n:Nat)(hn:g.D*g.B=n)(hr:BR w rb n x.s.bad x.s.next x.s.aF) :
 Calls (PB prog false) 62 #[.pointer (some ⟨a.db,0,none⟩),.slice (some ⟨rb,0,none⟩) n n] w λe w'=>EoP e g w w' a x:=by
 have c9:w.cell? ⟨a.db,9,none⟩=some (.int .i64 (g.P:Nat)):=h.st.cell 9
 have hN:=Gm.O4 h.iM
 rw[hn] at hN
 have Ms:=hN.1
 have hn1:1<=n:=by rw[<-hn];exact h.iM.n.1
 have hP1:=h.iM.p0
 have O6:=h.iM.p1
 have hmk:=Mv n Ms
 have hb0:Below w.heap.size w (w.alloc (.cells (AB n) 180)):=aC _ _
 have HX:=zQ Te Tf rb n n x.s.bad x.s.next x.s.aF (w.alloc (.cells (AB n) 180)) (hr.below hb0) hn1 Ms
 have H0:Hid (∀ W kb r,Below (w.alloc (.cells (AB n) 180)).heap.size (w.alloc (.cells (AB n) 180)) W->IR W kb n r->(∀ k,k<n->0<=r k/\r k<=64)->(w.alloc (.cells (AB n) 180)).heap.size<=kb->TL g w W a x rb n w.heap.size kb r 0):=λW kb r hb q1 q2 q3 =>
  have hb2:Below w.heap.size w W:=hb0.trans (hb.mono hb0.size)
  ⟨h.below hb2,hr.below hb2,((BR.newS w n).below hb).congr (λk _=>rfl) (λk _=>rfl) (λk _=>rfl),q1,q2,hb2,Nat.le_refl _,by simp at q3;omega,hr.lt,λb hb=>OD.lt h hb,hn1⟩
 have HP:Hid (EP g x/\g.D*g.B=n):=⟨hp,hn⟩
 clear h hr hb0 hp hn hN
 go_enter Al.func62,Tryz.ntmps62
 go_wp2_with fail
 refine HX.mono ?_
 rintro e w1 ⟨kb,rfl,⟨r,hr1,hr2⟩,hge,hb1⟩
 have H1:Hid (TL g w w1 a x rb n w.heap.size kb r 0):=H0.out w1 kb r hb1 hr1 hr2 hge
 clear HX H0 hb1 hr1 hr2 hge c9 hmk
 go_wp2
 go_loopw [28] (λj wq=>∃ (i:Nat),i<=n/\j=.int .i64 i/\Hid (TL g w wq a x rb n w.heap.size kb r i)) (λj _=>n-(intOf j).toNat)
 case atStart=>exact⟨0,Nat.zero_le _,rfl,H1.out⟩
 case round =>
  obtain⟨i,hi,rfl,hR⟩:=hrel
  clear H1
  by_cases hlt:i<n
  .have r0:=hR.out.br.b i hlt
   have r1:=hR.out.br.x i hlt
   have r2:=hR.out.br.r i hlt
   obtain⟨vb,hvb⟩:∃ v,x.s.bad i=v:=⟨_,rfl⟩
   obtain⟨vn,Io⟩:∃ v,x.s.next i=v:=⟨_,rfl⟩
   have HV:Hid (x.s.bad i=vb/\x.s.next i=vn):=⟨hvb,Io⟩
   rw[hvb] at r0
   rw[Io] at r1
   clear hvb Io
   generalize x.s.aF i=vw at r2
   have HT:Hid (w.heap.size<wr.heap.size/\w.heap.size<kb):=⟨hR.out.tr.lt,hR.out.gk⟩
   have HC:Hid (TL g w (wr.alloc (.cells #[.bool vb,.int .i64 (vn:Nat),.int .i64 (vw:Nat)] 133)) a x rb n w.heap.size kb r i):=hR.out.below (aC _ _)
   clear hR
   have c2:(wr.alloc (.cells #[.bool vb,.int .i64 (vn:Nat),.int .i64 (vw:Nat)] 133)).cell? ⟨a.db,2,none⟩=some (.pointer (some ⟨a.kb,0,none⟩)):=HC.out.dk.st.cell 2
   have HL:=OM HC.out.dk.ho ((i*g.P:Nat):Int) (((i*g.P:Nat):Int)+(g.P:Int))
   have hip:i*g.P+g.P<=g.D*g.B*g.P:=by rw[HP.out.2];calc i*g.P+g.P=(i+1)*g.P:=by rw[Nat.add_mul,Nat.one_mul]
    _<=n*g.P:=Nat.mul_le_mul_right _ hlt
   rw[xV hip] at HL
   have HLv:Hid (eY (λj=>x.k.lb (i*g.P+j)) g.P=aY g.P x.k i):=rfl
   rw[HLv.out] at HL
   have aeT:=qI g.P x.k i
   obtain⟨lv,hlv⟩:∃ lv,aY g.P x.k i=lv:=⟨_,rfl⟩
   have HW:Hid (aY g.P x.k i=lv):=hlv
   rw[hlv] at HL aeT
   clear hlv HLv hip
   have aeU:i*g.P<=64*16:=Nat.mul_le_mul (by omega) O6
   obtain⟨ip,hip⟩:∃ ip,i*g.P=ip:=⟨_,rfl⟩
   rw[hip] at HL aeU
   have e1:(i:Int)*(g.P:Int)=(ip:Int):=by rw[<-hip];simp
   have e2:IntKind.i64.wrap (ip:Int)=(ip:Int):=bR (by omega) (by omega)
   have e3:IntKind.i64.wrap ((i:Int)+1)=(i:Int)+1:=bR (by omega) (by omega)
   have e4:((i:Int)+1)*(g.P:Int)=(ip:Int)+(g.P:Int):=by rw[Int.add_mul,Int.one_mul,e1]
   have e5:IntKind.i64.wrap ((ip:Int)+(g.P:Int))=(ip:Int)+(g.P:Int):=bR (by omega) (by omega)
   clear hip
   rw[bV] at HL
   go_wp2_with fail
   refine HL.mono ?_
   rintro e w3 ⟨rfl,rfl⟩
   clear HL e1 e2 e4 e5
   have k0:(wr.alloc (.cells #[.bool vb,.int .i64 (vn:Nat),.int .i64 (vw:Nat)] 133)).cell? ⟨wr.heap.size,0,none⟩=some (.bool vb):=by
    have hh:=heap_alloc_new wr (.cells #[.bool vb,.int .i64 (vn:Nat),.int .i64 (vw:Nat)] 133)
    simp only[World.cell?,hh]
    rfl
   have k1:(wr.alloc (.cells #[.bool vb,.int .i64 (vn:Nat),.int .i64 (vw:Nat)] 133)).cell? ⟨wr.heap.size,1,none⟩=some (.int .i64 (vn:Nat)):=by
    have hh:=heap_alloc_new wr (.cells #[.bool vb,.int .i64 (vn:Nat),.int .i64 (vw:Nat)] 133)
    simp only[World.cell?,hh]
    rfl
   have hcb:w.heap.size<wr.heap.size:=HT.out.1
   have hck:w.heap.size<kb:=HT.out.2
   obtain⟨W,hW⟩:∃ W,wr.alloc (.cells #[.bool vb,.int .i64 (vn:Nat),.int .i64 (vw:Nat)] 133)=W:=⟨_,rfl⟩
   rw[hW] at HC c2 k0 k1 ⊢
   clear hW r0 r1 r2 c2
   generalize wr.heap.size=cb at *
   have rk:=HC.out.kr.cell i hlt
   have t0:=HC.out.tr.b i hlt
   have t1:=HC.out.tr.x i hlt
   have t2:=HC.out.tr.r i hlt
   have f0:=HC.out.tr.f (i*3)
   have f1:=HC.out.tr.f (i*3+1)
   have f2:=HC.out.tr.f (i*3+2)
   have HZ:=HC.out.put hlt
   obtain⟨ri,hri⟩:∃ ri:Nat,r i=(ri:Int):=⟨(r i).toNat,by have:=HC.out.kle i hlt;omega⟩
   rw[hri] at rk
   rw[hri,Int.toNat_natCast,HW.out] at HZ
   clear hri HW
   generalize nL (pO g.P (bS x.s)) false i i=z0 at t0
   generalize nL (aY g.P x.k) 0 i i=z1 at t1
   generalize nL (λk=>(r k).toNat) 0 i i=z2 at t2
   have hu:pO g.P (bS x.s) i=(!vb&&decide (vn=g.P)):=by
    unfold pO
    show (!x.s.bad i&&decide (x.s.next i=g.P))=_
    rw[HV.out.1,HV.out.2]
   rw[hu] at HZ
   clear hu HV
   cases vb with
   |true =>
    have HZ2:Hid (TL g w (((W.setCell ⟨w.heap.size,i*3,none⟩ (.bool false)).setCell ⟨w.heap.size,i*3+1,none⟩ (.int .i64 (lv:Nat))).setCell ⟨w.heap.size,i*3+2,none⟩ (.int .i64 (ri:Nat))) a x rb n w.heap.size kb r (i+1)):=HZ
    clear HZ HC
    go_wp2
    go_region
    go_wp2
    exact⟨⟨i+1,by omega,by go_num,HZ2.out.below ((Below.refl _ _).drew)⟩,by simp[intOf];omega⟩
   |false =>
    by_cases hf:vn=g.P
    .subst hf
     have HZ2:Hid (TL g w (((W.setCell ⟨w.heap.size,i*3,none⟩ (.bool true)).setCell ⟨w.heap.size,i*3+1,none⟩ (.int .i64 (lv:Nat))).setCell ⟨w.heap.size,i*3+2,none⟩ (.int .i64 (ri:Nat))) a x rb n w.heap.size kb r (i+1)):=by
      have eu:(!false&&decide (g.P=g.P))=true:=by simp
      rw[eu] at HZ
      exact HZ
     clear HZ HC
     go_wp2
     go_region_held3 (λw'=>w'.cell? ⟨cb,0,none⟩=some (.bool false)/\w'.cell? ⟨cb,1,none⟩=some (.int .i64 (g.P:Nat))/\w'.cell? ⟨kb,i,none⟩=some (.int .i64 (ri:Nat))) (first|assumption|(go_split_ands;refine⟨?_,?_,?_⟩<;>(rw[World.cell?_drew,far _ (by omega),far _ (by omega),far _ (by omega)];assumption))|go_keep) (fail)
     go_wp2
     exact⟨⟨i+1,by omega,by go_num,HZ2.out.below ((Below.refl _ _).drew)⟩,by simp[intOf];omega⟩
    .have HZ2:Hid (TL g w (((W.setCell ⟨w.heap.size,i*3,none⟩ (.bool false)).setCell ⟨w.heap.size,i*3+1,none⟩ (.int .i64 (lv:Nat))).setCell ⟨w.heap.size,i*3+2,none⟩ (.int .i64 (ri:Nat))) a x rb n w.heap.size kb r (i+1)):=by
      have eu:(!false&&decide (vn=g.P))=false:=by simp[hf]
      rw[eu] at HZ
      exact HZ
     clear HZ HC
     have hfe:((vn:Int)==(g.P:Int))=false:=by rw[beq_eq_false_iff_ne];omega
     go_wp2
     go_region_held3 (λw'=>w'.cell? ⟨cb,0,none⟩=some (.bool false)/\w'.cell? ⟨cb,1,none⟩=some (.int .i64 (vn:Nat))/\w'.cell? ⟨kb,i,none⟩=some (.int .i64 (ri:Nat))) (first|assumption|(go_split_ands;refine⟨?_,?_,?_⟩<;>(rw[World.cell?_drew,far _ (by omega),far _ (by omega),far _ (by omega)];assumption))|go_keep) (fail)
     go_wp2
     exact⟨⟨i+1,by omega,by go_num,HZ2.out.below ((Below.refl _ _).drew)⟩,by simp[intOf];omega⟩
  .obtain rfl:i=n:=by omega
   have HX:=Tg w.heap.size i g.P (pO g.P (bS x.s)) (aY g.P x.k) (λk=>(r k).toNat) wr hn1 Ms hP1 O6 (hR.out.tr.congr (λk hk=>if_pos hk) (λk hk=>if_pos hk) (λk hk=>if_pos hk)) (λk hk=>⟨qI _ _ _,by have:=hR.out.kle k hk;omega⟩) (by
    obtain⟨k,q1,q2,q3⟩:=HP.out.1.cand
    exact⟨k,by rw[HP.out.2] at q1;exact q1,tY.2 q2,q3⟩)
   have HD:Hid (DK g wr a x/\Below w.heap.size w wr):=⟨hR.out.dk,hR.out.cO⟩
   clear hR
   go_wp2_with fail
   refine HX.mono ?_
   rintro e w4 ⟨v,hv,hu,hlp,hmin,rfl,hb4⟩
   have HV:Hid (v<g.D*g.B/\Full g.P (bS x.s) v/\aY g.P x.k v<g.P/\(∀ u,u<g.D*g.B->Full g.P (bS x.s) u->aY g.P x.k u<g.P->aY g.P x.k v<=aY g.P x.k u)):=⟨by rw[HP.out.2];exact hv,tY.1 hu,hlp,λu q1 q2 q3=>hmin u (by rw[HP.out.2] at q1;exact q1) (tY.2 q2) q3⟩
   have H4:Hid (EM g x x v 0/\DK g w4 a x/\Keep (OD g a) w w4):=⟨EM.start HP.out.1.dw HP.out.1.off HV.out.2.1,HD.out.1.below hb4,Keep.of_below (HD.out.2.trans (hb4.mono HD.out.2.size))⟩
   clear HX HD hb4 hmin hlp hu
   have hvp:v*g.P<=64*16:=Nat.mul_le_mul (by omega) O6
   obtain⟨vp,Ti⟩:∃ vp,v*g.P=vp:=⟨_,rfl⟩
   have HVP:Hid (v*g.P=vp):=Ti
   rw[Ti] at hvp
   have e1:(v:Int)*(g.P:Int)=(vp:Int):=by rw[<-Ti];simp
   have e2:IntKind.i64.wrap (vp:Int)=(vp:Int):=bR (by omega) (by omega)
   have e3:IntKind.i64.wrap ((v:Int)+1)=(v:Int)+1:=bR (by omega) (by omega)
   have e4:((v:Int)+1)*(g.P:Int)=(vp:Int)+(g.P:Int):=by rw[Int.add_mul,Int.one_mul,e1]
   have e5:IntKind.i64.wrap ((vp:Int)+(g.P:Int))=(vp:Int)+(g.P:Int):=bR (by omega) (by omega)
   clear Ti
   go_wp2
   go_loopw [14] (λj wq=>∃ (m:Nat) (y:Sd),m<=g.P/\j=.int .i64 ((vp:Int)+(m:Int))/\Hid (EM g x y v m/\DK g wq a y/\Keep (OD g a) w wq)) (λj _=>vp+g.P-(intOf j).toNat)
   case atStart=>exact⟨0,x,Nat.zero_le _,by simp,H4.out⟩
   case round =>
    obtain⟨m,y,hm,rfl,hR⟩:=hrel
    clear H4
    by_cases hlt2:m<g.P
    .have e6:(vp:Int)+(m:Int)<(vp:Int)+(g.P:Int):=by omega
     have e7:IntKind.i64.wrap ((vp:Int)+(m:Int)+1)=(vp:Int)+(m:Int)+1:=bR (by omega) (by omega)
     have hE:=hR.out.1
     have hpl:vp+m<g.D*g.B*g.P:=by rw[<-HVP.out];exact wS HV.out.1 hlt2
     have vC:y.seq<4611686018427387904:=by have:=hE.seq;have:=HP.out.1.seq;omega
     have hct:y.cut<9223372036854775808:=by have:=hE.cut;have:=HP.out.1.cut;omega
     have hex:y.k.lb (vp+m)≠-1->∃ k,k<g.D*g.B/\y.s.bad k=false/\y.s.next k≠g.P:=λhne=>by
      rcases hE.dw.dv.inv.o (vp+m) hpl with e|⟨l,q1,q2,q3⟩
      .exact absurd e hne
      .exact hE.some hlt2 q1 (by rw[HVP.out];exact q3) (HP.out.1.room v HV.out.1 HV.out.2.1 HV.out.2.2.1 HV.out.2.2.2)
     have HM:Calls (PB prog false) 93 #[.pointer (some ⟨a.db,0,none⟩),.int .i64 ((vp:Int)+(m:Int))] wr λe w'=>(e=.returned .nilIface/\∃ y',EM g x y' v (m+1)/\DK g w' a y'/\Keep (OD g a) w w')\/(e=.returned (.iface 31 (.int .i64 7))/\EoP (.returned (.iface 31 (.int .i64 7))) g w w' a x):=by
      have hq:=FI HI hR.out.2.1 hE.dw hE.off hct vC (vp+m) hpl hex
      rw[Int.natCast_add] at hq
      refine hq.mono λe w' hmv=>?_
      rcases hmv with ⟨q1,q2,q3⟩|⟨l,q1,q2,b,q3,q4⟩
      .exact Or.inl ⟨q2,y,hE.skip (by rw[HVP.out];exact q1),hR.out.2.1.below q3,hR.out.2.2.trans (Keep.of_below q3)⟩
      .obtain⟨p1,p2⟩:=hE.put hlt2 HV.out.1 q1 (by rw[HVP.out];exact q2) vC q3.nx
       rw[HVP.out] at p1 p2
       by_cases AO:y.cut=1
       .have ep:jI y=.iface 31 (.int .i64 7):=if_pos AO
        rw[ep] at q4
        exact Or.inr ⟨q4,_,7,rfl,q3.dk,hR.out.2.2.trans q3.kp,v,HV.out,Or.inl ⟨rfl,p2 AO⟩⟩
       .have ep:jI y=.nilIface:=if_neg AO
        rw[ep] at q4
        exact Or.inl ⟨q4,_,p1 AO,q3.dk,hR.out.2.2.trans q3.kp⟩
     clear hE hpl vC hct hex hR
     go_wp2_with fail
     refine HM.mono ?_
     rintro e w5 (⟨rfl,y',h5⟩|⟨rfl,h5⟩)
     .have H5:Hid (EM g x y' v (m+1)/\DK g w5 a y'/\Keep (OD g a) w w5):=h5
      clear HM h5
      go_wp2
      exact⟨⟨m+1,y',by omega,by simp[Int.add_assoc],H5.out⟩,by simp[intOf];omega⟩
     .have H5:Hid (EoP (.returned (.iface 31 (.int .i64 7))) g w w5 a x):=h5
      clear HM h5
      go_wp2
      go_ret
      exact H5.out
    .obtain rfl:m=g.P:=by omega
     have hE:=hR.out.1
     have HM:Calls (PB prog false) 94 #[.pointer (some ⟨a.db,0,none⟩),.int .i64 (v:Nat)] wr λe w'=>e=.returned (cK (tX g y))/\EoP (.returned (cK (tX g y))) g w w' a x :=
      (O_ HI hR.out.2.1 v HV.out.1 hE.off hE.full.1 (λk=>by rw[hE.aF];exact HP.out.1.aF k) (by have:=hE.cut;have:=HP.out.1.cut;omega) (by rw[hE.fails];exact HP.out.1.fails) (by rw[hE.nb];exact HP.out.1.bad)).mono λe w' ⟨q1,q2,q3⟩=>⟨q1,_,_,rfl,q2,hR.out.2.2.trans q3,v,HV.out,Or.inr ⟨y,hE,rfl,rfl⟩⟩
     clear hE hR
     generalize cK (tX g y)=ev at *
     go_wp2_with fail
     refine HM.mono ?_
     rintro e w5 ⟨rfl,h5⟩
     have H5:Hid (EoP (.returned ev) g w w5 a x):=h5
     clear HM h5
     go_wp2
     go_ret
     exact H5.out
