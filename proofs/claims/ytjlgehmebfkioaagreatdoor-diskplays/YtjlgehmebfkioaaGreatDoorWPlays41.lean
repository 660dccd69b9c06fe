/- Part of the proof. -/
import Derived.Test.YtjlgehmebfkioaaGreatDoorZ16
import Derived.Test.YtjlgehmebfkioaaGreatDoorZ40
set_option maxRecDepth 100000
open Go.Proofs.Tryz renaming prog->aa
open Go.Proofs.ah.Al (PB)
set_option maxHeartbeats 16000000
set_option linter.unusedVariables false
open Go renaming World->ae,Calls->ax
open Go.Frame renaming enter->bz
open Int renaming tmod_eq_emod_of_nonneg->iz,mul_le_mul_of_nonneg_right->ic
open List renaming replicate->aq
open Nat renaming zero_le->cS
open Or renaming inl->bh,inr->be
namespace Go.Proofs.aA
open ah au aj Go.RowKit aC aD ah
theorem NK(g0 g1 g2 g3:Int)(w:ae)(h:qF g0 g1 g2 g3):ax (PB aa false) 33 #[.agg #[.int .i64 g0,.int .i64 g1,.int .i64 g2,.int .i64 g3]] w λe w'=>e=.returned (.int .i64 0)/\Below w.heap.size w w':=by
 obtain⟨⟨a0,a1⟩,⟨b0,b1⟩,⟨c0,c1⟩,⟨d0,d1⟩,e⟩:=h
 have HB:Hid (∀ o,Below w.heap.size w (w.alloc o)):=λo=>aB w o
 have x0:¬g0<1:=by omega
 have x1:¬4<g0:=by omega
 have x2:¬g1<1:=by omega
 have x3:¬16<g1:=by omega
 have x4:¬g2<1:=by omega
 have x5:¬16<g2:=by omega
 have x6:¬g3<8:=by omega
 have x7:¬256<g3:=by omega
 have x8:g3.tmod 8=0:=by rw[iz (by omega)];exact e
 clear a0 a1 b0 b1 c0 c1 d0 d1 e
 go_enter Al.func33,Tryz.ntmps33
 go_wp2
 go_ret
 exact⟨rfl,HB.out _⟩
theorem R_(g0 g1 g2 g3:Int)(w:ae)(h:¬qF g0 g1 g2 g3):ax (PB aa false) 33 #[.agg #[.int .i64 g0,.int .i64 g1,.int .i64 g2,.int .i64 g3]] w λe w'=>e=.returned (.int .i64 1)/\Below w.heap.size w w':=by
 have HB:Hid (∀ o,Below w.heap.size w (w.alloc o)):=λo=>aB w o
 by_cases x0:g0<1
 rotate_left 1
 by_cases x1:4<g0
 rotate_left 1
 by_cases x2:g1<1
 rotate_left 1
 by_cases x3:16<g1
 rotate_left 1
 by_cases x4:g2<1
 rotate_left 1
 by_cases x5:16<g2
 rotate_left 1
 by_cases x6:g3<8
 rotate_left 1
 by_cases x7:256<g3
 rotate_left 1
 have x8:¬g3.tmod 8=0:=λe=>h ⟨by omega,by omega,by omega,by omega,by rw[<-iz (by omega)];exact e⟩
 have x9:(g3%8 != 0)=true:=by rw[<-iz (by omega)];simpa using x8
 all_goals
  clear h
  go_enter Al.func33,Tryz.ntmps33
  go_wp2
  go_ret
  exact⟨rfl,HB.out _⟩
theorem Bu(g0 g1 g2 g3 lb sp:Int)(w:ae)(h:¬qF g0 g1 g2 g3):ax (PB aa false) 11 #[.agg #[.int .i64 g0,.int .i64 g1,.int .i64 g2,.int .i64 g3],.int .i64 lb,.int .i64 sp] w λe w'=>e=.returned (.int .i64 1)/\Below w.heap.size w w':=by
 have HF:Hid (∀ o,ax (PB aa false) 33 #[.agg #[.int .i64 g0,.int .i64 g1,.int .i64 g2,.int .i64 g3]] (w.alloc o) λe w'=>e=.returned (.int .i64 1)/\Below w.heap.size w w'):=λo=>(R_ g0 g1 g2 g3 (w.alloc o) h).mono λe w' ⟨q0,q1⟩=>⟨q0,(aB w o).trans (q1.mono (aB w o).size)⟩
 clear h
 go_enter Al.func11,Tryz.ntmps11
 go_wp2_with fail
 refine(HF.out _).mono ?_
 rintro e w1 ⟨rfl,hb⟩
 have HB:Hid (Below w.heap.size w w1):=hb
 clear hb HF
 go_wp2
 go_ret
 exact⟨rfl,HB.out⟩
theorem qG{D B P Y:Nat}(lb sp:Int)(w:ae)(hG:Geo D B P Y):ax (PB aa false) 11 #[.agg #[.int .i64 (D:Nat),.int .i64 (B:Nat),.int .i64 (P:Nat),.int .i64 (Y:Nat)],.int .i64 lb,.int .i64 sp] w λe w'=>e=.returned (.int .i64 (ny D B P Y lb sp:Nat))/\Below w.heap.size w w':=by
 have hI:qF (D:Int) (B:Int) (P:Int) (Y:Int):=⟨⟨by have:=hG.d0;omega,by have:=hG.d1;omega⟩,⟨by have:=hG.b0;omega,by have:=hG.b1;omega⟩,⟨by have:=hG.p0;omega,by have:=hG.p1;omega⟩,⟨by have:=hG.y0;omega,by have:=hG.y1;omega⟩,by have:=hG.y8;omega⟩
 have HF:Hid (∀ o t,o=Obj.cells #[.int .i64 (D:Nat),.int .i64 (B:Nat),.int .i64 (P:Nat),.int .i64 (Y:Nat)] t->ax (PB aa false) 33 #[.agg #[.int .i64 (D:Nat),.int .i64 (B:Nat),.int .i64 (P:Nat),.int .i64 (Y:Nat)]] (w.alloc o) λe w'=>e=.returned (.int .i64 0)/\Below w.heap.size w w'/\w'.cell? ⟨w.heap.size,0,none⟩=some (.int .i64 (D:Nat))/\w'.cell? ⟨w.heap.size,1,none⟩=some (.int .i64 (B:Nat))/\w'.cell? ⟨w.heap.size,2,none⟩=some (.int .i64 (P:Nat))/\w'.cell? ⟨w.heap.size,3,none⟩=some (.int .i64 (Y:Nat))):=λo t ho=>(NK _ _ _ _ (w.alloc o) hI).mono λe w' ⟨q0,q1⟩=>by
  have hs:∀ i,w'.cell? ⟨w.heap.size,i,none⟩=(w.alloc o).cell? ⟨w.heap.size,i,none⟩:=λi=>q1.cell (p:=⟨w.heap.size,i,none⟩) (by simp)
  refine⟨q0,(aB w o).trans (q1.mono (aB w o).size),?_,?_,?_,?_⟩<;>(rw[hs,ho];simp only[World.cell?,heap_alloc_new];rfl)
 have hN:D*B<=64:=hG.n.2
 have hP:=hG.p1
 unfold ny
 clear hI hG
 by_cases h1:Y<24
 rw[if_pos h1]
 have e1:(Y:Int)<24:=by omega
 rotate_left 1
 rw[if_neg h1]
 have e1:¬((Y:Int)<24):=by omega
 by_cases h2:lb<1
 rw[if_pos (bh h2)]
 rotate_left 1
 by_cases h3:256<lb
 rw[if_pos (be (bh h3))]
 rotate_left 1
 by_cases h4:sp<0
 rw[if_pos (be (be h4))]
 rotate_left 1
 rw[if_neg (by omega)]
 obtain⟨N,hNe⟩:∃ N,D*B=N:=⟨_,rfl⟩
 rw[hNe] at hN ⊢
 have m1:(D:Int)*(B:Int)=(N:Int):=by rw[<-hNe];simp
 have m2:IntKind.i64.wrap (N:Int)=(N:Int):=aj.bE (by omega) (by omega)
 clear hNe
 by_cases hc:(N:Int)<sp
 rw[show min sp (N:Int)=(N:Int) by omega,Int.sub_self,if_pos (by omega)]
 rotate_left 1
 obtain⟨s,rfl⟩:∃ s:Nat,sp=(s:Int):=⟨sp.toNat,by omega⟩
 rw[show min (s:Int) (N:Int)=(s:Int) by omega]
 have m3:IntKind.i64.wrap ((N:Int)-(s:Int))=(N:Int)-(s:Int):=aj.bE (by omega) (by omega)
 have m4:IntKind.i64.wrap ((N:Int)-(s:Int)-4)=(N:Int)-(s:Int)-4:=aj.bE (by omega) (by omega)
 have hlo:(-4:Int)*(P:Int)<=((N:Int)-(s:Int)-4)*(P:Int):=ic (by omega) (by omega)
 have hhi:((N:Int)-(s:Int)-4)*(P:Int)<=64*(P:Int):=ic (by omega) (by omega)
 obtain⟨T,hT⟩:∃ T,((N:Int)-(s:Int)-4)*(P:Int)=T:=⟨_,rfl⟩
 rw[hT] at hlo hhi ⊢
 have m5:IntKind.i64.wrap T=T:=aj.bE (by omega) (by omega)
 have m6:wrap64 T=T:=IntWalk.wrap64_in _ ⟨by omega,by omega⟩
 by_cases h5:T<lb
 rw[if_pos h5]
 rotate_left 1
 rw[if_neg h5]
 all_goals
  clear h1
  go_enter Al.func11,Tryz.ntmps11
  go_wp2_with fail
  refine(HF.out _ _ rfl).mono ?_
  rintro e w1 ⟨rfl,hb,k0,k1,k2,k3⟩
  have HB:Hid (Below w.heap.size w w1):=hb
  clear hb HF
  go_wp2
  go_ret
  exact⟨rfl,HB.out⟩
theorem PN.NM{w1 w:ae}{g:Gm}{n db nb:Nat}{V:Nat->List Nat}{bad bf:Nat}(h:PN w1 w g n db nb V bad bf):bad<=bf:=by
 obtain⟨R,⟨x,_,hq⟩,_⟩:=h
 have:=hq.bd
 have:=hq.sm
 omega
theorem Ea{g0 g1 g2 g3 lb sp:Int}(h:GV g0 g1 g2 g3 lb sp):∃ c:Nat,c≠0/\(∀ W,ax (PB aa false) 10 #[.agg #[.int .i64 g0,.int .i64 g1,.int .i64 g2,.int .i64 g3],.int .i64 lb,.int .i64 sp] W λe w'=>e=.returned (.tuple #[.pointer none,.iface 31 (.int .i64 (c:Nat))])/\Below W.heap.size W w')/\∀ W,ax (PB aa false) 11 #[.agg #[.int .i64 g0,.int .i64 g1,.int .i64 g2,.int .i64 g3],.int .i64 lb,.int .i64 sp] W λe w'=>e=.returned (.int .i64 (c:Nat))/\Below W.heap.size W w':=by
 rcases h with h|⟨D,B,P,Y,rfl,rfl,rfl,rfl,hG,hc⟩
 .exact⟨1,by omega,λW=>Sb g0 g1 g2 g3 lb sp W h,λW=>Bu g0 g1 g2 g3 lb sp W h⟩
 .refine⟨_,hc,λW=>?_,λW=>qG lb sp W hG⟩
  have:=NP lb sp W hG hc
  rw[dY hc] at this
  exact this
theorem NQ(HL:Lib)(g0 g1 g2 g3 lb sp:Int)(a:Option Addr)(n cap:Nat)(w:ae)(h:GV g0 g1 g2 g3 lb sp):ax (PB aa false) 3 #[.agg #[.int .i64 g0,.int .i64 g1,.int .i64 g2,.int .i64 g3],.int .i64 lb,.int .i64 sp,.slice a n cap] w λe w'=>e=.returned (.bool true)/\Below w.heap.size w w':=by
 obtain⟨c,hc0,hn1,hn2⟩:=Ea h
 have HN:Hid _:=hn1
 have HF:Hid _:=hn2
 have HEr:Hid (∀ W,ax (PB aa false) 12 #[.iface 31 (.int .i64 (c:Nat)),.int .i64 (c:Nat)] W λe w'=>e=.returned (.bool true)/\w'=W):=λW=>by
  have:=bW c (c:Int) true W (by simp)
  rw[dY hc0] at this
  exact this
 have hcb:((c:Int) != 0)=true:=by simpa using hc0
 have hci:¬(c:Int)=0:=by omega
 clear h hn1 hn2
 go_enter Al.func3,Tryz.ntmps3
 go_wp2_with fail
 refine(Eb HL _).mono ?_
 rintro e w1 ⟨rfl,hb1⟩
 have hg:=λo=>hb1.cell (p:=⟨w.heap.size,o,none⟩) (by simp)
 have k0:=hg 0
 have k1:=hg 1
 have k2:=hg 2
 have k3:=hg 3
 simp at k0 k1 k2 k3
 have hz:w.heap.size<w1.heap.size:=by have:=hb1.size;simp at this;omega
 have HB:Hid (Below w.heap.size w w1):=(aB w _).trans (hb1.mono (aB w _).size)
 clear hb1 hg
 go_wp2_with fail
 refine(HN.out _).mono ?_
 rintro e w2 ⟨rfl,hb2⟩
 have hg:=λo=>hb2.cell (p:=⟨w.heap.size,o,none⟩) hz
 rw[<-hg 0] at k0
 rw[<-hg 1] at k1
 rw[<-hg 2] at k2
 rw[<-hg 3] at k3
 have HB2:Hid (Below w.heap.size w w2):=HB.out.trans (hb2.mono HB.out.size)
 clear hb2 HB HN hg
 go_wp2_with fail
 refine(HF.out _).mono ?_
 rintro e w3 ⟨rfl,hb3⟩
 have HB3:Hid (Below w.heap.size w w3):=HB2.out.trans (hb3.mono HB2.out.size)
 clear hb3 HB2 HF k0 k1 k2 k3
 go_wp2_with fail
 refine(HEr.out _).mono ?_
 rintro e w4 ⟨rfl,rfl⟩
 clear HEr
 go_wp2
 go_ret
 exact⟨rfl,HB3.out⟩
theorem K7(HL:Lib)(g:Gm)(a:Option Addr)(n cap:Nat)(w:ae)(hG:Geo g.D g.B g.P g.Y)(hck:ny g.D g.B g.P g.Y (g.L:Int) (g.spare:Int)=0)(hS:SL w a n)(hn:n<=10000000000000) :
 ax (PB aa false) 3 #[.agg #[.int .i64 (g.D:Nat),.int .i64 (g.B:Nat),.int .i64 (g.P:Nat),.int .i64 (g.Y:Nat)],.int .i64 (g.L:Nat),.int .i64 (g.spare:Nat),.slice a n cap] w λe w'=>e=.returned (.bool true)/\Below w.heap.size w w':=by
 obtain⟨L,sp,e1,e2,hy24,hL1,hL2,hF⟩:=Bv hG hck
 have hsp:g.spare<=64:=by
  have h64:=hG.n.2
  have hP:=hG.p0
  unfold ny at hck
  rw[if_neg (by omega),if_neg (by omega)] at hck
  by_cases hx:g.spare<=g.D*g.B
  .omega
  .rw[show min (g.spare:Int) ((g.D*g.B:Nat):Int)=((g.D*g.B:Nat):Int) by omega,Int.sub_self,if_pos (by omega)] at hck
   omega
 have hL1':1<=g.L:=by omega
 have hL2':g.L<=256:=by omega
 have hy1:=hG.y1
 have HQ:Hid (1<=g.L/\g.L<=256/\24<=g.Y/\g.Y<=277):=⟨hL1',hL2',by omega,by omega⟩
 have HN:Hid (∀ W,ax (PB aa false) 10 #[.agg #[.int .i64 (g.D:Nat),.int .i64 (g.B:Nat),.int .i64 (g.P:Nat),.int .i64 (g.Y:Nat)],.int .i64 (g.L:Nat),.int .i64 (g.spare:Nat)] W λe w'=>∃ db,e=.returned (.tuple #[.pointer (some ⟨db,0,none⟩),.nilIface])/\CO g (λb=>b<W.heap.size) 0 w' db (λ_=>aq (g.Y-21) 0)/\Below W.heap.size W w'):=λW=>Wo HL _ W hG hck (λb hb=>hb)
 have HF:Hid (∀ W,ax (PB aa false) 11 #[.agg #[.int .i64 (g.D:Nat),.int .i64 (g.B:Nat),.int .i64 (g.P:Nat),.int .i64 (g.Y:Nat)],.int .i64 (g.L:Nat),.int .i64 (g.spare:Nat)] W λe w'=>e=.returned (.int .i64 0)/\Below W.heap.size W w'):=λW=>by
  have:=qG (g.L:Int) (g.spare:Int) W hG
  rw[hck] at this
  exact this
 have HEr:Hid (∀ W,ax (PB aa false) 12 #[.nilIface,.int .i64 0] W λe w'=>e=.returned (.bool true)/\w'=W):=λW=>bW 0 0 true W (by simp)
 have HS:Hid (∀ W,Below w.heap.size w W->SL W a n):=λW hW=>hS.below hW
 obtain⟨m,hm⟩:∃ m,g.Y-21=m:=⟨_,rfl⟩
 have hm1:m<=256:=by omega
 have hmY:(g.Y:Int)-21=(m:Int):=by omega
 have HM:Hid (g.Y-21=m):=hm
 have HBL:=λW=>GX g.L m W hL2' hm1
 have hY3:g.Y<=277:=by omega
 clear hG hck hS e1 e2 hF hy24 hL1 hL2 hm hy1
 go_enter Al.func3,Tryz.ntmps3
 go_wp2_with fail
 refine(Eb HL _).mono ?_
 rintro e w1 ⟨rfl,hb1⟩
 have hg:=λo=>hb1.cell (p:=⟨w.heap.size,o,none⟩) (by simp)
 have k0:=hg 0
 have k1:=hg 1
 have k2:=hg 2
 have k3:=hg 3
 simp at k0 k1 k2 k3
 have hz:w.heap.size<w1.heap.size:=by have:=hb1.size;simp at this;omega
 have HB:Hid (Below w.heap.size w w1):=(aB w _).trans (hb1.mono (aB w _).size)
 clear hb1 hg
 go_wp2_with fail
 refine(HN.out _).mono ?_
 rintro e w2 ⟨db,rfl,abl,Sc⟩
 have hg:=λo=>Sc.cell (p:=⟨w.heap.size,o,none⟩) hz
 rw[<-hg 0] at k0
 rw[<-hg 1] at k1
 rw[<-hg 2] at k2
 rw[<-hg 3] at k3
 have H2:Hid (CO g (λb=>b<w1.heap.size) 0 w2 db (λ_=>aq (g.Y-21) 0)/\Below w1.heap.size w1 w2):=⟨abl,Sc⟩
 have hz2:w.heap.size<w2.heap.size:=Nat.lt_of_lt_of_le hz Sc.size
 clear abl Sc HN hg
 go_wp2_with fail
 refine(HF.out _).mono ?_
 rintro e w3 ⟨rfl,hb3⟩
 have hg:=λo=>hb3.cell (p:=⟨w.heap.size,o,none⟩) hz2
 rw[<-hg 3] at k3
 have hco:=H2.out.1.below hb3
 have hsz:=NS hco
 rw[HM.out] at hsz
 obtain⟨abm,hbad,hcl⟩:=hco.cl
 have H3:Hid (CL g (λb=>b<w1.heap.size) 0 w3 db (λ_=>aq (g.Y-21) 0) abm abm/\Below w1.heap.size w1 w3):=⟨hcl,H2.out.2.trans (hb3.mono H2.out.2.size)⟩
 clear hco hcl hb3 HF k0 k1 k2 hg H2
 go_wp2_with fail
 refine(HEr.out _).mono ?_
 rintro e w4 ⟨rfl,rfl⟩
 clear HEr
 go_wp2_with fail
 refine hsz.mono ?_
 rintro e w5 ⟨rfl,rfl⟩
 clear hsz
 go_wp2_with fail
 refine(HBL _).mono ?_
 rintro e w4 ⟨na,Si,NLs,rfl,hbn⟩
 obtain⟨nb,rfl,hnb,hpn⟩:=hbn.pn H3.out.1 H3.out.2 HM.out hL1'
 have hb0:=hpn.few
 have H4:Hid (∃ V bad bf,bf<=g.spare/\PN w1 w4 g 0 db nb V bad bf):=⟨_,_,_,Nat.le_of_not_lt hbad,hpn⟩
 have HP:Hid (∀ (W:ae) (V:Nat->List Nat) (bad bf i:Nat) (x y z:Int),PN w1 W g i db nb V bad bf->bf<=g.spare->i<=10000000000000->ax (PB aa false) 18 #[.pointer (some ⟨db,0,none⟩),.slice (some ⟨nb,0,none⟩) g.L Si,.agg #[.int .i64 x,.int .i64 y,.int .i64 z],.bool false] W λe w'=>RZ e w1 w' g i db nb bad bf):=λW V bad bf i x y z hW hbf hi=>by
  have hl:Lt g bad=false:=decide_eq_false (by have:=hW.NM;omega)
  have:=K8 HL hW (cap:=Si) (by omega) HQ.out.2.2.1 HQ.out.2.2.2 hL2' hnb x y z
  rw[hl] at this
  exact this
 clear hbn hpn H3 HBL hbad k3
 go_wp2
 go_loopw [16,17] (λu j wq=>∃ (i lf:Nat),i<=n/\u=.int .i64 lf/\j=.int .i64 i/\lf<=64/\Hid (∃ V bad bf,bf<=g.spare/\PN w1 wq g i db nb V bad bf)) (λ_ j _=>n-(intOf j).toNat)
 case atStart=>exact⟨0,g.spare,cS _,rfl,rfl,hsp,H4.out⟩
 case round =>
  obtain⟨i,lf,hi,rfl,rfl,hlf,hR⟩:=hrel
  clear H4
  obtain⟨V,bad,bf,hbf,hV⟩:=hR.out
  have ag_:=hV.few
  have hmo:=hV.NM
  by_cases hlt:i<n
  .obtain⟨sg,so,ha,hsc⟩:=(HS.out wr (HB.out.trans (hV.dx.mono HB.out.size))).resolve_left (by omega)
   subst ha
   obtain⟨x,y,z,c0,c1,c2,hyb⟩:=hsc i hlt
   have HA:Hid (∀ o,PN w1 (wr.alloc o) g i db nb V bad bf):=λo=>hV.below (aB wr o)
   clear hsc hV hR
   by_cases hx:x=4\/x=5
   .rcases hx with rfl|rfl
    all_goals
     go_wp2
     exact⟨⟨i+1,lf,by omega,rfl,by go_num,hlf,V,bad,bf,hbf,(HA.out _).late (by omega)⟩,by simp[intOf];omega⟩
   .have hx4:¬x=4:=λe=>hx (bh e)
    have hx5:¬x=5:=λe=>hx (be e)
    have hb4:(x==4)=false:=by simpa using hx4
    have hb5:(x==5)=false:=by simpa using hx5
    clear hx
    by_cases hx6:x=6
    .subst hx6
     have hpk:=λW=>abn y (g.spare+1) W (by omega) (by omega) hyb
     go_wp2_with fail
     refine(hpk _).mono ?_
     rintro e w5 ⟨⟨k,hk,rfl⟩,rfl⟩
     have hst:=Ec (HA.out (.cells #[.int .i64 6,.int .i64 y,.int .i64 z] 38))
     clear hpk HA
     go_wp2_with fail
     refine hst.mono ?_
     rintro e w6 ⟨rfl,hp6,-⟩
     have HV6:Hid (PN w1 w6 g i db nb V bad bf):=hp6
     obtain⟨l2,hl2⟩:∃ l2,g.spare-bad=l2:=⟨_,rfl⟩
     have ag':(g.spare:Int)-(bad:Int)=(l2:Int):=by omega
     clear hst hp6
     by_cases hkl:l2<k
     .have hkl':(l2:Int)<(k:Int):=by omega
      have hfl:=Ed HV6.out l2 (by omega)
      go_wp2_with fail
      refine hfl.mono ?_
      rintro e w7 ⟨rfl,hp7⟩
      have H7:Hid (PN w1 w7 g (i+1) db nb V bad (bad+l2)):=hp7.late (by omega)
      clear hfl hp7 HV6
      go_wp2
      exact⟨⟨i+1,l2,by omega,rfl,by go_num,by omega,V,bad,_,by omega,H7.out⟩,by simp[intOf];omega⟩
     .have hkl':¬(l2:Int)<(k:Int):=by omega
      have hfl:=Ed HV6.out k (by omega)
      go_wp2_with fail
      refine hfl.mono ?_
      rintro e w7 ⟨rfl,hp7⟩
      have H7:Hid (PN w1 w7 g (i+1) db nb V bad (bad+k)):=hp7.late (by omega)
      clear hfl hp7 HV6
      go_wp2
      exact⟨⟨i+1,l2,by omega,rfl,by go_num,by omega,V,bad,_,by omega,H7.out⟩,by simp[intOf];omega⟩
    .have hpl:=λo=>HP.out (wr.alloc o) V bad bf i x y z (HA.out o) hbf (by omega)
     have hb6:(x==6)=false:=by simpa using hx6
     clear HA
     go_wp2_with fail
     refine(hpl _).mono ?_
     rintro e w5 ⟨rfl,V',bad',hp5,hle,hsame⟩
     have hst:=Ec hp5
     have aha:=hp5.NM
     have hlt2:Lt g bad'=false:=decide_eq_false (by omega)
     rw[hlt2] at hst
     have hgt:¬((g.spare:Int)<(bad':Int)):=by omega
     clear hpl hp5 hlt2 hsame
     go_wp2_with fail
     refine hst.mono ?_
     rintro e w6 ⟨rfl,hp6,-⟩
     have H6:Hid (∃ V bad bf,bf<=g.spare/\PN w1 w6 g (i+1) db nb V bad bf):=⟨V',bad',bf,hbf,hp6⟩
     clear hst hp6
     go_wp2
     exact⟨⟨i+1,lf,by omega,rfl,by go_num,hlf,H6.out⟩,by simp[intOf];omega⟩
  .obtain rfl:i=n:=by omega
   have hal:=Sj HL (cap:=Si) hV (by omega) HQ.out.2.2.2 hL2'
   have HE:Hid (Below w.heap.size w wr):=HB.out.trans (hV.dx.mono HB.out.size)
   clear hV hR
   go_wp2_with fail
   refine hal.mono ?_
   rintro e w7 ⟨rfl,Wp⟩
   have HE7:Hid (Below w.heap.size w w7):=HE.out.trans (Wp.mono HE.out.size)
   clear hal Wp HE
   go_wp2
   go_ret
   exact⟨rfl,HE7.out⟩
theorem K9(HL:Lib)(g0 g1 g2 g3 lb sp:Int)(a:Option Addr)(n cap:Nat)(w:ae)(hS:SL w a n)(hn:n<=10000000000000):ax (PB aa false) 3 #[.agg #[.int .i64 g0,.int .i64 g1,.int .i64 g2,.int .i64 g3],.int .i64 lb,.int .i64 sp,.slice a n cap] w λe w'=>e=.returned (.bool true)/\Below w.heap.size w w':=by
 rcases Sk g0 g1 g2 g3 lb sp with h|⟨g,rfl,rfl,rfl,rfl,rfl,rfl,hG,hc⟩
 .exact NQ HL g0 g1 g2 g3 lb sp a n cap w h
 .exact K7 HL g a n cap w hG hc hS hn
end Go.Proofs.aA
namespace Go.Proofs.YtjlgehmebfkioaaGreatDoor
open Go Go.Conc Go.RowKit
theorem KZ{W:ae}{pa:Option Addr}{len cap:Nat}{z:Nat->Int}{g0 g1 g2 g3 lb sp:Int}(hs:W.ShapedOpen aa)(hE:W.cell? ⟨0,0,none⟩=some (.iface 160 (.agg #[.pointer (some ⟨1,28,none⟩)])))(hle:len<=cap)(hN:NIn W pa (cap*3) z)(hn:len<=10000000000000) :
 ∃ N last o w' t',runNT aa (N+1) (solo (G (bz aa 3 #[.agg #[.int .i64 g0,.int .i64 g1,.int .i64 g2,.int .i64 g3],.int .i64 lb,.int .i64 sp,.slice pa len cap] .normal) []) W) #[]=(.ended o w',t')/\runN aa N (solo (G (bz aa 3 #[.agg #[.int .i64 g0,.int .i64 g1,.int .i64 g2,.int .i64 g3],.int .i64 lb,.int .i64 sp,.slice pa len cap] .normal) []) W)=.next last/\step aa last=.ended o w' /\
   Go.Conc.Good aa (λv w'=>v=.bool true/\Below W.heap.size W w') last o w' t':=by
 obtain⟨C,hC⟩:∃ C,C=[mq W pa (cap*3)]:=⟨_,rfl⟩
 have hC0:C[0]?=some (mq W pa (cap*3)):=by rw[hC];rfl
 obtain⟨hg,hG⟩:=Ee hs hE
 obtain⟨fns,Sn⟩:∃ fns,fns=jR aa.funcs (Bw W C) (NT W C) (abq W C):=⟨_,rfl⟩
 have hlo:fns.lo=Bw W C:=by rw[Sn];rfl
 have hpt:fns.pt=NT W C:=by rw[Sn];rfl
 have abr:∀ (k:Nat) (d:Cp),C[k]?=some d->Xh W C fns (PB aa false).globals.size d:=Xi hN hG hC
 have hwr:WR (PB aa false) fns (R3 W C) (ghZ W C) (Sq W C) W:=abt W C hlo hpt (λ_=>⟨by rw[hC];exact Nat.le_refl _,Sr⟩) hg abr
 have hargs:aU fns (R3 W C) #[.agg #[.int .i64 g0,.int .i64 g1,.int .i64 g2,.int .i64 g3],.int .i64 lb,.int .i64 sp,.slice (gpa W.heap.size pa cap) len cap] #[.agg #[.int .i64 g0,.int .i64 g1,.int .i64 g2,.int .i64 g3],.int .i64 lb,.int .i64 sp,.slice pa len cap]:=by
  refine⟨rfl,λi h _=>?_⟩
  simp only[List.size_toArray,List.length_cons,List.length_nil] at h
  match i,h with
  |0,_=>exact Xj _ _ _ _
  |1,_=>exact aG rfl
  |2,_=>exact aG rfl
  |3,_=>exact K_ hlo hN hC0 hle
 have hgs:∀ g,fns.gl g=true->R3 W C g g/\fns.pt g=true:=λg hg=>by rw[Sn] at hg;cases hg
 have pq:=ou hargs hgs hwr
 have hk0:K0 0 W.heap[(0:Nat)]? (R3 W C) (λ_=>False) W:=NU (Nat.lt_of_le_of_lt (cS _) hg) λk d hd e=>by have:=(abr k d hd _ e).1;omega
 subst Sn
 obtain⟨N,last,o,w',t',r1,r2,r3,r4⟩:=La (P:=(PB aa false)) (Lb:=(jR aa.funcs (Bw W C) (NT W C) (abq W C)).own (PB aa false)) (Q:=λv _=>v=.bool true) (f:=3) (r:=8) (Lc _ _ _ _) (mD _ _ _) wo (NW _ _ _) (vJ _ _ _) (Xk _ _ _ _ (Xl hE)) (by kernel_rfl) ah.Al.func3 Tryz.results3 (by kernel_rfl) rfl rfl rfl hargs hwr hgs pq hk0 (λt d=>(aA.K9 aA.lib g0 g1 g2 g3 lb sp _ len cap _ (NY hN hC0 hle t d) hn).mono λe w' h=>⟨_,h.1,rfl⟩)
 refine⟨N,last,o,w',t',r1,r2,r3,r4.mono λv h=>⟨?_,NZ ⟨h.2.1,λb hb=>h.2.2.1 b hb λa x=>Ef W C x,h.2.2.2⟩⟩⟩
 obtain⟨E1,v0,eP,rfl,hv,_⟩:=h.1
 exact mE.1 hv
