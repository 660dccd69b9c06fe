/- Part of the proof. -/
import Derived.Test.YthbndfpeffcigaaGreatDoorZ13
import Derived.Lib.EndianBits
open Go.Proofs.Tryz (prog)
open Go.Proofs.ah.Al (PB)
set_option maxHeartbeats 3200000
set_option linter.unusedVariables false
namespace Go.Proofs.aD
open ah ak aj Go.RowKit
open aB (MW cut iq qp lay dS fQ Nq DF iy CF lY jF)
open aG (PK IL Turn fG uG)
def Lj(X:List Nat):Nat:=X[2]?.getD 0+256*X[3]?.getD 0
theorem uY{X:List Nat}(hA:bn X)(i:Nat):X[i]?.getD 0<256:=by
 cases h:X[i]? with
 |none=>decide
 |some y=>exact hA y (List.mem_of_getElem? h)
theorem XK{X:List Nat}(hA:bn X):Lj X<=65535:=by
 have:=uY hA 2
 have:=uY hA 3
 unfold Lj
 omega
theorem OO(b o k:Nat)(X:List Nat)(w:World)(hA:bn X)(hc:∀ i,i<64->w.cell? ⟨b,o+i,none⟩=some (.int .u8 ((X[i]?.getD 0:Nat):Int))) :
 Calls (PB prog false) 32 #[.slice (some ⟨b,o,none⟩) 64 k] w λe w'=>e=.returned (.int .i64 (Lj X:Nat))/\Below w.heap.size w w':=by
 have c2:=hc 2 (by decide)
 have c3:=hc 3 (by decide)
 have l2:=uY hA 2
 have l3:=uY hA 3
 unfold Lj
 clear hc hA
 generalize X[2]?.getD 0=x2 at *
 generalize X[3]?.getD 0=x3 at *
 have HB:Hid (Below w.heap.size w w):=Below.refl _ _
 have e1:bits .or .i64 (x2:Int) ((x3:Int)*256)=(((x2+256*x3:Nat):Nat):Int):=by
  rw[Go.bits_join_low .i64 16 (by decide) (λn h0 h1=>b_ (by omega) (by omega)) 8 (x2:Int) ((x3:Int)*256) (by omega) (by omega) (by omega) (by omega) (by omega) (by omega)]
  omega
 have HE:Hid (bits .or .i64 (x2:Int) ((x3:Int)*256)=(((x2+256*x3:Nat):Nat):Int)):=e1
 clear e1
 go_enter Al.func32,Tryz.ntmps32
 go_wp2
 go_quiet (fail)
 go_wp2
 go_ret
 exact⟨mg HE.out,below_drewN HB.out _⟩
def XL(c:Ct)(p:Pk)(q k:Nat)(x:Qs):Ct:=XH { c with p:=some { p with a:=q,c:=k },f:=aW c.f x.id x.on } x.id x.on (Lj (cut c.l (x.sq+x.hd*64) 64)) 0
def Jj(l:List Nat)(x:Qs):Prop:=lY CF (cut l (x.sq+x.hd*64) 64) 6/\jF CF (cut l (x.sq+x.hd*64) 64) 0=1
def Wp(own:Nat->Nat)(w w':World)(e:Ending)(c:Ct)(p:Pk):Prop:=∃ q k x,Turn ((dV c.f).map oW) ((dV c.f).map dQ) p.a p.c q k/\(dV c.f)[q]?=some x/\e=.returned (.tuple #[.int .i64 (x.id:Nat),.nilIface])/\CT own w' (XL c p q k x)/\Keep (λb=>own b=2\/own b=3\/10<=own b) w w'
theorem Ll{own:Nat->Nat}{w:World}{c:Ct}{p:Pk}(h:CT own w c)(hp:c.p=some p)(hn:fG ((dV c.f).map dQ)) :
 Calls (PB prog false) 11 #[.pointer (some ⟨c.cb,0,none⟩)] w λe w'=>e=.returned (.tuple #[.int .i64 0,.iface 42 (.int .i64 4)])/\Below w.heap.size w w':=by
 have H:Hid (Calls (PB prog false) 27 #[.pointer (some ⟨c.cb,0,none⟩)] w λe w'=>e=.returned (.tuple #[.pointer none,.iface 42 (.int .i64 4)])/\Below w.heap.size w w'):=by
  refine(nV h hp).mono ?_
  rintro e w' (⟨_,rfl,hb⟩|⟨q,k,x,ht,hq,_⟩)
  .exact⟨rfl,hb⟩
  .have hlt:=h.pk
   rw[hp] at hlt
   have h2:=(ht.lt hlt.1.lt (by simp) (λi hi=>by rw[hn i hi];exact Int.le_refl _))
   rw[List.length_map] at h2
   have:=hn q (by rw[List.length_map];exact h2.1)
   omega
 clear h hp hn
 go_enter Al.func11,Tryz.ntmps11
 go_wp2_with fail
 refine H.out.mono ?_
 rintro e w1 ⟨rfl,hb⟩
 have HB:Hid (Below w.heap.size w w1):=hb
 clear H hb
 go_wp2
 go_ret2
 exact⟨rfl,HB.out⟩
theorem Gq{own:Nat->Nat}{w:World}{c:Ct}{p:Pk}(h:CT own w c)(hp:c.p=some p)(hc:Calm c.g c.x)(hs:¬fG ((dV c.f).map dQ))(hfl:∀ x,x∈dV c.f->¬ig x=0->Jj c.l x)(hr:∀ x,x∈dV c.f->x.r<=4611686018427387904) :
 Calls (PB prog false) 11 #[.pointer (some ⟨c.cb,0,none⟩)] w λe w'=>Wp own w w' e c p:=by
 have hpk:=h.pk
 rw[hp] at hpk
 have H:Hid (Calls (PB prog false) 27 #[.pointer (some ⟨c.cb,0,none⟩)] w λe w'=>∃ q k x,Turn ((dV c.f).map oW) ((dV c.f).map dQ) p.a p.c q k/\(dV c.f)[q]?=some x/\¬ig x=0/\e=.returned (.tuple #[.pointer (some ⟨x.qb,0,none⟩),.nilIface])/\CT own w' { c with p:=some { p with a:=q,c:=k } }/\Keep (λb=>own b=3) w w'):=by
  refine(nV h hp).mono ?_
  rintro e w' (⟨hn,_⟩|⟨q,k,x,ht,hq,he,hct,hk⟩)
  .exact absurd hn hs
  .have hnn:uG ((dV c.f).map dQ):=λi hi=>by
    rw[List.length_map] at hi
    unfold gI dQ
    rw[List.getElem?_map,List.getElem?_eq_getElem hi]
    simp
   have h2:=(ht.lt hpk.1.lt (by simp) hnn).2
   refine⟨q,k,x,ht,hq,λe0=>?_,he,hct,hk⟩
   unfold gI dQ at h2
   rw[List.getElem?_map,hq] at h2
   simp[e0] at h2
 have HC:Hid (∀ w1 q k x,(dV c.f)[q]?=some x->¬ig x=0->CT own w1 { c with p:=some { p with a:=q,c:=k } } ->
  Calls (PB prog false) 28 #[.pointer (some ⟨x.qb,0,none⟩)] w1 (λe w'=>e=.returned (.int .i64 ((x.sq+x.hd*64:Nat):Int))/\Below w1.heap.size w1 w')):=λw1 q k x hq hw hct=>by
  have hx:=h.dV (List.mem_of_getElem? hq)
  exact yX (hct.qs x.id x hx.2).2.1 h.mw.long
 have HP:Hid (∀ w1 q k x,(dV c.f)[q]?=some x->CT own w1 { c with p:=some { p with a:=q,c:=k } } ->
  Calls (PB prog false) 13 #[.pointer (some ⟨c.cb,0,none⟩),.int .i64 ((x.sq+x.hd*64:Nat):Int),.int .i64 64] w1 (λe w'=>∃ b o kk,e=.returned (.tuple #[.slice (some ⟨b,o,none⟩) 64 kk,.nilIface])/\(∀ i,i<64->w'.cell? ⟨b,o+i,none⟩=some (.int .u8 (((cut c.l (x.sq+x.hd*64) 64)[i]?.getD 0:Nat):Int)))/\Below w1.heap.size w1 w'/\w1.heap.size<=b)):=λw1 q k x hq hct=>by
  have hx:=h.dV (List.mem_of_getElem? hq)
  have XM:=hx.1
  have h1:=XM.sq
  have h2:(x.hd+1)*64<=x.n*64:=Nat.mul_le_mul_right _ XM.hd
  have hfit:x.sq+x.hd*64+64<=c.l.length:=by omega
  refine(Ea hct (x.sq+x.hd*64) 64 hfit).mono ?_
  rintro e w' ⟨a,kk,rfl,hO,hb⟩
  have hl:(cut c.l (x.sq+x.hd*64) 64).length=64:=iq hfit
  obtain⟨b,o,rfl,hcell⟩:=hO.lies.dU (by show 0<(cut c.l (x.sq+x.hd*64) 64).length;omega)
  have hge:=hO.ge (b:=b) ⟨_,rfl,rfl⟩
  refine⟨b,o,kk,by show _=_;rw[hl],λi hi=>hcell i (by show i<(cut c.l (x.sq+x.hd*64) 64).length;omega),hb,hge.1⟩
 have HR:Hid (∀ W q k (x:Qs) b o kk,(dV c.f)[q]?=some x->¬ig x=0->CT own W { c with p:=some { p with a:=q,c:=k } }->(∀ i,i<64->W.cell? ⟨b,o+i,none⟩=some (.int .u8 (((cut c.l (x.sq+x.hd*64) 64)[i]?.getD 0:Nat):Int))) ->
  Calls (PB prog false) 29 #[.pointer (some ⟨c.cb,0,none⟩),.slice (some ⟨b,o,none⟩) 64 kk] W (λe w'=>e=.returned (.int .i64 0)/\Below W.heap.size W w')):=λW q k x b o kk hq hw hct hcell=>by
  have hm:=List.mem_of_getElem? hq
  have XM:=(h.dV hm).1
  have h1:=XM.sq
  have h2:(x.hd+1)*64<=x.n*64:=Nat.mul_le_mul_right _ XM.hd
  have hl:(cut c.l (x.sq+x.hd*64) 64).length=64:=iq (by omega)
  exact Ef hct hc (.inr ⟨b,o,rfl,λi hi=>hcell i (by omega)⟩) (qp h.mw.all _ _) hl (hfl x hm hw).1 (hfl x hm hw).2
 have HG:Hid (∀ W q k (x:Qs),(dV c.f)[q]?=some x->CT own W { c with p:=some { p with a:=q,c:=k } } ->
  Calls (PB prog false) 30 #[.pointer (some ⟨x.qb,0,none⟩)] W (λe w'=>e=.returned (.tuple #[])/\CT own w' { c with p:=some { p with a:=q,c:=k },f:=aW c.f x.id x.on }/\Keep (λb=>b=x.qb) W w'/\Keep (λb=>own b=2\/own b=3\/10<=own b) W w'/\x.qb<w.heap.size)):=λW q k x hq hct=>by
  have hx:=h.dV (List.mem_of_getElem? hq)
  obtain⟨_,h2,ho⟩:=hct.qs x.id x hx.2
  refine(vM h2).mono ?_
  rintro e w' ⟨rfl,XM,hk⟩
  have hk2:Keep (λb=>own b=10+x.id) W w':=hk.mono (λb e=>by subst e;exact ho _ (.inl rfl))
  exact⟨rfl,hct.queue (y:=x.on) hx.2 hk2 (λb e=>.inr e) XM rfl rfl rfl rfl rfl,hk,hk2.mono (λb e=>.inr (.inr (by omega))),aR hx.1.st⟩
 have HI:Hid (∀ W (x:Qs) b o kk,(∀ i,i<64->W.cell? ⟨b,o+i,none⟩=some (.int .u8 (((cut c.l (x.sq+x.hd*64) 64)[i]?.getD 0:Nat):Int)))->Calls (PB prog false) 32 #[.slice (some ⟨b,o,none⟩) 64 kk] W (λe w'=>e=.returned (.int .i64 (Lj (cut c.l (x.sq+x.hd*64) 64):Nat))/\Below W.heap.size W w')):=λW x b o kk hcell=>OO b o kk _ W (qp h.mw.all _ _) hcell
 have HCo:Hid (∀ W q k (x:Qs),(dV c.f)[q]?=some x->¬ig x=0->CT own W { c with p:=some { p with a:=q,c:=k },f:=aW c.f x.id x.on } ->
  Calls (PB prog false) 31 #[.pointer (some ⟨c.cb,0,none⟩),.pointer (some ⟨x.qb,0,none⟩),.int .i64 (Lj (cut c.l (x.sq+x.hd*64) 64):Nat),.int .i64 0] W (λe w'=>e=.returned .nilIface/\CT own w' (XL c p q k x)/\Keep (λb=>own b=2\/own b=3\/10<=own b) W w'/\w'.cell? ⟨x.qb,2,none⟩=some (.int .i64 (x.id:Nat)))):=λW q k x hq hw hct=>by
  have hm:=List.mem_of_getElem? hq
  have hroom:¬(x.on.q+1)%x.on.n=x.on.fr:=λe=>hw (if_pos e)
  refine(Bd hct (n_ _ _ _) hroom _ 0 (XK (qp h.mw.all _ _)) (by decide) (hr x hm)).mono ?_
  rintro e w' ⟨rfl,hc2,hk⟩
  exact⟨rfl,hc2,hk.mono (λb e=>e.elim .inl (λe=>.inr (.inr (by omega)))),(hc2.qs x.id _ (n_ _ _ _)).2.1.st.cell 2⟩
 clear h hpk hfl hr hs hc
 go_enter Al.func11,Tryz.ntmps11
 go_wp2_with fail
 refine H.out.mono ?_
 rintro e w1 ⟨q,k,x,ht,hq,hw,rfl,hct,hk1⟩
 have HA:=HC.out w1 q k x hq hw hct
 have HB1:Hid (Keep (λb=>own b=2\/own b=3\/10<=own b) w w1/\CT own w1 { c with p:=some { p with a:=q,c:=k } }):=⟨hk1.mono (λb e=>.inr (.inl e)),hct⟩
 clear H HC hk1 hct
 go_wp2_with fail
 refine HA.mono ?_
 rintro e w2 ⟨rfl,hb2⟩
 have HB2:Hid (Keep (λb=>own b=2\/own b=3\/10<=own b) w w2/\CT own w2 { c with p:=some { p with a:=q,c:=k } }):=⟨HB1.out.1.trans (Keep.of_below hb2),HB1.out.2.below hb2⟩
 have HA2:=HP.out w2 q k x hq HB2.out.2
 clear HA HP HB1 hb2
 go_wp2_with fail
 refine HA2.mono ?_
 rintro e w3 ⟨b,o,kk,rfl,hcell,hb3,hge⟩
 have HB3:Hid (Keep (λb=>own b=2\/own b=3\/10<=own b) w w3/\CT own w3 { c with p:=some { p with a:=q,c:=k } }/\w.heap.size<=b):=⟨HB2.out.1.trans (Keep.of_below hb3),HB2.out.2.below hb3,Nat.le_trans HB2.out.1.size hge⟩
 have HA3:=HR.out w3 q k x b o kk hq hw HB3.out.2.1 hcell
 have HCL:Hid (∀ i,i<64->w3.cell? ⟨b,o+i,none⟩=some (.int .u8 (((cut c.l (x.sq+x.hd*64) 64)[i]?.getD 0:Nat):Int))):=hcell
 clear HA2 HR HB2 hb3 hge hcell
 go_wp2_with fail
 refine HA3.mono ?_
 rintro e w4 ⟨rfl,hb4⟩
 have HB4:Hid (Keep (λb=>own b=2\/own b=3\/10<=own b) w w4/\CT own w4 { c with p:=some { p with a:=q,c:=k } }/\w.heap.size<=b):=⟨HB3.out.1.trans (Keep.of_below hb4),HB3.out.2.1.below hb4,HB3.out.2.2⟩
 have XO:Hid (∀ i,i<64->w4.cell? ⟨b,o+i,none⟩=some (.int .u8 (((cut c.l (x.sq+x.hd*64) 64)[i]?.getD 0:Nat):Int))):=λi hi=>(hb4.cell (p:=⟨b,o+i,none⟩) (World.block_lt_of_cell? w3 _ (HCL.out i hi))).trans (HCL.out i hi)
 have HA4:=HG.out w4 q k x hq HB4.out.2.1
 clear HA3 HG HB3 HCL hb4
 go_wp2_with fail
 refine HA4.mono ?_
 rintro e w5 ⟨rfl,ace,hk5,hk6,hlt⟩
 have HB5:Hid (Keep (λb=>own b=2\/own b=3\/10<=own b) w w5/\CT own w5 { c with p:=some { p with a:=q,c:=k },f:=aW c.f x.id x.on }):=⟨HB4.out.1.trans hk6,ace⟩
 have HA5:=HI.out w5 x b o kk (λi hi=>(hk5.cell (p:=⟨b,o+i,none⟩) (World.block_lt_of_cell? w4 _ (XO.out i hi)) (by have:=HB4.out.2.2;show ¬b=x.qb;omega)).trans (XO.out i hi))
 clear HA4 HI HB4 XO ace hk5 hk6 hlt
 go_wp2_with fail
 refine HA5.mono ?_
 rintro e w6 ⟨rfl,hb6⟩
 have HB6:Hid (Keep (λb=>own b=2\/own b=3\/10<=own b) w w6):=HB5.out.1.trans (Keep.of_below hb6)
 have HA6:=HCo.out w6 q k x hq hw (HB5.out.2.below hb6)
 clear HA5 HCo HB5 hb6
 go_wp2_with fail
 refine HA6.mono ?_
 rintro e w7 ⟨rfl,acf,hk7,d2⟩
 have HF:Hid (Wp own w w7 (.returned (.tuple #[.int .i64 (x.id:Nat),.nilIface])) c p):=⟨q,k,x,ht,hq,rfl,acf,HB6.out.trans hk7⟩
 clear HA6 HB6 acf hk7 ht hq hw
 go_wp2
 go_ret2
 exact HF.out
