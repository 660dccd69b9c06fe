/- Part of the proof. -/
import Derived.Test.YtjlgehmebfkioaaGreatDoorZ38
set_option maxRecDepth 100000
open Go.Proofs.Tryz (prog)
open Go.Proofs.ah.Al (PB)
set_option maxHeartbeats 16000000
set_option linter.unusedVariables false
namespace Go.Proofs.aA
open ah au aj ah Go.RowKit aB aD ah
theorem Vu:cu 7=.iface 31 (.int .i64 7):=rfl
theorem KC(HL:Lib)(g0 g1 g2 g3 lb sp:Int)(a:Option Addr)(n cap:Nat)(w:World)(h:Gi g0 g1 g2 g3 lb sp):Calls (PB prog false) 8 #[.agg #[.int .i64 g0,.int .i64 g1,.int .i64 g2,.int .i64 g3],.int .i64 lb,.int .i64 sp,.slice a n cap] w λe w'=>e=.returned (.bool true)/\Below w.heap.size w w':=by
 have HN:Hid (∀ W,Calls (PB prog false) 10 #[.agg #[.int .i64 g0,.int .i64 g1,.int .i64 g2,.int .i64 g3],.int .i64 lb,.int .i64 sp] W λe w'=>∃ c:Nat,c≠0/\e=.returned (.tuple #[.pointer none,.iface 31 (.int .i64 (c:Nat))])/\Below W.heap.size W w'):=λW=>Gj W h
 clear h
 go_enter Al.func8,Tryz.ntmps8
 go_wp2_with fail
 refine(Dv HL _).mono ?_
 rintro e w1 ⟨rfl,hb1⟩
 have hg:=λo=>hb1.cell (p:=⟨w.heap.size,o,none⟩) (by simp)
 have k0:=hg 0
 have k1:=hg 1
 have k2:=hg 2
 have k3:=hg 3
 simp at k0 k1 k2 k3
 have HB:Hid (Below w.heap.size w w1):=(aC w _).trans (hb1.mono (aC w _).size)
 clear hb1 hg
 go_wp2_with fail
 refine(HN.out _).mono ?_
 rintro e w2 ⟨c,hc,rfl,hb2⟩
 have HB2:Hid (Below w.heap.size w w2):=HB.out.trans (hb2.mono HB.out.size)
 clear hb2 HB HN
 go_wp2
 go_ret
 exact⟨rfl,HB2.out⟩
def I_(w1 w:World)(g:Gm)(n k db:Nat)(V:Nat->List Nat)(of:Bool)(cut:Nat)(ba ca:Option Addr)(bl cl:List Nat):Prop:=∃ R,PS w1 w R g n k db V of cut/\LR w R ba bl/\LR w R ca cl
section
variable {w1 w w':World} {g:Gm} {n k db:Nat} {V:Nat->List Nat} {of:Bool} {cut:Nat} {ba ca:Option Addr} {bl cl:List Nat}
theorem I_.below(h:I_ w1 w g n k db V of cut ba ca bl cl)(hb:Below w.heap.size w w'):I_ w1 w' g n k db V of cut ba ca bl cl:=by
 obtain⟨R,h1,h2,h3⟩:=h
 exact⟨R,h1.below hb,h2.below hb,h3.below hb⟩
theorem I_.dh(h:I_ w1 w g n k db V of cut ba ca bl cl):Below w1.heap.size w1 w:=by
 obtain⟨R,h1,h2,h3⟩:=h
 exact h1.dh
end
theorem Gl(HL:Lib)(g:Gm)(a:Option Addr)(n cap:Nat)(w:World)(hG:Geo g.D g.B g.P g.Y)(hck:qm g.D g.B g.P g.Y (g.L:Int) (g.spare:Int)=0)(hS:SL w a n)(hn:n<=10000000000000) :
 Calls (PB prog false) 8 #[.agg #[.int .i64 (g.D:Nat),.int .i64 (g.B:Nat),.int .i64 (g.P:Nat),.int .i64 (g.Y:Nat)],.int .i64 (g.L:Nat),.int .i64 (g.spare:Nat),.slice a n cap] w λe w'=>e=.returned (.bool true)/\Below w.heap.size w w':=by
 obtain⟨L,sp,e1,e2,hy24,hL1,hL2,hF⟩:=A9 hG hck
 have hL1':1<=g.L:=by omega
 have hL2':g.L<=256:=by omega
 have hy1:=hG.y1
 have HN:Hid (∀ W,Calls (PB prog false) 10 #[.agg #[.int .i64 (g.D:Nat),.int .i64 (g.B:Nat),.int .i64 (g.P:Nat),.int .i64 (g.Y:Nat)],.int .i64 (g.L:Nat),.int .i64 (g.spare:Nat)] W λe w'=>∃ db,e=.returned (.tuple #[.pointer (some ⟨db,0,none⟩),.nilIface])/\CO g (λb=>b<W.heap.size) 0 w' db (λ_=>List.replicate (g.Y-21) 0)/\Below W.heap.size W w'):=λW=>Vv HL _ W hG hck (λb hb=>hb)
 have HS:Hid (∀ W,Below w.heap.size w W->SL W a n):=λW hW=>hS.below hW
 obtain⟨m,hm⟩:∃ m,g.Y-21=m:=⟨_,rfl⟩
 have hm1:m<=256:=by omega
 have HM:Hid (g.Y-21=m):=hm
 have HG:Hid (1<=g.L/\g.L<=256/\0<=2*g.P/\1<=g.P):=⟨hL1',hL2',Nat.zero_le _,hG.p0⟩
 obtain⟨K,hK⟩:∃ K,g.L=K:=⟨_,rfl⟩
 have HK:Hid (g.L=K):=hK
 have hK1:1<=K:=by omega
 have hK2:K<=256:=by omega
 have hmk:=ah.jq (zb:=false) m (by omega)
 clear hG hck hS e1 e2 hF hy24 hL1 hL2 hm hy1 hL1' hL2'
 rw[hK] at HN ⊢
 clear hK
 go_enter Al.func8,Tryz.ntmps8
 go_wp2_with fail
 refine(Dv HL _).mono ?_
 rintro e w1 ⟨rfl,hb1⟩
 have hg:=λo=>hb1.cell (p:=⟨w.heap.size,o,none⟩) (by simp)
 have k0:=hg 0
 have k1:=hg 1
 have k2:=hg 2
 have k3:=hg 3
 simp at k0 k1 k2 k3
 have HB:Hid (Below w.heap.size w w1):=(aC w _).trans (hb1.mono (aC w _).size)
 clear hb1 hg
 go_wp2_with fail
 refine(HN.out _).mono ?_
 rintro e w2 ⟨db,rfl,hco,hb2⟩
 have hsz:=M_ hco
 rw[HM.out] at hsz
 have H2:Hid (PS w1 w2 (λb=>b<w1.heap.size) g 0 0 db (λ_=>List.replicate m 0) false 0):=⟨by rw[<-HM.out];exact hco.cp,λb e=>Nat.lt_of_lt_of_le e hb2.size,λb e=>e,hb2⟩
 clear hco hb2 HN k0 k1 k2 k3
 go_wp2_with fail
 refine hsz.mono ?_
 rintro e w3 ⟨rfl,rfl⟩
 clear hsz
 go_wp2_with fail
 refine(rO 1 m _ (by omega)).mono ?_
 rintro e w4 ⟨ba,aaz,bl,rfl,hbk⟩
 obtain⟨R1,p4,l4,-⟩:=H2.out.made (Below.refl _ _) hbk
 have hwr:=Ja HL p4.cp (by omega) HG.out.2.2.1 0 HG.out.1 ba aaz m bl hbk.all l4.1 l4.2 hbk.len HM.out.symm
 have H4:Hid (PS w1 w4 R1 g 0 0 db (λ_=>List.replicate m 0) false 0/\LR w4 R1 ba bl):=⟨p4,l4⟩
 have Vw:Hid (bl.length=m):=hbk.len
 clear hbk p4 l4 H2
 go_wp2_with fail
 refine hwr.mono ?_
 rintro e w5 ⟨c5,k5,V5,of5,adE,rfl,q1,q2,q3⟩
 have HV:∃ V,V5=V/\V 0=bl/\∀ i,i≠0->V i=List.replicate m 0:=⟨V5,rfl,by rcases q3 with ⟨_,rfl,_⟩|⟨_,_,_,_,e⟩;exact upd_same _ _ _;omega,λi hi=>by rcases q3 with ⟨_,rfl,_⟩|⟨_,_,_,_,e⟩;exact upd_ne _ _ _ _ hi;omega⟩
 obtain⟨V,rfl,hV0,hVi⟩:=HV
 obtain⟨rfl,rfl,rfl,rfl⟩:c5=0/\of5=false/\k5=0/\adE=0:=by
  rcases q3 with ⟨e1,_,e2,e3,e4⟩|⟨_,_,_,_,e⟩
  .exact⟨e1,e2,e3,by omega⟩
  .omega
 have H5:Hid (PS w1 w5 R1 g 1 0 db V5 false 0/\LR w5 R1 ba bl):=⟨H4.out.1.step q1 q2,H4.out.2.step q2⟩
 have HVV:Hid (V5 0=bl/\∀ i,i≠0->V5 i=List.replicate m 0):=⟨hV0,hVi⟩
 have hfl:=Rj HL q1 (by omega) HG.out.2.2.1
 clear q1 q2 q3 hV0 hVi hwr H4
 rw[bX]
 go_wp2_with fail
 refine hfl.mono ?_
 rintro e w6 ⟨c6,k6,of6,aaA,rfl,q1,q2,q3⟩
 obtain⟨rfl,rfl,rfl⟩:c6=0/\of6=false/\k6=0:=by
  rcases q3 with ⟨e1,e2,e3⟩|⟨_,_,_,e⟩
  .exact⟨e1,e2,by omega⟩
  .omega
 have H6:Hid (PS w1 w6 R1 g 2 0 db V5 false aaA/\LR w6 R1 ba bl):=⟨H5.out.1.step q1 q2,H5.out.2.step q2⟩
 clear q1 q2 q3 hfl H5
 rw[bX]
 go_wp2_with fail
 refine(rO 2 m _ (by omega)).mono ?_
 rintro e w7 ⟨ca,aaB,cl,rfl,hbk⟩
 obtain⟨R,p7,l7,hRR⟩:=H6.out.1.made (Below.refl _ _) hbk
 have hct:=aaC p7.cp 1 (by omega)
 have H7:Hid (PS w1 w7 R g 2 0 db V5 false aaA/\LR w7 R ba bl/\LR w7 R ca cl):=⟨p7,⟨(H6.out.2.below hbk.dh).1,λb off e=>hRR b (H6.out.2.2 b off e)⟩,l7⟩
 have HCL:Hid (cl.length=m/\aY cl):=⟨hbk.len,hbk.all⟩
 clear hbk p7 l7 hRR H6
 go_wp2_with fail
 refine hct.mono ?_
 rintro e w8 ⟨rfl,q1,q2⟩
 have H8:Hid (PS w1 w8 R g 2 0 db V5 false 1/\LR w8 R ba bl/\LR w8 R ca cl):=⟨H7.out.1.step q1 q2,H7.out.2.1.step q2,H7.out.2.2.step q2⟩
 have hwr:=Ja HL H8.out.1.cp (by omega) HG.out.2.2.1 0 HG.out.1 ca aaB m cl HCL.out.2 H8.out.2.2.1 H8.out.2.2.2 HCL.out.1 HM.out.symm
 clear q1 q2 hct H7
 go_wp2_with fail
 refine hwr.mono ?_
 rintro e w9 ⟨c9,k9,V9,of9,lX,rfl,q1,q2,q3⟩
 obtain⟨rfl,rfl,rfl,rfl⟩:c9=7/\V9=V5/\of9=true/\k9=1:=by
  rcases q3 with ⟨e1,_,e2,e3,e4⟩|⟨e1,e2,e3,e4,_⟩
  .omega
  .exact⟨e1,e2,e3,e4⟩
 have H9:Hid (I_ w1 w9 g 3 1 db V9 true lX ba ca bl cl):=⟨R,H8.out.1.step q1 q2,H8.out.2.1.step q2,H8.out.2.2.step q2⟩
 have hfl:=uE q1
 clear q1 q2 q3 hwr H8
 rw[Vu]
 go_wp2_with fail
 refine hfl.mono ?_
 rintro e w10 ⟨rfl,aaD⟩
 have H10:Hid (I_ w1 w10 g 3 1 db V9 true lX ba ca bl cl):=H9.out.below aaD
 have her:=zL 7 7 true w10 (by simp)
 clear hfl aaD H9
 rw[Vu] at her ⊢
 go_wp2_with fail
 refine her.mono ?_
 rintro e w11 ⟨rfl,rfl⟩
 go_wp2_with fail
 refine her.mono ?_
 rintro e w12 ⟨rfl,rfl⟩
 clear her
 have hst:Calls (PB prog false) 16 #[.pointer (some ⟨db,0,none⟩)] w12 λe w'=>∃ bad:Nat,e=.returned (.tuple #[.int .i64 (bad:Nat),.bool false,.bool true])/\Below w12.heap.size w12 w':=by
  obtain⟨R,h1,_⟩:=H10.out
  exact Rk h1.cp
 go_wp2_with fail
 refine hst.mono ?_
 rintro e w13 ⟨bad,rfl,aaE⟩
 have H13:Hid (I_ w1 w13 g 3 1 db V9 true lX ba ca bl cl):=H10.out.below aaE
 clear hst aaE H10
 have Na:Hid (∀ (W:World) (x:Int),I_ w1 W g 3 1 db V9 true lX ba ca bl cl->(∀ fa cap,Calls (PB prog false) 27 #[.pointer (some ⟨db,0,none⟩),.int .i64 x,.slice fa m cap] W λe w'=>e=.returned (.iface 31 (.int .i64 7))/\Below W.heap.size W w')/\Calls (PB prog false) 30 #[.pointer (some ⟨db,0,none⟩),.int .i64 x] W (λe w'=>e=.returned (.iface 31 (.int .i64 7))/\Below W.heap.size W w')/\Calls (PB prog false) 23 #[.pointer (some ⟨db,0,none⟩),.int .i64 x] W (λe w'=>e=.returned (.tuple #[.slice none 0 0,.iface 31 (.int .i64 7)])/\w'=W)/\Calls (PB prog false) 25 #[.pointer (some ⟨db,0,none⟩)] W (λe w'=>e=.returned (.iface 31 (.int .i64 7))/\Below W.heap.size W w')):=λW x hW=>by
  obtain⟨R,h1,_⟩:=hW
  exact⟨λfa cap=>Dw h1.cp x fa cap m (by omega),Gn h1.cp x,Gp h1.cp x,uE h1.cp⟩
 have HEr:Hid (∀ W:World,Calls (PB prog false) 12 #[.iface 31 (.int .i64 7),.int .i64 7] W λe w'=>e=.returned (.bool true)/\w'=W):=λW=>zL 7 7 true W (by simp)
 go_wp2
 go_loopw [23] (λj wq=>∃ (i:Nat),i<=n/\j=.int .i64 i/\Hid (I_ w1 wq g 3 1 db V9 true lX ba ca bl cl)) (λj _=>n-(intOf j).toNat)
 case atStart=>exact⟨0,Nat.zero_le _,rfl,H13.out⟩
 case round =>
  obtain⟨i,hi,rfl,hR⟩:=hrel
  clear H13
  by_cases hlt:i<n
  .obtain⟨sg,so,ha,hsc⟩:=(HS.out wr (HB.out.trans (hR.out.dh.mono HB.out.size))).resolve_left (by omega)
   subst ha
   obtain⟨x,y,z,c0,c1,c2,hyb⟩:=hsc i hlt
   clear hsc
   go_wp2_with fail
   refine(rO z m _ (by omega)).mono ?_
   rintro e Ws ⟨xa,adH,xl,rfl,hbk⟩
   have hbc:=hbk.dh.cell (p:=⟨wr.heap.size,1,none⟩) (by simp)
   simp at hbc
   have Vx:Hid (I_ w1 Ws g 3 1 db V9 true lX ba ca bl cl):=(hR.out.below (aC wr _)).below hbk.dh
   have hx:=(Na.out Ws y Vx.out).1 xa adH
   have Nb:wr.heap.size<Ws.heap.size:=Nat.lt_of_lt_of_le (by simp) hbk.dh.size
   clear hbk c0 c1 c2 hR
   go_wp2_with fail
   refine hx.mono ?_
   rintro e Rl ⟨rfl,A_⟩
   have hbc2:=(A_.cell (p:=⟨wr.heap.size,1,none⟩) Nb).trans hbc
   have Rm:Hid (I_ w1 Rl g 3 1 db V9 true lX ba ca bl cl):=Vx.out.below A_
   have hx:=(Na.out Rl y Rm.out).2.1
   have Vy:wr.heap.size<Rl.heap.size:=Nat.lt_of_lt_of_le Nb A_.size
   clear A_ hbc Vx Nb
   go_wp2_with fail
   refine hx.mono ?_
   rintro e w16 ⟨rfl,Dx⟩
   have adI:=(Dx.cell (p:=⟨wr.heap.size,1,none⟩) Vy).trans hbc2
   have Wt:Hid (I_ w1 w16 g 3 1 db V9 true lX ba ca bl cl):=Rm.out.below Dx
   have hx:=(Na.out w16 y Wt.out).2.2.1
   clear Dx hbc2 Rm Vy
   go_wp2_with fail
   refine hx.mono ?_
   rintro e w17 ⟨rfl,rfl⟩
   have hx:=(Na.out w17 y Wt.out).2.2.2
   clear adI
   go_wp2_with fail
   refine hx.mono ?_
   rintro e w18 ⟨rfl,aaG⟩
   have H18:Hid (I_ w1 w18 g 3 1 db V9 true lX ba ca bl cl):=Wt.out.below aaG
   have hx:=HEr.out w18
   clear aaG Wt
   go_wp2_with fail
   refine hx.mono ?_
   rintro e w19 ⟨rfl,rfl⟩
   go_wp2_with fail
   refine hx.mono ?_
   rintro e w20 ⟨rfl,rfl⟩
   go_wp2_with fail
   refine hx.mono ?_
   rintro e w21 ⟨rfl,rfl⟩
   go_wp2_with fail
   refine hx.mono ?_
   rintro e w22 ⟨rfl,rfl⟩
   clear hx
   go_wp2
   exact⟨⟨i+1,by omega,by go_num,H18.out⟩,by simp[intOf];omega⟩
  .obtain rfl:i=n:=by omega
   obtain⟨R,h1,h2,h3⟩:=hR.out
   have hmt:=Rn HL h1.cp (by omega) h1.lt HG.out.1
   have HR2:Hid (PS w1 wr R g 3 1 db V9 true lX/\LR wr R ba bl/\LR wr R ca cl):=⟨h1,h2,h3⟩
   clear hR h1 h2 h3 hlt Na HEr
   go_wp2_with fail
   refine hmt.mono ?_
   rintro e Ws ⟨rfl,q1,q2⟩
   have Vx:Hid (PS w1 Ws R g 3 1 db V9 false lX/\LR Ws R ba bl/\LR Ws R ca cl):=⟨HR2.out.1.step q1 q2,HR2.out.2.1.step q2,HR2.out.2.2.step q2⟩
   have hrd:=Nc HL q1 (by omega) 0 HG.out.1
   rw[HVV.out.1] at hrd
   clear hmt q1 q2 HR2
   go_wp2_with fail
   refine hrd.mono ?_
   rintro e Rl ⟨gb,rfl,hge,hrow,A_⟩
   have Rm:Hid (PS w1 Rl R g 3 1 db V9 false lX/\LR Rl R ba bl/\LR Rl R ca cl/\Row Rl gb bl):=⟨Vx.out.1.below A_,Vx.out.2.1.below A_,Vx.out.2.2.below A_,hrow⟩
   have hby:=nT (some ⟨gb,0,none⟩) ba bl bl bl.length aaz Rl (by rw[Vw.out];omega) (by rw[Vw.out];omega) (iJ hrow) Rm.out.2.1.1
   rw[decide_eq_true rfl,Vw.out] at hby
   rw[Vw.out]
   clear hrd hge hrow A_ Vx
   go_wp2_with fail
   refine hby.mono ?_
   rintro e w16 ⟨rfl,Dx⟩
   have Wt:Hid (PS w1 w16 R g 3 1 db V9 false lX):=Rm.out.1.below Dx
   have Ro:=nT (some ⟨gb,0,none⟩) ca bl cl m aaB w16 (by rw[Vw.out];omega) (by rw[HCL.out.1];omega) (iJ (Rm.out.2.2.2.below Dx)) (Rm.out.2.2.1.below Dx).1
   rw[Vw.out,HCL.out.1] at Ro
   generalize decide (bl=cl)=two at Ro
   clear hby Dx Rm
   go_wp2_with fail
   refine Ro.mono ?_
   rintro e w17 ⟨rfl,aaH⟩
   have H17:Hid (PS w1 w17 R g 3 1 db V9 false lX):=Wt.out.below aaH
   clear Ro aaH Wt
   have HRD:Hid (∀ (W:World) (j:Nat),j<K->1<=j->PS w1 W R g 3 1 db V9 false lX->Calls (PB prog false) 23 #[.pointer (some ⟨db,0,none⟩),.int .i64 (j:Nat)] W λe w'=>∃ gb,e=.returned (.tuple #[.slice (some ⟨gb,0,none⟩) m m,.nilIface])/\Row w' gb (List.replicate m 0)/\PS w1 w' R g 3 1 db V9 false lX):=λW j hj hj1 hW=>by
    refine(Nc HL hW.cp (by omega) j (by rw[HK.out];exact hj)).mono ?_
    rintro e w' ⟨gb,rfl,hge,hrow,hb⟩
    rw[HVV.out.2 j (by omega)] at hrow ⊢
    exact⟨gb,by simp,hrow,hW.below hb⟩
   have HBY:Hid (∀ W gb,Row W gb (List.replicate m 0)->Calls (PB prog false) 28 #[.slice (some ⟨gb,0,none⟩) m m,.slice (some ⟨W.heap.size,0,none⟩) m m] (W.alloc (.cells (ah.rH m) 5)) λe w'=>e=.returned (.bool true)/\Below W.heap.size W w'):=λW gb hr=>by
    have hz:Row (W.alloc (.cells (ah.rH m) 5)) W.heap.size (List.replicate m 0):=heap_alloc_new W _
    have hx:=nT (some ⟨gb,0,none⟩) (some ⟨W.heap.size,0,none⟩) (List.replicate m 0) (List.replicate m 0) m m (W.alloc (.cells (ah.rH m) 5)) (by simp;omega) (by simp;omega) (iJ (hr.below (aC _ _))) (iJ hz)
    rw[decide_eq_true rfl,List.length_replicate] at hx
    refine hx.mono ?_
    rintro e w' ⟨rfl,hb⟩
    exact⟨rfl,(aC W _).trans (hb.mono (aC W _).size)⟩
   go_wp2
   go_loopw [38] (λj wq=>∃ (i:Nat),1<=i/\i<=K/\j=.int .i64 i/\Hid (PS w1 wq R g 3 1 db V9 false lX)) (λj _=>K-(intOf j).toNat)
   case atStart=>exact⟨1,Nat.le_refl _,hK1,rfl,H17.out⟩
   case round =>
    obtain⟨j,hj1,hj,rfl,hR⟩:=hrel
    clear H17
    by_cases hlt:j<K
    .have hrd:=HRD.out wr j hlt hj1 hR.out
     clear hR
     go_wp2_with fail
     refine hrd.mono ?_
     rintro e w18 ⟨gb2,rfl,hrow,hps⟩
     have hby:=HBY.out w18 gb2 hrow
     have H18:Hid (PS w1 w18 R g 3 1 db V9 false lX):=hps
     clear hrd hrow hps
     go_wp2_with fail
     refine hby.mono ?_
     rintro e w19 ⟨rfl,aaI⟩
     have H19:Hid (PS w1 w19 R g 3 1 db V9 false lX):=H18.out.below aaI
     clear hby aaI H18
     go_wp2
     exact⟨⟨j+1,by omega,by omega,by go_num,H19.out⟩,by simp[intOf];omega⟩
    .have HE:Hid (Below w.heap.size w wr):=HB.out.trans (hR.out.dh.mono HB.out.size)
     clear hR HRD HBY
     go_wp2
     go_ret
     exact⟨rfl,HE.out⟩
theorem Gq(HL:Lib)(g0 g1 g2 g3 lb sp:Int)(a:Option Addr)(n cap:Nat)(w:World)(hS:SL w a n)(hn:n<=10000000000000):Calls (PB prog false) 8 #[.agg #[.int .i64 g0,.int .i64 g1,.int .i64 g2,.int .i64 g3],.int .i64 lb,.int .i64 sp,.slice a n cap] w λe w'=>e=.returned (.bool true)/\Below w.heap.size w w':=by
 rcases Rp g0 g1 g2 g3 lb sp with h|⟨g,rfl,rfl,rfl,rfl,rfl,rfl,hG,hc⟩
 .exact KC HL g0 g1 g2 g3 lb sp a n cap w h
 .exact Gl HL g a n cap w hG hc hS hn
end Go.Proofs.aA
namespace Go.Proofs.YtjlgehmebfkioaaGreatDoor
open Go Go.Conc Go.RowKit
theorem Gh{W:World}{pa:Option Addr}{len cap:Nat}{z:Nat->Int}{g0 g1 g2 g3 lb sp:Int}(hs:W.ShapedOpen prog)(hE:W.cell? ⟨0,0,none⟩=some (.iface 160 (.agg #[.pointer (some ⟨1,28,none⟩)])))(hle:len<=cap)(hN:Z9 W pa (cap*3) z)(hn:len<=10000000000000) :
 ∃ N last o w' t',runNT prog (N+1) (solo (G (Frame.enter prog 8 #[.agg #[.int .i64 g0,.int .i64 g1,.int .i64 g2,.int .i64 g3],.int .i64 lb,.int .i64 sp,.slice pa len cap] .normal) []) W) #[]=(.ended o w',t')/\runN prog N (solo (G (Frame.enter prog 8 #[.agg #[.int .i64 g0,.int .i64 g1,.int .i64 g2,.int .i64 g3],.int .i64 lb,.int .i64 sp,.slice pa len cap] .normal) []) W)=.next last/\step prog last=.ended o w' /\
   Go.Conc.Good prog (λv w'=>v=.bool true/\Below W.heap.size W w') last o w' t':=by
 obtain⟨C,hC⟩:∃ C,C=[lY W pa (cap*3)]:=⟨_,rfl⟩
 have hC0:C[0]?=some (lY W pa (cap*3)):=by rw[hC];rfl
 obtain⟨hg,hG⟩:=Dy hs hE
 obtain⟨fns,Rq⟩:∃ fns,fns=jL prog.funcs (Ba W C) (Nf W C) (aaJ W C):=⟨_,rfl⟩
 have hlo:fns.lo=Ba W C:=by rw[Rq];rfl
 have hpt:fns.pt=Nf W C:=by rw[Rq];rfl
 have aaK:∀ (k:Nat) (d:Cp),C[k]?=some d->Wu W C fns (PB prog false).globals.size d:=Wv hN hG hC
 have hwr:WR (PB prog false) fns (Q_ W C) (ghZ W C) (Rs W C) W:=aaL W C hlo hpt (λ_=>⟨by rw[hC];exact Nat.le_refl _,Rt⟩) hg aaK
 have hargs:aU fns (Q_ W C) #[.agg #[.int .i64 g0,.int .i64 g1,.int .i64 g2,.int .i64 g3],.int .i64 lb,.int .i64 sp,.slice (Z_ W.heap.size pa cap) len cap] #[.agg #[.int .i64 g0,.int .i64 g1,.int .i64 g2,.int .i64 g3],.int .i64 lb,.int .i64 sp,.slice pa len cap]:=by
  refine⟨rfl,λi h _=>?_⟩
  simp only[List.size_toArray,List.length_cons,List.length_nil] at h
  match i,h with
  |0,_=>exact Ww _ _ _ _
  |1,_=>exact aG rfl
  |2,_=>exact aG rfl
  |3,_=>exact KE hlo hN hC0 hle
 have hgs:∀ g,fns.gl g=true->Q_ W C g g/\fns.pt g=true:=λg hg=>by rw[Rq] at hg;cases hg
 have oL:=nU hargs hgs hwr
 have hk0:K0 0 W.heap[(0:Nat)]? (Q_ W C) (λ_=>False) W:=Ng (Nat.lt_of_le_of_lt (Nat.zero_le _) hg) λk d hd e=>by have:=(aaK k d hd _ e).1;omega
 subst Rq
 obtain⟨N,last,o,w',t',r1,r2,r3,r4⟩:=KF (P:=(PB prog false)) (KG:=(jL prog.funcs (Ba W C) (Nf W C) (aaJ W C)).own (PB prog false)) (Q:=λv _=>v=.bool true) (f:=8) (r:=8) (KH _ _ _ _) (lZ _ _ _) vK (Nh _ _ _) (u6 _ _ _) (Wx _ _ _ _ (Wy hE)) (by kernel_rfl) ah.Al.func8 Tryz.results8 (by kernel_rfl) rfl rfl rfl hargs hwr hgs oL hk0 (λt d=>(aA.Gq aA.lib g0 g1 g2 g3 lb sp _ len cap _ (Ni hN hC0 hle t d) hn).mono λe w' h=>⟨_,h.1,rfl⟩)
 refine⟨N,last,o,w',t',r1,r2,r3,r4.mono λv h=>⟨?_,Nj ⟨h.2.1,λb hb=>h.2.2.1 b hb λa x=>Dz W C x,h.2.2.2⟩⟩⟩
 obtain⟨E1,v0,dZ,rfl,hv,_⟩:=h.1
 exact l5.1 hv
