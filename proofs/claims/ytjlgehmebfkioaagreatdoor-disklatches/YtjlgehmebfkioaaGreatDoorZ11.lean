/- Part of the proof. -/
import Derived.Test.YtjlgehmebfkioaaGreatDoorZ10
import Derived.Deep.LoopGhost
set_option maxRecDepth 100000
open Go.Proofs.Tryz (prog)
open Go.Proofs.ah.Al (PB)
set_option maxHeartbeats 6400000
set_option linter.unusedVariables false
namespace Go.Proofs.aA
open ah au aj Go.RowKit aB aD ah
def EO(g:Gm)(x y:Sd)(c:Nat):Prop:=∃ v,(v<g.D*g.B/\Full g.P (bT x.s) v/\aX g.P x.k v<g.P/\(∀ u,u<g.D*g.B->Full g.P (bT x.s) u->aX g.P x.k u<g.P->aX g.P x.k v<=aX g.P x.k u))/\((c=7/\ET g x y v)\/∃ z:Sd,EM g x z v g.P/\y=fZ g z v/\c=ug g z)
def EoP(e:Ending)(g:Gm)(w w':World)(a:Ad)(x:Sd):Prop:=∃ (y:Sd) (c:Nat),e=.returned (bU c)/\DK g w' a y/\Keep (OD g a) w w'/\EO g x y c
structure EP(g:Gm)(x:Sd):Prop where
 dw:DW g x
 off:x.s.off=false
 cut:x.cut<4611686018427387904
 fails:x.fails<4611686018427387904
 bad:x.bad<4611686018427387904
 seq:x.seq+16<4611686018427387904
 aF:∀ k,x.s.aF k<4611686018427387904
 cand:∃ k,k<g.D*g.B/\Full g.P (bT x.s) k/\aX g.P x.k k<g.P
 room:∀ v,v<g.D*g.B->Full g.P (bT x.s) v->aX g.P x.k v<g.P->(∀ u,u<g.D*g.B->Full g.P (bT x.s) u->aX g.P x.k u<g.P->aX g.P x.k v<=aX g.P x.k u)->aX g.P x.k v<=aO g.P (g.D*g.B) (bT x.s)
theorem FU{g:Gm}{w:World}{a:Ad}{x:Sd}(HI:CY)(Tj:qw)(Tk:qx)(Tn:lT)(h:DK g w a x)(hp:EP g x)(rb n:Nat)(hn:g.D*g.B=n)(hr:BR w rb n x.s.bad x.s.next x.s.aF) :
 Calls (PB prog false) 62 #[.pointer (some ⟨a.db,0,none⟩),.slice (some ⟨rb,0,none⟩) n n] w λe w'=>EoP e g w w' a x:=by
 have c9:w.cell? ⟨a.db,9,none⟩=some (.int .i64 (g.P:Nat)):=h.st.cell 9
 have hN:=Gm.O7 h.iP
 rw[hn] at hN
 have Mr:=hN.1
 have hn1:1<=n:=by rw[<-hn];exact h.iP.n.1
 have hP1:=h.iP.p0
 have O9:=h.iP.p1
 have hmk:=Mt n Mr
 have hb0:Below w.heap.size w (w.alloc (.cells (AL n) 180)):=aC _ _
 have HX:=zW Tj Tk rb n n x.s.bad x.s.next x.s.aF (w.alloc (.cells (AL n) 180)) (hr.below hb0) hn1 Mr
 have H0:Hid (∀ W kb r,Below (w.alloc (.cells (AL n) 180)).heap.size (w.alloc (.cells (AL n) 180)) W->IR W kb n r->(∀ k,k<n->0<=r k/\r k<=64)->(w.alloc (.cells (AL n) 180)).heap.size<=kb->TL g w W a x rb n w.heap.size kb r 0):=λW kb r hb q1 q2 q3 =>
  have hb2:Below w.heap.size w W:=hb0.trans (hb.mono hb0.size)
  ⟨h.below hb2,hr.below hb2,((BR.newS w n).below hb).congr (λk _=>rfl) (λk _=>rfl) (λk _=>rfl),q1,q2,hb2,Nat.le_refl _,by simp at q3;omega,hr.lt,λb hb=>OD.lt h hb,hn1⟩
 have HP:Hid (EP g x/\g.D*g.B=n):=⟨hp,hn⟩
 clear h hr hb0 hp hn hN
 go_enter Al.func62,Tryz.ntmps62
 go_wp2_with fail
 refine HX.mono ?_
 rintro e w1 ⟨kb,rfl,⟨r,hr1,hr2⟩,hge,hb1⟩
 have H1:Hid (TL g w w1 a x rb n w.heap.size kb r 0):=H0.out w1 kb r hb1 hr1 hr2 hge
 clear HX H0 hb1 hr1 hr2 hge c9 hmk
 go_wp2
 go_loopw [28] (λj wq=>∃ (i:Nat),i<=n/\j=.int .i64 i/\Hid (TL g w wq a x rb n w.heap.size kb r i)) (λj _=>n-(intOf j).toNat)
 case atStart=>exact⟨0,Nat.zero_le _,rfl,H1.out⟩
 case round =>
  obtain⟨i,hi,rfl,hR⟩:=hrel
  clear H1
  by_cases hlt:i<n
  .have r0:=hR.out.br.b i hlt
   have r1:=hR.out.br.x i hlt
   have r2:=hR.out.br.r i hlt
   obtain⟨vb,hvb⟩:∃ v,x.s.bad i=v:=⟨_,rfl⟩
   obtain⟨vn,IC⟩:∃ v,x.s.next i=v:=⟨_,rfl⟩
   have HV:Hid (x.s.bad i=vb/\x.s.next i=vn):=⟨hvb,IC⟩
   rw[hvb] at r0
   rw[IC] at r1
   clear hvb IC
   generalize x.s.aF i=vw at r2
   have HT:Hid (w.heap.size<wr.heap.size/\w.heap.size<kb):=⟨hR.out.tr.lt,hR.out.gk⟩
   have HC:Hid (TL g w (wr.alloc (.cells #[.bool vb,.int .i64 (vn:Nat),.int .i64 (vw:Nat)] 133)) a x rb n w.heap.size kb r i):=hR.out.below (aC _ _)
   clear hR
   have c2:(wr.alloc (.cells #[.bool vb,.int .i64 (vn:Nat),.int .i64 (vw:Nat)] 133)).cell? ⟨a.db,2,none⟩=some (.pointer (some ⟨a.kb,0,none⟩)):=HC.out.dk.st.cell 2
   have HL:=OQ HC.out.dk.ho ((i*g.P:Nat):Int) (((i*g.P:Nat):Int)+(g.P:Int))
   have hip:i*g.P+g.P<=g.D*g.B*g.P:=by rw[HP.out.2];calc i*g.P+g.P=(i+1)*g.P:=by rw[Nat.add_mul,Nat.one_mul]
    _<=n*g.P:=Nat.mul_le_mul_right _ hlt
   rw[xW hip] at HL
   have HLv:Hid (eY (λj=>x.k.lb (i*g.P+j)) g.P=aX g.P x.k i):=rfl
   rw[HLv.out] at HL
   have aeL:=qI g.P x.k i
   obtain⟨lv,hlv⟩:∃ lv,aX g.P x.k i=lv:=⟨_,rfl⟩
   have HW:Hid (aX g.P x.k i=lv):=hlv
   rw[hlv] at HL aeL
   clear hlv HLv hip
   have aeM:i*g.P<=64*16:=Nat.mul_le_mul (by omega) O9
   obtain⟨ip,hip⟩:∃ ip,i*g.P=ip:=⟨_,rfl⟩
   rw[hip] at HL aeM
   have e1:(i:Int)*(g.P:Int)=(ip:Int):=by rw[<-hip];simp
   have e2:IntKind.i64.wrap (ip:Int)=(ip:Int):=bV (by omega) (by omega)
   have e3:IntKind.i64.wrap ((i:Int)+1)=(i:Int)+1:=bV (by omega) (by omega)
   have e4:((i:Int)+1)*(g.P:Int)=(ip:Int)+(g.P:Int):=by rw[Int.add_mul,Int.one_mul,e1]
   have e5:IntKind.i64.wrap ((ip:Int)+(g.P:Int))=(ip:Int)+(g.P:Int):=bV (by omega) (by omega)
   clear hip
   rw[bW] at HL
   go_wp2_with fail
   refine HL.mono ?_
   rintro e w3 ⟨rfl,rfl⟩
   clear HL e1 e2 e4 e5
   have k0:(wr.alloc (.cells #[.bool vb,.int .i64 (vn:Nat),.int .i64 (vw:Nat)] 133)).cell? ⟨wr.heap.size,0,none⟩=some (.bool vb):=by
    have hh:=heap_alloc_new wr (.cells #[.bool vb,.int .i64 (vn:Nat),.int .i64 (vw:Nat)] 133)
    simp only[World.cell?,hh]
    rfl
   have k1:(wr.alloc (.cells #[.bool vb,.int .i64 (vn:Nat),.int .i64 (vw:Nat)] 133)).cell? ⟨wr.heap.size,1,none⟩=some (.int .i64 (vn:Nat)):=by
    have hh:=heap_alloc_new wr (.cells #[.bool vb,.int .i64 (vn:Nat),.int .i64 (vw:Nat)] 133)
    simp only[World.cell?,hh]
    rfl
   have hcb:w.heap.size<wr.heap.size:=HT.out.1
   have hck:w.heap.size<kb:=HT.out.2
   obtain⟨W,hW⟩:∃ W,wr.alloc (.cells #[.bool vb,.int .i64 (vn:Nat),.int .i64 (vw:Nat)] 133)=W:=⟨_,rfl⟩
   rw[hW] at HC c2 k0 k1 ⊢
   clear hW r0 r1 r2 c2
   generalize wr.heap.size=cb at *
   have rk:=HC.out.kr.cell i hlt
   have t0:=HC.out.tr.b i hlt
   have t1:=HC.out.tr.x i hlt
   have t2:=HC.out.tr.r i hlt
   have f0:=HC.out.tr.f (i*3)
   have f1:=HC.out.tr.f (i*3+1)
   have f2:=HC.out.tr.f (i*3+2)
   have HZ:=HC.out.put hlt
   obtain⟨ri,hri⟩:∃ ri:Nat,r i=(ri:Int):=⟨(r i).toNat,by have:=HC.out.kle i hlt;omega⟩
   rw[hri] at rk
   rw[hri,Int.toNat_natCast,HW.out] at HZ
   clear hri HW
   generalize nR (pR g.P (bT x.s)) false i i=z0 at t0
   generalize nR (aX g.P x.k) 0 i i=z1 at t1
   generalize nR (λk=>(r k).toNat) 0 i i=z2 at t2
   have hu:pR g.P (bT x.s) i=(!vb&&decide (vn=g.P)):=by
    unfold pR
    show (!x.s.bad i&&decide (x.s.next i=g.P))=_
    rw[HV.out.1,HV.out.2]
   rw[hu] at HZ
   clear hu HV
   cases vb with
   |true =>
    have HZ2:Hid (TL g w (((W.setCell ⟨w.heap.size,i*3,none⟩ (.bool false)).setCell ⟨w.heap.size,i*3+1,none⟩ (.int .i64 (lv:Nat))).setCell ⟨w.heap.size,i*3+2,none⟩ (.int .i64 (ri:Nat))) a x rb n w.heap.size kb r (i+1)):=HZ
    clear HZ HC
    go_wp2
    go_region
    go_wp2
    exact⟨⟨i+1,by omega,by go_num,HZ2.out.below ((Below.refl _ _).drew)⟩,by simp[intOf];omega⟩
   |false =>
    by_cases hf:vn=g.P
    .subst hf
     have HZ2:Hid (TL g w (((W.setCell ⟨w.heap.size,i*3,none⟩ (.bool true)).setCell ⟨w.heap.size,i*3+1,none⟩ (.int .i64 (lv:Nat))).setCell ⟨w.heap.size,i*3+2,none⟩ (.int .i64 (ri:Nat))) a x rb n w.heap.size kb r (i+1)):=by
      have eu:(!false&&decide (g.P=g.P))=true:=by simp
      rw[eu] at HZ
      exact HZ
     clear HZ HC
     go_wp2
     go_region_held3 (λw'=>w'.cell? ⟨cb,0,none⟩=some (.bool false)/\w'.cell? ⟨cb,1,none⟩=some (.int .i64 (g.P:Nat))/\w'.cell? ⟨kb,i,none⟩=some (.int .i64 (ri:Nat))) (first|assumption|(go_split_ands;refine⟨?_,?_,?_⟩<;>(rw[World.cell?_drew,far _ (by omega),far _ (by omega),far _ (by omega)];assumption))|go_keep) (fail)
     go_wp2
     exact⟨⟨i+1,by omega,by go_num,HZ2.out.below ((Below.refl _ _).drew)⟩,by simp[intOf];omega⟩
    .have HZ2:Hid (TL g w (((W.setCell ⟨w.heap.size,i*3,none⟩ (.bool false)).setCell ⟨w.heap.size,i*3+1,none⟩ (.int .i64 (lv:Nat))).setCell ⟨w.heap.size,i*3+2,none⟩ (.int .i64 (ri:Nat))) a x rb n w.heap.size kb r (i+1)):=by
      have eu:(!false&&decide (vn=g.P))=false:=by simp[hf]
      rw[eu] at HZ
      exact HZ
     clear HZ HC
     have hfe:((vn:Int)==(g.P:Int))=false:=by rw[beq_eq_false_iff_ne];omega
     go_wp2
     go_region_held3 (λw'=>w'.cell? ⟨cb,0,none⟩=some (.bool false)/\w'.cell? ⟨cb,1,none⟩=some (.int .i64 (vn:Nat))/\w'.cell? ⟨kb,i,none⟩=some (.int .i64 (ri:Nat))) (first|assumption|(go_split_ands;refine⟨?_,?_,?_⟩<;>(rw[World.cell?_drew,far _ (by omega),far _ (by omega),far _ (by omega)];assumption))|go_keep) (fail)
     go_wp2
     exact⟨⟨i+1,by omega,by go_num,HZ2.out.below ((Below.refl _ _).drew)⟩,by simp[intOf];omega⟩
  .obtain rfl:i=n:=by omega
   have HX:=Tn w.heap.size i g.P (pR g.P (bT x.s)) (aX g.P x.k) (λk=>(r k).toNat) wr hn1 Mr hP1 O9 (hR.out.tr.congr (λk hk=>if_pos hk) (λk hk=>if_pos hk) (λk hk=>if_pos hk)) (λk hk=>⟨qI _ _ _,by have:=hR.out.kle k hk;omega⟩) (by
    obtain⟨k,q1,q2,q3⟩:=HP.out.1.cand
    exact⟨k,by rw[HP.out.2] at q1;exact q1,uh.2 q2,q3⟩)
   have HD:Hid (DK g wr a x/\Below w.heap.size w wr):=⟨hR.out.dk,hR.out.dx⟩
   clear hR
   go_wp2_with fail
   refine HX.mono ?_
   rintro e w4 ⟨v,hv,hu,hlp,hmin,rfl,hb4⟩
   have HV:Hid (v<g.D*g.B/\Full g.P (bT x.s) v/\aX g.P x.k v<g.P/\(∀ u,u<g.D*g.B->Full g.P (bT x.s) u->aX g.P x.k u<g.P->aX g.P x.k v<=aX g.P x.k u)):=⟨by rw[HP.out.2];exact hv,uh.1 hu,hlp,λu q1 q2 q3=>hmin u (by rw[HP.out.2] at q1;exact q1) (uh.2 q2) q3⟩
   have H4:Hid (EM g x x v 0/\DK g w4 a x/\Keep (OD g a) w w4):=⟨EM.start HP.out.1.dw HP.out.1.off HV.out.2.1,HD.out.1.below hb4,Keep.of_below (HD.out.2.trans (hb4.mono HD.out.2.size))⟩
   clear HX HD hb4 hmin hlp hu
   have hvp:v*g.P<=64*16:=Nat.mul_le_mul (by omega) O9
   obtain⟨vp,Tp⟩:∃ vp,v*g.P=vp:=⟨_,rfl⟩
   have HVP:Hid (v*g.P=vp):=Tp
   rw[Tp] at hvp
   have e1:(v:Int)*(g.P:Int)=(vp:Int):=by rw[<-Tp];simp
   have e2:IntKind.i64.wrap (vp:Int)=(vp:Int):=bV (by omega) (by omega)
   have e3:IntKind.i64.wrap ((v:Int)+1)=(v:Int)+1:=bV (by omega) (by omega)
   have e4:((v:Int)+1)*(g.P:Int)=(vp:Int)+(g.P:Int):=by rw[Int.add_mul,Int.one_mul,e1]
   have e5:IntKind.i64.wrap ((vp:Int)+(g.P:Int))=(vp:Int)+(g.P:Int):=bV (by omega) (by omega)
   clear Tp
   go_wp2
   go_loopw [14] (λj wq=>∃ (m:Nat) (y:Sd),m<=g.P/\j=.int .i64 ((vp:Int)+(m:Int))/\Hid (EM g x y v m/\DK g wq a y/\Keep (OD g a) w wq)) (λj _=>vp+g.P-(intOf j).toNat)
   case atStart=>exact⟨0,x,Nat.zero_le _,by simp,H4.out⟩
   case round =>
    obtain⟨m,y,hm,rfl,hR⟩:=hrel
    clear H4
    by_cases hlt2:m<g.P
    .have e6:(vp:Int)+(m:Int)<(vp:Int)+(g.P:Int):=by omega
     have e7:IntKind.i64.wrap ((vp:Int)+(m:Int)+1)=(vp:Int)+(m:Int)+1:=bV (by omega) (by omega)
     have hE:=hR.out.1
     have hpl:vp+m<g.D*g.B*g.P:=by rw[<-HVP.out];exact wU HV.out.1 hlt2
     have vG:y.seq<4611686018427387904:=by have:=hE.seq;have:=HP.out.1.seq;omega
     have hct:y.cut<4611686018427387904:=by have:=hE.cut;have:=HP.out.1.cut;omega
     have hex:y.k.lb (vp+m)≠-1->∃ k,k<g.D*g.B/\y.s.bad k=false/\y.s.next k≠g.P:=λhne=>by
      rcases hE.dw.dv.inv.o (vp+m) hpl with e|⟨l,q1,q2,q3⟩
      .exact absurd e hne
      .exact hE.some hlt2 q1 (by rw[HVP.out];exact q3) (HP.out.1.room v HV.out.1 HV.out.2.1 HV.out.2.2.1 HV.out.2.2.2)
     have HM:Calls (PB prog false) 93 #[.pointer (some ⟨a.db,0,none⟩),.int .i64 ((vp:Int)+(m:Int))] wr λe w'=>(e=.returned .nilIface/\∃ y',EM g x y' v (m+1)/\DK g w' a y'/\Keep (OD g a) w w')\/(e=.returned (.iface 31 (.int .i64 7))/\EoP (.returned (.iface 31 (.int .i64 7))) g w w' a x):=by
      have hq:=FT HI hR.out.2.1 hE.dw hE.off hct vG (vp+m) hpl hex
      rw[Int.natCast_add] at hq
      refine hq.mono λe w' hmv=>?_
      rcases hmv with ⟨q1,q2,q3⟩|⟨l,q1,q2,b,q3,q4⟩
      .exact Or.inl ⟨q2,y,hE.skip (by rw[HVP.out];exact q1),hR.out.2.1.below q3,hR.out.2.2.trans (Keep.of_below q3)⟩
      .obtain⟨p1,p2⟩:=hE.put hlt2 HV.out.1 q1 (by rw[HVP.out];exact q2) vG q3.nx
       rw[HVP.out] at p1 p2
       by_cases AQ:y.cut=1
       .have ep:jK y=.iface 31 (.int .i64 7):=if_pos AQ
        rw[ep] at q4
        exact Or.inr ⟨q4,_,7,rfl,q3.dk,hR.out.2.2.trans q3.kp,v,HV.out,Or.inl ⟨rfl,p2 AQ⟩⟩
       .have ep:jK y=.nilIface:=if_neg AQ
        rw[ep] at q4
        exact Or.inl ⟨q4,_,p1 AQ,q3.dk,hR.out.2.2.trans q3.kp⟩
     clear hE hpl vG hct hex hR
     go_wp2_with fail
     refine HM.mono ?_
     rintro e w5 (⟨rfl,y',h5⟩|⟨rfl,h5⟩)
     .have H5:Hid (EM g x y' v (m+1)/\DK g w5 a y'/\Keep (OD g a) w w5):=h5
      clear HM h5
      go_wp2
      exact⟨⟨m+1,y',by omega,by simp[Int.add_assoc],H5.out⟩,by simp[intOf];omega⟩
     .have H5:Hid (EoP (.returned (.iface 31 (.int .i64 7))) g w w5 a x):=h5
      clear HM h5
      go_wp2
      go_ret
      exact H5.out
    .obtain rfl:m=g.P:=by omega
     have hE:=hR.out.1
     have HM:Calls (PB prog false) 94 #[.pointer (some ⟨a.db,0,none⟩),.int .i64 (v:Nat)] wr λe w'=>e=.returned (bU (ug g y))/\EoP (.returned (bU (ug g y))) g w w' a x :=
      (Ph HI hR.out.2.1 v HV.out.1 hE.off hE.full.1 (λk=>by rw[hE.aF];exact HP.out.1.aF k) (by have:=hE.cut;have:=HP.out.1.cut;omega) (by rw[hE.fails];exact HP.out.1.fails) (by rw[hE.nb];exact HP.out.1.bad)).mono λe w' ⟨q1,q2,q3⟩=>⟨q1,_,_,rfl,q2,hR.out.2.2.trans q3,v,HV.out,Or.inr ⟨y,hE,rfl,rfl⟩⟩
     clear hE hR
     generalize bU (ug g y)=ev at *
     go_wp2_with fail
     refine HM.mono ?_
     rintro e w5 ⟨rfl,h5⟩
     have H5:Hid (EoP (.returned ev) g w w5 a x):=h5
     clear HM h5
     go_wp2
     go_ret
     exact H5.out
end Go.Proofs.aA
namespace Go.Proofs.aA
open au aj Go.RowKit aB aD ah
structure DS(g:Gm)(x:Sd)(k:Nat):Prop where
 dw:DW g x
 fit:Fit g.L g.P (g.D*g.B) g.spare
 nb:x.bad=cu (g.D*g.B) (bT x.s)
 ok:x.bad<=g.spare
 room:Room g.P (g.D*g.B) g.spare k x.k (bT x.s)
def lack(g:Gm)(x:Sd):Nat:=bS g.P (g.D*g.B) g.spare (bT x.s)-aO g.P (g.D*g.B) (bT x.s)
theorem EM.none{g:Gm}{x y:Sd}{v:Nat}(h:EM g x y v g.P):aX g.P y.k v=0:=Ak g.P (λi hi=>h.gone i hi)
theorem EM.ab2{g:Gm}{x z:Sd}{v:Nat}(h:EM g x z v g.P)(hv:v<g.D*g.B)(hc:jD z=0):DW g (fZ g z v)/\(∀ j,j<g.L->DW.see g (fZ g z v) j=DW.see g x j)/\bT (fZ g z v).s=h_ (bT z.s) v/\(fZ g z v).bad=x.bad/\(fZ g z v).s.off=false/\(fZ g z v).k=z.k:=by
 have AQ:x.cut=x.cut:=rfl
 have h1:z.cut≠1:=λe=>by unfold jD at hc;rw[if_pos e] at hc;omega
 have h2:z.fails=0:=Classical.byContradiction λe=>by unfold jD at hc;rw[if_neg h1,if_neg e] at hc;omega
 have e1:fZ g z v={ gG z with s:=WB g z.s v,bad:=z.bad }:=by
  unfold fZ
  rw[hc,if_neg (by omega)]
  unfold nk
  rw[if_neg h1,if_pos h2]
 rw[e1]
 obtain⟨t1,t2⟩:=h.dw.dv.aeg hv (λi hi=>h.gone i hi)
 exact⟨⟨t1,h.dw.y,h.dw.y1,h.dw.l⟩,λj hj=>(t2 j hj).trans (h.see j hj),rfl,h.nb,h.off,rfl⟩
theorem EM.failed{g:Gm}{x z:Sd}{v:Nat}(h:EM g x z v g.P)(hv:v<g.D*g.B)(hc:jD z=6):DW g (fZ g z v)/\(∀ j,j<g.L->DW.see g (fZ g z v) j=DW.see g x j)/\bT (fZ g z v).s=fC (bT z.s) v/\(fZ g z v).bad=x.bad+1/\(fZ g z v).s.off=false/\(fZ g z v).k=z.k:=by
 have h1:z.cut≠1:=λe=>by unfold jD at hc;rw[if_pos e] at hc;omega
 have h2:z.fails≠0:=λe=>by unfold jD at hc;rw[if_neg h1,if_pos e] at hc;omega
 have e1:fZ g z v={ gG z with s:=WC z.s v,bad:=z.bad+1 }:=by
  unfold fZ
  rw[hc,if_pos rfl]
  unfold nk
  rw[if_neg h1,if_neg h2]
 rw[e1]
 exact⟨⟨h.dw.dv.fail,h.dw.y,h.dw.y1,h.dw.l⟩,h.see,rfl,by show z.bad+1=x.bad+1;rw[h.nb],h.off,rfl⟩
theorem EM.XQ{g:Gm}{x z:Sd}{v:Nat}(h:EM g x z v g.P)(hv:v<g.D*g.B)(hc:jD z=7):DW g (fZ g z v)/\(∀ j,j<g.L->DW.see g (fZ g z v) j=DW.see g x j)/\(∀ b,(bT (fZ g z v).s).next b=(bT z.s).next b)/\(bT (fZ g z v).s).bad=(bT z.s).bad/\(fZ g z v).bad=x.bad/\(fZ g z v).s.off=true/\(fZ g z v).k=z.k/\(fZ g z v).cut=0/\1<=x.cut:=by
 have h1:z.cut=1:=Classical.byContradiction λe=>by
  unfold jD at hc
  rw[if_neg e] at hc
  by_cases e2:z.fails=0
  .rw[if_pos e2] at hc;omega
  .rw[if_neg e2] at hc;omega
 have e1:fZ g z v={ gG z with s:=J3 g z.s v,bad:=z.bad }:=by
  unfold fZ
  rw[hc,if_neg (by omega)]
  unfold nk
  rw[if_pos h1]
 rw[e1]
 have hnx:∀ b,(bT (J3 g z.s v)).next b=(bT z.s).next b:=λb=>by
  show upd z.s.next v g.P b=z.s.next b
  by_cases e:b=v
  .rw[e,upd_same];exact h.full.2.symm
  .rw[upd_ne _ _ _ _ e]
 obtain⟨t1,t2⟩:=h.dw.dv.aeh (c':=bT (J3 g z.s v)) hv h.full hnx (λb=>rfl) (λi hi=>h.gone i hi)
 refine⟨⟨t1,h.dw.y,h.dw.y1,h.dw.l⟩,λj hj=>(t2 j hj).trans (h.see j hj),hnx,rfl,h.nb,rfl,rfl,?_,?_⟩
 .show z.cut-1=0
  omega
 .have:=h.cut;omega
theorem qX{N:Nat}{c c':iQ}(h:c'.bad=c.bad):cu N c'=cu N c:=by unfold cu;rw[h]
theorem uj{P N spare:Nat}{c c':iQ}(h:c'.bad=c.bad):bS P N spare c'=bS P N spare c:=by unfold bS;rw[qX h]
theorem DS.grant{g:Gm}{x:Sd}{k:Nat}(h:DS g x k)(hk:k<=2*g.P)(hs:aO g.P (g.D*g.B) (bT x.s)<bS g.P (g.D*g.B) g.spare (bT x.s)) :
 (∃ k,k<g.D*g.B/\Full g.P (bT x.s) k/\aX g.P x.k k<g.P)/\∀ v,v<g.D*g.B->Full g.P (bT x.s) v->aX g.P x.k v<g.P->(∀ u,u<g.D*g.B->Full g.P (bT x.s) u->aX g.P x.k u<g.P->aX g.P x.k v<=aX g.P x.k u)->aX g.P x.k v<=aO g.P (g.D*g.B) (bT x.s):=by
 refine⟨?_,λv h1 h2 h3 h4=>?_⟩
 .rcases h.room with e|⟨v,h1,h2,h3,_⟩
  .omega
  .exact⟨v,h1,h2,h3⟩
 .have:=wR (L:=g.L) h.room hs ⟨h1,h2,h3⟩ h4
  have:=vK (P:=g.P) (N:=g.D*g.B) (spare:=g.spare) (c:=bT x.s)
  omega
structure DT(g:Gm)(x:Sd)(k:Nat):Prop where
 ds:DS g x k
 off:x.s.off=true
structure DL(g:Gm)(x:Sd):Prop where
 dw:DW g x
 nb:x.bad=cu (g.D*g.B) (bT x.s)
 no:g.spare<x.bad
theorem EO.step{g:Gm}{x y:Sd}{k c:Nat}(h:DS g x k)(hs:aO g.P (g.D*g.B) (bT x.s)<bS g.P (g.D*g.B) g.spare (bT x.s))(he:EO g x y c) :
 (∀ j,j<g.L->DW.see g y j=DW.see g x j)/\((c=0/\DS g y k/\y.s.off=false/\lack g y<lack g x)\/(c=7/\DT g y (k+1)/\y.cut=0/\1<=x.cut)\/(c=9/\DL g y/\y.s.off=false)):=by
 obtain⟨v,⟨v1,v2,v3,v4⟩,he⟩:=he
 have hr:=wR (L:=g.L) h.room hs ⟨v1,v2,v3⟩ v4
 rcases he with ⟨rfl,ht⟩|⟨z,hz,rfl,rfl⟩
 .refine⟨ht.see,Or.inr (Or.inl ⟨rfl,⟨⟨ht.dw,h.fit,?_,by rw[ht.nb];exact h.ok,?_⟩,ht.off⟩,ht.cut,ht.one⟩)⟩
  .rw[ht.nb,h.nb];exact(qX (c:=bT x.s) (c':=bT y.s) ht.bad).symm
  .have hl:=ht.cnt
   refine Or.inr ⟨v,v1,ht.full,?_,?_⟩
   .have:=ht.liv;omega
   .rw[uj (c:=bT x.s) (c':=bT y.s) ht.bad]
    have:=qI g.P y.k v
    omega
 .have hl:=hz.cnt
  rw[hz.none] at hl
  have hnz:bS g.P (g.D*g.B) g.spare (bT z.s)=bS g.P (g.D*g.B) g.spare (bT x.s):=uj hz.bad
  have hbz:cu (g.D*g.B) (bT z.s)=cu (g.D*g.B) (bT x.s):=qX hz.bad
  have hoz:cu (g.D*g.B) (bT z.s)<=g.spare:=by rw[hbz,<-h.nb];exact h.ok
  have hroom:bS g.P (g.D*g.B) g.spare (bT z.s)<=aO g.P (g.D*g.B) (bT z.s)+g.P+k:=by omega
  have hcc:jD z=7\/jD z=0\/jD z=6:=by
   unfold jD
   by_cases e:z.cut=1
   .rw[if_pos e];omega
   .rw[if_neg e]
    by_cases e2:z.fails=0
    .rw[if_pos e2];omega
    .rw[if_neg e2];omega
  rcases hcc with hc|hc|hc
  .obtain⟨t1,t2,t3,t4,t5,t6,t7,t8,t9⟩:=hz.XQ v1 hc
   refine⟨t2,Or.inr (Or.inl ⟨by unfold ug;rw[hc];rfl,⟨⟨t1,h.fit,?_,by rw[t5];exact h.ok,?_⟩,t6⟩,t8,t9⟩)⟩
   .rw[t5,h.nb,qX t4,hbz]
   .have hb:aO g.P (g.D*g.B) (bT (fZ g z v).s)=aO g.P (g.D*g.B) (bT z.s):=by
     unfold aO cZ
     congr 1
     funext i
     rw[t3,t4]
    refine Or.inr ⟨v,v1,⟨by rw[t4];exact hz.full.1,by rw[t3];exact hz.full.2⟩,?_,?_⟩
    .rw[t7,hz.none];exact h.fit.p1
    .rw[t7,hz.none,uj t4,hb];omega
  .obtain⟨t1,t2,t3,t4,t5,t6⟩:=hz.ab2 v1 hc
   have hw:=wM v1 hz.full
   refine⟨t2,Or.inl ⟨by unfold ug;rw[hc];rfl,⟨t1,h.fit,?_,by rw[t4];exact h.ok,?_⟩,t5,?_⟩⟩
   .rw[t4,h.nb,t3];exact hbz.symm
   .rw[t3,t6]
    have hn:=t1.dv.nx
    have ho:=t1.dv.one
    rw[t3] at hn ho
    have hi:=t1.dv.inv
    rw[t6] at hi
    exact Hg h.fit hi ho hn hoz ⟨v1,hz.full⟩ hroom
   .unfold lack
    rw[t3]
    have e2:bS g.P (g.D*g.B) g.spare (h_ (bT z.s) v)=bS g.P (g.D*g.B) g.spare (bT z.s):=rfl
    omega
  .obtain⟨t1,t2,t3,t4,t5,t6⟩:=hz.failed v1 hc
   have hw:=wP v1 hz.full
   have hb:=Ez (N:=g.D*g.B) v1 hz.full.1
   have hnb:(fZ g z v).bad=cu (g.D*g.B) (bT (fZ g z v).s):=by rw[t4,t3,hb,hbz,<-h.nb]
   by_cases hl9:g.spare<z.bad+1
   .refine⟨t2,Or.inr (Or.inr ⟨by unfold ug;rw[hc,if_pos rfl,if_pos hl9],⟨t1,hnb,by rw[t4,<-hz.nb];exact hl9⟩,t5⟩)⟩
   .have hok:(fZ g z v).bad<=g.spare:=by rw[t4,<-hz.nb];omega
    refine⟨t2,Or.inl ⟨by unfold ug;rw[hc,if_pos rfl,if_neg hl9],⟨t1,h.fit,hnb,hok,?_⟩,t5,?_⟩⟩
    .rw[t3,t6]
     have hn:=t1.dv.nx
     have ho:=t1.dv.one
     rw[t3] at hn ho hnb
     have hi:=t1.dv.inv
     rw[t6] at hi
     exact EA h.fit hi ho hn (by rw[<-hnb];exact hok) ⟨v1,hz.full⟩ hroom
    .unfold lack
     rw[t3]
     have e2:bS g.P (g.D*g.B) g.spare (bT z.s)=bS g.P (g.D*g.B) g.spare (fC (bT z.s) v)+g.P:=by
      rw[t3] at hnb
      unfold bS
      rw[hb,<-Nat.succ_mul]
      congr 1
      omega
     have:=vK (P:=g.P) (N:=g.D*g.B) (spare:=g.spare) (c:=fC (bT z.s) v)
     omega
structure Bd(x:Sd)(n:Nat):Prop where
 cut:x.cut<4611686018427387904
 fails:x.fails<4611686018427387904
 seq:x.seq+16*n+16<4611686018427387904
 aF:∀ k,x.s.aF k+n<4611686018427387904
structure Mo(x y:Sd)(n:Nat):Prop where
 cut:y.cut<=x.cut
 fails:y.fails<=x.fails
 seq:y.seq<=x.seq+16*n
 aF:∀ k,y.s.aF k<=x.s.aF k+n
 ch:y.ch=x.ch
 bf:y.bad+y.fails=x.bad+x.fails
 bm:x.bad<=y.bad
theorem Mo.refl(x:Sd):Mo x x 0:=⟨Nat.le_refl _,Nat.le_refl _,Nat.le_refl _,λ_=>Nat.le_refl _,rfl,rfl,Nat.le_refl _⟩
theorem Mo.trans{x y z:Sd}{n m:Nat}(h:Mo x y n)(h2:Mo y z m):Mo x z (n+m) :=
 ⟨Nat.le_trans h2.cut h.cut,Nat.le_trans h2.fails h.fails,by have:=h.seq;have:=h2.seq;omega,λk=>by have:=h.aF k;have:=h2.aF k;omega,h2.ch.trans h.ch,h2.bf.trans h.bf,Nat.le_trans h.bm h2.bm⟩
theorem Mo.more{x y:Sd}{n m:Nat}(h:Mo x y n)(hm:n<=m):Mo x y m :=
 ⟨h.cut,h.fails,by have:=h.seq;omega,λk=>by have:=h.aF k;omega,h.ch,h.bf,h.bm⟩
theorem EO.mo{g:Gm}{x y:Sd}{c:Nat}(hP:g.P<=16)(he:EO g x y c):Mo x y 1:=by
 obtain⟨v,_,he⟩:=he
 rcases he with ⟨rfl,ht⟩|⟨z,hz,rfl,rfl⟩
 .exact⟨by rw[ht.cut];omega,by rw[ht.fails];exact Nat.le_refl _,by have:=ht.seq;omega,ht.aF,ht.ch,by rw[ht.nb,ht.fails],by rw[ht.nb];exact Nat.le_refl _⟩
 .have hbf:(if jD z=6 then z.bad+1 else z.bad)+(if z.cut=1 then z.fails else z.fails-1)=x.bad+x.fails/\x.bad<=(if jD z=6 then z.bad+1 else z.bad):=by
   rw[<-hz.nb,<-hz.fails]
   unfold jD
   by_cases h1:z.cut=1
   .rw[if_pos h1,if_neg (by decide),if_pos h1];omega
   .rw[if_neg h1,if_neg h1]
    by_cases h2:z.fails=0
    .rw[if_pos h2,if_neg (by decide)];omega
    .rw[if_neg h2,if_pos rfl];omega
  refine⟨?_,?_,?_,λk=>?_,hz.ch,hbf.1,hbf.2⟩
  .show z.cut-1<=x.cut
   have:=hz.cut;omega
  .show (if z.cut=1 then z.fails else z.fails-1)<=x.fails
   rw[hz.fails]
   split<;>omega
  .show z.seq<=x.seq+16*1
   have:=hz.seq;omega
  .show (nk g z v).aF k<=x.s.aF k+1
   rw[<-hz.aF]
   have hu:upd z.s.aF v (z.s.aF v+1) k<=z.s.aF k+1:=by
    by_cases e:k=v
    .rw[e,upd_same];exact Nat.le_refl _
    .rw[upd_ne _ _ _ _ e];omega
   unfold nk
   by_cases e:z.cut=1
   .rw[if_pos e];exact hu
   .rw[if_neg e]
    by_cases e2:z.fails=0
    .rw[if_pos e2];exact hu
    .rw[if_neg e2];exact Nat.le_succ _
def MkQ(g:Gm)(x y:Sd)(k c:Nat):Prop:=(∀ j,j<g.L->DW.see g y j=DW.see g x j)/\((c=0/\DS g y k/\y.s.off=false/\bS g.P (g.D*g.B) g.spare (bT y.s)<=aO g.P (g.D*g.B) (bT y.s))\/(c=7/\DT g y (k+1)/\y.cut=0/\1<=x.cut)\/(c=9/\DL g y/\y.s.off=false))
def MkP(e:Ending)(g:Gm)(w w':World)(a:Ad)(x:Sd)(k n:Nat):Prop:=∃ (y:Sd) (c:Nat),e=.returned (bU c)/\DK g w' a y/\Keep (OD g a) w w'/\Mo x y n/\MkQ g x y k c
structure MW(g:Gm)(w wq:World)(a:Ad)(x y:Sd)(k n f:Nat):Prop where
 dk:DK g wq a y
 kp:Keep (OD g a) w wq
 mo:Mo x y (n-f)
 le:f<=n
 lk:lack g y<=f
 ds:DS g y k
 off:y.s.off=false
 see:∀ j,j<g.L->DW.see g y j=DW.see g x j
theorem IG{g:Gm}{y:Sd}(h:DS g y 0\/∃ k,DS g y k):decide (aO g.P (g.D*g.B) (bT y.s)<(g.spare-y.bad+3)*g.P)=decide (aO g.P (g.D*g.B) (bT y.s)<bS g.P (g.D*g.B) g.spare (bT y.s)):=by
 have hb:y.bad=cu (g.D*g.B) (bT y.s):=by
  rcases h with h|⟨_,h⟩
  .exact h.nb
  .exact h.nb
 unfold bS
 rw[<-hb]
end Go.Proofs.aA
namespace Go.Proofs.aA
open ah au aj Go.RowKit aB aD ah
theorem MW.grant{g:Gm}{w wq:World}{a:Ad}{x y:Sd}{k n f:Nat}(h:MW g w wq a x y k n f)(hk:k<=2*g.P)(hb:Bd x n)(hf:1<=f)(hN:g.D*g.B<=64)(hsp:g.spare<=64)(hs:aO g.P (g.D*g.B) (bT y.s)<bS g.P (g.D*g.B) g.spare (bT y.s)):EP g y:=by
 obtain⟨h1,h2⟩:=h.ds.grant hk hs
 have hle:=h.le
 refine⟨h.ds.dw,h.off,?_,?_,?_,?_,λj=>?_,h1,h2⟩
 .have:=h.mo.cut;have:=hb.cut;omega
 .have:=h.mo.fails;have:=hb.fails;omega
 .have:=h.ds.ok;omega
 .have:=h.mo.seq;have:=hb.seq;omega
 .have:=h.mo.aF j;have:=hb.aF j;omega
theorem u6{g:Gm}{w:World}{a:Ad}{x:Sd}(HI:CY)(Tj:qw)(Tk:qx)(Tn:lT)(h:DK g w a x)(k n:Nat)(hd:DS g x k)(ho:x.s.off=false)(hk:k<=2*g.P)(hb:Bd x n)(hl:lack g x<=n)(hsp:g.spare<=64) :
 Calls (PB prog false) 44 #[.pointer (some ⟨a.db,0,none⟩)] w λe w'=>MkP e g w w' a x k n:=by
 have H0:Hid (MW g w w a x x k n n):=⟨h,Keep.refl _ _,by rw[Nat.sub_self];exact Mo.refl x,Nat.le_refl _,hl,hd,ho,λ_ _=>rfl⟩
 have HB:Hid (k<=2*g.P/\Bd x n/\Geo g.D g.B g.P g.Y):=⟨hk,hb,h.iP⟩
 clear h hd ho hk hb hl
 go_enter Al.func44,Tryz.ntmps44
 go_wp2
 go_loopg [2] n (λf v wq=>v=.nilIface/\Hid (∃ y,MW g w wq a x y k n f))
 case atStart=>exact⟨rfl,_,H0.out⟩
 case round =>
  obtain⟨rfl,hR⟩:=hrel
  obtain⟨y,hy⟩:=hR.out
  have HY:Hid (MW g w wr a x y k n gk):=hy
  clear H0 hR hy
  have hN:=Gm.O7 HB.out.2.2
  obtain⟨m,hm⟩:∃ m,g.D*g.B=m:=⟨_,rfl⟩
  have HX:=t_ HY.out.dk.dc m hm HY.out.off
  go_wp2_with fail
  refine HX.mono ?_
  rintro e w1 ⟨rb,rfl,hbr,hb1,-⟩
  have H1:Hid (DK g w1 a y/\Keep (OD g a) w w1/\BR w1 rb m (bT y.s).bad (bT y.s).next y.s.aF):=⟨HY.out.dk.below hb1,HY.out.kp.trans (Keep.of_below hb1),hbr⟩
  clear HX hbr hb1
  have XR:m<=64:=by rw[<-hm];exact hN.1
  have HS:=FP H1.out.1 rb m m (bT y.s) y.s.aF H1.out.2.2 XR HY.out.ds.dw.dv.nx hsp HY.out.ds.ok
  have hsh:=IG (Or.inr ⟨k,HY.out.ds⟩)
  rw[hm] at hsh
  rw[hsh] at HS
  clear hsh
  by_cases hs:aO g.P m (bT y.s)<bS g.P m g.spare (bT y.s)
  .rw[decide_eq_true hs] at HS
   have hs2:aO g.P (g.D*g.B) (bT y.s)<bS g.P (g.D*g.B) g.spare (bT y.s):=by rw[hm];exact hs
   have hlk:1<=lack g y:=by unfold lack;omega
   have hgk:1<=gk:=Nat.le_trans hlk HY.out.lk
   have hEP:=HY.out.grant HB.out.1 HB.out.2.1 hgk hN.1 hsp hs2
   go_wp2_with fail
   refine HS.mono ?_
   rintro e w2 ⟨rfl,hb2⟩
   have HE:Calls (PB prog false) 62 #[.pointer (some ⟨a.db,0,none⟩),.slice (some ⟨rb,0,none⟩) m m] w2 λe w'=>(e=.returned .nilIface/\∃ z,MW g w w' a x z k n (gk-1))\/∃ c,c≠0/\e=.returned (bU c)/\MkP (.returned (bU c)) g w w' a x k n:=by
    refine(FU HI Tj Tk Tn (H1.out.1.below hb2) hEP rb m hm (H1.out.2.2.below hb2)).mono λe w' hq=>?_
    obtain⟨z,c,q1,q2,q3,q4⟩:=hq
    have hmo:=(HY.out.mo.trans (q4.mo HB.out.2.2.p1)).more (m:=n-(gk-1)) (by have:=HY.out.le;omega)
    obtain⟨t1,t2⟩:=q4.step HY.out.ds hs2
    have hkp:Keep (OD g a) w w':=(H1.out.2.1.trans (Keep.of_below hb2)).trans q3
    have hle:=HY.out.le
    have pI:∀ j,j<g.L->DW.see g z j=DW.see g x j:=λj hj=>(t1 j hj).trans (HY.out.see j hj)
    rcases t2 with ⟨rfl,u1,u2,u3⟩|⟨rfl,u1,u2,u3⟩|⟨rfl,u1,u2⟩
    .exact Or.inl ⟨q1,z,q2,hkp,hmo,by omega,by have:=HY.out.lk;omega,u1,u2,pI⟩
    .exact Or.inr ⟨7,by omega,q1,z,7,rfl,q2,hkp,hmo.more (by omega),pI,Or.inr (Or.inl ⟨rfl,u1,u2,Nat.le_trans u3 HY.out.mo.cut⟩)⟩
    .exact Or.inr ⟨9,by omega,q1,z,9,rfl,q2,hkp,hmo.more (by omega),pI,Or.inr (Or.inr ⟨rfl,u1,u2⟩)⟩
   clear HS hb2 hEP hlk hs2 H1 HY
   go_wp2_with fail
   refine HE.mono ?_
   rintro e w3 (⟨rfl,z,hz⟩|⟨c,hc,rfl,hz⟩)
   .have HZ:Hid (MW g w w3 a x z k n (gk-1)):=hz
    clear HE hz
    go_wp2
    go_roundg (gk-1)
    case measure=>omega
    case rel=>exact⟨rfl,z,HZ.out⟩
   .have HZ:Hid (MkP (.returned (bU c)) g w w3 a x k n):=hz
    clear HE hz
    rw[fu hc] at HZ ⊢
    go_wp2
    go_ret
    exact HZ.out
  .rw[decide_eq_false hs] at HS
   go_wp2_with fail
   refine HS.mono ?_
   rintro e w2 ⟨rfl,hb2⟩
   have HZ:Hid (MkP (.returned .nilIface) g w w2 a x k n):=⟨y,0,rfl,H1.out.1.below hb2,H1.out.2.1.trans (Keep.of_below hb2),HY.out.mo.more (by omega),HY.out.see,Or.inl ⟨rfl,HY.out.ds,HY.out.off,by rw[hm];omega⟩⟩
   clear HS hb2 H1 HY
   go_wp2
   go_ret
   exact HZ.out
theorem DS.put{g:Gm}{y:Sd}{k b l:Nat}{page:List Nat}(h:DS g y k)(hn:bS g.P (g.D*g.B) g.spare (bT y.s)<=aO g.P (g.D*g.B) (bT y.s))(hb:vD g.P (g.D*g.B) (bT y.s) b)(hw:DW g (kZ g y b l page)):DS g (kZ g y b l page) 0:=by
 have e1:bT (kZ g y b l page).s=dR (bT y.s) b:=by unfold kZ;split<;>rfl
 have e2:(kZ g y b l page).bad=y.bad:=by unfold kZ;split<;>rfl
 refine⟨hw,h.fit,by rw[e2,h.nb,e1];exact wJ.symm,by rw[e2];exact h.ok,?_⟩
 have h1:=hw.dv.one
 have h2:=hw.dv.nx
 rw[e1] at h1 h2 ⊢
 exact wQ (s:=y.k) h.fit hw.dv.inv h1 h2 (by rw[<-h.nb];exact h.ok) ⟨hb.1,hb.2.1,hb.2.2.1⟩ hn
structure New(g:Gm)(kd l:Nat)(data:List Nat):Prop where
 k:kd=1\/kd=2
 d1:kd=1->data.length+21=g.Y
 d2:kd=2->data=[]
 all:aZ data
 l:l<g.L
def newV(g:Gm)(kd:Nat)(data:List Nat):List Nat:=if kd=1 then data else List.replicate (g.Y-21) 0
theorem New.fok{g:Gm}{kd l seq:Nat}{data:List Nat}(h:New g kd l data)(hw:g.L<=256)(hy:24<=g.Y)(hy1:g.Y<=256)(hs:seq<4611686018427387904):D6 g.Y kd l seq data.length:=by
 have:=h.l
 refine⟨hy,by omega,?_,?_,by omega,by omega,?_⟩
 .rcases h.k with e|e<;>omega
 .rcases h.k with e|e<;>omega
 .rcases h.k with e|e
  .have:=h.d1 e;omega
  .rw[h.d2 e];simp;omega
structure R5(x y:Sd)(n:Nat):Prop where
 cut:y.cut<=x.cut
 fails:y.fails<=x.fails
 seq:y.seq<=x.seq+16*n+1
 aF:∀ k,y.s.aF k<=x.s.aF k+n
 bf:y.bad+y.fails=x.bad+x.fails
 bm:x.bad<=y.bad
def ChQ(g:Gm)(x y:Sd)(k l:Nat)(v:List Nat)(c:Nat):Prop:=(c=0/\DS g y 0/\y.s.off=false/\y.ch=true/\∀ j,j<g.L->DW.see g y j=if j=l then v else DW.see g x j)\/(c≠0/\y.ch=x.ch/\(∀ j,j<g.L->DW.see g y j=DW.see g x j)/\((c=7/\DT g y (k+1)/\y.cut=0/\1<=x.cut)\/(c=9/\DL g y/\y.s.off=false)))
def Mv(e:Ending)(g:Gm)(w w':World)(a:Ad)(x:Sd)(k n l:Nat)(v:List Nat):Prop:=∃ (y:Sd) (c:Nat),e=.returned (bU c)/\DK g w' a y/\Keep (OD g a) w w'/\R5 x y n/\ChQ g x y k l v c
theorem Mo.one{x y:Sd}{n:Nat}(h:Mo x y n):R5 x y n:=⟨h.cut,h.fails,by have:=h.seq;omega,h.aF,h.bf,h.bm⟩
theorem um{g:Gm}{w:World}{a:Ad}{x:Sd}(HI:CY)(Tj:qw)(Tk:qx)(Tn:lT)(h:DK g w a x)(k n:Nat)(hd:DS g x k)(ho:x.s.off=false)(hk:k<=2*g.P)(hb:Bd x n)(hl:lack g x<=n)(hsp:g.spare<=64)
 (kd l:Nat) (data:List Nat) (hnw:New g kd l data) (fa:Option Addr) (cap:Nat) (hL:bL w fa data) (hfa:∀ b off,fa=some ⟨b,off,none⟩->¬OD g a b) :
 Calls (PB prog false) 46 #[.pointer (some ⟨a.db,0,none⟩),.int .i64 (kd:Nat),.int .i64 (l:Nat),.slice fa data.length cap] w λe w'=>Mv e g w w' a x k n l (newV g kd data):=by
 have CZ:=fQ h
 rw[decide_eq_false (by have:=hd.ok;omega)] at CZ
 have HM:Hid (∀ W,Below w.heap.size w W->Calls (PB prog false) 44 #[.pointer (some ⟨a.db,0,none⟩)] W λe w'=>MkP e g W w' a x k n):=λW hW=>u6 HI Tj Tk Tn (h.below hW) k n hd ho hk hb hl hsp
 have R4:Hid (∀ W y,DK g W a y->Keep (OD g a) w W->Mo x y n->DS g y k->y.s.off=false->bS g.P (g.D*g.B) g.spare (bT y.s)<=aO g.P (g.D*g.B) (bT y.s)->(∀ j,j<g.L->DW.see g y j=DW.see g x j)->Calls (PB prog false) 68 #[.pointer (some ⟨a.db,0,none⟩),.int .i64 (kd:Nat),.int .i64 (l:Nat),.slice fa data.length cap] W λe w'=>(∃ z,e=.returned .nilIface/\DK g w' a z/\Keep (OD g a) w w'/\R5 x z n/\DS g z 0/\z.s.off=false/\∀ j,j<g.L->DW.see g z j=if j=l then newV g kd data else DW.see g x j)\/(e=.returned (.iface 31 (.int .i64 7))/\Mv (.returned (.iface 31 (.int .i64 7))) g w w' a x k n l (newV g kd data))):=λW y q1 q2 q3 q4 q5 q6 q7=>by
  have vG:y.seq<4611686018427387904:=by have:=q3.seq;have:=hb.seq;omega
  have hF:=hnw.fok (seq:=y.seq) q4.dw.l q4.dw.y q4.dw.y1 vG
  have hex:∃ k,k<g.D*g.B/\y.s.bad k=false/\y.s.next k≠g.P:=by
   have:=vK (P:=g.P) (N:=g.D*g.B) (spare:=g.spare) (c:=bT y.s)
   have:=q4.fit.p1
   obtain⟨k,k1,k2,k3⟩:=BZ (P:=g.P) (N:=g.D*g.B) (c:=bT y.s) (by omega)
   exact⟨k,k1,k2,Nat.ne_of_lt k3⟩
  refine(Pb q1 q5 (by have:=q3.cut;have:=hb.cut;omega) vG q4.dw.dv.nx hex q4.dw.free kd l hnw.l fa cap data hF hnw.all (hL.keep q2 hfa)).mono λe w' hq=>?_
  obtain⟨b,p1,p2⟩:=hq
  obtain⟨t1,t2⟩:=q4.dw.put p1.nx hF hnw.k hnw.d1 hnw.d2 hnw.all hnw.l
  have hds:=q4.put q6 p1.nx t1
  have hkp:=q2.trans p1.kp
  by_cases AQ:y.cut=1
  .have ep:jK y=.iface 31 (.int .i64 7):=if_pos AQ
   rw[ep] at p2
   have e1:kZ g y b l (aR g.Y kd l y.seq data)=AP g y b (aR g.Y kd l y.seq data):=if_pos AQ
   have hdk:=p1.dk
   rw[e1] at t2 hds hdk
   refine Or.inr ⟨p2,_,7,rfl,hdk,hkp,⟨?_,q3.fails,?_,q3.aF,q3.bf,q3.bm⟩,Or.inr ⟨by omega,q3.ch,λj hj=>by rw[t2 j hj,if_pos AQ];exact q7 j hj,Or.inl ⟨rfl,⟨⟨hds.dw,hds.fit,hds.nb,hds.ok,hds.room.more (by omega)⟩,rfl⟩,?_,?_⟩⟩⟩
   .show y.cut-1<=x.cut
    have:=q3.cut;omega
   .show y.seq<=_
    have:=q3.seq;omega
   .show y.cut-1=0
    omega
   .have:=q3.cut;omega
  .have ep:jK y=.nilIface:=if_neg AQ
   rw[ep] at p2
   have e1:kZ g y b l (aR g.Y kd l y.seq data)=O_ g y b l (aR g.Y kd l y.seq data):=if_neg AQ
   have hdk:=p1.dk
   rw[e1] at t2 hds hdk
   refine Or.inl ⟨_,p2,hdk,hkp,⟨?_,q3.fails,?_,q3.aF,q3.bf,q3.bm⟩,hds,q5,λj hj=>?_⟩
   .show y.cut-1<=x.cut
    have:=q3.cut;omega
   .show y.seq+1<=_
    have:=q3.seq;omega
   .rw[t2 j hj,if_neg AQ]
    by_cases ej:j=l
    .rw[if_pos ej,if_pos ej];rfl
    .rw[if_neg ej,if_neg ej];exact q7 j hj
 have Pk:Hid (∀ W,Below w.heap.size w W->Keep (OD g a) w W):=λW hW=>Keep.of_below hW
 clear h hd ho hk hb hl hsp hnw hL hfa HI Tj Tk Tn
 generalize newV g kd data=nv at *
 generalize data.length=dl at *
 go_enter Al.func46,Tryz.ntmps46
 go_wp2_with fail
 refine CZ.mono ?_
 rintro e w1 ⟨rfl,hb1⟩
 have HX:=HM.out w1 hb1
 have Tq:Hid (Keep (OD g a) w w1):=Pk.out w1 hb1
 clear CZ HM hb1 Pk
 go_wp2_with fail
 refine HX.mono ?_
 rintro e w2 ⟨y,c,rfl,q1,q2,q3,q4,q5⟩
 clear HX
 rcases q5 with ⟨rfl,u1,u2,u3⟩|hbad
 .have HQ:=R4.out w2 y q1 (Tq.out.trans q2) q3 u1 u2 u3 q4
  clear R4 q1 q2 q3 q4 u1 u2 u3 Tq
  rw[bW]
  go_wp2_with fail
  refine HQ.mono ?_
  rintro e w3 (⟨z,rfl,z1,z2,z3,z4,z5,z6⟩|⟨rfl,hz⟩)
  .have c5:w3.cell? ⟨a.db,5,none⟩=some (.bool z.ch):=z1.st.cell 5
   have f5:=z1.st.free 5
   have HZ:Hid (Mv (.returned .nilIface) g w (w3.setCell ⟨a.db,5,none⟩ (.bool true)) a x k n l nv):=⟨{ z with ch:=true },0,rfl,z1.cell { z with ch:=true } 5 _ rfl rfl rfl,z2.trans (((Keep.refl (λb=>b=a.db) _).set1 _ _).mono λb e=>Or.inl e),⟨z3.cut,z3.fails,z3.seq,z3.aF,z3.bf,z3.bm⟩,Or.inl ⟨rfl,⟨⟨z4.dw.dv,z4.dw.y,z4.dw.y1,z4.dw.l⟩,z4.fit,z4.nb,z4.ok,z4.room⟩,z5,rfl,z6⟩⟩
   clear HQ z1 z2 z3 z4 z5 z6
   go_wp2
   go_ret
   exact HZ.out
  .have HZ:Hid (Mv (.returned (.iface 31 (.int .i64 7))) g w w3 a x k n l nv):=hz
   clear HQ hz
   go_wp2
   go_ret
   exact HZ.out
 .have hc:c≠0:=by rcases hbad with ⟨rfl,_⟩|⟨rfl,_⟩<;>omega
  have HZ:Hid (Mv (.returned (bU c)) g w w2 a x k n l nv):=⟨y,c,rfl,q1,Tq.out.trans q2,q3.one,Or.inr ⟨hc,q3.ch,q4,hbad⟩⟩
  clear R4 q1 q2 q3 q4 hbad Tq
  rw[fu hc] at HZ ⊢
  go_wp2
  go_ret
  exact HZ.out
theorem AU{g:Gm}{w:World}{a:Ad}{x:Sd}(h:DK g w a x)(hb:g.spare<x.bad)(kd l:Int)(fa:Option Addr)(n cap:Nat) :
 Calls (PB prog false) 46 #[.pointer (some ⟨a.db,0,none⟩),.int .i64 kd,.int .i64 l,.slice fa n cap] w λe w'=>e=.returned (bU 9)/\Below w.heap.size w w':=by
 have CZ:=fQ h
 rw[decide_eq_true hb] at CZ
 clear h hb
 go_enter Al.func46,Tryz.ntmps46
 go_wp2_with fail
 refine CZ.mono ?_
 rintro e w1 ⟨rfl,hb1⟩
 have HB:Hid (Below w.heap.size w w1):=hb1
 clear CZ hb1
 go_wp2
 go_ret
 exact⟨rfl,HB.out⟩
def Tt(g:Gm)(x:Sd)(l:Int)(n:Nat):Nat:=if findF g.L x.s.off l≠0 then findF g.L x.s.off l else if n≠g.Y-21 then 2 else if g.spare<x.bad then 9 else 0
theorem yu{g:Gm}{w:World}{a:Ad}{x:Sd}(h:DK g w a x)(hy:21<=g.Y)(l:Int)(fa:Option Addr)(n cap:Nat)(hn:n<4611686018427387904)(hne:Tt g x l n≠0) :
 Calls (PB prog false) 27 #[.pointer (some ⟨a.db,0,none⟩),.int .i64 l,.slice fa n cap] w λe w'=>e=.returned (bU (Tt g x l n))/\Below w.heap.size w w':=by
 have HF:=jX h l
 have HZ:=nT h hy
 have hy1:=h.iP.y1
 unfold Tt at hne ⊢
 by_cases h1:findF g.L x.s.off l≠0
 .rw[if_pos h1] at hne ⊢
  generalize findF g.L x.s.off l=c at *
  rw[fu h1] at HF ⊢
  clear h
  go_enter Al.func27,Tryz.ntmps27
  go_wp2_with fail
  refine HF.mono ?_
  rintro e w1 ⟨rfl,rfl⟩
  clear HF HZ
  go_wp2
  go_ret
  exact⟨rfl,Below.refl _ _⟩
 .have h0:findF g.L x.s.off l=0:=Classical.not_not.1 h1
  rw[if_neg h1] at hne ⊢
  rw[h0,bW] at HF
  by_cases h2:n≠g.Y-21
  .rw[if_pos h2] at hne ⊢
   have e1:((n:Int)==((g.Y-21:Nat):Int))=false:=by rw[beq_eq_false_iff_ne];omega
   clear h h1 h0
   generalize g.Y-21=sz at *
   go_enter Al.func27,Tryz.ntmps27
   go_wp2_with fail
   refine HF.mono ?_
   rintro e w1 ⟨rfl,rfl⟩
   clear HF
   go_wp2_with fail
   refine HZ.mono ?_
   rintro e w2 ⟨rfl,rfl⟩
   clear HZ
   go_wp2
   go_ret
   exact⟨rfl,Below.refl _ _⟩
  .rw[if_neg h2] at hne ⊢
   obtain rfl:n=g.Y-21:=Classical.not_not.1 h2
   by_cases h3:g.spare<x.bad
   .rw[if_pos h3]
    have HC:=AU h h3 1 l fa (g.Y-21) cap
    clear h h1 h0 h2 h3 hne
    generalize g.Y-21=sz at *
    go_enter Al.func27,Tryz.ntmps27
    go_wp2_with fail
    refine HF.mono ?_
    rintro e w1 ⟨rfl,rfl⟩
    clear HF
    go_wp2_with fail
    refine HZ.mono ?_
    rintro e w2 ⟨rfl,rfl⟩
    clear HZ
    go_wp2_with fail
    refine HC.mono ?_
    rintro e w3 ⟨rfl,hb⟩
    have HB:Hid (Below w2.heap.size w2 w3):=hb
    clear HC hb
    go_wp2
    go_ret
    exact⟨rfl,HB.out⟩
   .rw[if_neg h3] at hne
    exact absurd rfl hne
theorem Mv.ret{e:Ending}{g:Gm}{w w':World}{a:Ad}{x:Sd}{k n l:Nat}{v:List Nat}(h:Mv e g w w' a x k n l v):∃ u,e=.returned u:=by
 obtain⟨_,_,h,_⟩:=h
 exact⟨_,h⟩
theorem AV{g:Gm}{w:World}{a:Ad}{x:Sd}{k n l len:Nat}{v:List Nat}(h:DK g w a x)(hy:21<=g.Y)(fa:Option Addr)(cap:Nat)(hy0:Tt g x (l:Int) len=0)
 (HC:Calls (PB prog false) 46 #[.pointer (some ⟨a.db,0,none⟩),.int .i64 ((1:Nat):Int),.int .i64 (l:Nat),.slice fa len cap] w λe w'=>Mv e g w w' a x k n l v) :
 Calls (PB prog false) 27 #[.pointer (some ⟨a.db,0,none⟩),.int .i64 (l:Nat),.slice fa len cap] w λe w'=>Mv e g w w' a x k n l v:=by
 have HF:=jX h (l:Int)
 have HZ:=nT h hy
 unfold Tt at hy0
 have h0:findF g.L x.s.off (l:Int)=0:=Classical.byContradiction λe=>by rw[if_pos e] at hy0;exact e hy0
 rw[if_neg (λe=>e h0)] at hy0
 have h2:len=g.Y-21:=Classical.byContradiction λe=>by rw[if_pos e] at hy0;omega
 rw[h0,bW] at HF
 subst h2
 clear h hy0 h0
 generalize g.Y-21=sz at *
 go_enter Al.func27,Tryz.ntmps27
 go_wp2_with fail
 refine HF.mono ?_
 rintro e w1 ⟨rfl,rfl⟩
 clear HF
 go_wp2_with fail
 refine HZ.mono ?_
 rintro e w2 ⟨rfl,rfl⟩
 clear HZ
 go_wp2_with fail
 refine HC.mono ?_
 rintro e w3 hm
 obtain⟨u,rfl⟩:=hm.ret
 have HM:Hid (Mv (.returned u) g w2 w3 a x k n l v):=hm
 clear hm HC
 go_wp2
 go_ret
 exact HM.out
def XT(g:Gm)(x:Sd)(l:Int):Nat:=if findF g.L x.s.off l≠0 then findF g.L x.s.off l else if g.spare<x.bad then 9 else 0
theorem J5{g:Gm}{w:World}{a:Ad}{x:Sd}(h:DK g w a x)(l:Int)(hne:XT g x l≠0) :
 Calls (PB prog false) 30 #[.pointer (some ⟨a.db,0,none⟩),.int .i64 l] w λe w'=>e=.returned (bU (XT g x l))/\Below w.heap.size w w':=by
 have HF:=jX h l
 unfold XT at hne ⊢
 by_cases h1:findF g.L x.s.off l≠0
 .rw[if_pos h1] at hne ⊢
  generalize findF g.L x.s.off l=c at *
  rw[fu h1] at HF ⊢
  clear h
  go_enter Al.func30,Tryz.ntmps30
  go_wp2_with fail
  refine HF.mono ?_
  rintro e w1 ⟨rfl,rfl⟩
  clear HF
  go_wp2
  go_ret
  exact⟨rfl,Below.refl _ _⟩
 .have h0:findF g.L x.s.off l=0:=Classical.not_not.1 h1
  rw[if_neg h1] at hne ⊢
  rw[h0,bW] at HF
  by_cases h3:g.spare<x.bad
  .rw[if_pos h3]
   have HC:=AU h h3 2 l none 0 0
   clear h h1 h0 h3 hne
   go_enter Al.func30,Tryz.ntmps30
   go_wp2_with fail
   refine HF.mono ?_
   rintro e w1 ⟨rfl,rfl⟩
   clear HF
   go_wp2_with fail
   refine HC.mono ?_
   rintro e w3 ⟨rfl,hb⟩
   have HB:Hid (Below w1.heap.size w1 w3):=hb
   clear HC hb
   go_wp2
   go_ret
   exact⟨rfl,HB.out⟩
  .rw[if_neg h3] at hne
   exact absurd rfl hne
theorem Pm{g:Gm}{w:World}{a:Ad}{x:Sd}{k n l:Nat}{v:List Nat}(h:DK g w a x)(hy0:XT g x (l:Int)=0)
 (HC:Calls (PB prog false) 46 #[.pointer (some ⟨a.db,0,none⟩),.int .i64 ((2:Nat):Int),.int .i64 (l:Nat),.slice none 0 0] w λe w'=>Mv e g w w' a x k n l v) :
 Calls (PB prog false) 30 #[.pointer (some ⟨a.db,0,none⟩),.int .i64 (l:Nat)] w λe w'=>Mv e g w w' a x k n l v:=by
 have HF:=jX h (l:Int)
 unfold XT at hy0
 have h0:findF g.L x.s.off (l:Int)=0:=Classical.byContradiction λe=>by rw[if_pos e] at hy0;exact e hy0
 rw[h0,bW] at HF
 clear h hy0 h0
 go_enter Al.func30,Tryz.ntmps30
 go_wp2_with fail
 refine HF.mono ?_
 rintro e w1 ⟨rfl,rfl⟩
 clear HF
 go_wp2_with fail
 refine HC.mono ?_
 rintro e w3 hm
 obtain⟨u,rfl⟩:=hm.ret
 have HM:Hid (Mv (.returned u) g w1 w3 a x k n l v):=hm
 clear hm HC
 go_wp2
 go_ret
 exact HM.out
theorem DW.note{g:Gm}{x:Sd}(h:DW g x){b sq:Nat}(hx:vD g.P (g.D*g.B) (bT x.s) b)(hF:D6 g.Y 3 0 sq 0):DW g (jc g x b (aR g.Y 3 0 sq []))/\∀ j,j<g.L->DW.see g (jc g x b (aR g.Y 3 0 sq [])) j=DW.see g x j:=by
 have hA:aZ []:=λx hx=>by cases hx
 unfold jc
 by_cases hc:x.cut=1
 .rw[if_pos hc]
  obtain⟨t1,t2⟩:=h.dv.abo hx (page:=aR g.Y 3 0 sq []) (gL _ _ _ _ _ hF.d1) (by have:=h.y;omega) (jA _ _ _ _ _ (by omega) hA)
  exact⟨⟨t1,h.y,h.y1,h.l⟩,t2⟩
 .rw[if_neg hc]
  obtain⟨t1,t2⟩:=h.dv.note (gq:=0) (sq:=sq) (data:=[]) hx hF hA
  exact⟨⟨t1,h.y,h.y1,h.l⟩,t2⟩
theorem DS.note{g:Gm}{y:Sd}{k b:Nat}{page:List Nat}(h:DS g y k)(hn:bS g.P (g.D*g.B) g.spare (bT y.s)<=aO g.P (g.D*g.B) (bT y.s))(hb:vD g.P (g.D*g.B) (bT y.s) b)(hw:DW g (jc g y b page)):DS g (jc g y b page) 0:=by
 have e1:bT (jc g y b page).s=dR (bT y.s) b:=by unfold jc;split<;>rfl
 have e2:(jc g y b page).bad=y.bad:=by unfold jc;split<;>rfl
 refine⟨hw,h.fit,by rw[e2,h.nb,e1];exact wJ.symm,by rw[e2];exact h.ok,?_⟩
 have h1:=hw.dv.one
 have h2:=hw.dv.nx
 rw[e1] at h1 h2 ⊢
 exact wQ (s:=y.k) h.fit hw.dv.inv h1 h2 (by rw[<-h.nb];exact h.ok) ⟨hb.1,hb.2.1,hb.2.2.1⟩ hn
def flF(g:Gm)(x:Sd):Nat:=if x.s.off=true then 7 else if g.spare<x.bad then 9 else 0
theorem FW{g:Gm}{w:World}{a:Ad}{x:Sd}(h:DK g w a x)(hne:flF g x≠0\/x.ch=false) :
 Calls (PB prog false) 25 #[.pointer (some ⟨a.db,0,none⟩)] w λe w'=>e=.returned (bU (flF g x))/\Below w.heap.size w w':=by
 have c6:w.cell? ⟨a.db,6,none⟩=some (.pointer (some ⟨a.cb,0,none⟩)):=h.st.cell 6
 have HO:=vP w h.hc
 have CZ:=fQ h
 have HD:Hid (∀ W,Below w.heap.size w W->W.cell? ⟨a.db,5,none⟩=some (.bool x.ch)):=λW hW=>(h.below hW).st.cell 5
 unfold flF at hne ⊢
 clear h
 generalize x.s.off=of at *
 cases of with
 |true =>
  rw[if_pos rfl]
  go_enter Al.func25,Tryz.ntmps25
  go_wp2_with fail
  refine HO.mono ?_
  rintro e w1 ⟨rfl,rfl⟩
  clear HO CZ
  go_wp2
  go_ret
  exact⟨rfl,Below.refl _ _⟩
 |false =>
  rw[if_neg (by simp)] at hne ⊢
  by_cases h3:g.spare<x.bad
  .rw[if_pos h3]
   rw[decide_eq_true h3] at CZ
   go_enter Al.func25,Tryz.ntmps25
   go_wp2_with fail
   refine HO.mono ?_
   rintro e w1 ⟨rfl,rfl⟩
   clear HO
   go_wp2_with fail
   refine CZ.mono ?_
   rintro e w2 ⟨rfl,hb⟩
   have HB:Hid (Below w1.heap.size w1 w2):=hb
   clear CZ hb
   go_wp2
   go_ret
   exact⟨rfl,HB.out⟩
  .rw[if_neg h3] at hne ⊢
   have hch:x.ch=false:=by
    rcases hne with e|e
    .exact absurd rfl e
    .exact e
   rw[decide_eq_false h3] at CZ
   rw[hch] at HD
   go_enter Al.func25,Tryz.ntmps25
   go_wp2_with fail
   refine HO.mono ?_
   rintro e w1 ⟨rfl,rfl⟩
   clear HO
   go_wp2_with fail
   refine CZ.mono ?_
   rintro e w2 ⟨rfl,hb⟩
   have c5:=HD.out w2 hb
   have HB:Hid (Below w1.heap.size w1 w2):=hb
   clear CZ hb HD
   go_wp2
   go_ret
   exact⟨rfl,HB.out⟩
def FlQ(g:Gm)(x y:Sd)(k c:Nat):Prop:=(∀ j,j<g.L->DW.see g y j=DW.see g x j)/\((c=0/\DS g y 0/\y.s.off=false/\y.ch=false)\/(c≠0/\y.ch=x.ch/\((c=7/\DT g y (k+1)/\y.cut=0/\1<=x.cut)\/(c=9/\DL g y/\y.s.off=false))))
def FlP(e:Ending)(g:Gm)(w w':World)(a:Ad)(x:Sd)(k n:Nat):Prop:=∃ (y:Sd) (c:Nat),e=.returned (bU c)/\DK g w' a y/\Keep (OD g a) w w'/\R5 x y n/\FlQ g x y k c
theorem Pn{g:Gm}{w:World}{a:Ad}{x:Sd}(HI:CY)(Tj:qw)(Tk:qx)(Tn:lT)(h:DK g w a x)(k n:Nat)(hd:DS g x k)(ho:x.s.off=false)(hk:k<=2*g.P)(hb:Bd x n)(hl:lack g x<=n)(hsp:g.spare<=64)(hch:x.ch=true) :
 Calls (PB prog false) 25 #[.pointer (some ⟨a.db,0,none⟩)] w λe w'=>FlP e g w w' a x k n:=by
 have c6:w.cell? ⟨a.db,6,none⟩=some (.pointer (some ⟨a.cb,0,none⟩)):=h.st.cell 6
 have HO:=vP w h.hc
 rw[ho] at HO
 have CZ:=fQ h
 rw[decide_eq_false (by have:=hd.ok;omega)] at CZ
 have HD:Hid (∀ W,Below w.heap.size w W->W.cell? ⟨a.db,5,none⟩=some (.bool true)/\Keep (OD g a) w W):=λW hW=>⟨by rw[<-hch];exact(h.below hW).st.cell 5,Keep.of_below hW⟩
 have HM:Hid (∀ W,Below w.heap.size w W->Calls (PB prog false) 44 #[.pointer (some ⟨a.db,0,none⟩)] W λe w'=>MkP e g W w' a x k n):=λW hW=>u6 HI Tj Tk Tn (h.below hW) k n hd ho hk hb hl hsp
 have R4:Hid (∀ W y,DK g W a y->Keep (OD g a) w W->Mo x y n->DS g y k->y.s.off=false->bS g.P (g.D*g.B) g.spare (bT y.s)<=aO g.P (g.D*g.B) (bT y.s)->(∀ j,j<g.L->DW.see g y j=DW.see g x j)->Calls (PB prog false) 45 #[.pointer (some ⟨a.db,0,none⟩),FV 3 0 y.seq none 0 0] W λe w'=>(∃ (z:Sd) (p:Nat),e=.returned (.tuple #[.int .i64 (p:Nat),.nilIface])/\DK g w' a z/\Keep (OD g a) w w'/\R5 x z n/\DS g z 0/\z.s.off=false/\∀ j,j<g.L->DW.see g z j=DW.see g x j)\/(e=.returned (.tuple #[.int .i64 0,.iface 31 (.int .i64 7)])/\FlP (.returned (.iface 31 (.int .i64 7))) g w w' a x k n)):=λW y q1 q2 q3 q4 q5 q6 q7=>by
  have vG:y.seq<4611686018427387904:=by have:=q3.seq;have:=hb.seq;omega
  have hy:=q4.dw.y
  have hy1:=q4.dw.y1
  have hF:D6 g.Y 3 0 y.seq 0:=⟨hy,by omega,by omega,by omega,by omega,by omega,by omega⟩
  have hex:∃ k,k<g.D*g.B/\y.s.bad k=false/\y.s.next k≠g.P:=by
   have:=vK (P:=g.P) (N:=g.D*g.B) (spare:=g.spare) (c:=bT y.s)
   have:=q4.fit.p1
   obtain⟨k,k1,k2,k3⟩:=BZ (P:=g.P) (N:=g.D*g.B) (c:=bT y.s) (by omega)
   exact⟨k,k1,k2,Nat.ne_of_lt k3⟩
  refine(yj q1 q5 (by have:=q3.cut;have:=hb.cut;omega) q4.dw.dv.nx hex 3 0 y.seq none 0 [] hF (λx hx=>by cases hx) (Or.inl rfl)).mono λe w' hq=>?_
  obtain⟨b,p1,p2⟩:=hq
  obtain⟨t1,t2⟩:=q4.dw.note p1.nx hF
  have hds:=q4.note q6 p1.nx t1
  have hkp:=q2.trans p1.kp
  have pI:∀ j,j<g.L->DW.see g (jc g y b (aR g.Y 3 0 y.seq [])) j=DW.see g x j:=λj hj=>(t2 j hj).trans (q7 j hj)
  have hdk:=p1.dk
  by_cases AQ:y.cut=1
  .have ep:jK y=.iface 31 (.int .i64 7):=if_pos AQ
   rw[ep,if_pos AQ] at p2
   have e1:jc g y b (aR g.Y 3 0 y.seq [])=AP g y b (aR g.Y 3 0 y.seq []):=if_pos AQ
   rw[e1] at pI hds hdk
   refine Or.inr ⟨p2,_,7,rfl,hdk,hkp,⟨?_,q3.fails,?_,q3.aF,q3.bf,q3.bm⟩,pI,Or.inr ⟨by omega,q3.ch,Or.inl ⟨rfl,⟨⟨hds.dw,hds.fit,hds.nb,hds.ok,hds.room.more (by omega)⟩,rfl⟩,?_,?_⟩⟩⟩
   .show y.cut-1<=x.cut
    have:=q3.cut;omega
   .show y.seq<=_
    have:=q3.seq;omega
   .show y.cut-1=0
    omega
   .have:=q3.cut;omega
  .have ep:jK y=.nilIface:=if_neg AQ
   rw[ep,if_neg AQ] at p2
   have e1:jc g y b (aR g.Y 3 0 y.seq [])=zV g y b (aR g.Y 3 0 y.seq []):=if_neg AQ
   rw[e1] at pI hds hdk
   refine Or.inl ⟨_,_,p2,hdk,hkp,⟨?_,q3.fails,?_,q3.aF,q3.bf,q3.bm⟩,hds,q5,pI⟩
   .show y.cut-1<=x.cut
    have:=q3.cut;omega
   .show y.seq<=_
    have:=q3.seq;omega
 clear h hd ho hk hb hl hsp hch HI Tj Tk Tn
 go_enter Al.func25,Tryz.ntmps25
 go_wp2_with fail
 refine HO.mono ?_
 rintro e w0 ⟨rfl,rfl⟩
 clear HO
 go_wp2_with fail
 refine CZ.mono ?_
 rintro e w1 ⟨rfl,hb1⟩
 have c5:=(HD.out w1 hb1).1
 have Tq:Hid (Keep (OD g a) w0 w1):=(HD.out w1 hb1).2
 have HX:=HM.out w1 hb1
 clear CZ hb1 HD HM c6
 go_wp2_with fail
 refine HX.mono ?_
 rintro e w2 ⟨y,c,rfl,q1,q2,q3,q4,q5⟩
 clear HX c5
 rcases q5 with ⟨rfl,u1,u2,u3⟩|hbad
 .have c3:w2.cell? ⟨a.db,3,none⟩=some (.int .i64 (y.seq:Nat)):=q1.st.cell 3
  have HQ:=R4.out w2 y q1 (Tq.out.trans q2) q3 u1 u2 u3 q4
  clear R4 q1 q2 q3 q4 u1 u2 u3 Tq
  rw[bW]
  generalize y.seq=sq at *
  go_wp2_with fail
  refine HQ.mono ?_
  rintro e w3 (⟨z,p,rfl,z1,z2,z3,z4,z5,z6⟩|⟨rfl,hz⟩)
  .have c5:w3.cell? ⟨a.db,5,none⟩=some (.bool z.ch):=z1.st.cell 5
   have f5:=z1.st.free 5
   have HZ:Hid (FlP (.returned .nilIface) g w0 (w3.setCell ⟨a.db,5,none⟩ (.bool false)) a x k n):=⟨{ z with ch:=false },0,rfl,z1.cell { z with ch:=false } 5 _ rfl rfl rfl,z2.trans (((Keep.refl (λb=>b=a.db) _).set1 _ _).mono λb e=>Or.inl e),⟨z3.cut,z3.fails,z3.seq,z3.aF,z3.bf,z3.bm⟩,z6,Or.inl ⟨rfl,⟨⟨z4.dw.dv,z4.dw.y,z4.dw.y1,z4.dw.l⟩,z4.fit,z4.nb,z4.ok,z4.room⟩,z5,rfl⟩⟩
   clear HQ z1 z2 z3 z4 z5 z6
   go_wp2
   go_ret
   exact HZ.out
  .have HZ:Hid (FlP (.returned (.iface 31 (.int .i64 7))) g w0 w3 a x k n):=hz
   clear HQ hz
   go_wp2
   go_ret
   exact HZ.out
 .have hc:c≠0:=by rcases hbad with ⟨rfl,_⟩|⟨rfl,_⟩<;>omega
  have HZ:Hid (FlP (.returned (bU c)) g w0 w2 a x k n):=⟨y,c,rfl,q1,Tq.out.trans q2,q3.one,q4,Or.inr ⟨hc,q3.ch,hbad⟩⟩
  clear R4 q1 q2 q3 q4 hbad Tq
  rw[fu hc] at HZ ⊢
  go_wp2
  go_ret
  exact HZ.out
