/- Part of the proof. -/
import Derived.Test.YthbndfpeffcigaaGreatDoorZ43
set_option maxRecDepth 100000
open Go.Proofs.Tryz (prog)
open Go.Proofs.ah.Al (PB)
set_option maxHeartbeats 16000000
set_option linter.unusedVariables false
namespace Go.Proofs.aD
open ah ak aj Go.RowKit
open aB (MW cut iq lay dS jZ Ar CF lY jF wrt iy)
open ay (Iz Sd Gm Fr lZ jc kW vB)
open aG (Turn fG uG)
theorem MJ(HN:jc)(g0 g1 g2 g3 lb sp a b:Int)(w:World)(h:lZ g0 g1 g2 g3 lb sp):Calls (PB prog false) 3 #[.agg #[.int .i64 g0,.int .i64 g1,.int .i64 g2,.int .i64 g3],.int .i64 lb,.int .i64 sp,.int .i64 a,.int .i64 b] w λe w'=>e=.returned (.bool true)/\Below w.heap.size w w':=by
 have HD:Hid (∀ W,Calls (PB prog false) 5 #[.int .i64 8192,.agg #[.int .i64 g0,.int .i64 g1,.int .i64 g2,.int .i64 g3],.int .i64 lb,.int .i64 sp] W λe w'=>∃ c:Nat,c≠0/\e=.returned (.tuple #[.pointer none,.iface 42 (.int .i64 (c:Nat))])/\Below W.heap.size W w'):=λW=>RJ 8192 W (by decide) h
 have HF0:Hid (∀ W,Calls (PB prog false) 4 #[] W λe w'=>e=.returned (.bool true)/\Below W.heap.size W w'):=λW=>qc HN W
 clear h
 go_enter Al.func3,Tryz.ntmps3
 go_wp2_with fail
 refine(HF0.out _).mono ?_
 rintro e w1 ⟨rfl,hb1⟩
 have hg:=λo=>hb1.cell (p:=⟨w.heap.size,o,none⟩) (by simp)
 have k0:=hg 0
 have k1:=hg 1
 have k2:=hg 2
 have k3:=hg 3
 simp at k0 k1 k2 k3
 have HB:Hid (Below w.heap.size w w1):=(aC w _).trans (hb1.mono (aC w _).size)
 clear hb1 hg
 go_wp2_with fail
 refine(HD.out _).mono ?_
 rintro e w2 ⟨c,hc,rfl,hb2⟩
 have HB2:Hid (Below w.heap.size w w2):=HB.out.trans (hb2.mono HB.out.size)
 clear hb2 HB HD HF0
 go_wp2
 go_ret
 exact⟨rfl,HB2.out⟩
structure PM(l:List Nat)(i:Nat):Prop where
 len:l.length=8192
 a:∀ j,j<i->cut l (j*64) 64=FB
 b:∀ j,j<i->cut l (1024+j*64) 64=FB
theorem PM.step{l:List Nat}{i:Nat}(h:PM l i)(hi:i<16):PM (lay (lay l (64*i) FB) (1024+64*i) FB) (i+1):=by
 have f1:64*i+FB.length<=l.length:=by rw[kQ,h.len];omega
 have n1:(lay l (64*i) FB).length=8192:=(dS f1).trans h.len
 have f2:1024+64*i+FB.length<=(lay l (64*i) FB).length:=by rw[kQ,n1];omega
 refine⟨(dS f2).trans n1,λj hj=>?_,λj hj=>?_⟩
 .rw[jZ f2 (by rw[n1];omega) (.inr (by omega))]
  by_cases e:j=i
  .subst e
   have:=Ar f1
   rw[kQ] at this
   rw[Nat.mul_comm j 64]
   exact this
  .rw[jZ f1 (by rw[h.len];omega) (by rw[kQ];omega)]
   exact h.a j (by omega)
 .by_cases e:j=i
  .subst e
   have:=Ar f2
   rw[kQ] at this
   rw[Nat.mul_comm j 64]
   exact this
  .rw[jZ f2 (by rw[n1];omega) (by rw[kQ];omega),jZ f1 (by rw[h.len];omega) (by rw[kQ];omega)]
   exact h.b j (by omega)
theorem PM.all{l:List Nat}(h:PM l 16):ML l:=⟨h.len,h.a,h.b⟩
theorem MK:bn FB:=aB.Au (F:=CF) (v:=[1,0,0,0,0,0]) (n:=64) 6
theorem RL:iy CF [1,0,0,0,0,0] 6:=by
 intro j hj
 have:j=0\/j=1\/j=2\/j=3\/j=4\/j=5:=by omega
 rcases this with rfl|rfl|rfl|rfl|rfl|rfl<;>decide
def ZA(t:Tc)(tl:Nat):Qs:=⟨t.q1,t.b1,t.p1,t.s1,1,t.x,0,4096,16,0,tl,0,0,0⟩
def ZB(t:Tc)(tl:Nat):Qs:=⟨t.q3,t.b3,t.p3,t.s3,3,t.y,1024,5120,16,0,tl,0,0,0⟩
def V3(t:Tc)(l:List Nat)(tl1 tl3:Nat):Ct:=⟨t.cb,t.mb,t.hb,t.db,t.g,t.xd,l,FF (ZA t tl1) (ZB t tl3),some ⟨t.pb,t.wa,t.cap,0,t.x⟩⟩
theorem Ki(HN:jc)(g:Gm)(a b:Int)(w:World)(hG:aF.Geo g.D g.B g.P g.Y)(hck:kW g.D g.B g.P g.Y (g.L:Int) (g.spare:Int)=0)(ha:-9223372036854775808<=a/\a<=9223372036854775807)(hb:-9223372036854775808<=b/\b<=9223372036854775807) :
 Calls (PB prog false) 3 #[.agg #[.int .i64 (g.D:Nat),.int .i64 (g.B:Nat),.int .i64 (g.P:Nat),.int .i64 (g.Y:Nat)],.int .i64 (g.L:Nat),.int .i64 (g.spare:Nat),.int .i64 a,.int .i64 b] w λe w'=>e=.returned (.bool true)/\Below w.heap.size w w':=by
 have HD:Hid (∀ W,Below w.heap.size w W->Calls (PB prog false) 5 #[.int .i64 8192,.agg #[.int .i64 (g.D:Nat),.int .i64 (g.B:Nat),.int .i64 (g.P:Nat),.int .i64 (g.Y:Nat)],.int .i64 (g.L:Nat),.int .i64 (g.spare:Nat)] W λe w'=>∃ own cb mb hb db x,e=.returned (.tuple #[.pointer (some ⟨cb,0,none⟩),.nilIface])/\FS own w w' ⟨cb,mb,hb,db,g,x,List.replicate 8192 0,λ_=>none,none⟩/\Fr g x):=λW hW=>FS.new HN 8192 (g:=g) w W hW (by decide) hG hck
 have HF0:Hid (∀ W,Calls (PB prog false) 4 #[] W λe w'=>e=.returned (.bool true)/\Below W.heap.size W w'):=λW=>qc HN W
 have HPa:Hid (∀ W,Calls (PB prog false) 6 #[.int .i64 a,.int .i64 7] W λe w'=>(∃ k:Nat,k<7/\e=.returned (.int .i64 (k:Nat)))/\W=w'):=λW=>(vB a 7 W (by decide) (by decide) ha).mono λe w' ⟨h1,h2⟩=>⟨h1,h2.symm⟩
 have HPb:Hid (∀ W,Calls (PB prog false) 6 #[.int .i64 b,.int .i64 7] W λe w'=>(∃ k:Nat,k<7/\e=.returned (.int .i64 (k:Nat)))/\W=w'):=λW=>(vB b 7 W (by decide) (by decide) hb).mono λe w' ⟨h1,h2⟩=>⟨h1,h2.symm⟩
 clear hG hck ha hb HN
 go_enter Al.func3,Tryz.ntmps3
 go_wp2_with fail
 refine(HF0.out _).mono ?_
 rintro e w1 ⟨rfl,hb1⟩
 have hg:=λo=>hb1.cell (p:=⟨w.heap.size,o,none⟩) (by simp)
 have k0:=hg 0
 have k1:=hg 1
 have k2:=hg 2
 have k3:=hg 3
 simp at k0 k1 k2 k3
 have HD1:=HD.out w1 ((aC w _).trans (hb1.mono (aC w _).size))
 clear hb1 hg HF0 HD
 go_wp2_with fail
 refine HD1.mono ?_
 rintro e w2 ⟨own,cb,mb,hb,db,xd,rfl,h2,hfr⟩
 have H2:Hid (FS own w w2 ⟨cb,mb,hb,db,g,xd,List.replicate 8192 0,λ_=>none,none⟩/\Calm g xd):=⟨h2,Fr.calm hfr⟩
 clear HD1 h2 hfr k0 k1 k2 k3
 go_wp2_with fail
 refine(HPa.out _).mono ?_
 rintro e _ ⟨⟨k,hk,rfl⟩,rfl⟩
 clear HPa
 go_wp2_with fail
 refine(HPb.out _).mono ?_
 rintro e _ ⟨⟨z,hz,rfl⟩,rfl⟩
 clear HPb
 have HQ1:Calls (PB prog false) 7 #[.pointer (some ⟨cb,0,none⟩),.int .i64 1,.int .i64 0,.int .i64 4096,.int .i64 16,.int .i64 (1+(k:Int))] w2 λe w'=>e=.returned .nilIface/\∃ (q1 b1 p1 s1:Nat) (own':Nat->Nat) (p:Pk),FS own' w w' ⟨cb,mb,hb,db,g,xd,List.replicate 8192 0,aW (λ_=>none) 1 ⟨q1,b1,p1,s1,1,1+k,0,4096,16,0,0,0,0,0⟩,some p⟩:=by
  have H:=H2.out.1.queue (id:=1) (sq:=0) (cq:=4096) (n:=16) (wt:=1+k) (by decide) rfl (by decide) (by decide) (by omega) (by omega) (by simp) (by simp) (by decide) (by decide)
  rw[show (((1+k:Nat):Nat):Int)=1+(k:Int) by omega] at H
  exact H.mono λe w' ⟨h,q1,b1,p1,s1,own',p,h2,_⟩=>⟨h,q1,b1,p1,s1,own',p,h2⟩
 go_wp2_with fail
 refine HQ1.mono ?_
 rintro e w3 ⟨rfl,q1,b1,p1,s1,ahf,p0,h3⟩
 clear HQ1
 have HQ3:Calls (PB prog false) 7 #[.pointer (some ⟨cb,0,none⟩),.int .i64 3,.int .i64 1024,.int .i64 5120,.int .i64 16,.int .i64 (1+(z:Int))] w3 λe w'=>e=.returned .nilIface/\∃ (t:Tc) (own':Nat->Nat),t.cb=cb/\t.x=1+k/\t.y=1+z/\FS own' w w' (V3 t (List.replicate 8192 0) 0 0)/\Calm t.g t.xd:=by
  have H:=h3.queue (id:=3) (sq:=1024) (cq:=5120) (n:=16) (wt:=1+z) (by decide) rfl (by decide) (by decide) (by omega) (by omega) (by simp) (by simp) (by decide) (by decide)
  rw[show (((1+z:Nat):Nat):Int)=1+(z:Int) by omega] at H
  refine H.mono ?_
  rintro e w' ⟨h,q3,b3,p3,s3,own',⟨pb,wa,cap,pa,pc⟩,h4,_,_,e0,e1⟩
  obtain rfl:pa=0:=e0
  obtain rfl:pc=1+k:=by
   have e2:((pc:Nat):Int)=((1+k:Nat):Int):=e1
   omega
  exact⟨h,⟨cb,mb,hb,db,g,xd,q1,b1,p1,s1,q3,b3,p3,s3,pb,wa,cap,1+k,1+z⟩,own',rfl,rfl,rfl,h4,H2.out.2⟩
 clear h3 H2
 go_wp2_with fail
 refine HQ3.mono ?_
 rintro e w4 ⟨rfl,t,WU,rfl,hx,hy,h4,hcalm⟩
 have hx1:1<=t.x:=by omega
 have hy1:1<=t.y:=by omega
 rw[show (1:Int)+(k:Int)=((t.x:Nat):Int) by omega,show (1:Int)+(z:Int)=((t.y:Nat):Int) by omega]
 have H4:Hid (FS (mark WU w4.heap.size) w w4 (V3 t (List.replicate 8192 0) 0 0)/\Calm t.g t.xd/\t.x<=7/\t.y<=7):=⟨h4.mark,hcalm,by omega,by omega⟩
 have HE:Hid (Calls (PB prog false) 8 #[.agg #[.int .i64 1,.int .i64 0,.int .i64 0,.int .i64 0,.int .i64 0,.int .i64 0]] w4 λe w'=>∃ gb,e=.returned (.tuple #[.slice (some ⟨gb,0,none⟩) 64 64,.nilIface])/\Row w' gb FB/\mark WU w4.heap.size gb=5/\Below w4.heap.size w4 w'):=by
  refine(aB.Fq 1 0 0 0 0 0 w4).mono ?_
  rintro e w' ⟨hb,⟨_,gb,hge,rfl,hrow⟩|⟨hn,_⟩⟩
  .exact⟨gb,rfl,hrow,MN hge,hb⟩
  .exact absurd RL hn
 generalize mark WU w4.heap.size=own at *
 clear HQ3 h4 hcalm hx hy hk hz
 go_wp2_with fail
 refine HE.out.mono ?_
 rintro e w5 ⟨gb,rfl,hrow,h5,hb5⟩
 have H5:Hid (FS own w w5 (V3 t (List.replicate 8192 0) 0 0)/\Row w5 gb FB/\PM (List.replicate 8192 0) 0):=⟨H4.out.1.below hb5,hrow,⟨by simp,λj hj=>by omega,λj hj=>by omega⟩⟩
 have HC:Hid (own gb=5/\Calm t.g t.xd/\t.x<=7/\t.y<=7):=⟨h5,H4.out.2⟩
 clear HE H4 hrow h5 hb5
 go_wp2
 go_loopw [18] (λj wr=>∃ (i:Nat) (l:List Nat),i<=16/\j=.int .i64 (i:Nat)/\Hid (FS own w wr (V3 t l 0 0)/\Row wr gb FB/\PM l i)) (λj _=>16-(intOf j).toNat)
 case atStart=>exact⟨0,_,Nat.zero_le _,rfl,H5.out⟩
 case round =>
  obtain⟨i,l,hi,rfl,hR⟩:=hrel
  clear H5
  by_cases hlt:i<16
  .have hln:=hR.out.2.2.len
   have HP1:Calls (PB prog false) 9 #[.pointer (some ⟨t.cb,0,none⟩),.int .i64 (64*(i:Int)),.slice (some ⟨gb,0,none⟩) 64 64] wr λe w'=>e=.returned .nilIface/\FS own w w' (V3 t (lay l (64*i) FB) 0 0)/\Row w' gb FB:=by
    have H:=hR.out.1.WV (64*i) (some ⟨gb,0,none⟩) FB 64 64 kQ (kY hR.out.2.1) MK (by show 64*i+64<=l.length;omega)
    rw[show ((64*i:Nat):Int)=64*(i:Int) by omega] at H
    exact H.mono λe w' ⟨h1,h2,h3⟩=>⟨h1,h2,hR.out.2.1.keep h3 (λe=>e.2 HC.out.1)⟩
   have e1:IntKind.i64.wrap (64*(i:Int))=64*(i:Int):=b_ (by omega) (by omega)
   have e2:IntKind.i64.wrap (1024+64*(i:Int))=1024+64*(i:Int):=b_ (by omega) (by omega)
   go_wp2_with fail
   refine HP1.mono ?_
   rintro e w6 ⟨rfl,h6,r6⟩
   have HP2:Calls (PB prog false) 9 #[.pointer (some ⟨t.cb,0,none⟩),.int .i64 (1024+64*(i:Int)),.slice (some ⟨gb,0,none⟩) 64 64] w6 λe w'=>e=.returned .nilIface/\FS own w w' (V3 t (lay (lay l (64*i) FB) (1024+64*i) FB) 0 0)/\Row w' gb FB:=by
    have ahg:(lay l (64*i) FB).length=8192:=(dS (by rw[kQ,hln];omega)).trans hln
    have H:=h6.WV (1024+64*i) (some ⟨gb,0,none⟩) FB 64 64 kQ (kY r6) MK (by show 1024+64*i+64<=(lay l (64*i) FB).length;omega)
    rw[show ((1024+64*i:Nat):Int)=1024+64*(i:Int) by omega] at H
    exact H.mono λe w' ⟨h1,h2,h3⟩=>⟨h1,h2,r6.keep h3 (λe=>e.2 HC.out.1)⟩
   clear h6 r6 HP1
   go_wp2_with fail
   refine HP2.mono ?_
   rintro e w7 ⟨rfl,h7,r7⟩
   have HF:Hid (FS own w w7 (V3 t (lay (lay l (64*i) FB) (1024+64*i) FB) 0 0)/\Row w7 gb FB/\PM (lay (lay l (64*i) FB) (1024+64*i) FB) (i+1)):=⟨h7,r7,hR.out.2.2.step hlt⟩
   clear h7 r7 HP2 hR e1 e2 hln
   go_wp2
   exact⟨⟨i+1,_,by omega,by go_num,HF⟩,by simp[intOf];omega⟩
  .obtain rfl:i=16:=by omega
   have HT1:Calls (PB prog false) 10 #[.pointer (some ⟨t.cb,0,none⟩),.int .i64 1,.int .i64 15] wr λe w'=>e=.returned .nilIface/\FS own w w' (V3 t l 15 0):=by
    refine(hR.out.1.tail (i:=1) (x:=ZA t 0) rfl 15 (by show 15<16;decide)).mono ?_
    rintro e w' ⟨rfl,h1,_⟩
    refine⟨rfl,?_⟩
    have e1:=aej (ZA t 0) (ZB t 0) (ZA t 15)
    have h1':FS own w w' ⟨t.cb,t.mb,t.hb,t.db,t.g,t.xd,l,aW (FF (ZA t 0) (ZB t 0)) 1 (ZA t 15),some ⟨t.pb,t.wa,t.cap,0,t.x⟩⟩:=h1
    rw[e1] at h1'
    exact h1'
   have HM:Hid (ML l):=hR.out.2.2.all
   clear hR hlt
   go_wp2_with fail
   refine HT1.mono ?_
   rintro e w6 ⟨rfl,h6⟩
   have HT3:Calls (PB prog false) 10 #[.pointer (some ⟨t.cb,0,none⟩),.int .i64 3,.int .i64 15] w6 λe w'=>e=.returned .nilIface/\US t w w' 15 15 0 t.x:=by
    refine(h6.tail (i:=3) (x:=ZB t 0) rfl 15 (by show 15<16;decide)).mono ?_
    rintro e w' ⟨rfl,h1,_⟩
    refine⟨rfl,⟨own,l,HM.out,?_,by decide,by decide,HC.out.2.1⟩,by decide,by decide,by decide⟩
    have e1:=aek (ZA t 15) (ZB t 0) (ZB t 15)
    have h1':FS own w w' ⟨t.cb,t.mb,t.hb,t.db,t.g,t.xd,l,aW (FF (ZA t 15) (ZB t 0)) 3 (ZB t 15),some ⟨t.pb,t.wa,t.cap,0,t.x⟩⟩:=h1
    rw[e1] at h1'
    exact h1'
   clear h6 HT1
   go_wp2_with fail
   refine HT3.mono ?_
   rintro e w7 ⟨rfl,h7⟩
   have H7:Hid (US t w w7 15 15 0 t.x):=h7
   have hx7:=HC.out.2.2.1
   have hy7:=HC.out.2.2.2
   clear h7 HT3 HM HC
   have HEr:Hid (∀ W,Calls (PB prog false) 12 #[.iface 42 (.int .i64 4),.int .i64 4] W λe w'=>e=.returned (.bool true)/\w'=W):=λW=>Kj 4 4 true W (by simp)
   go_wp2
   go_loopw [19,20] (λo1 o2 wr=>∃ u v a k:Nat,o1=.int .i64 (u:Nat)/\o2=.int .i64 (v:Nat)/\u<=15/\v<=15/\Hid (US t w wr u v a k/\JJ t.x t.y u v a k)) (λo1 o2 _=>(intOf o1).toNat+(intOf o2).toNat)
   case atStart=>exact⟨15,15,0,t.x,rfl,rfl,by decide,by decide,H7.out,λhu=>Kk hx1 hu,λe=>by omega⟩
   case round =>
    obtain⟨u,v,a0,k0,rfl,rfl,abo,RN,hR⟩:=hrel
    clear H7
    by_cases hend:u=0/\v=0
    .obtain⟨rfl,rfl⟩:=hend
     have HS:=RO hR.out.1
     clear hR
     go_wp2_with fail
     refine HS.mono ?_
     rintro e w9 ⟨rfl,hb9⟩
     have HB9:Hid (Below w.heap.size w w9):=hb9
     clear HS hb9
     go_wp2_with fail
     refine(HEr.out _).mono ?_
     rintro e _ ⟨rfl,rfl⟩
     clear HEr
     go_wp2
     go_ret
     exact⟨rfl,HB9.out⟩
    .clear HEr
     have hor:(0<u)\/(u=0/\0<v):=by omega
     clear hend
     have HOR:Hid ((0<u)\/(u=0/\0<v)):=hor
     rcases hor with h1|⟨h1,h2⟩
     .have t1:(0:Int)<(u:Int):=by omega
      go_wp2
      clear t1
      go_loopw [19,21] (λo1 o3 wx=>∃ u1 i a k:Nat,o1=.int .i64 (u1:Nat)/\o3=.int .i64 (i:Nat)/\u1<=15/\i<=7/\Hid (US t w wx u1 v a k/\I1 t.x t.y u i u1 v a k)) (λo1 _ _=>(intOf o1).toNat)
      case atStart=>exact⟨u,0,a0,k0,rfl,rfl,abo,Nat.zero_le _,hR.out.1,⟨Nat.add_zero _,Nat.zero_le _,.inl ⟨rfl,hR.out.2⟩⟩⟩
      case round =>
       obtain⟨u1,i,a1,k1,rfl,rfl,hu1,hi7,hI⟩:=hrel
       clear hR
       by_cases hin:i<t.x/\0<u1
       .have HS:=MO hI.out.1 hI.out.2 hin.1 hin.2
        obtain⟨hc,hc2⟩:=hin
        clear hI
        obtain⟨s,rfl⟩:∃ s,u1=s+1:=⟨u1-1,by omega⟩
        go_wp2_with fail
        refine HS.mono ?_
        rintro e w9 ⟨rfl,k2,z1,z2⟩
        have HF:Hid (US t w w9 s v 0 k2/\I1 t.x t.y u (i+1) s v 0 k2):=⟨z1,z2⟩
        clear HS z1 z2
        go_wp2
        exact⟨⟨s,i+1,0,k2,gQ (by omega),by go_num,by omega,by omega,HF⟩,by first|(simp[intOf];done)|(simp[intOf];omega)⟩
       .have hle:=hI.out.2.2.1
        have HX:Hid (US t w wr u1 v a1 k1/\KK t.x t.y u1 v a1 k1/\u1+i=u/\(i=t.x\/u1=0)):=⟨hI.out.1,IB hI.out.2 hx1 (by omega),hI.out.2.1,by omega⟩
        have hex:(i<t.x/\u1=0)\/¬i<t.x:=by omega
        clear hI hin hle
        rcases hex with ⟨h3,h4⟩|h3
        .have t3:¬((0:Int)<(u1:Int)):=by omega
         clear h4
         go_wp2
         clear t3 h3
         go_loopw [20,24] (λo2 o4 wx=>∃ v1 j a k:Nat,o2=.int .i64 (v1:Nat)/\o4=.int .i64 (j:Nat)/\v1<=15/\j<=7/\Hid (US t w wx u1 v1 a k/\I2 t.x t.y v j u1 v1 a k)) (λo2 _ _=>(intOf o2).toNat)
         case atStart=>exact⟨v,0,a1,k1,rfl,rfl,RN,Nat.zero_le _,HX.out.1,⟨Nat.add_zero _,Nat.zero_le _,.inl ⟨rfl,HX.out.2.1⟩⟩⟩
         case round =>
          obtain⟨v1,j,a2,k2,rfl,rfl,hv1,hj7,hI⟩:=hrel
          have Fu:Hid (u1+i=u/\(i=t.x\/u1=0)):=HX.out.2.2
          clear HX
          by_cases hin:j<t.y/\0<v1
          .have HS:=Av hI.out.1 hI.out.2 hin.1 hin.2
           obtain⟨hc,hc2⟩:=hin
           clear hI Fu
           obtain⟨s,rfl⟩:∃ s,v1=s+1:=⟨v1-1,by omega⟩
           go_wp2_with fail
           refine HS.mono ?_
           rintro e w9 ⟨rfl,k3,z1,z2⟩
           have HF:Hid (US t w w9 u1 s 1 k3/\I2 t.x t.y v (j+1) u1 s 1 k3):=⟨z1,z2⟩
           clear HS z1 z2
           go_wp2
           exact⟨⟨s,j+1,1,k3,gQ (by omega),by go_num,by omega,by omega,HF⟩,by first|(simp[intOf];done)|(simp[intOf];omega)⟩
          .have hle:=hI.out.2.2.1
           have hv2:=hI.out.2.1
           have hx2:=Fu.out
           have hor2:=HOR.out
           have HF:Hid (US t w wr u1 v1 a2 k2/\JJ t.x t.y u1 v1 a2 k2):=⟨hI.out.1,uL hI.out.2 hy1 (by omega)⟩
           have hmm:u1+v1<u+v:=by omega
           have hex:(j<t.y/\v1=0)\/¬j<t.y:=by omega
           clear hI hin hle hv2 hx2 hor2 Fu
           rcases hex with ⟨h3,h4⟩|h3
           .have t3:¬((0:Int)<(v1:Int)):=by omega
            clear h4
            go_wp2
            exact⟨⟨u1,v1,a2,k2,rfl,rfl,by omega,by omega,HF⟩,by first|(simp[intOf];done)|(simp[intOf];omega)⟩
           .go_wp2
            exact⟨⟨u1,v1,a2,k2,rfl,rfl,by omega,by omega,HF⟩,by first|(simp[intOf];done)|(simp[intOf];omega)⟩
        .go_wp2
         clear h3
         go_loopw [20,24] (λo2 o4 wx=>∃ v1 j a k:Nat,o2=.int .i64 (v1:Nat)/\o4=.int .i64 (j:Nat)/\v1<=15/\j<=7/\Hid (US t w wx u1 v1 a k/\I2 t.x t.y v j u1 v1 a k)) (λo2 _ _=>(intOf o2).toNat)
         case atStart=>exact⟨v,0,a1,k1,rfl,rfl,RN,Nat.zero_le _,HX.out.1,⟨Nat.add_zero _,Nat.zero_le _,.inl ⟨rfl,HX.out.2.1⟩⟩⟩
         case round =>
          obtain⟨v1,j,a2,k2,rfl,rfl,hv1,hj7,hI⟩:=hrel
          have Fu:Hid (u1+i=u/\(i=t.x\/u1=0)):=HX.out.2.2
          clear HX
          by_cases hin:j<t.y/\0<v1
          .have HS:=Av hI.out.1 hI.out.2 hin.1 hin.2
           obtain⟨hc,hc2⟩:=hin
           clear hI Fu
           obtain⟨s,rfl⟩:∃ s,v1=s+1:=⟨v1-1,by omega⟩
           go_wp2_with fail
           refine HS.mono ?_
           rintro e w9 ⟨rfl,k3,z1,z2⟩
           have HF:Hid (US t w w9 u1 s 1 k3/\I2 t.x t.y v (j+1) u1 s 1 k3):=⟨z1,z2⟩
           clear HS z1 z2
           go_wp2
           exact⟨⟨s,j+1,1,k3,gQ (by omega),by go_num,by omega,by omega,HF⟩,by first|(simp[intOf];done)|(simp[intOf];omega)⟩
          .have hle:=hI.out.2.2.1
           have hv2:=hI.out.2.1
           have hx2:=Fu.out
           have hor2:=HOR.out
           have HF:Hid (US t w wr u1 v1 a2 k2/\JJ t.x t.y u1 v1 a2 k2):=⟨hI.out.1,uL hI.out.2 hy1 (by omega)⟩
           have hmm:u1+v1<u+v:=by omega
           have hex:(j<t.y/\v1=0)\/¬j<t.y:=by omega
           clear hI hin hle hv2 hx2 hor2 Fu
           rcases hex with ⟨h3,h4⟩|h3
           .have t3:¬((0:Int)<(v1:Int)):=by omega
            clear h4
            go_wp2
            exact⟨⟨u1,v1,a2,k2,rfl,rfl,by omega,by omega,HF⟩,by first|(simp[intOf];done)|(simp[intOf];omega)⟩
           .go_wp2
            exact⟨⟨u1,v1,a2,k2,rfl,rfl,by omega,by omega,HF⟩,by first|(simp[intOf];done)|(simp[intOf];omega)⟩
     .have t1:¬((0:Int)<(u:Int)):=by omega
      have t2:(0:Int)<(v:Int):=by omega
      have HU0:Hid (u=0):=h1
      clear h1
      go_wp2
      clear t1 t2
      go_loopw [19,21] (λo1 o3 wx=>∃ u1 i a k:Nat,o1=.int .i64 (u1:Nat)/\o3=.int .i64 (i:Nat)/\u1<=15/\i<=7/\Hid (US t w wx u1 v a k/\I1 t.x t.y u i u1 v a k)) (λo1 _ _=>(intOf o1).toNat)
      case atStart=>exact⟨u,0,a0,k0,gQ (by have:=HU0.out;omega),rfl,abo,Nat.zero_le _,hR.out.1,⟨Nat.add_zero _,Nat.zero_le _,.inl ⟨rfl,hR.out.2⟩⟩⟩
      case round =>
       obtain⟨u1,i,a1,k1,rfl,rfl,hu1,hi7,hI⟩:=hrel
       clear hR
       by_cases hin:i<t.x/\0<u1
       .have HS:=MO hI.out.1 hI.out.2 hin.1 hin.2
        obtain⟨hc,hc2⟩:=hin
        clear hI
        obtain⟨s,rfl⟩:∃ s,u1=s+1:=⟨u1-1,by omega⟩
        go_wp2_with fail
        refine HS.mono ?_
        rintro e w9 ⟨rfl,k2,z1,z2⟩
        have HF:Hid (US t w w9 s v 0 k2/\I1 t.x t.y u (i+1) s v 0 k2):=⟨z1,z2⟩
        clear HS z1 z2
        go_wp2
        exact⟨⟨s,i+1,0,k2,gQ (by omega),by go_num,by omega,by omega,HF⟩,by first|(simp[intOf];done)|(simp[intOf];omega)⟩
       .have hle:=hI.out.2.2.1
        have HX:Hid (US t w wr u1 v a1 k1/\KK t.x t.y u1 v a1 k1/\u1+i=u/\(i=t.x\/u1=0)):=⟨hI.out.1,IB hI.out.2 hx1 (by omega),hI.out.2.1,by omega⟩
        have hex:(i<t.x/\u1=0)\/¬i<t.x:=by omega
        clear hI hin hle
        rcases hex with ⟨h3,h4⟩|h3
        .have t3:¬((0:Int)<(u1:Int)):=by omega
         clear h4
         go_wp2
         clear t3 h3
         go_loopw [20,24] (λo2 o4 wx=>∃ v1 j a k:Nat,o2=.int .i64 (v1:Nat)/\o4=.int .i64 (j:Nat)/\v1<=15/\j<=7/\Hid (US t w wx u1 v1 a k/\I2 t.x t.y v j u1 v1 a k)) (λo2 _ _=>(intOf o2).toNat)
         case atStart=>exact⟨v,0,a1,k1,rfl,rfl,RN,Nat.zero_le _,HX.out.1,⟨Nat.add_zero _,Nat.zero_le _,.inl ⟨rfl,HX.out.2.1⟩⟩⟩
         case round =>
          obtain⟨v1,j,a2,k2,rfl,rfl,hv1,hj7,hI⟩:=hrel
          have Fu:Hid (u1+i=u/\(i=t.x\/u1=0)):=HX.out.2.2
          clear HX
          by_cases hin:j<t.y/\0<v1
          .have HS:=Av hI.out.1 hI.out.2 hin.1 hin.2
           obtain⟨hc,hc2⟩:=hin
           clear hI Fu
           obtain⟨s,rfl⟩:∃ s,v1=s+1:=⟨v1-1,by omega⟩
           go_wp2_with fail
           refine HS.mono ?_
           rintro e w9 ⟨rfl,k3,z1,z2⟩
           have HF:Hid (US t w w9 u1 s 1 k3/\I2 t.x t.y v (j+1) u1 s 1 k3):=⟨z1,z2⟩
           clear HS z1 z2
           go_wp2
           exact⟨⟨s,j+1,1,k3,gQ (by omega),by go_num,by omega,by omega,HF⟩,by first|(simp[intOf];done)|(simp[intOf];omega)⟩
          .have hle:=hI.out.2.2.1
           have hv2:=hI.out.2.1
           have hx2:=Fu.out
           have hor2:=HOR.out
           have HF:Hid (US t w wr u1 v1 a2 k2/\JJ t.x t.y u1 v1 a2 k2):=⟨hI.out.1,uL hI.out.2 hy1 (by omega)⟩
           have hmm:u1+v1<u+v:=by omega
           have hex:(j<t.y/\v1=0)\/¬j<t.y:=by omega
           clear hI hin hle hv2 hx2 hor2 Fu
           rcases hex with ⟨h3,h4⟩|h3
           .have t3:¬((0:Int)<(v1:Int)):=by omega
            clear h4
            go_wp2
            exact⟨⟨u1,v1,a2,k2,rfl,rfl,by omega,by omega,HF⟩,by first|(simp[intOf];done)|(simp[intOf];omega)⟩
           .go_wp2
            exact⟨⟨u1,v1,a2,k2,rfl,rfl,by omega,by omega,HF⟩,by first|(simp[intOf];done)|(simp[intOf];omega)⟩
        .go_wp2
         clear h3
         go_loopw [20,24] (λo2 o4 wx=>∃ v1 j a k:Nat,o2=.int .i64 (v1:Nat)/\o4=.int .i64 (j:Nat)/\v1<=15/\j<=7/\Hid (US t w wx u1 v1 a k/\I2 t.x t.y v j u1 v1 a k)) (λo2 _ _=>(intOf o2).toNat)
         case atStart=>exact⟨v,0,a1,k1,rfl,rfl,RN,Nat.zero_le _,HX.out.1,⟨Nat.add_zero _,Nat.zero_le _,.inl ⟨rfl,HX.out.2.1⟩⟩⟩
         case round =>
          obtain⟨v1,j,a2,k2,rfl,rfl,hv1,hj7,hI⟩:=hrel
          have Fu:Hid (u1+i=u/\(i=t.x\/u1=0)):=HX.out.2.2
          clear HX
          by_cases hin:j<t.y/\0<v1
          .have HS:=Av hI.out.1 hI.out.2 hin.1 hin.2
           obtain⟨hc,hc2⟩:=hin
           clear hI Fu
           obtain⟨s,rfl⟩:∃ s,v1=s+1:=⟨v1-1,by omega⟩
           go_wp2_with fail
           refine HS.mono ?_
           rintro e w9 ⟨rfl,k3,z1,z2⟩
           have HF:Hid (US t w w9 u1 s 1 k3/\I2 t.x t.y v (j+1) u1 s 1 k3):=⟨z1,z2⟩
           clear HS z1 z2
           go_wp2
           exact⟨⟨s,j+1,1,k3,gQ (by omega),by go_num,by omega,by omega,HF⟩,by first|(simp[intOf];done)|(simp[intOf];omega)⟩
          .have hle:=hI.out.2.2.1
           have hv2:=hI.out.2.1
           have hx2:=Fu.out
           have hor2:=HOR.out
           have HF:Hid (US t w wr u1 v1 a2 k2/\JJ t.x t.y u1 v1 a2 k2):=⟨hI.out.1,uL hI.out.2 hy1 (by omega)⟩
           have hmm:u1+v1<u+v:=by omega
           have hex:(j<t.y/\v1=0)\/¬j<t.y:=by omega
           clear hI hin hle hv2 hx2 hor2 Fu
           rcases hex with ⟨h3,h4⟩|h3
           .have t3:¬((0:Int)<(v1:Int)):=by omega
            clear h4
            go_wp2
            exact⟨⟨u1,v1,a2,k2,rfl,rfl,by omega,by omega,HF⟩,by first|(simp[intOf];done)|(simp[intOf];omega)⟩
           .go_wp2
            exact⟨⟨u1,v1,a2,k2,rfl,rfl,by omega,by omega,HF⟩,by first|(simp[intOf];done)|(simp[intOf];omega)⟩
end Go.Proofs.aD
namespace Go.Proofs.aD
open ah ak aj Go.RowKit
open ay (jc)
theorem Kl(HN:jc)(g0 g1 g2 g3 lb sp a b:Int)(w:World)(ha:-9223372036854775808<=a/\a<=9223372036854775807)(hb:-9223372036854775808<=b/\b<=9223372036854775807):Calls (PB prog false) 3 #[.agg #[.int .i64 g0,.int .i64 g1,.int .i64 g2,.int .i64 g3],.int .i64 lb,.int .i64 sp,.int .i64 a,.int .i64 b] w λe w'=>e=.returned (.bool true)/\Below w.heap.size w w':=by
 rcases ay.RP g0 g1 g2 g3 lb sp with h|⟨g,rfl,rfl,rfl,rfl,rfl,rfl,hG,hck⟩
 .exact MJ HN g0 g1 g2 g3 lb sp a b w h
 .exact Ki HN g a b w hG hck ha hb
end Go.Proofs.aD
namespace Go.Proofs.YthbndfpeffcigaaGreatDoor
open Go Go.Conc Go.RowKit
theorem Kg{W:World}{g0 g1 g2 g3 lb sp a b:Int}(hs:W.ShapedOpen prog)(hE:W.cell? ⟨0,0,none⟩=some (.iface 211 (.agg #[.pointer (some ⟨1,27,none⟩)])))(ha:-9223372036854775808<=a/\a<=9223372036854775807)(hb:-9223372036854775808<=b/\b<=9223372036854775807) :
 ∃ N last o w' t',runNT prog (N+1) (solo (G (Frame.enter prog 3 #[.agg #[.int .i64 g0,.int .i64 g1,.int .i64 g2,.int .i64 g3],.int .i64 lb,.int .i64 sp,.int .i64 a,.int .i64 b] .normal) []) W) #[]=(.ended o w',t')/\runN prog N (solo (G (Frame.enter prog 3 #[.agg #[.int .i64 g0,.int .i64 g1,.int .i64 g2,.int .i64 g3],.int .i64 lb,.int .i64 sp,.int .i64 a,.int .i64 b] .normal) []) W)=.next last/\step prog last=.ended o w' /\
   Go.Conc.Good prog (λv w'=>v=.bool true/\Below W.heap.size W w') last o w' t':=by
 obtain⟨C,hC⟩:∃ C:List Cp,C=[]:=⟨_,rfl⟩
 obtain⟨hg,hG⟩:=CS hs hE
 obtain⟨fns,RQ⟩:∃ fns,fns=jM prog.funcs (CU W C) (MP W C) (abp W C):=⟨_,rfl⟩
 have hlo:fns.lo=CU W C:=by rw[RQ];rfl
 have hpt:fns.pt=MP W C:=by rw[RQ];rfl
 have abq:∀ (k:Nat) (d:Cp),C[k]?=some d->abr W C fns (PB prog false).globals.size d:=λk d hd=>by rw[hC] at hd;cases hd
 have hwr:WR (PB prog false) fns (RU W C) (ghZ W C) (ghW W C) W:=abt W C hlo hpt (λ_=>⟨by rw[hC];exact Nat.zero_le _,RV⟩) hg abq
 have hargs:aV fns (RU W C) #[.agg #[.int .i64 g0,.int .i64 g1,.int .i64 g2,.int .i64 g3],.int .i64 lb,.int .i64 sp,.int .i64 a,.int .i64 b] #[.agg #[.int .i64 g0,.int .i64 g1,.int .i64 g2,.int .i64 g3],.int .i64 lb,.int .i64 sp,.int .i64 a,.int .i64 b]:=by
  refine⟨rfl,λi h _=>?_⟩
  simp only[List.size_toArray,List.length_cons,List.length_nil] at h
  match i,h with
  |0,_=>exact WW _ _ _ _
  |1,_=>exact aH rfl
  |2,_=>exact aH rfl
  |3,_=>exact aH rfl
  |4,_=>exact aH rfl
 have hgs:∀ g,fns.gl g=true->RU W C g g/\fns.pt g=true:=λg hg=>by rw[RQ] at hg;cases hg
 have oL:=nL hargs hgs hwr
 have hk0:K0 0 W.heap[(0:Nat)]? (RU W C) (λ_=>False) W:=MQ (Nat.lt_of_le_of_lt (Nat.zero_le _) hg) λk d hd e=>by have:=(abq k d hd _ e).1;omega
 subst RQ
 obtain⟨N,last,o,w',t',r1,r2,r3,r4⟩:=Km (P:=(PB prog false)) (Ko:=(jM prog.funcs (CU W C) (MP W C) (abp W C)).own (PB prog false)) (Q:=λv _=>v=.bool true) (f:=3) (r:=10) (Kq _ _ _ _) (l5 _ _ _) vC (MR _ _ _) (uM _ _ _) (WX _ _ _ _ (WY hE)) (by kernel_rfl) ah.Al.func3 Tryz.results3 (by kernel_rfl) rfl rfl rfl hargs hwr hgs oL hk0 (λt d=>(aD.Kl ay.lib.nw g0 g1 g2 g3 lb sp a b _ ha hb).mono λe w' h=>⟨_,h.1,rfl⟩)
 refine⟨N,last,o,w',t',r1,r2,r3,r4.mono λv h=>⟨?_,MS ⟨h.2.1,λb hb=>h.2.2.1 b hb λa x=>CW W C x,h.2.2.2⟩⟩⟩
 obtain⟨E1,v0,dW,rfl,hv,_⟩:=h.1
 exact j4.1 hv
