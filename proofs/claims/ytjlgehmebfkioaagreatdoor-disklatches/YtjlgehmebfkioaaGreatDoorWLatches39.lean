/- Part of the proof. -/
import Derived.Test.YtjlgehmebfkioaaGreatDoorZ38
set_option maxRecDepth 100000
open Go.Proofs.Tryz (prog)
open Go.Proofs.ah.Al (PB)
set_option maxHeartbeats 16000000
set_option linter.unusedVariables false
namespace Go.Proofs.ah.Al
open Go
variable {b:Bool}
theorem func4:FB b 4 Tryz.f4:=fB Tryz.func4 (by decide)
theorem func15:FB b 15 Tryz.f15:=fB Tryz.func15 (by decide)
theorem call15:CB b 15:=λ_ _=>by cases b<;>kernel_rfl
theorem call17:CB b 17:=λ_ _=>by cases b<;>kernel_rfl
attribute [simp] func4 func15 call15 call17
end Go.Proofs.ah.Al
namespace Go.Proofs.aA
open ah au aj Go.RowKit aB aD ah
theorem aaP(c:Int)(n:Nat)(w:World)(h1:1<=n)(h2:n<=4611686018427387904)(hc:-9223372036854775808<=c/\c<=9223372036854775807) :
 Calls (PB prog false) 15 #[.int .i64 c,.int .i64 n] w λe w'=>(∃ k:Nat,k<n/\e=.returned (.int .i64 (k:Nat)))/\w'=w:=by
 have hn0:¬((n:Int)=0):=by omega
 by_cases h0:0<=c
 .obtain⟨m,rfl⟩:=Int.eq_ofNat_of_zero_le h0
  have HK:Hid (m%n<n):=Nat.mod_lt _ h1
  go_enter Al.func15,Tryz.ntmps15
  go_wp2
  go_ret
  exact⟨⟨m%n,HK.out,by go_num⟩,rfl⟩
 .obtain⟨m,hm⟩:=Int.eq_ofNat_of_zero_le (show 0<=-(c+1) by omega)
  have hc':c=-((m:Int)+1):=by omega
  subst hc'
  have HK:Hid (m%n<n):=Nat.mod_lt _ h1
  have hneg:-((m:Int)+1)<0:=by omega
  clear hm h0
  go_enter Al.func15,Tryz.ntmps15
  go_wp2
  go_ret
  refine⟨⟨m%n,HK.out,?_⟩,rfl⟩
  congr 2
  rw[show -((m:Int)+1)+1=-(m:Int) by omega,Int.neg_tmod,Int.neg_neg,Int.tmod_eq_emod_of_nonneg (by omega)]
  simp
theorem abg{w1 w:World}{g:Gm}{n db nb:Nat}{V:Nat->List Nat}{bad bf:Nat}(h:PN w1 w g n db nb V bad bf):Calls (PB prog false) 16 #[.pointer (some ⟨db,0,none⟩)] w λe w'=>e=.returned (.tuple #[.int .i64 (bad:Nat),.bool (Lt g bad),.bool false])/\PN w1 w' g n db nb V bad bf/\Below w.heap.size w w' :=
 (fI (h.begin (Below.refl _ _))).mono λe w' ⟨q0,q1,q2⟩=>⟨q0,q1.fin,q2⟩
theorem aaQ(c:iQ)(N:Nat):cu N c<=N:=by
 unfold cu
 induction N with
 |zero=>exact Nat.le_refl _
 |succ n ih =>
  show jr _ n+(if c.bad n=true then 1 else 0)<=n+1
  split<;>omega
theorem PN.few{w1 w:World}{g:Gm}{n db nb:Nat}{V:Nat->List Nat}{bad bf:Nat}(h:PN w1 w g n db nb V bad bf):bad<=64:=by
 obtain⟨R,⟨x,⟨a,_,hdk,_⟩,hq⟩,_⟩:=h
 have h1:=hq.bd
 have h2:=hdk.iP.n.2
 have h3:cu (g.D*g.B) (bT x.s)<=g.D*g.B:=aaQ _ _
 rcases hq.st with e|e
 .have:=e.nb;omega
 .have:=e.nb;omega
theorem aaR{w1 w:World}{g:Gm}{n db nb:Nat}{V:Nat->List Nat}{bad bf:Nat}(h:PN w1 w g n db nb V bad bf)(k:Nat)(hk:k<=1000000):Calls (PB prog false) 17 #[.pointer (some ⟨db,0,none⟩),.int .i64 (k:Nat)] w λe w'=>e=.returned (.tuple #[])/\PN w1 w' g n db nb V bad (bad+k):=by
 have hf:=h.few
 obtain⟨R,h1,h2,h3,h4,h5⟩:=h
 refine(adY h1 k (by omega) (by omega)).mono ?_
 rintro e w' ⟨rfl,q1,q2⟩
 rw[Int.toNat_natCast] at q1
 exact⟨rfl,R,q1,λb e=>Nat.lt_of_lt_of_le (h2 b e) q2.size,h3,h4.keep q2 (λb e e2=>e2 e) (h2 _ h4.own),h5.trans (lD q2 h5.size h3)⟩
theorem aaS(HL:Lib)(g0 g1 g2 g3 lb sp:Int)(a:Option Addr)(n cap:Nat)(w:World)(h:GZ g0 g1 g2 g3 lb sp):Calls (PB prog false) 4 #[.agg #[.int .i64 g0,.int .i64 g1,.int .i64 g2,.int .i64 g3],.int .i64 lb,.int .i64 sp,.slice a n cap] w λe w'=>e=.returned (.bool true)/\Below w.heap.size w w':=by
 have HN:Hid (∀ W,Calls (PB prog false) 10 #[.agg #[.int .i64 g0,.int .i64 g1,.int .i64 g2,.int .i64 g3],.int .i64 lb,.int .i64 sp] W λe w'=>∃ c:Nat,c≠0/\e=.returned (.tuple #[.pointer none,.iface 31 (.int .i64 (c:Nat))])/\Below W.heap.size W w'):=λW=>G5 W h
 clear h
 go_enter Al.func4,Tryz.ntmps4
 go_wp2_with fail
 refine(Ee HL _).mono ?_
 rintro e w1 ⟨rfl,hb1⟩
 have hg:=λo=>hb1.cell (p:=⟨w.heap.size,o,none⟩) (by simp)
 have k0:=hg 0
 have k1:=hg 1
 have k2:=hg 2
 have k3:=hg 3
 simp at k0 k1 k2 k3
 have HB:Hid (Below w.heap.size w w1):=(aC w _).trans (hb1.mono (aC w _).size)
 clear hb1 hg
 go_wp2_with fail
 refine(HN.out _).mono ?_
 rintro e w2 ⟨c,hc,rfl,hb2⟩
 have HB2:Hid (Below w.heap.size w w2):=HB.out.trans (hb2.mono HB.out.size)
 clear hb2 HB HN
 go_wp2
 go_ret
 exact⟨rfl,HB2.out⟩
theorem aaT(HL:Lib)(g:Gm)(a:Option Addr)(n cap:Nat)(w:World)(hG:Geo g.D g.B g.P g.Y)(hck:qF g.D g.B g.P g.Y (g.L:Int) (g.spare:Int)=0)(hS:SL w a n)(hn:n<=10000000000000) :
 Calls (PB prog false) 4 #[.agg #[.int .i64 (g.D:Nat),.int .i64 (g.B:Nat),.int .i64 (g.P:Nat),.int .i64 (g.Y:Nat)],.int .i64 (g.L:Nat),.int .i64 (g.spare:Nat),.slice a n cap] w λe w'=>e=.returned (.bool true)/\Below w.heap.size w w':=by
 obtain⟨L,sp,e1,e2,hy24,hL1,hL2,hF⟩:=BF hG hck
 have hL1':1<=g.L:=by omega
 have hL2':g.L<=256:=by omega
 have hy1:=hG.y1
 have HQ:Hid (1<=g.L/\g.L<=256/\24<=g.Y/\g.Y<=277):=⟨hL1',hL2',by omega,by omega⟩
 have HN:Hid (∀ W,Calls (PB prog false) 10 #[.agg #[.int .i64 (g.D:Nat),.int .i64 (g.B:Nat),.int .i64 (g.P:Nat),.int .i64 (g.Y:Nat)],.int .i64 (g.L:Nat),.int .i64 (g.spare:Nat)] W λe w'=>∃ db,e=.returned (.tuple #[.pointer (some ⟨db,0,none⟩),.nilIface])/\CO g (λb=>b<W.heap.size) 0 w' db (λ_=>List.replicate (g.Y-21) 0)/\Below W.heap.size W w'):=λW=>Wj HL _ W hG hck (λb hb=>hb)
 have HS:Hid (∀ W,Below w.heap.size w W->SL W a n):=λW hW=>hS.below hW
 obtain⟨m,hm⟩:∃ m,g.Y-21=m:=⟨_,rfl⟩
 have hm1:m<=256:=by omega
 have HM:Hid (g.Y-21=m):=hm
 have HBL:=λW=>G6 g.L m W hL2' hm1
 clear hG hck hS e1 e2 hF hy24 hL1 hL2 hm hy1
 go_enter Al.func4,Tryz.ntmps4
 go_wp2_with fail
 refine(Ee HL _).mono ?_
 rintro e w1 ⟨rfl,hb1⟩
 have hg:=λo=>hb1.cell (p:=⟨w.heap.size,o,none⟩) (by simp)
 have k0:=hg 0
 have k1:=hg 1
 have k2:=hg 2
 have k3:=hg 3
 simp at k0 k1 k2 k3
 have HB:Hid (Below w.heap.size w w1):=(aC w _).trans (hb1.mono (aC w _).size)
 clear hb1 hg
 go_wp2_with fail
 refine(HN.out _).mono ?_
 rintro e w2 ⟨db,rfl,hco,hb2⟩
 have hsz:=NP hco
 rw[HM.out] at hsz
 obtain⟨aaN,hbad,hcl⟩:=hco.cl
 have H2:Hid (CL g (λb=>b<w1.heap.size) 0 w2 db (λ_=>List.replicate (g.Y-21) 0) aaN aaN/\Below w1.heap.size w1 w2):=⟨hcl,hb2⟩
 clear hco hcl hb2 HN k0 k1 k2 k3
 go_wp2_with fail
 refine hsz.mono ?_
 rintro e w3 ⟨rfl,rfl⟩
 clear hsz
 go_wp2_with fail
 refine(HBL _).mono ?_
 rintro e w4 ⟨na,R9,NLs,rfl,hbn⟩
 obtain⟨nb,rfl,hnb,hpn⟩:=hbn.pn H2.out.1 H2.out.2 HM.out hL1'
 have H4:Hid (∃ V bf,PN w1 w4 g 0 db nb V aaN bf):=⟨_,_,hpn⟩
 have HP:Hid (∀ (W:World) (V:Nat->List Nat) (bad bf i:Nat) (x y z:Int),PN w1 W g i db nb V bad bf->i<=10000000000000->Calls (PB prog false) 18 #[.pointer (some ⟨db,0,none⟩),.slice (some ⟨nb,0,none⟩) g.L R9,.agg #[.int .i64 x,.int .i64 y,.int .i64 z],.bool (Lt g bad)] W λe w'=>NJ e w1 w' g i db nb bad bf):=λW V bad bf i x y z hW hi=>K8 HL hW (cap:=R9) (by omega) HQ.out.2.2.1 HQ.out.2.2.2 hL2' hnb x y z
 have hl0:Lt g aaN=false:=decide_eq_false hbad
 have HL0:Hid (false=Lt g aaN/\(g.spare<aaN->(0:Nat)=aaN)):=⟨hl0.symm,λe=>absurd e hbad⟩
 clear hbn hpn H2 HBL hbad hl0
 go_wp2
 go_loopw [14,15,16] (λu v j wq=>∃ (i wo bad:Nat),i<=n/\u=.bool (Lt g bad)/\v=.int .i64 wo/\j=.int .i64 i/\wo<=bad/\Hid ((g.spare<bad->wo=bad)/\∃ V bf,PN w1 wq g i db nb V bad bf)) (λ_ _ j _=>n-(intOf j).toNat)
 case atStart=>exact⟨0,0,aaN,Nat.zero_le _,by rw[<-HL0.out.1],rfl,rfl,Nat.zero_le _,HL0.out.2,H4.out⟩
 case round =>
  obtain⟨i,wo,bad,hi,rfl,rfl,rfl,hwo,hR⟩:=hrel
  clear H4
  obtain⟨hwb,V,bf,hV⟩:=hR.out
  have aa2:=hV.few
  by_cases hlt:i<n
  .obtain⟨sg,so,ha,hsc⟩:=(HS.out wr (HB.out.trans (hV.dx.mono HB.out.size))).resolve_left (by omega)
   subst ha
   obtain⟨x,y,z,c0,c1,c2,hyb⟩:=hsc i hlt
   have HA:Hid (∀ o,PN w1 (wr.alloc o) g i db nb V bad bf):=λo=>hV.below (aC wr o)
   have HWB:Hid (g.spare<bad->wo=bad):=hwb
   clear hsc hV hR hwb
   by_cases hx:x=4\/x=5
   .rcases hx with rfl|rfl
    all_goals
     go_wp2
     exact⟨⟨i+1,wo,bad,by omega,rfl,rfl,by go_num,hwo,HWB.out,V,bf,(HA.out _).late (by omega)⟩,by simp[intOf];omega⟩
   .have hx4:¬x=4:=λe=>hx (Or.inl e)
    have hx5:¬x=5:=λe=>hx (Or.inr e)
    have hb4:(x==4)=false:=by simpa using hx4
    have hb5:(x==5)=false:=by simpa using hx5
    clear hx
    by_cases hx6:x=6
    .subst hx6
     have hpk:=λW=>aaP y 8 W (by omega) (by omega) hyb
     go_wp2_with fail
     refine(hpk _).mono ?_
     rintro e w5 ⟨⟨k,hk,rfl⟩,rfl⟩
     have hfl:=aaR (HA.out (.cells #[.int .i64 6,.int .i64 y,.int .i64 z] 38)) k (by omega)
     clear hpk HA
     go_wp2_with fail
     refine hfl.mono ?_
     rintro e w6 ⟨rfl,hp6⟩
     have H6:Hid (PN w1 w6 g (i+1) db nb V bad (bad+k)):=hp6.late (by omega)
     clear hfl hp6
     go_wp2
     exact⟨⟨i+1,wo,bad,by omega,rfl,rfl,by go_num,hwo,HWB.out,V,_,H6.out⟩,by simp[intOf];omega⟩
    .have hpl:=λo=>HP.out (wr.alloc o) V bad bf i x y z (HA.out o) (by omega)
     have hb6:(x==6)=false:=by simpa using hx6
     clear HA
     obtain⟨lt,ab8⟩:∃ lt,Lt g bad=lt:=⟨_,rfl⟩
     have HLT:Hid (Lt g bad=lt):=ab8
     rw[ab8] at hpl ⊢
     clear ab8
     go_wp2_with fail
     refine(hpl _).mono ?_
     rintro e w5 ⟨rfl,V',bad',hp5,hle,hsame⟩
     have hst:=abg hp5
     have aa3:=hp5.few
     obtain⟨lt2,hlt2⟩:∃ lt2,Lt g bad'=lt2:=⟨_,rfl⟩
     have HL2:Hid (Lt g bad'=lt2):=hlt2
     rw[hlt2] at hst
     have hgt:decide ((g.spare:Int)<(bad':Int))=lt2:=by rw[<-hlt2];unfold Lt;by_cases e:g.spare<bad'<;>simp[e]
     have hnlt:¬((bad':Int)<(wo:Int)):=by omega
     have heq:lt=true->wo=bad':=λe=>by
      have hsp:g.spare<bad:=of_decide_eq_true (HLT.out.trans e)
      rw[HWB.out hsp,hsame hsp]
     clear hpl hp5 hlt2
     have HQ2:Hid (wo<=bad'/\bad<=bad'):=⟨by omega,hle⟩
     go_wp2_with fail
     refine hst.mono ?_
     rintro e w6 ⟨rfl,hp6,-⟩
     have H6:Hid (∃ V bf,PN w1 w6 g (i+1) db nb V bad' bf):=⟨V',bf,hp6⟩
     clear hst hp6 hsame hle hwo HWB
     cases lt<;>cases lt2
     .have hsp2:¬((g.spare:Int)<(bad':Int)):=of_decide_eq_false hgt
      go_wp2
      exact⟨⟨i+1,bad',bad',by omega,by rw[HL2.out],rfl,by go_num,Nat.le_refl _,λ_=>rfl,H6.out⟩,by simp[intOf];omega⟩
     .have hsp2:(g.spare:Int)<(bad':Int):=of_decide_eq_true hgt
      go_wp2
      exact⟨⟨i+1,bad',bad',by omega,by rw[HL2.out],rfl,by go_num,Nat.le_refl _,λ_=>rfl,H6.out⟩,by simp[intOf];omega⟩
     .have hsp2:¬((g.spare:Int)<(bad':Int)):=of_decide_eq_false hgt
      have hsp1:g.spare<bad:=of_decide_eq_true HLT.out
      have:=HQ2.out.2
      omega
     .have hsp2:(g.spare:Int)<(bad':Int):=of_decide_eq_true hgt
      obtain rfl:=heq rfl
      go_wp2
      exact⟨⟨i+1,wo,wo,by omega,by rw[HL2.out],rfl,by go_num,Nat.le_refl _,λ_=>rfl,H6.out⟩,by simp[intOf];omega⟩
  .obtain rfl:i=n:=by omega
   have hal:=R_ HL (cap:=R9) hV (by omega) HQ.out.2.2.2 hL2'
   have HE:Hid (Below w.heap.size w wr):=HB.out.trans (hV.dx.mono HB.out.size)
   clear hV hR
   go_wp2_with fail
   refine hal.mono ?_
   rintro e w7 ⟨rfl,Wm⟩
   have HE7:Hid (Below w.heap.size w w7):=HE.out.trans (Wm.mono HE.out.size)
   clear hal Wm HE
   go_wp2
   go_ret
   exact⟨rfl,HE7.out⟩
theorem aaU(HL:Lib)(g0 g1 g2 g3 lb sp:Int)(a:Option Addr)(n cap:Nat)(w:World)(hS:SL w a n)(hn:n<=10000000000000):Calls (PB prog false) 4 #[.agg #[.int .i64 g0,.int .i64 g1,.int .i64 g2,.int .i64 g3],.int .i64 lb,.int .i64 sp,.slice a n cap] w λe w'=>e=.returned (.bool true)/\Below w.heap.size w w':=by
 rcases Sb g0 g1 g2 g3 lb sp with h|⟨g,rfl,rfl,rfl,rfl,rfl,rfl,hG,hc⟩
 .exact aaS HL g0 g1 g2 g3 lb sp a n cap w h
 .exact aaT HL g a n cap w hG hc hS hn
end Go.Proofs.aA
namespace Go.Proofs.YtjlgehmebfkioaaGreatDoor
open Go Go.Conc Go.RowKit
theorem aaV{W:World}{pa:Option Addr}{len cap:Nat}{z:Nat->Int}{g0 g1 g2 g3 lb sp:Int}(hs:W.ShapedOpen prog)(hE:W.cell? ⟨0,0,none⟩=some (.iface 160 (.agg #[.pointer (some ⟨1,28,none⟩)])))(hle:len<=cap)(hN:NIn W pa (cap*3) z)(hn:len<=10000000000000) :
 ∃ N last o w' t',runNT prog (N+1) (solo (G (Frame.enter prog 4 #[.agg #[.int .i64 g0,.int .i64 g1,.int .i64 g2,.int .i64 g3],.int .i64 lb,.int .i64 sp,.slice pa len cap] .normal) []) W) #[]=(.ended o w',t')/\runN prog N (solo (G (Frame.enter prog 4 #[.agg #[.int .i64 g0,.int .i64 g1,.int .i64 g2,.int .i64 g3],.int .i64 lb,.int .i64 sp,.slice pa len cap] .normal) []) W)=.next last/\step prog last=.ended o w' /\
   Go.Conc.Good prog (λv w'=>v=.bool true/\Below W.heap.size W w') last o w' t':=by
 obtain⟨C,hC⟩:∃ C,C=[mh W pa (cap*3)]:=⟨_,rfl⟩
 have hC0:C[0]?=some (mh W pa (cap*3)):=by rw[hC];rfl
 obtain⟨hg,hG⟩:=Ei hs hE
 obtain⟨fns,Sc⟩:∃ fns,fns=jR prog.funcs (BG W C) (NQ W C) (abh W C):=⟨_,rfl⟩
 have hlo:fns.lo=BG W C:=by rw[Sc];rfl
 have hpt:fns.pt=NQ W C:=by rw[Sc];rfl
 have abj:∀ (k:Nat) (d:Cp),C[k]?=some d->Xe W C fns (PB prog false).globals.size d:=Xf hN hG hC
 have hwr:WR (PB prog false) fns (RY W C) (ghZ W C) (Si W C) W:=abk W C hlo hpt (λ_=>⟨by rw[hC];exact Nat.le_refl _,Sj⟩) hg abj
 have hargs:aU fns (RY W C) #[.agg #[.int .i64 g0,.int .i64 g1,.int .i64 g2,.int .i64 g3],.int .i64 lb,.int .i64 sp,.slice (gpa W.heap.size pa cap) len cap] #[.agg #[.int .i64 g0,.int .i64 g1,.int .i64 g2,.int .i64 g3],.int .i64 lb,.int .i64 sp,.slice pa len cap]:=by
  refine⟨rfl,λi h _=>?_⟩
  simp only[List.size_toArray,List.length_cons,List.length_nil] at h
  match i,h with
  |0,_=>exact Xg _ _ _ _
  |1,_=>exact aG rfl
  |2,_=>exact aG rfl
  |3,_=>exact K9 hlo hN hC0 hle
 have hgs:∀ g,fns.gl g=true->RY W C g g/\fns.pt g=true:=λg hg=>by rw[Sc] at hg;cases hg
 have o_:=oq hargs hgs hwr
 have hk0:K0 0 W.heap[(0:Nat)]? (RY W C) (λ_=>False) W:=NS (Nat.lt_of_le_of_lt (Nat.zero_le _) hg) λk d hd e=>by have:=(abj k d hd _ e).1;omega
 subst Sc
 obtain⟨N,last,o,w',t',r1,r2,r3,r4⟩:=K_ (P:=(PB prog false)) (La:=(jR prog.funcs (BG W C) (NQ W C) (abh W C)).own (PB prog false)) (Q:=λv _=>v=.bool true) (f:=4) (r:=8) (Lb _ _ _ _) (mq _ _ _) vZ (NT _ _ _) (vI _ _ _) (Xh _ _ _ _ (Xi hE)) (by kernel_rfl) ah.Al.func4 Tryz.results4 (by kernel_rfl) rfl rfl rfl hargs hwr hgs o_ hk0 (λt d=>(aA.aaU aA.lib g0 g1 g2 g3 lb sp _ len cap _ (NU hN hC0 hle t d) hn).mono λe w' h=>⟨_,h.1,rfl⟩)
 refine⟨N,last,o,w',t',r1,r2,r3,r4.mono λv h=>⟨?_,NW ⟨h.2.1,λb hb=>h.2.2.1 b hb λa x=>Ej W C x,h.2.2.2⟩⟩⟩
 obtain⟨E1,v0,eG,rfl,hv,_⟩:=h.1
 exact mD.1 hv
