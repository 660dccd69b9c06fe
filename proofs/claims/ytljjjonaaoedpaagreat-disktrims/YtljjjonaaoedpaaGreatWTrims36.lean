/- Part of the proof. -/
import Derived.Test.YtljjjonaaoedpaaGreatZ35
set_option maxHeartbeats 16000000
set_option linter.unusedVariables false
namespace Go.Proofs.aB
open Tryz (prog)
open ah
open ay
open ak
open Go.RowKit aC aG ah
set_option maxRecDepth 100000 in
theorem Jy(HL:Lib)(g0 g1 g2 g3 lb sp q:Int)(a:Option Addr)(n cap:Nat)(w:World)(h:CJ g0 g1 g2 g3 lb sp):Calls (Al.PB prog false) 4 #[.agg #[.int .i64 g0,.int .i64 g1,.int .i64 g2,.int .i64 g3],.int .i64 lb,.int .i64 sp,.slice a n cap,.int .i64 q] w λe w'=>e=.returned (.bool true)/\Below w.heap.size w w':=by
 have HN:Hid (∀ W,Calls (Al.PB prog false) 6 #[.agg #[.int .i64 g0,.int .i64 g1,.int .i64 g2,.int .i64 g3],.int .i64 lb,.int .i64 sp] W λe w'=>∃ c:Nat,c≠0/\e=.returned (.tuple #[.pointer none,.iface 58 (.int .i64 (c:Nat))])/\Below W.heap.size W w'):=λW=>sS W h
 clear h
 go_enter Al.func4,Tryz.ntmps4
 go_wp2_with fail
 refine(sU HL _).mono ?_
 rintro e w1 ⟨rfl,hb1⟩
 have hg:=λo=>hb1.cell (p:=⟨w.heap.size,o,none⟩) (by simp)
 have k0:=hg 0
 have k1:=hg 1
 have k2:=hg 2
 have k3:=hg 3
 simp at k0 k1 k2 k3
 have HB:Hid (Below w.heap.size w w1):=(aA w _).trans (hb1.mono (aA w _).size)
 clear hb1 hg
 go_wp2_with fail
 refine(HN.out _).mono ?_
 rintro e w2 ⟨c,hc,rfl,hb2⟩
 have HB2:Hid (Below w.heap.size w w2):=HB.out.trans (hb2.mono HB.out.size)
 clear hb2 HB HN
 go_wp2
 go_ret
 exact⟨rfl,HB2.out⟩
def gQ(g:Gm)(k:Nat)(V:Nat->List Nat):Prop:=V k=List.replicate (g.Y-21) 0
theorem gQ.trim(g:Gm)(k:Nat)(V:Nat->List Nat):gQ g k (upd V k (List.replicate (g.Y-21) 0)):=upd_same _ _ _
theorem gQ.other{g:Gm}{k:Nat}{V:Nat->List Nat}(h:gQ g k V){y:Int}(l:List Nat)(c:Nat)(hy:y≠(k:Int))(hc:c=0->0<=y):gQ g k (if c=0 then upd V y.toNat l else V):=by
 by_cases e:c=0
 ·rw[if_pos e]
  have:=hc e
  unfold gQ
  rw[upd_ne _ _ _ _ (by omega)]
  exact h
 ·rw[if_neg e];exact h
theorem Gw{g:Gm}{y:Int}{m:Nat}(h:fu g y m=0):0<=y:=by
 unfold fu at h
 refine Classical.byContradiction λhn=>?_
 rw[if_pos (λe=>hn e.1)] at h
 cases h
set_option maxRecDepth 100000 in
theorem Gx(HL:Lib)(g:Gm)(q:Int)(a:Option Addr)(n cap:Nat)(w:World)(hG:Geo g.D g.B g.P g.Y)(hck:lH g.D g.B g.P g.Y (g.L:Int) (g.spare:Int)=0)(hS:SL w a n)(hn:n<=10000000000000)(hq:-9223372036854775808<=q/\q<=9223372036854775807) :
 Calls (Al.PB prog false) 4 #[.agg #[.int .i64 (g.D:Nat),.int .i64 (g.B:Nat),.int .i64 (g.P:Nat),.int .i64 (g.Y:Nat)],.int .i64 (g.L:Nat),.int .i64 (g.spare:Nat),.slice a n cap,.int .i64 q] w λe w'=>e=.returned (.bool true)/\Below w.heap.size w w':=by
 obtain⟨L,sp,e1,e2,hy24,hL1,hL2,hF⟩:=rV hG hck
 have hL1':1<=g.L:=by omega
 have hy1:=hG.y1
 have HN:Hid (∀ W,Calls (Al.PB prog false) 6 #[.agg #[.int .i64 (g.D:Nat),.int .i64 (g.B:Nat),.int .i64 (g.P:Nat),.int .i64 (g.Y:Nat)],.int .i64 (g.L:Nat),.int .i64 (g.spare:Nat)] W λe w'=>∃ db,e=.returned (.tuple #[.pointer (some ⟨db,0,none⟩),.nilIface])/\LS W w' g 0 db (λ_=>List.replicate (g.Y-21) 0)):=λW=>LS.new HL W hG hck
 have HP:Hid (∀ W,Calls (Al.PB prog false) 14 #[.int .i64 q,.int .i64 (g.L:Nat)] W λe w'=>(∃ k:Nat,k<g.L/\e=.returned (.int .i64 (k:Nat)))/\w'=W):=λW=>Jz q g.L W hL1' (by omega) hq
 have Y0:=hG.p0
 have hP1:=hG.p1
 have HS:Hid (∀ W,Below w.heap.size w W->SL W a n):=λW hW=>hS.below hW
 obtain⟨m,hm⟩:∃ m,g.Y-21=m:=⟨_,rfl⟩
 have hm1:m<=256:=by omega
 have HM:Hid (g.Y-21=m):=hm
 have HG:Hid (1<=g.L/\g.L<=256):=⟨hL1',by omega⟩
 have hmk:=Go.Proofs.ah.iP (zb:=false) m (by omega)
 clear hG hck hS hq e1 e2 hF hy24 hL1 hL2 hm hy1
 go_enter Al.func4,Tryz.ntmps4
 go_wp2_with fail
 refine(sU HL _).mono ?_
 rintro e w1 ⟨rfl,hb1⟩
 have hg:=λo=>hb1.cell (p:=⟨w.heap.size,o,none⟩) (by simp)
 have k0:=hg 0
 have k1:=hg 1
 have k2:=hg 2
 have k3:=hg 3
 simp at k0 k1 k2 k3
 have hlt:w.heap.size<w1.heap.size:=Nat.lt_of_lt_of_le (by simp) hb1.size
 have HB:Hid (Below w.heap.size w w1/\w1.cell? ⟨w.heap.size,2,none⟩=some (.int .i64 (g.P:Nat))/\w.heap.size<w1.heap.size):=⟨(aA w _).trans (hb1.mono (aA w _).size),k2,hlt⟩
 clear hb1 hg hlt
 go_wp2_with fail
 refine(HN.out _).mono ?_
 rintro e w2 ⟨db,rfl,hls⟩
 have H2:Hid (LS w1 w2 g 0 db (λ_=>List.replicate (g.Y-21) 0)):=hls
 have hsz:=CP hls.co
 rw[HM.out] at hsz
 clear hls HN k0 k1 k2 k3
 go_wp2_with fail
 refine hsz.mono ?_
 rintro e w3 ⟨rfl,rfl⟩
 clear hsz
 go_wp2_with fail
 refine(HP.out _).mono ?_
 rintro e w4 ⟨⟨k,hk,rfl⟩,rfl⟩
 clear HP
 go_wp2
 go_loopw [16] (λj wq=>∃ (i:Nat),i<=n/\j=.int .i64 i/\Hid (∃ V,LS w1 wq g i db V)) (λj _=>n-(intOf j).toNat)
 case atStart=>exact⟨0,Nat.zero_le _,rfl,_,H2.out⟩
 case round =>
  obtain⟨i,hi,rfl,hR⟩:=hrel
  clear H2
  obtain⟨V,hV⟩:=hR.out
  by_cases hlt:i<n
  ·obtain⟨sg,so,ha,hsc⟩:=(HS.out wr (HB.out.1.trans (hV.bU.mono (Nat.le_of_lt HB.out.2.2)))).resolve_left (by omega)
   subst ha
   obtain⟨x,y,z,c0,c1,c2,hyb⟩:=hsc i hlt
   have HA:Hid (LS w1 wr g i db V):=hV
   clear hsc hV hR
   by_cases hx:x=1
   ·subst hx
    go_wp2_with fail
    refine(pR z m _ (by omega)).mono ?_
    rintro e w5 ⟨ba,VJ,bl,rfl,hbk⟩
    have hbc:=hbk.bU.cell (p:=⟨wr.heap.size,1,none⟩) (by simp)
    simp at hbc
    have hwr:=HA.out.write HL (aA wr _) (by omega) hbk (by omega) y
    clear hbk HA c0 c1 c2
    go_wp2_with fail
    refine hwr.mono ?_
    rintro e w6 ⟨rfl,hls,-⟩
    have H6:Hid (∃ V,LS w1 w6 g (i+1) db V):=⟨_,hls⟩
    clear hls hwr hbc
    go_wp2
    exact⟨⟨i+1,by omega,by go_num,H6.out⟩,by simp[intOf];omega⟩
   ·go_wp2
    exact⟨⟨i+1,by omega,by go_num,_,(HA.out.below (aA wr _)).late (by omega)⟩,by simp[intOf];omega⟩
  ·obtain rfl:i=n:=by omega
   have htr:=hV.trim HL (by omega) (k:Int)
   have ht0:dA g (k:Int)=0:=if_neg (by simp;omega)
   rw[ht0,if_pos rfl,bO,Int.toNat_natCast] at htr
   clear hR hV hlt
   go_wp2_with fail
   refine htr.mono ?_
   rintro e w5 ⟨rfl,hls⟩
   have hfl:=hls.flush HL (by omega)
   clear htr hls ht0
   go_wp2_with fail
   refine hfl.mono ?_
   rintro e w6 ⟨rfl,hls⟩
   have hmt:=hls.mount HL (by omega) HG.out.1
   clear hfl hls
   go_wp2_with fail
   refine hmt.mono ?_
   rintro e w7 ⟨rfl,hls⟩
   have H7:Hid (∃ V,LS w1 w7 g (i+2+2*0) db V/\gQ g k V):=⟨_,hls.late (by omega),gQ.trim g k V⟩
   clear hmt hls V
   go_wp2
   go_loopw [21] (λj wq=>∃ (t:Nat),t<=i/\j=.int .i64 t/\Hid (∃ V,LS w1 wq g (i+2+2*t) db V/\gQ g k V)) (λj _=>i-(intOf j).toNat)
   case atStart=>exact⟨0,Nat.zero_le _,rfl,H7.out⟩
   case round =>
    obtain⟨t,ht,rfl,hR⟩:=hrel
    clear H7
    obtain⟨V,hV,RB⟩:=hR.out
    by_cases hlt:t<i
    ·obtain⟨sg,so,ha,hsc⟩:=(HS.out wr (HB.out.1.trans (hV.bU.mono (Nat.le_of_lt HB.out.2.2)))).resolve_left (by omega)
     subst ha
     obtain⟨x,y,z,c0,c1,c2,hyb⟩:=hsc t hlt
     have HA:Hid (LS w1 wr g (i+2+2*t) db V/\gQ g k V):=⟨hV,RB⟩
     clear hsc hV RB hR
     by_cases hx:x=1
     ·subst hx
      by_cases hyk:y=(k:Int)
      ·subst hyk
       go_wp2
       exact⟨⟨t+1,by omega,by go_num,V,(HA.out.1.below (aA wr _)).late (by omega),HA.out.2⟩,by simp[intOf];omega⟩
      ·have abE:(y != (k:Int))=true:=by simpa using hyk
       go_wp2_with fail
       refine(pR _ m _ (by omega)).mono ?_
       rintro e w5 ⟨ba,VJ,bl,rfl,hbk⟩
       have hbc:=hbk.bU.cell (p:=⟨wr.heap.size,1,none⟩) (by simp)
       have RD:=hbk.bU.cell (p:=⟨wr.heap.size,0,none⟩) (by simp)
       simp at hbc RD
       have hwr:=HA.out.1.write HL (aA wr _) (by omega) hbk (by omega) y
       have xR:wr.heap.size<w5.heap.size:=Nat.lt_of_lt_of_le (by simp) hbk.bU.size
       have VK:Hid (gQ g k (if fu g y m=0 then upd V y.toNat bl else V)):=HA.out.2.other bl _ hyk (λe=>Gw e)
       clear c0 c1 c2 hbk HA hyk
       go_wp2_with fail
       refine hwr.mono ?_
       rintro e w6 ⟨rfl,hls,hst⟩
       have c0:w6.cell? ⟨wr.heap.size,0,none⟩=some (.int .i64 1):=(World.cell?_of_block (w:=w5) (hst _ (Nat.le_refl _) xR)).trans RD
       have H6:Hid (∃ V,LS w1 w6 g (i+2+2*(t+1)) db V/\gQ g k V):=⟨_,hls.late (by omega),VK.out⟩
       clear hls hst hwr hbc RD VK xR
       go_wp2
       exact⟨⟨t+1,by omega,by go_num,H6.out⟩,by simp[intOf];omega⟩
     ·by_cases hx3:x=3
      ·subst hx3
       have hfl:=(HA.out.1.below (aA wr (.cells #[.int .i64 3,.int .i64 y,.int .i64 z] 33))).flush HL (by omega)
       have VK:Hid (gQ g k V):=HA.out.2
       clear HA
       go_wp2_with fail
       refine hfl.mono ?_
       rintro e w6 ⟨rfl,hls⟩
       have H6:Hid (∃ V,LS w1 w6 g (i+2+2*(t+1)) db V/\gQ g k V):=⟨_,hls.late (by omega),VK.out⟩
       clear hls hfl VK
       go_wp2
       exact⟨⟨t+1,by omega,by go_num,H6.out⟩,by simp[intOf];omega⟩
      ·go_wp2
       exact⟨⟨t+1,by omega,by go_num,V,(HA.out.1.below (aA wr _)).late (by omega),HA.out.2⟩,by simp[intOf];omega⟩
    ·obtain rfl:t=i:=by omega
     have Y1:Hid (∀ W nn,LS w1 W g nn db V->nn<=100000000000000->Calls (Al.PB prog false) 12 #[.pointer (some ⟨db,0,none⟩),.int .i64 (k:Nat)] W λe w'=>∃ gb,e=.returned (.tuple #[.slice (some ⟨gb,0,none⟩) m m,.nilIface])/\Row w' gb (List.replicate m 0)/\LS w1 w' g nn db V):=λW nn hW hnn=>by
      refine(CS HL hW.co hnn (k:Int)).mono ?_
      rintro e w' (⟨h0,_⟩|⟨j,hj,hj2,gb,rfl,hge,hrow,hb⟩)
      ·exact absurd (if_neg (by simp;omega)) h0
      ·obtain rfl:k=j:=by omega
       have hv:V k=List.replicate m 0:=by rw[RB,HM.out]
       rw[hv] at hrow ⊢
       exact⟨gb,by simp,hrow,hW.below hb⟩
     have Y2:Hid (∀ W gb,Row W gb (List.replicate m 0)->Calls (Al.PB prog false) 13 #[.slice (some ⟨gb,0,none⟩) m m,.slice (some ⟨W.heap.size,0,none⟩) m m] (W.alloc (.cells (Go.Proofs.ah.pJ m) 5)) λe w'=>e=.returned (.bool true)/\Below W.heap.size W w'):=λW gb hr=>by
      have hz:Row (W.alloc (.cells (Go.Proofs.ah.pJ m) 5)) W.heap.size (List.replicate m 0):=heap_alloc_new W _
      have hx:=mF (some ⟨gb,0,none⟩) (some ⟨W.heap.size,0,none⟩) (List.replicate m 0) (List.replicate m 0) m m (W.alloc (.cells (Go.Proofs.ah.pJ m) 5)) (by simp;omega) (by simp;omega) (gT (hr.below (aA _ _))) (gT hz)
      rw[decide_eq_true rfl,List.length_replicate] at hx
      refine hx.mono ?_
      rintro e w' ⟨rfl,hb⟩
      exact⟨rfl,(aA W _).trans (hb.mono (aA W _).size)⟩
     have hrd:=Y1.out wr _ hV (by omega)
     clear hR hV RB hlt
     go_wp2_with fail
     refine hrd.mono ?_
     rintro e w8 ⟨gb,rfl,hrow,hls⟩
     have hby:=Y2.out w8 gb hrow
     have H8:Hid (LS w1 w8 g (t+2+2*t) db V):=hls
     clear hrd hrow hls
     go_wp2_with fail
     refine hby.mono ?_
     rintro e w9 ⟨rfl,Nh⟩
     have H9:Hid (LS w1 w9 g (t+2+2*t) db V):=H8.out.below Nh
     have cP:w9.cell? ⟨w.heap.size,2,none⟩=some (.int .i64 (g.P:Nat)):=(H9.out.bU.cell (p:=⟨w.heap.size,2,none⟩) HB.out.2.2).trans HB.out.2.1
     clear hby Nh H8
     by_cases hP2:(g.P:Int)<2
     ·have HE:Hid (Below w.heap.size w w9):=HB.out.1.trans (H9.out.bU.mono (Nat.le_of_lt HB.out.2.2))
      clear H9 Y1 Y2
      go_wp2
      go_ret
      exact⟨rfl,HE.out⟩
     ·have hmt:=H9.out.mount HL (by omega) HG.out.1
      clear H9
      go_wp2_with fail
      refine hmt.mono ?_
      rintro e w10 ⟨rfl,hls⟩
      have hrd:=Y1.out w10 _ hls (by omega)
      clear hmt hls cP
      go_wp2_with fail
      refine hrd.mono ?_
      rintro e w11 ⟨gb2,rfl,hrow,hls⟩
      have hby:=Y2.out w11 gb2 hrow
      have Y3:Hid (Below w.heap.size w w11):=HB.out.1.trans (hls.bU.mono (Nat.le_of_lt HB.out.2.2))
      clear hrd hrow hls
      go_wp2_with fail
      refine hby.mono ?_
      rintro e w12 ⟨rfl,VL⟩
      have HE:Hid (Below w.heap.size w w12):=Y3.out.trans (VL.mono Y3.out.size)
      clear hby VL Y3
      go_wp2
      go_ret
      exact⟨rfl,HE.out⟩
theorem Gy(HL:Lib)(g0 g1 g2 g3 lb sp q:Int)(a:Option Addr)(n cap:Nat)(w:World)(hS:SL w a n)(hn:n<=10000000000000)(hq:-9223372036854775808<=q/\q<=9223372036854775807):Calls (Al.PB prog false) 4 #[.agg #[.int .i64 g0,.int .i64 g1,.int .i64 g2,.int .i64 g3],.int .i64 lb,.int .i64 sp,.slice a n cap,.int .i64 q] w λe w'=>e=.returned (.bool true)/\Below w.heap.size w w':=by
 rcases EK g0 g1 g2 g3 lb sp with h|⟨g,rfl,rfl,rfl,rfl,rfl,rfl,hG,hc⟩
 ·exact Jy HL g0 g1 g2 g3 lb sp q a n cap w h
 ·exact Gx HL g q a n cap w hG hc hS hn hq
end Go.Proofs.aB
namespace Go.Proofs.YtljjjonaaoedpaaGreat
open Tryz (prog)
open Go Go.Conc Go.RowKit
set_option maxRecDepth 20000 in
theorem Gt{W:World}{pa:Option Addr}{len cap:Nat}{z:Nat->Int}{g0 g1 g2 g3 lb sp q:Int}(hs:W.ShapedOpen prog)(hle:len<=cap)(hN:RF W pa (cap*3) z)(hn:len<=10000000000000)(hq:-9223372036854775808<=q/\q<=9223372036854775807) :
 ∃ N last o w' t',runNT prog (N+1) (solo (G (Frame.enter prog 4 #[.agg #[.int .i64 g0,.int .i64 g1,.int .i64 g2,.int .i64 g3],.int .i64 lb,.int .i64 sp,.slice pa len cap,.int .i64 q] .normal) []) W) #[]=(.ended o w',t')/\runN prog N (solo (G (Frame.enter prog 4 #[.agg #[.int .i64 g0,.int .i64 g1,.int .i64 g2,.int .i64 g3],.int .i64 lb,.int .i64 sp,.slice pa len cap,.int .i64 q] .normal) []) W)=.next last/\step prog last=.ended o w' /\
   Go.Conc.Good prog (λv w'=>v=.bool true/\Below W.heap.size W w') last o w' t':=by
 obtain⟨C,hC⟩:∃ C,C=[jw W pa (cap*3)]:=⟨_,rfl⟩
 have hC0:C[0]?=some (jw W pa (cap*3)):=by rw[hC];rfl
 obtain⟨hg,hG⟩:=qU hs
 obtain⟨fns,xS⟩:∃ fns,fns=iM prog.funcs (rO W C) (zT W C) (Np W C):=⟨_,rfl⟩
 have hlo:fns.lo=rO W C:=by rw[xS];rfl
 have hpt:fns.pt=zT W C:=by rw[xS];rfl
 have JA:∀ (k:Nat) (d:Cp),C[k]?=some d->Nq W C fns (ah.Al.PB prog false).globals.size d:=JB hN hG hC
 have hwr:WR (ah.Al.PB prog false) fns (EL W C) (Yn W C) (Ni W C) W:=QV W C hlo hpt (λ_=>⟨by rw[hC];exact Nat.le_refl _,EN⟩) hg JA
 have hargs:aT fns (EL W C) #[.agg #[.int .i64 g0,.int .i64 g1,.int .i64 g2,.int .i64 g3],.int .i64 lb,.int .i64 sp,.slice (RG W.heap.size pa cap) len cap,.int .i64 q] #[.agg #[.int .i64 g0,.int .i64 g1,.int .i64 g2,.int .i64 g3],.int .i64 lb,.int .i64 sp,.slice pa len cap,.int .i64 q]:=by
  refine⟨rfl,λi h _=>?_⟩
  simp only[List.size_toArray,List.length_cons,List.length_nil] at h
  match i,h with
  |0,_=>exact CU _ _ _ _
  |1,_=>exact aF rfl
  |2,_=>exact aF rfl
  |3,_=>exact vY hlo hN hC0 hle
  |4,_=>exact aF rfl
 have hgs:∀ g,fns.gl g=true->EL W C g g/\fns.pt g=true:=λg hg=>by rw[xS] at hg;cases hg
 have hst0:=mG hargs hgs hwr
 have hk0:K0 0 W.heap[0]? (EL W C) (λ_=>False) W:=zU (Nat.lt_of_le_of_lt (Nat.zero_le _) hg) λk d hd e=>by have:=(JA k d hd 0 e).1;omega
 subst xS
 obtain⟨N,last,o,w',t',r1,r2,r3,r4⟩:=vZ (P:=(ah.Al.PB prog false)) (CV:=(iM prog.funcs (rO W C) (zT W C) (Np W C)).own (ah.Al.PB prog false)) (Q:=λv _=>v=.bool true) (f:=4) (r:=10) (wo _ _ _ _) (kM _ _ _) sW (zV _ _ _) (rW _ _ _) (JD _ _ _ _ 0 W.heap[0]?) (by kernel_rfl) ah.Al.func4 Tryz.results4 (by kernel_rfl) rfl rfl rfl hargs hwr hgs hst0 hk0 (λt d=>(aB.Gy aB.lib g0 g1 g2 g3 lb sp q _ len cap _ (zW hN hC0 hle t d) hn hq).mono λe w' h=>⟨_,h.1,rfl⟩)
 refine⟨N,last,o,w',t',r1,r2,r3,r4.mono λv h=>⟨?_,zX ⟨h.2.1,λb hb=>h.2.2.1 b hb λa x=>wu W C x,h.2.2.2⟩⟩⟩
 obtain⟨E1,v0,dZ,rfl,hv,_⟩:=h.1
 exact jH.1 hv
