/- Part of the proof. -/
import Derived.Test.YthbndfpeffcigaaGreatDoorZ06
open Go.Proofs.Tryz (prog)
open Go.Proofs.ah.Al (PB)
set_option maxHeartbeats 3200000
set_option linter.unusedVariables false
namespace Go.Proofs.ah
open ak aj Go.RowKit
variable {p:List Nat}
variable {zb:Bool}
set_option linter.unusedVariables false
def rQ(w w':World)(e:Ending)(ys:List Nat):Prop:=∃ a cap,e=.returned (.slice a ys.length cap)/\dJ w' w.heap.size a cap ys/\Below w.heap.size w w'
set_option maxRecDepth 20000 in
theorem rH(x:Addr)(c:Nat)(ys:List Nat)(w:World)(hm:ys.length<=1048576)(hL:dz w (some x) ys) :
 Calls (PB prog zb) 56 #[.slice (some x) ys.length c] w λe w'=>rQ w w' e ys:=by
 have he:∀ w:World,(binOp .eql 32 (.slice (some x) ys.length c) (.slice none 0 0)).run (PB prog zb) w=.ok (.bool false) w:=λ_=>rfl
 have HA:Hid (Below w.heap.size w (w.alloc (.cells #[] 5))/\dz (w.alloc (.cells #[] 5)) (some x) ys):=⟨aC w _,hL.below (aC w _)⟩
 have HM:Hid (ys.length<=1048576):=hm
 clear hL hm
 go_enter Al.func56,Tryz.ntmps56
 go_wp2_with (at_builtin;refine vH rfl (.tmp 5) (.tmp 6) rfl w.heap.size (some ⟨w.heap.size,0,none⟩) 0 [] (by rfl) (AJ w w.heap.size [] (Nat.le_refl _) (by simp) _ rfl) (some x) c ys (by rfl) (λe=>by cases e) HA.out.2 ys rfl HM.out HA.out.1.size ?_)
 intro a1 c1 w1 hO hK
 have HR:Hid (dJ w1 w.heap.size a1 c1 ys/\Below w.heap.size w w1):=⟨hO,HA.out.1.trans (hK.below HA.out.1.size (λb hb=>by obtain⟨x,e,rfl⟩:=hb;cases e;exact Nat.le_refl _))⟩
 clear hO hK HA
 go_wp2
 go_ret
 exact⟨a1,c1,rfl,HR.out⟩
theorem iK{o k:Nat}(h:o+k<=p.length):(je p o k).length=k:=by unfold je;rw[List.length_take,List.length_drop];omega
theorem iL{o k:Nat}(h:bn p):bn (je p o k):=λx hx=>h x (List.mem_of_mem_drop (List.mem_of_mem_take hx))
theorem rR{w:World}{b off:Nat}(hc:∀ i,i<p.length->w.cell? ⟨b,off+i,none⟩=some (.int .u8 ((p[i]?.getD 0:Nat):Int)))(o k:Nat)(h:o+k<=p.length):∀ i,i<(je p o k).length->w.cell? ⟨b,off+o+i,none⟩=some (.int .u8 (((je p o k)[i]?.getD 0:Nat):Int)):=λi hi=>by
 rw[iK h] at hi
 have e:(je p o k)[i]?.getD 0=p[o+i]?.getD 0:=by unfold je;rw[List.getElem?_take,if_pos hi,List.getElem?_drop]
 rw[e,Nat.add_assoc]
 exact hc (o+i) (by omega)
theorem qz{w:World}{b:Nat}{k l s:Int}{a:Option Addr}{m c:Nat}(h:fT w b k l s a m c)(u0 u1 u2 u3:Value) :
 (w.setCell ⟨b,0,none⟩ u0).cell? ⟨b,0,none⟩=some u0/\((w.setCell ⟨b,0,none⟩ u0).setCell ⟨b,1,none⟩ u1).cell? ⟨b,1,none⟩=some u1 /\
 (((w.setCell ⟨b,0,none⟩ u0).setCell ⟨b,1,none⟩ u1).setCell ⟨b,2,none⟩ u2).cell? ⟨b,2,none⟩=some u2 /\
 ((((w.setCell ⟨b,0,none⟩ u0).setCell ⟨b,1,none⟩ u1).setCell ⟨b,2,none⟩ u2).setCell ⟨b,3,none⟩ u3).cell? ⟨b,3,none⟩=some u3:=by
 refine⟨World.cell?_setCell_same _ _ _ h.c0,World.cell?_setCell_same _ _ _ (u:=.int .i64 l) ?_,World.cell?_setCell_same _ _ _ (u:=.int .i64 s) ?_,World.cell?_setCell_same _ _ _ (u:=.slice a m c) ?_⟩
 .rw[far _ (by omega)];exact h.c1
 .rw[far _ (by omega),far _ (by omega)];exact h.c2
 .rw[far _ (by omega),far _ (by omega),far _ (by omega)];exact h.c3
abbrev F0:Value:=FV 0 0 0 none 0 0
theorem Dy(a:Option Addr)(n cap:Nat)(w:World)(h:¬(24<=(n:Int)/\(n:Int)<=4096)) :
 Calls (PB prog zb) 185 #[.slice a n cap] w λe w'=>e=.returned (.tuple #[F0,.bool false])/\Below w.heap.size w w':=by
 have HB:Hid (∀ o,Below w.heap.size w (w.alloc o)):=λo=>aC w o
 have hs:=λwx=>gX (zb:=zb) (n:Int) wx
 rw[AY h] at hs
 clear h
 go_enter Al.func185,Tryz.ntmps185
 go_wp2_with fail
 refine(hs _).mono ?_
 rintro e w1 ⟨rfl,rfl⟩
 go_wp2_with fail
 refine bodyPost_ret (v:=.tuple #[F0,.bool false]) (by simp[results,Tryz.results185,go_sem]) rfl ?_
 exact⟨rfl,HB.out _⟩
theorem Dz(a:Option Addr)(p:List Nat)(cap:Nat)(w:World)(h1:24<=p.length)(h2:p.length<=4096)(hcap:p.length<=cap)(hA:bn p)(hL:dz w a p)(h:¬bN p+21<=p.length) :
 Calls (PB prog zb) 185 #[.slice a p.length cap] w λe w'=>e=.returned (.tuple #[F0,.bool false])/\Below w.heap.size w w':=by
 obtain⟨b,off,rfl,hc⟩:=hL.dU (by omega)
 have HB:Hid (∀ o,Below w.heap.size w (w.alloc o)):=λo=>aC w o
 have hs:=λwx=>gX (zb:=zb) (p.length:Int) wx
 rw[mZ (by omega)] at hs
 have hlt:=mX (je p 14 2) (iL hA)
 rw[iK (by omega)] at hlt
 have hlt':bN p<65536:=hlt
 have aeF:∀ o c,Calls (PB prog zb) 195 #[.slice (some ⟨b,off+14,none⟩) 2 c] (w.alloc o) λe w'=>e=.returned (.int .i64 (bN p:Nat))/\w'=w.alloc o:=λo c=>by
  have:=vQ (zb:=zb) b (off+14) (je p 14 2) c (w.alloc o) (by rw[iK (by omega)];omega) (iL hA) (λi hi=>by
   have e:=rR hc 14 2 (by omega) i hi
   rw[(HB.out o).cell (p:=⟨b,off+14+i,none⟩) (World.block_lt_of_cell? w _ e)]
   exact e)
  rw[iK (by omega),jQ (by omega)] at this
  exact this
 have l16:(16:Int)<=(cap:Int):=by omega
 have n14:¬cap=14:=by omega
 generalize bN p=L at *
 have hl:(p.length:Int)-21<(L:Int):=by omega
 clear hc hL hlt h
 go_enter Al.func185,Tryz.ntmps185
 go_wp2_with fail
 refine(hs _).mono ?_
 rintro e w1 ⟨rfl,rfl⟩
 go_wp2_with fail
 refine(aeF _ _).mono ?_
 rintro e w1 ⟨rfl,rfl⟩
 go_wp2_with fail
 refine bodyPost_ret (v:=.tuple #[F0,.bool false]) (by simp[results,Tryz.results185,go_sem]) rfl ?_
 exact⟨rfl,HB.out _⟩
def NW(w w':World)(e:Ending)(p:List Nat):Prop:=∃ a c,e=.returned (.tuple #[FV (bE p:Nat) (bZ p:Nat) (wr (bR p)) a (bN p) c,.bool true])/\dJ w' w.heap.size a c (bY p)/\Below w.heap.size w w'
theorem m_(a:Option Addr)(p:List Nat)(cap:Nat)(w:World)(h1:24<=p.length)(h2:p.length<=4096)(hcap:p.length<=cap)(hA:bn p)(hL:dz w a p)(h:bN p+21<=p.length) :
 Calls (PB prog zb) 185 #[.slice a p.length cap] w λe w'=>NW w w' e p:=by
 obtain⟨b,off,rfl,hc⟩:=hL.dU (by omega)
 have HB:Hid (∀ o,Below w.heap.size w (w.alloc o)):=λo=>aC w o
 have hs:=λwx=>gX (zb:=zb) (p.length:Int) wx
 rw[mZ (by omega)] at hs
 have HN:Hid (∀ wx,Below w.heap.size w wx->∀ o k c,o+k<=p.length->k<=8->Calls (PB prog zb) 195 #[.slice (some ⟨b,off+o,none⟩) k c] wx λe w'=>e=.returned (.int .i64 (wr (num (je p o k))))/\w'=wx):=λwx hb o k c ho hk=>by
  have:=vQ (zb:=zb) b (off+o) (je p o k) c wx (by rw[iK ho];omega) (iL hA) (λi hi=>by
   have e:=rR hc o k ho i hi
   rw[hb.cell (p:=⟨b,off+o+i,none⟩) (World.block_lt_of_cell? w _ e)]
   exact e)
  rw[iK ho] at this
  exact this
 have HCl:Hid (∀ wx,Below w.heap.size w wx->∀ c,Calls (PB prog zb) 56 #[.slice (some ⟨b,off+20,none⟩) (bN p) c] wx λe w'=>rQ wx w' e (bY p)):=λwx hb c=>by
  have hL':dz wx (some ⟨b,off+20,none⟩) (bY p):=(show dz w (some ⟨b,off+20,none⟩) (bY p) from Or.inr ⟨b,off+20,rfl,rR hc 20 (bN p) (by omega)⟩).below hb
  have:=rH (zb:=zb) ⟨b,off+20,none⟩ c (bY p) wx (by rw[jK h];omega) hL'
  rw[jK h] at this
  exact this
 have hlt:=mX (je p 14 2) (iL hA)
 rw[iK (by omega)] at hlt
 have hlt':bN p<65536:=hlt
 have HBd:Hid (wr (num (je p 14 2))=(bN p:Nat)/\wr (num (je p 2 4))=(bZ p:Nat)/\(bY p).length=bN p):=⟨jQ (by show bN p<_;omega),jQ (by
  have:=mX (je p 2 4) (iL hA)
  rw[iK (by omega)] at this
  show bZ p<_
  have e:bZ p<4294967296:=this
  omega),jK h⟩
 have hc1:=λo=>((HB.out o).cell (p:=⟨b,off+1,none⟩) (World.block_lt_of_cell? w _ (hc 1 (by omega)))).trans (hc 1 (by omega))
 have hk:p[1]?.getD 0=bE p:=rfl
 rw[hk] at hc1
 have hk8:bE p<256:=hA.at 1
 have hbw:b<w.heap.size:=World.block_lt_of_cell? w ⟨b,off+1,none⟩ (hc 1 (by omega))
 have hne1:¬b=w.heap.size:=by omega
 have hne2:¬w.heap.size=b:=by omega
 obtain⟨NV,HNV⟩:∃ NV:Nat->Nat->Int,Hid (∀ o k,wr (num (je p o k))=NV o k):=⟨_,λ_ _=>rfl⟩
 have HN2:Hid (∀ wx,Below w.heap.size w wx->∀ o k c,o+k<=p.length->k<=8->Calls (PB prog zb) 195 #[.slice (some ⟨b,off+o,none⟩) k c] wx λe w'=>e=.returned (.int .i64 (NV o k))/\w'=wx):=λwx hb o k c ho hk=>by
  have:=HN.out wx hb o k c ho hk
  rw[HNV.out] at this
  exact this
 obtain⟨D,HDD⟩:∃ D,Hid (bY p=D):=⟨_,rfl⟩
 have HU:Hid (∀ w' a1 c1,dJ w' w.heap.size a1 c1 D->Below w.heap.size w w'->NW w w' (.returned (.tuple #[FV (bE p:Nat) (NV 2 4) (NV 6 8) a1 D.length c1,.bool true])) p):=λw' a1 c1 hO hB=>by
  rw[<-HDD.out] at hO
  refine⟨a1,c1,?_,hO,hB⟩
  rw[<-HNV.out,<-HNV.out,HBd.out.2.1,<-HDD.out,HBd.out.2.2]
  rfl
 have HNL:Hid (NV 14 2=(bN p:Nat)):=by
  have:=HBd.out.1
  rw[HNV.out] at this
  exact this
 have abO:Hid (∀ wx,Below w.heap.size w wx->∀ c,Calls (PB prog zb) 56 #[.slice (some ⟨b,off+20,none⟩) (bN p) c] wx λe w'=>rQ wx w' e D):=by
  rw[<-HDD.out]
  exact HCl.out
 clear HBd HN HNV HCl HDD
 generalize bN p=L at *
 generalize bE p=KK at *
 have l1:(1:Int)<(p.length:Int):=by omega
 have l6:(6:Int)<=(cap:Int):=by omega
 have l14:(14:Int)<=(cap:Int):=by omega
 have l16:(16:Int)<=(cap:Int):=by omega
 have n2:¬cap=2:=by omega
 have n6:¬cap=6:=by omega
 have n14:¬cap=14:=by omega
 have n20:¬cap=20:=by omega
 have hl:¬(p.length:Int)-21<(L:Int):=by omega
 have w20:IntKind.i64.wrap (20+(L:Int))=20+(L:Int):=by rw[IntKind.wrap_i64];omega
 have l20:(20:Int)<=20+(L:Int):=by omega
 have m20:20+(L:Int)<=(cap:Int):=by omega
 have t20:(20+(L:Int)).toNat=20+L:=by omega
 clear hc hL hlt h hA
 go_enter Al.func185,Tryz.ntmps185
 go_wp2_with fail
 refine(hs _).mono ?_
 rintro e w1 ⟨rfl,rfl⟩
 go_wp2_with fail
 refine(HN2.out _ (HB.out _) 14 2 _ (by omega) (by omega)).mono ?_
 rintro e w1 ⟨rfl,rfl⟩
 rw[HNL.out]
 have HZ:Hid (∀ w',Below (w.alloc (.cells #[.int .i64 0,.int .i64 0,.int .i64 0,.slice none 0 0] 293)).heap.size (w.alloc (.cells #[.int .i64 0,.int .i64 0,.int .i64 0,.slice none 0 0] 293)) w'->fT w' w.heap.size 0 0 0 none 0 0/\(∀ i,w'.frozen? ⟨w.heap.size,i,none⟩=false)):=λw' hb=>by
  have hh:(w.alloc (.cells #[.int .i64 0,.int .i64 0,.int .i64 0,.slice none 0 0] 293)).heap[w.heap.size]?=some (.cells #[.int .i64 0,.int .i64 0,.int .i64 0,.slice none 0 0] 293 (0,0)):=heap_alloc_new w _
  refine⟨(nT w 0 0 0 none 0 0).below hb,λi=>?_⟩
  have e:=hb.block w.heap.size (aR hh)
  rw[hh] at e
  exact eU e i
 have hcA:=hc1 (.cells #[.int .i64 0,.int .i64 0,.int .i64 0,.slice none 0 0] 293)
 have HD:Hid (Below w.heap.size w (w.alloc (.cells #[.int .i64 0,.int .i64 0,.int .i64 0,.slice none 0 0] 293))):=HB.out _
 have hnA:=HN2.out _ HD.out.drew
 have hcl:=abO.out _ HD.out.drew (cap-20)
 have HC1:Hid (∀ w',Below (w.alloc (.cells #[.int .i64 0,.int .i64 0,.int .i64 0,.slice none 0 0] 293)).drew.heap.size (w.alloc (.cells #[.int .i64 0,.int .i64 0,.int .i64 0,.slice none 0 0] 293)).drew w'->w'.cell? ⟨b,off+1,none⟩=some (.int .u8 (KK:Int))):=λw' hb=>by
  have:=hb.cell (p:=⟨b,off+1,none⟩) (World.block_lt_of_cell? _ _ (show (w.alloc (.cells #[.int .i64 0,.int .i64 0,.int .i64 0,.slice none 0 0] 293)).drew.cell? ⟨b,off+1,none⟩=_ from hcA))
  exact this.trans hcA
 have HQ:Hid (∀ w' a1 c1,dJ w' (w.alloc (.cells #[.int .i64 0,.int .i64 0,.int .i64 0,.slice none 0 0] 293)).drew.heap.size a1 c1 D->Below (w.alloc (.cells #[.int .i64 0,.int .i64 0,.int .i64 0,.slice none 0 0] 293)).drew.heap.size (w.alloc (.cells #[.int .i64 0,.int .i64 0,.int .i64 0,.slice none 0 0] 293)).drew w'->Hid (fT w' w.heap.size 0 0 0 none 0 0/\(∀ i,w'.frozen? ⟨w.heap.size,i,none⟩=false)/\dJ w' (w.heap.size+1) a1 c1 D/\Below w.heap.size w w')):=λw' a1 c1 hO hB=>by
  have hz:=HZ.out w' (((Below.refl _ _).drew).trans hB)
  refine⟨hz.1,hz.2,?_,HD.out.drew.trans (hB.mono HD.out.drew.size)⟩
  have e:(w.alloc (.cells #[.int .i64 0,.int .i64 0,.int .i64 0,.slice none 0 0] 293)).drew.heap.size=w.heap.size+1:=by simp
  rw[e] at hO
  exact hO
 have HKs:Hid (∀ (w':World) (u0 u1 u2 u3:Value),Keep (λq=>q=w.heap.size) w' ((((w'.setCell ⟨w.heap.size,0,none⟩ u0).setCell ⟨w.heap.size,1,none⟩ u1).setCell ⟨w.heap.size,2,none⟩ u2).setCell ⟨w.heap.size,3,none⟩ u3)):=λw' u0 u1 u2 u3 =>
  ((((Keep.refl (λq=>q=w.heap.size) w').set (p:=⟨w.heap.size,0,none⟩) rfl u0).set (p:=⟨w.heap.size,1,none⟩) rfl u1).set (p:=⟨w.heap.size,2,none⟩) rfl u2).set (p:=⟨w.heap.size,3,none⟩) rfl u3
 have HKp:Hid (∀ (w':World) (u0 u1 u2 u3:Value),w'.cell? ⟨b,off+1,none⟩=some (.int .u8 (KK:Int))->((((w'.setCell ⟨w.heap.size,0,none⟩ u0).setCell ⟨w.heap.size,1,none⟩ u1).setCell ⟨w.heap.size,2,none⟩ u2).setCell ⟨w.heap.size,3,none⟩ u3).cell? ⟨b,off+1,none⟩=some (.int .u8 (KK:Int))):=λw' u0 u1 u2 u3 hw=>by
  have hk:Keep (λq=>q=w.heap.size) w' ((((w'.setCell ⟨w.heap.size,0,none⟩ u0).setCell ⟨w.heap.size,1,none⟩ u1).setCell ⟨w.heap.size,2,none⟩ u2).setCell ⟨w.heap.size,3,none⟩ u3):=((((Keep.refl (λq=>q=w.heap.size) w').set (p:=⟨w.heap.size,0,none⟩) rfl u0).set (p:=⟨w.heap.size,1,none⟩) rfl u1).set (p:=⟨w.heap.size,2,none⟩) rfl u2).set (p:=⟨w.heap.size,3,none⟩) rfl u3
  rw[hk.cell (p:=⟨b,off+1,none⟩) (World.block_lt_of_cell? _ _ hw) hne1]
  exact hw
 have hKw:IntKind.i64.wrap (KK:Int)=(KK:Int):=by rw[IntKind.wrap_i64];omega
 clear hs hc1 HN2 abO HZ
 go_upto_region 6 with fail
 go_region_held3 (λw'=>w'.cell? ⟨b,off+1,none⟩=some (.int .u8 (KK:Int))) (first|exact hcA|assumption|exact HKp.out _ _ _ _ _ (by assumption)|go_keep) (first|(go_at_call 195;refine(hnA _ _ _ (by omega) (by omega)).mono ?_;rintro e w' ⟨rfl,rfl⟩)|(go_at_call 56;refine hcl.mono ?_;rintro e w' ⟨a1,c1,rfl,hO,hB⟩;have hcw:=HC1.out w' hB;have HR:=HQ.out w' a1 c1 hO hB;have q0:=HR.out.1.c0;have q1:=HR.out.1.c1;have q2:=HR.out.1.c2;have q3:=HR.out.1.c3;have f0:=HR.out.2.1 0;have f1:=HR.out.2.1 1;have f2:=HR.out.2.1 2;have f3:=HR.out.2.1 3;clear hO hB))
 go_wp2_with fail
 have hz:=qz HR.out.1 (.int .i64 (KK:Int)) (.int .i64 (NV 2 4)) (.int .i64 (NV 6 8)) (.slice a1 D.length c1)
 refine bodyPost_ret (v:=.tuple #[FV (KK:Nat) (NV 2 4) (NV 6 8) a1 D.length c1,.bool true]) (by simp[results,Tryz.results185,go_sem,hz.1,hz.2.1,hz.2.2.1,hz.2.2.2]) rfl ?_
 exact HU.out _ _ _ ((HR.out.2.2.1.keep (HKs.out w' _ _ _ _) (λq hq e=>by have:=(HR.out.2.2.1.ge hq).1;omega)).base (by omega)) (HR.out.2.2.2.trans ((HKs.out w' _ _ _ _).below HR.out.2.2.2.size (λq hq=>by have e:q=w.heap.size:=hq;omega)))
variable {zb:Bool}
set_option linter.unusedVariables false
abbrev bS:Obj:=.cells #[.int .i64 0,.int .i64 0,.int .i64 0,.slice none 0 0] 293
theorem uW{w w':World}(hb:Below (w.alloc bS).heap.size (w.alloc bS) w'):fT w' w.heap.size 0 0 0 none 0 0/\(∀ i,w'.frozen? ⟨w.heap.size,i,none⟩=false)/\Below w.heap.size w w':=by
 have hh:(w.alloc bS).heap[w.heap.size]?=some (.cells #[.int .i64 0,.int .i64 0,.int .i64 0,.slice none 0 0] 293 (0,0)):=heap_alloc_new w _
 refine⟨(nT w 0 0 0 none 0 0).below hb,λi=>?_,(aC w _).trans (hb.mono (aC w _).size)⟩
 have e:=hb.block w.heap.size (aR hh)
 rw[hh] at e
 exact eU e i
theorem zJ(w:World)(b:Nat)(u0 u1 u2 u3:Value):Keep (λq=>q=b) w ((((w.setCell ⟨b,0,none⟩ u0).setCell ⟨b,1,none⟩ u1).setCell ⟨b,2,none⟩ u2).setCell ⟨b,3,none⟩ u3) :=
 ((((Keep.refl (λq=>q=b) w).set (p:=⟨b,0,none⟩) rfl u0).set (p:=⟨b,1,none⟩) rfl u1).set (p:=⟨b,2,none⟩) rfl u2).set (p:=⟨b,3,none⟩) rfl u3
theorem jh{w w':World}(h:Below w.heap.size w w')(u0 u1 u2 u3:Value):Below w.heap.size w ((((w'.setCell ⟨w.heap.size,0,none⟩ u0).setCell ⟨w.heap.size,1,none⟩ u1).setCell ⟨w.heap.size,2,none⟩ u2).setCell ⟨w.heap.size,3,none⟩ u3) :=
 h.trans ((zJ w' w.heap.size u0 u1 u2 u3).below h.size (λq hq=>by have e:q=w.heap.size:=hq;omega))
theorem DJ(a:Option Addr)(p:List Nat)(cap:Nat)(w:World)(hm:p.length<=9223372036854775807)(hL:dz w a p)(h:dK p) :
 Calls (PB prog zb) 158 #[.slice a p.length cap] w λe w'=>e=.returned (.tuple #[F0,.int .i64 1])/\Below w.heap.size w w':=by
 have HB:Hid (∀ o,Below w.heap.size w (w.alloc o)):=λo=>aC w o
 have he:=λwx hx=>iJ (zb:=zb) true a p cap wx ⟨λ_=>h,λ_=>rfl⟩ hm hx
 have KW:Hid (∀ o,dz (w.alloc o) a p):=λo=>hL.below (aC w o)
 clear h hL
 go_enter Al.func158,Tryz.ntmps158
 go_wp2_with fail
 refine(he _ (KW.out _)).mono ?_
 rintro e w1 ⟨rfl,rfl⟩
 go_wp2_with fail
 refine bodyPost_ret (v:=.tuple #[F0,.int .i64 1]) (by simp[results,Tryz.results158,go_sem]) rfl ?_
 exact⟨rfl,HB.out _⟩
theorem DN(a:Option Addr)(p:List Nat)(cap:Nat)(w:World)(hm:p.length<=9223372036854775807)(hL:dz w a p)(h:¬dK p)
 (hU:∀ wx,dz wx a p->Calls (PB prog zb) 185 #[.slice a p.length cap] wx λe w'=>e=.returned (.tuple #[F0,.bool false])/\Below wx.heap.size wx w') :
 Calls (PB prog zb) 158 #[.slice a p.length cap] w λe w'=>e=.returned (.tuple #[F0,.int .i64 3])/\Below w.heap.size w w':=by
 have he:=λwx hx=>iJ (zb:=zb) false a p cap wx ⟨(λe=>by cases e),λe=>absurd e h⟩ hm hx
 have KW:Hid (∀ o,dz (w.alloc o) a p):=λo=>hL.below (aC w o)
 clear h hL
 go_enter Al.func158,Tryz.ntmps158
 go_wp2_with fail
 refine(he _ (KW.out _)).mono ?_
 rintro e w1 ⟨rfl,rfl⟩
 go_wp2_with fail
 refine(hU _ (KW.out _)).mono ?_
 rintro e w2 ⟨rfl,hb2⟩
 have H3:Hid (∀ o,Below (w.alloc bS).heap.size (w.alloc bS) (w2.alloc o)):=λo=>hb2.alloc hb2.size o
 have H4:Hid (∀ o,fT (w2.alloc o) w.heap.size 0 0 0 none 0 0/\(∀ i,(w2.alloc o).frozen? ⟨w.heap.size,i,none⟩=false)/\Below w.heap.size w (w2.alloc o)):=λo=>uW (H3.out o)
 clear hb2 hU he H3
 have q0:=λo=>(H4.out o).1.c0
 have q1:=λo=>(H4.out o).1.c1
 have q2:=λo=>(H4.out o).1.c2
 have q3:=λo=>(H4.out o).1.c3
 have f0:=λo=>(H4.out o).2.1 0
 have f1:=λo=>(H4.out o).2.1 1
 have f2:=λo=>(H4.out o).2.1 2
 have f3:=λo=>(H4.out o).2.1 3
 go_wp2_with fail
 have hz:=qz (H4.out (qy 0 0 0 none 0 0)).1 (.int .i64 0) (.int .i64 0) (.int .i64 0) (.slice none 0 0)
 refine bodyPost_ret (v:=.tuple #[F0,.int .i64 3]) (by simp[results,Tryz.results158,go_sem,hz.1,hz.2.1,hz.2.2.1,hz.2.2.2]) rfl ?_
 exact⟨rfl,jh (H4.out _).2.2 _ _ _ _⟩
theorem KX(a:Option Addr)(p:List Nat)(cap:Nat)(w:World)(h1:24<=p.length)(h2:p.length<=4096)(hcap:p.length<=cap)(hA:bn p)(hL:dz w a p)(hE:¬dK p)(h3:bN p+21<=p.length)(hn:¬Named (bE p:Nat) (bZ p:Nat) (wr (bR p))) :
 Calls (PB prog zb) 158 #[.slice a p.length cap] w λe w'=>e=.returned (.tuple #[F0,.int .i64 3])/\Below w.heap.size w w':=by
 have abP:=h1
 obtain⟨b,off,rfl,hc⟩:=hL.dU (by omega)
 have Wh:¬dK p:=hE
 have he:=λwx hx=>iJ (zb:=zb) false (some ⟨b,off,none⟩) p cap wx ⟨(λe=>by cases e),λe=>absurd e Wh⟩ (by omega) hx
 have KW:Hid (dz (w.alloc bS) (some ⟨b,off,none⟩) p):=hL.below (aC w bS)
 have HU:=m_ (zb:=zb) (some ⟨b,off,none⟩) p cap (w.alloc bS) h1 h2 hcap hA KW.out h3
 have HPA:Hid (bn p):=hA
 have MB:Hid ((bY p).length=bN p/\bn (bY p)):=⟨jK h3,iL hA⟩
 have hP:=λwx a1 c1=>KU (zb:=zb) (p.length:Int) (bE p:Nat) (bZ p:Nat) (wr (bR p)) a1 (bN p) c1 wx (by omega) hn
 clear hn
 clear hE Wh hL hc h3
 go_enter Al.func158,Tryz.ntmps158
 go_wp2_with fail
 refine(he _ KW.out).mono ?_
 rintro e w1 ⟨rfl,rfl⟩
 go_wp2_with fail
 refine HU.mono ?_
 rintro e w2 ⟨a1,c1,rfl,hO,hb2⟩
 have HI2:Hid (Below (w.alloc bS).heap.size (w.alloc bS) (w2.alloc (qy (bE p:Nat) (bZ p:Nat) (wr (bR p)) a1 (bN p) c1))/\fT (w2.alloc (qy (bE p:Nat) (bZ p:Nat) (wr (bR p)) a1 (bN p) c1)) w2.heap.size (bE p:Nat) (bZ p:Nat) (wr (bR p)) a1 (bN p) c1/\dJ (w2.alloc (qy (bE p:Nat) (bZ p:Nat) (wr (bR p)) a1 (bN p) c1)) (w.alloc bS).heap.size a1 c1 (bY p)/\(w.alloc bS).heap.size<=w2.heap.size) :=
  ⟨hb2.alloc hb2.size _,nT w2 _ _ _ _ _ _,hO.below (aC w2 _),hb2.size⟩
 clear hO hb2 HU he
 generalize bE p=KK at *
 generalize bZ p=LL at *
 generalize wr (bR p)=SS at *
 generalize bN p=DD at *
 go_wp2_with fail
 refine(hP _ _ _).mono ?_
 rintro e w3 ⟨rfl,hb3⟩
 have H4:Hid (fT w3 w.heap.size 0 0 0 none 0 0/\(∀ i,w3.frozen? ⟨w.heap.size,i,none⟩=false)/\Below w.heap.size w w3):=uW (HI2.out.1.trans (hb3.mono HI2.out.1.size))
 clear hb3 HI2 hP
 have q0:=H4.out.1.c0
 have q1:=H4.out.1.c1
 have q2:=H4.out.1.c2
 have q3:=H4.out.1.c3
 have f0:=H4.out.2.1 0
 have f1:=H4.out.2.1 1
 have f2:=H4.out.2.1 2
 have f3:=H4.out.2.1 3
 go_wp2_with fail
 have hz:=qz H4.out.1 (.int .i64 0) (.int .i64 0) (.int .i64 0) (.slice none 0 0)
 refine bodyPost_ret (v:=.tuple #[F0,.int .i64 3]) (by simp[results,Tryz.results158,go_sem,hz.1,hz.2.1,hz.2.2.1,hz.2.2.2]) rfl ?_
 exact⟨rfl,jh H4.out.2.2 _ _ _ _⟩
theorem KY(a:Option Addr)(p:List Nat)(cap:Nat)(w:World)(h1:24<=p.length)(h2:p.length<=4096)(hcap:p.length<=cap)(hA:bn p)(hL:dz w a p)(hE:¬dK p)(h3:bN p+21<=p.length)(hF:FOk p.length (bE p) (bZ p) (bR p) (bN p))(hne:h_ p.length (bE p) (bZ p) (bR p) (bY p)≠p) :
 Calls (PB prog zb) 158 #[.slice a p.length cap] w λe w'=>e=.returned (.tuple #[F0,.int .i64 3])/\Below w.heap.size w w':=by
 have abP:=h1
 obtain⟨b,off,rfl,hc⟩:=hL.dU (by omega)
 have Wh:¬dK p:=hE
 have he:=λwx hx=>iJ (zb:=zb) false (some ⟨b,off,none⟩) p cap wx ⟨(λe=>by cases e),λe=>absurd e Wh⟩ (by omega) hx
 have KW:Hid (dz (w.alloc bS) (some ⟨b,off,none⟩) p):=hL.below (aC w bS)
 have HU:=m_ (zb:=zb) (some ⟨b,off,none⟩) p cap (w.alloc bS) h1 h2 hcap hA KW.out h3
 have HPA:Hid (bn p):=hA
 have MB:Hid ((bY p).length=bN p/\bn (bY p)):=⟨jK h3,iL hA⟩
 have KZ:wr (bR p)=(bR p:Nat):=jQ (by have:=hF.s1;omega)
 have HU2:Calls (PB prog zb) 185 #[.slice (some ⟨b,off,none⟩) p.length cap] (w.alloc bS) λe w'=>∃ a c,e=.returned (.tuple #[FV (bE p:Nat) (bZ p:Nat) (bR p:Nat) a (bN p) c,.bool true])/\dJ w' (w.alloc bS).heap.size a c (bY p)/\Below (w.alloc bS).heap.size (w.alloc bS) w':=HU.mono λe w' h=>by
  obtain⟨a,c,h4,h5⟩:=h
  rw[KZ] at h4
  exact⟨a,c,h4,h5⟩
 have hP:∀ wx a1 c1,dz wx a1 (bY p)->Calls (PB prog zb) 186 #[.int .i64 p.length,FV (bE p:Nat) (bZ p:Nat) (bR p:Nat) a1 (bN p) c1] wx λe w'=>∃ g,e=.returned (.tuple #[.slice (some ⟨g,0,none⟩) p.length p.length,.nilIface])/\wx.heap.size<=g/\Row w' g (h_ p.length (bE p) (bZ p) (bR p) (bY p))/\Below wx.heap.size wx w':=λwx a1 c1 hx=>by
  have:=zH (zb:=zb) p.length (bE p) (bZ p) (bR p) a1 c1 (bY p) wx (by rw[MB.out.1];exact hF) MB.out.2 hx
  rw[MB.out.1] at this
  exact this
 have HPK:Hid ((h_ p.length (bE p) (bZ p) (bR p) (bY p)).length=p.length/\bn (h_ p.length (bE p) (bZ p) (bR p) (bY p))):=⟨zl _ _ _ _ _ (by rw[MB.out.1];exact h3),zn _ _ _ _ _ (by have:=hF.k1;omega) MB.out.2⟩
 have Wi:Hid (∀ w',Below (w.alloc bS).heap.size (w.alloc bS) w'->∀ i,i<p.length->w'.cell? ⟨b,off+i,none⟩=some (.int .u8 ((p[i]?.getD 0:Nat):Int))):=λw' hb i hi=>by
  have e:(w.alloc bS).cell? ⟨b,off+i,none⟩=some (.int .u8 ((p[i]?.getD 0:Nat):Int)):=by rw[(aC w bS).cell (p:=⟨b,off+i,none⟩) (World.block_lt_of_cell? w _ (hc i hi))];exact hc i hi
  rw[hb.cell (p:=⟨b,off+i,none⟩) (World.block_lt_of_cell? _ _ e)]
  exact e
 obtain⟨PG,Mx⟩:∃ L,Hid (h_ p.length (bE p) (bZ p) (bR p) (bY p)=L):=⟨_,rfl⟩
 have HNE:Hid (PG≠p):=by rw[<-Mx.out];exact hne
 clear hne
 rw[Mx.out] at hP
 have NY:Hid (PG.length=p.length/\bn PG):=by rw[<-Mx.out];exact HPK.out
 clear HU HPK Mx KZ hF
 clear hE Wh hL hc h3
 go_enter Al.func158,Tryz.ntmps158
 go_wp2_with fail
 refine(he _ KW.out).mono ?_
 rintro e w1 ⟨rfl,rfl⟩
 go_wp2_with fail
 refine HU2.mono ?_
 rintro e w2 ⟨a1,c1,rfl,hO,hb2⟩
 have HI2:Hid (Below (w.alloc bS).heap.size (w.alloc bS) (w2.alloc (qy (bE p:Nat) (bZ p:Nat) (bR p:Nat) a1 (bN p) c1))/\fT (w2.alloc (qy (bE p:Nat) (bZ p:Nat) (bR p:Nat) a1 (bN p) c1)) w2.heap.size (bE p:Nat) (bZ p:Nat) (bR p:Nat) a1 (bN p) c1/\dJ (w2.alloc (qy (bE p:Nat) (bZ p:Nat) (bR p:Nat) a1 (bN p) c1)) (w.alloc bS).heap.size a1 c1 (bY p)/\(w.alloc bS).heap.size<=w2.heap.size) :=
  ⟨hb2.alloc hb2.size _,nT w2 _ _ _ _ _ _,hO.below (aC w2 _),hb2.size⟩
 clear hO hb2 HU2 he
 generalize bE p=KK at *
 generalize bZ p=LL at *
 generalize bR p=SS at *
 generalize bN p=DD at *
 generalize bY p=DT at *
 go_wp2_with fail
 refine(hP _ _ _ HI2.out.2.2.1.lies).mono ?_
 rintro e w3 ⟨g,rfl,hg,hr,hb3⟩
 have H4:Hid (fT w3 w.heap.size 0 0 0 none 0 0/\(∀ i,w3.frozen? ⟨w.heap.size,i,none⟩=false)/\Below w.heap.size w w3):=uW (HI2.out.1.trans (hb3.mono HI2.out.1.size))
 have H5:Hid (fT w3 w2.heap.size KK LL SS a1 DD c1/\dJ w3 (w.alloc bS).heap.size a1 c1 DT/\(w.alloc bS).heap.size<=w2.heap.size):=⟨HI2.out.2.1.below hb3,HI2.out.2.2.1.below hb3,HI2.out.2.2.2⟩
 have heq:Calls (PB prog zb) 187 #[.slice (some ⟨g,0,none⟩) p.length p.length,.slice (some ⟨b,off,none⟩) p.length cap] w3 λe w'=>e=.returned (.bool (decide (PG=p)))/\w'=w3:=by
  have:=zI (zb:=zb) g 0 PG p.length b off p cap w3 NY.out.2 HPA.out (λi hi=>by rw[Nat.zero_add];exact gy hr i hi) (Wi.out w3 (HI2.out.1.trans (hb3.mono HI2.out.1.size)))
  rw[show (Value.slice (some ⟨g,0,none⟩) PG.length p.length)=.slice (some ⟨g,0,none⟩) p.length p.length by rw[NY.out.1]] at this
  exact this
 clear hb3 hr hg HI2 hP Wi
 rw[decide_eq_false HNE.out] at heq
 clear H5
 have q0:=H4.out.1.c0
 have q1:=H4.out.1.c1
 have q2:=H4.out.1.c2
 have q3:=H4.out.1.c3
 have f0:=H4.out.2.1 0
 have f1:=H4.out.2.1 1
 have f2:=H4.out.2.1 2
 have f3:=H4.out.2.1 3
 go_wp2_with fail
 refine heq.mono ?_
 rintro e w4 ⟨rfl,rfl⟩
 go_wp2_with fail
 have hz:=qz H4.out.1 (.int .i64 0) (.int .i64 0) (.int .i64 0) (.slice none 0 0)
 refine bodyPost_ret (v:=.tuple #[F0,.int .i64 3]) (by simp[results,Tryz.results158,go_sem,hz.1,hz.2.1,hz.2.2.1,hz.2.2.2]) rfl ?_
 exact⟨rfl,jh H4.out.2.2 _ _ _ _⟩
def rT(w w':World)(e:Ending)(p:List Nat):Prop:=∃ a c,e=.returned (.tuple #[FV (bE p:Nat) (bZ p:Nat) (bR p:Nat) a (bN p) c,.int .i64 2])/\dJ w' w.heap.size a c (bY p)/\Below w.heap.size w w'
theorem SA(a:Option Addr)(p:List Nat)(cap:Nat)(w:World)(h1:24<=p.length)(h2:p.length<=4096)(hcap:p.length<=cap)(hA:bn p)(hL:dz w a p)(hE:¬dK p)(h3:bN p+21<=p.length)(hF:FOk p.length (bE p) (bZ p) (bR p) (bN p))(abS:h_ p.length (bE p) (bZ p) (bR p) (bY p)=p) :
 Calls (PB prog zb) 158 #[.slice a p.length cap] w λe w'=>rT w w' e p:=by
 have abP:=h1
 obtain⟨b,off,rfl,hc⟩:=hL.dU (by omega)
 have Wh:¬dK p:=hE
 have he:=λwx hx=>iJ (zb:=zb) false (some ⟨b,off,none⟩) p cap wx ⟨(λe=>by cases e),λe=>absurd e Wh⟩ (by omega) hx
 have KW:Hid (dz (w.alloc bS) (some ⟨b,off,none⟩) p):=hL.below (aC w bS)
 have HU:=m_ (zb:=zb) (some ⟨b,off,none⟩) p cap (w.alloc bS) h1 h2 hcap hA KW.out h3
 have HPA:Hid (bn p):=hA
 have MB:Hid ((bY p).length=bN p/\bn (bY p)):=⟨jK h3,iL hA⟩
 have KZ:wr (bR p)=(bR p:Nat):=jQ (by have:=hF.s1;omega)
 have HU2:Calls (PB prog zb) 185 #[.slice (some ⟨b,off,none⟩) p.length cap] (w.alloc bS) λe w'=>∃ a c,e=.returned (.tuple #[FV (bE p:Nat) (bZ p:Nat) (bR p:Nat) a (bN p) c,.bool true])/\dJ w' (w.alloc bS).heap.size a c (bY p)/\Below (w.alloc bS).heap.size (w.alloc bS) w':=HU.mono λe w' h=>by
  obtain⟨a,c,h4,h5⟩:=h
  rw[KZ] at h4
  exact⟨a,c,h4,h5⟩
 have hP:∀ wx a1 c1,dz wx a1 (bY p)->Calls (PB prog zb) 186 #[.int .i64 p.length,FV (bE p:Nat) (bZ p:Nat) (bR p:Nat) a1 (bN p) c1] wx λe w'=>∃ g,e=.returned (.tuple #[.slice (some ⟨g,0,none⟩) p.length p.length,.nilIface])/\wx.heap.size<=g/\Row w' g (h_ p.length (bE p) (bZ p) (bR p) (bY p))/\Below wx.heap.size wx w':=λwx a1 c1 hx=>by
  have:=zH (zb:=zb) p.length (bE p) (bZ p) (bR p) a1 c1 (bY p) wx (by rw[MB.out.1];exact hF) MB.out.2 hx
  rw[MB.out.1] at this
  exact this
 have HPK:Hid ((h_ p.length (bE p) (bZ p) (bR p) (bY p)).length=p.length/\bn (h_ p.length (bE p) (bZ p) (bR p) (bY p))):=⟨zl _ _ _ _ _ (by rw[MB.out.1];exact h3),zn _ _ _ _ _ (by have:=hF.k1;omega) MB.out.2⟩
 have Wi:Hid (∀ w',Below (w.alloc bS).heap.size (w.alloc bS) w'->∀ i,i<p.length->w'.cell? ⟨b,off+i,none⟩=some (.int .u8 ((p[i]?.getD 0:Nat):Int))):=λw' hb i hi=>by
  have e:(w.alloc bS).cell? ⟨b,off+i,none⟩=some (.int .u8 ((p[i]?.getD 0:Nat):Int)):=by rw[(aC w bS).cell (p:=⟨b,off+i,none⟩) (World.block_lt_of_cell? w _ (hc i hi))];exact hc i hi
  rw[hb.cell (p:=⟨b,off+i,none⟩) (World.block_lt_of_cell? _ _ e)]
  exact e
 obtain⟨PG,Mx⟩:∃ L,Hid (h_ p.length (bE p) (bZ p) (bR p) (bY p)=L):=⟨_,rfl⟩
 have HNE:Hid (PG=p):=by rw[<-Mx.out];exact abS
 clear abS
 have HV:Hid (∀ w' a c,dJ w' w.heap.size a c (bY p)->Below w.heap.size w w'->rT w w' (.returned (.tuple #[FV (bE p:Nat) (bZ p:Nat) (bR p:Nat) a (bN p) c,.int .i64 2])) p):=λw' a c h6 h7=>⟨a,c,rfl,h6,h7⟩
 rw[Mx.out] at hP
 have NY:Hid (PG.length=p.length/\bn PG):=by rw[<-Mx.out];exact HPK.out
 clear HU HPK Mx KZ hF
 clear hE Wh hL hc h3
 go_enter Al.func158,Tryz.ntmps158
 go_wp2_with fail
 refine(he _ KW.out).mono ?_
 rintro e w1 ⟨rfl,rfl⟩
 go_wp2_with fail
 refine HU2.mono ?_
 rintro e w2 ⟨a1,c1,rfl,hO,hb2⟩
 have HI2:Hid (Below (w.alloc bS).heap.size (w.alloc bS) (w2.alloc (qy (bE p:Nat) (bZ p:Nat) (bR p:Nat) a1 (bN p) c1))/\fT (w2.alloc (qy (bE p:Nat) (bZ p:Nat) (bR p:Nat) a1 (bN p) c1)) w2.heap.size (bE p:Nat) (bZ p:Nat) (bR p:Nat) a1 (bN p) c1/\dJ (w2.alloc (qy (bE p:Nat) (bZ p:Nat) (bR p:Nat) a1 (bN p) c1)) (w.alloc bS).heap.size a1 c1 (bY p)/\(w.alloc bS).heap.size<=w2.heap.size) :=
  ⟨hb2.alloc hb2.size _,nT w2 _ _ _ _ _ _,hO.below (aC w2 _),hb2.size⟩
 clear hO hb2 HU2 he
 generalize bE p=KK at *
 generalize bZ p=LL at *
 generalize bR p=SS at *
 generalize bN p=DD at *
 generalize bY p=DT at *
 go_wp2_with fail
 refine(hP _ _ _ HI2.out.2.2.1.lies).mono ?_
 rintro e w3 ⟨g,rfl,hg,hr,hb3⟩
 have H4:Hid (fT w3 w.heap.size 0 0 0 none 0 0/\(∀ i,w3.frozen? ⟨w.heap.size,i,none⟩=false)/\Below w.heap.size w w3):=uW (HI2.out.1.trans (hb3.mono HI2.out.1.size))
 have H5:Hid (fT w3 w2.heap.size KK LL SS a1 DD c1/\dJ w3 (w.alloc bS).heap.size a1 c1 DT/\(w.alloc bS).heap.size<=w2.heap.size):=⟨HI2.out.2.1.below hb3,HI2.out.2.2.1.below hb3,HI2.out.2.2.2⟩
 have heq:Calls (PB prog zb) 187 #[.slice (some ⟨g,0,none⟩) p.length p.length,.slice (some ⟨b,off,none⟩) p.length cap] w3 λe w'=>e=.returned (.bool (decide (PG=p)))/\w'=w3:=by
  have:=zI (zb:=zb) g 0 PG p.length b off p cap w3 NY.out.2 HPA.out (λi hi=>by rw[Nat.zero_add];exact gy hr i hi) (Wi.out w3 (HI2.out.1.trans (hb3.mono HI2.out.1.size)))
  rw[show (Value.slice (some ⟨g,0,none⟩) PG.length p.length)=.slice (some ⟨g,0,none⟩) p.length p.length by rw[NY.out.1]] at this
  exact this
 clear hb3 hr hg HI2 hP Wi
 rw[decide_eq_true HNE.out] at heq
 have q0:=H4.out.1.c0
 have q1:=H4.out.1.c1
 have q2:=H4.out.1.c2
 have q3:=H4.out.1.c3
 have f0:=H4.out.2.1 0
 have f1:=H4.out.2.1 1
 have f2:=H4.out.2.1 2
 have f3:=H4.out.2.1 3
 have r0:=H5.out.1.c0
 have r1:=H5.out.1.c1
 have r2:=H5.out.1.c2
 have r3:=H5.out.1.c3
 go_wp2_with fail
 refine heq.mono ?_
 rintro e w4 ⟨rfl,rfl⟩
 clear heq
 go_wp2_with fail
 have hz:=qz H4.out.1 (.int .i64 (KK:Int)) (.int .i64 (LL:Int)) (.int .i64 (SS:Int)) (.slice a1 DD c1)
 refine bodyPost_ret (v:=.tuple #[FV (KK:Nat) (LL:Nat) (SS:Nat) a1 DD c1,.int .i64 2]) (by simp[results,Tryz.results158,go_sem,hz.1,hz.2.1,hz.2.2.1,hz.2.2.2]) rfl ?_
 exact HV.out _ _ _ ((H5.out.2.1.keep (zJ _ w.heap.size _ _ _ _) (λq hq e=>by have h6:=(H5.out.2.1.ge hq).1;simp at h6;omega)).base (by simp)) (jh H4.out.2.2 _ _ _ _)
theorem NZ(a:Option Addr)(p:List Nat)(cap:Nat)(w:World)(hA:bn p)(hL:dz w a p)(hcap:p.length<=cap)(hm:p.length<=9223372036854775807) :
 Calls (PB prog zb) 158 #[.slice a p.length cap] w λe w'=>(dK p/\e=.returned (.tuple #[F0,.int .i64 1])/\Below w.heap.size w w')\/(¬dK p/\l7 p/\rT w w' e p)\/(¬dK p/\¬l7 p/\e=.returned (.tuple #[F0,.int .i64 3])/\Below w.heap.size w w'):=by
 by_cases hE:dK p
 .exact(DJ a p cap w hm hL hE).mono λe w' ⟨h1,h2⟩=>Or.inl ⟨hE,h1,h2⟩
 by_cases h1:24<=p.length/\p.length<=4096
 case neg=>exact(DN a p cap w hm hL hE (λwx _=>Dy a p.length cap wx (by omega))).mono λe w' ⟨h2,h3⟩=>Or.inr (Or.inr ⟨hE,λhv=>h1 ⟨hv.1.n0,hv.1.n1⟩,h2,h3⟩)
 obtain⟨h1,h2⟩:=h1
 by_cases h3:bN p+21<=p.length
 case neg=>exact(DN a p cap w hm hL hE (λwx hx=>Dz a p cap wx h1 h2 hcap hA hx h3)).mono λe w' ⟨h4,h5⟩=>Or.inr (Or.inr ⟨hE,λhv=>h3 hv.1.d1,h4,h5⟩)
 have aeH:bR p<18446744073709551616:=by
  have:=mX (je p 6 8) (iL hA)
  rw[iK (by omega)] at this
  exact this
 by_cases hn:Named (bE p:Nat) (bZ p:Nat) (wr (bR p))
 case neg =>
  refine(KX a p cap w h1 h2 hcap hA hL hE h3 hn).mono λe w' ⟨h4,h5⟩=>Or.inr (Or.inr ⟨hE,λhv=>hn ?_,h4,h5⟩)
  have hq:=hv.1
  refine⟨⟨by have:=hq.k0;omega,by have:=hq.k1;omega⟩,⟨by omega,by have:=hq.l1;omega⟩,?_⟩
  rw[jQ (by have:=hq.s1;omega)]
  exact⟨by omega,by have:=hq.s1;omega⟩
 have hsm:bR p<9223372036854775808:=by
  by_cases hb:bR p<9223372036854775808
  .exact hb
  .have:=Xm (by omega:9223372036854775808<=bR p) aeH
   have:=hn.2.2.1
   omega
 rw[show wr (bR p)=(bR p:Nat) from jQ hsm] at hn
 have hF:FOk p.length (bE p) (bZ p) (bR p) (bN p):=⟨h1,h2,by have:=hn.1.1;omega,by have:=hn.1.2;omega,by have:=hn.2.1.2;omega,by have:=hn.2.2.2;omega,h3⟩
 by_cases he:h_ p.length (bE p) (bZ p) (bR p) (bY p)=p
 .exact(SA a p cap w h1 h2 hcap hA hL hE h3 hF he).mono λe w' h=>Or.inr (Or.inl ⟨hE,⟨hF,he⟩,h⟩)
 .exact(KY a p cap w h1 h2 hcap hA hL hE h3 hF he).mono λe w' ⟨h4,h5⟩=>Or.inr (Or.inr ⟨hE,λhv=>he hv.2,h4,h5⟩)
