/- Part of the proof. -/
import Derived.Test.YtljjjonaaoedpaaGreatZ03
import Derived.Laws.MakeOwn
import Derived.Sort.Grow
set_option maxHeartbeats 4000000
set_option linter.unusedVariables false
namespace Go.Proofs.ah
open Tryz (prog)
open ay
open ak
open Go.RowKit
variable {zb:Bool}
set_option linter.unusedVariables false
def p9(w w':World)(e:Ending)(ys:List Nat):Prop:=∃ a cap,e=.returned (.slice a ys.length cap)/\dV w' w.heap.size a cap ys/\Below w.heap.size w w'
set_option maxRecDepth 20000 in
theorem Hq(x:Addr)(c:Nat)(ys:List Nat)(w:World)(hm:ys.length<=1048576)(hL:bS w (some x) ys) :
 Calls (Al.PB prog zb) 93 #[.slice (some x) ys.length c] w λe w'=>p9 w w' e ys:=by
 have he:∀ w:World,(binOp .eql 34 (.slice (some x) ys.length c) (.slice none 0 0)).run (Al.PB prog zb) w=.ok (.bool false) w:=λ_=>rfl
 have HA:Hid (Below w.heap.size w (w.alloc (.cells #[] 5))/\bS (w.alloc (.cells #[] 5)) (some x) ys):=⟨aA w _,hL.below (aA w _)⟩
 have HM:Hid (ys.length<=1048576):=hm
 clear hL hm
 go_enter Al.func93,Tryz.ntmps93
 go_wp2_with (at_builtin;refine AB rfl (.tmp 5) (.tmp 6) rfl w.heap.size (some ⟨w.heap.size,0,none⟩) 0 [] (by rfl) (NJ w w.heap.size [] (Nat.le_refl _) (by simp) _ rfl) (some x) c ys (by rfl) (λe=>by cases e) HA.out.2 ys rfl HM.out HA.out.1.size ?_)
 intro a1 c1 w1 hO hK
 have HR:Hid (dV w1 w.heap.size a1 c1 ys/\Below w.heap.size w w1):=⟨hO,HA.out.1.trans (hK.below HA.out.1.size (λb hb=>by obtain⟨x,e,rfl⟩:=hb;cases e;exact Nat.le_refl _))⟩
 clear hO hK HA
 go_wp2
 go_ret
 exact⟨a1,c1,rfl,HR.out⟩
theorem gZ{p:List Nat}{o k:Nat}(h:o+k<=p.length):(dN p o k).length=k:=by unfold dN;rw[List.length_take,List.length_drop];omega
theorem fZ{p:List Nat}{o k:Nat}(h:aW p):aW (dN p o k):=λx hx=>h x (List.mem_of_mem_drop (List.mem_of_mem_take hx))
theorem qb{w:World}{b off:Nat}{p:List Nat}(hc:∀ i,i<p.length->w.cell? ⟨b,off+i,none⟩=some (.int .u8 ((p[i]?.getD 0:Nat):Int)))(o k:Nat)(h:o+k<=p.length):∀ i,i<(dN p o k).length->w.cell? ⟨b,off+o+i,none⟩=some (.int .u8 (((dN p o k)[i]?.getD 0:Nat):Int)):=λi hi=>by
 rw[gZ h] at hi
 have e:(dN p o k)[i]?.getD 0=p[o+i]?.getD 0:=by unfold dN;rw[List.getElem?_take,if_pos hi,List.getElem?_drop]
 rw[e,Nat.add_assoc]
 exact hc (o+i) (by omega)
theorem mJ{w:World}{b:Nat}{k l s:Int}{a:Option Addr}{m c:Nat}(h:eY w b k l s a m c)(u0 u1 u2 u3:Value) :
 (w.setCell ⟨b,0,none⟩ u0).cell? ⟨b,0,none⟩=some u0/\((w.setCell ⟨b,0,none⟩ u0).setCell ⟨b,1,none⟩ u1).cell? ⟨b,1,none⟩=some u1 /\
 (((w.setCell ⟨b,0,none⟩ u0).setCell ⟨b,1,none⟩ u1).setCell ⟨b,2,none⟩ u2).cell? ⟨b,2,none⟩=some u2 /\
 ((((w.setCell ⟨b,0,none⟩ u0).setCell ⟨b,1,none⟩ u1).setCell ⟨b,2,none⟩ u2).setCell ⟨b,3,none⟩ u3).cell? ⟨b,3,none⟩=some u3:=by
 refine⟨World.cell?_setCell_same _ _ _ h.c0,World.cell?_setCell_same _ _ _ (u:=.int .i64 l) ?_,World.cell?_setCell_same _ _ _ (u:=.int .i64 s) ?_,World.cell?_setCell_same _ _ _ (u:=.slice a m c) ?_⟩
 ·rw[far _ (by omega)];exact h.c1
 ·rw[far _ (by omega),far _ (by omega)];exact h.c2
 ·rw[far _ (by omega),far _ (by omega),far _ (by omega)];exact h.c3
abbrev F0:Value:=FV 0 0 0 none 0 0
theorem AL(a:Option Addr)(n cap:Nat)(w:World)(h:¬(24<=(n:Int)/\(n:Int)<=4096)) :
 Calls (Al.PB prog zb) 70 #[.slice a n cap] w λe w'=>e=.returned (.tuple #[F0,.bool false])/\Below w.heap.size w w':=by
 have HB:Hid (∀ o,Below w.heap.size w (w.alloc o)):=λo=>aA w o
 have hs:=λwx=>jB (zb:=zb) (n:Int) wx
 rw[yB h] at hs
 clear h
 go_enter Al.func70,Tryz.ntmps70
 go_wp2_with fail
 refine(hs _).mono ?_
 rintro e w1 ⟨rfl,rfl⟩
 go_wp2_with fail
 refine bodyPost_ret (v:=.tuple #[F0,.bool false]) (by simp[results,Tryz.results70,go_sem]) rfl ?_
 exact⟨rfl,HB.out _⟩
theorem AO(a:Option Addr)(p:List Nat)(cap:Nat)(w:World)(h1:24<=p.length)(h2:p.length<=4096)(hcap:p.length<=cap)(hA:aW p)(hL:bS w a p)(h:¬aU p+21<=p.length) :
 Calls (Al.PB prog zb) 70 #[.slice a p.length cap] w λe w'=>e=.returned (.tuple #[F0,.bool false])/\Below w.heap.size w w':=by
 obtain⟨b,off,rfl,hc⟩:=hL.kP (by omega)
 have HB:Hid (∀ o,Below w.heap.size w (w.alloc o)):=λo=>aA w o
 have hs:=λwx=>jB (zb:=zb) (p.length:Int) wx
 rw[lU (by omega)] at hs
 have hlt:=nJ (dN p 14 2) (fZ hA)
 rw[gZ (by omega)] at hlt
 have hlt':aU p<65536:=hlt
 have Zc:∀ o c,Calls (Al.PB prog zb) 92 #[.slice (some ⟨b,off+14,none⟩) 2 c] (w.alloc o) λe w'=>e=.returned (.int .i64 (aU p:Nat))/\w'=w.alloc o:=λo c=>by
  have:=ug (zb:=zb) b (off+14) (dN p 14 2) c (w.alloc o) (by rw[gZ (by omega)];omega) (fZ hA) (λi hi=>by
   have e:=qb hc 14 2 (by omega) i hi
   rw[(HB.out o).cell (p:=⟨b,off+14+i,none⟩) (World.block_lt_of_cell? w _ e)]
   exact e)
  rw[gZ (by omega),jC (by omega)] at this
  exact this
 have l16:(16:Int)<=(cap:Int):=by omega
 have n14:¬cap=14:=by omega
 generalize aU p=L at *
 have hl:(p.length:Int)-21<(L:Int):=by omega
 clear hc hL hlt h
 go_enter Al.func70,Tryz.ntmps70
 go_wp2_with fail
 refine(hs _).mono ?_
 rintro e w1 ⟨rfl,rfl⟩
 go_wp2_with fail
 refine(Zc _ _).mono ?_
 rintro e w1 ⟨rfl,rfl⟩
 go_wp2_with fail
 refine bodyPost_ret (v:=.tuple #[F0,.bool false]) (by simp[results,Tryz.results70,go_sem]) rfl ?_
 exact⟨rfl,HB.out _⟩
def J3(w w':World)(e:Ending)(p:List Nat):Prop:=∃ a c,e=.returned (.tuple #[FV (aN p:Nat) (bL p:Nat) (wr (bq p)) a (aU p) c,.bool true])/\dV w' w.heap.size a c (aR p)/\Below w.heap.size w w'
theorem lV(a:Option Addr)(p:List Nat)(cap:Nat)(w:World)(h1:24<=p.length)(h2:p.length<=4096)(hcap:p.length<=cap)(hA:aW p)(hL:bS w a p)(h:aU p+21<=p.length) :
 Calls (Al.PB prog zb) 70 #[.slice a p.length cap] w λe w'=>J3 w w' e p:=by
 obtain⟨b,off,rfl,hc⟩:=hL.kP (by omega)
 have HB:Hid (∀ o,Below w.heap.size w (w.alloc o)):=λo=>aA w o
 have hs:=λwx=>jB (zb:=zb) (p.length:Int) wx
 rw[lU (by omega)] at hs
 have HN:Hid (∀ wx,Below w.heap.size w wx->∀ o k c,o+k<=p.length->k<=8->Calls (Al.PB prog zb) 92 #[.slice (some ⟨b,off+o,none⟩) k c] wx λe w'=>e=.returned (.int .i64 (wr (num (dN p o k))))/\w'=wx):=λwx hb o k c ho hk=>by
  have:=ug (zb:=zb) b (off+o) (dN p o k) c wx (by rw[gZ ho];omega) (fZ hA) (λi hi=>by
   have e:=qb hc o k ho i hi
   rw[hb.cell (p:=⟨b,off+o+i,none⟩) (World.block_lt_of_cell? w _ e)]
   exact e)
  rw[gZ ho] at this
  exact this
 have HCl:Hid (∀ wx,Below w.heap.size w wx->∀ c,Calls (Al.PB prog zb) 93 #[.slice (some ⟨b,off+20,none⟩) (aU p) c] wx λe w'=>p9 wx w' e (aR p)):=λwx hb c=>by
  have hL':bS wx (some ⟨b,off+20,none⟩) (aR p):=(show bS w (some ⟨b,off+20,none⟩) (aR p) from Or.inr ⟨b,off+20,rfl,qb hc 20 (aU p) (by omega)⟩).below hb
  have:=Hq (zb:=zb) ⟨b,off+20,none⟩ c (aR p) wx (by rw[fK h];omega) hL'
  rw[fK h] at this
  exact this
 have hlt:=nJ (dN p 14 2) (fZ hA)
 rw[gZ (by omega)] at hlt
 have hlt':aU p<65536:=hlt
 have Yu:Hid (wr (num (dN p 14 2))=(aU p:Nat)/\wr (num (dN p 2 4))=(bL p:Nat)/\(aR p).length=aU p):=⟨jC (by show aU p<_;omega),jC (by
  have:=nJ (dN p 2 4) (fZ hA)
  rw[gZ (by omega)] at this
  show bL p<_
  have e:bL p<4294967296:=this
  omega),fK h⟩
 have hc1:=λo=>((HB.out o).cell (p:=⟨b,off+1,none⟩) (World.block_lt_of_cell? w _ (hc 1 (by omega)))).trans (hc 1 (by omega))
 have hk:p[1]?.getD 0=aN p:=rfl
 rw[hk] at hc1
 have hk8:aN p<256:=hA.at 1
 have hbw:b<w.heap.size:=World.block_lt_of_cell? w ⟨b,off+1,none⟩ (hc 1 (by omega))
 have hne1:¬b=w.heap.size:=by omega
 have hne2:¬w.heap.size=b:=by omega
 obtain⟨NV,V9⟩:∃ NV:Nat->Nat->Int,Hid (∀ o k,wr (num (dN p o k))=NV o k):=⟨_,λ_ _=>rfl⟩
 have Zd:Hid (∀ wx,Below w.heap.size w wx->∀ o k c,o+k<=p.length->k<=8->Calls (Al.PB prog zb) 92 #[.slice (some ⟨b,off+o,none⟩) k c] wx λe w'=>e=.returned (.int .i64 (NV o k))/\w'=wx):=λwx hb o k c ho hk=>by
  have:=HN.out wx hb o k c ho hk
  rw[V9.out] at this
  exact this
 obtain⟨D,Yv⟩:∃ D,Hid (aR p=D):=⟨_,rfl⟩
 have HU:Hid (∀ w' a1 c1,dV w' w.heap.size a1 c1 D->Below w.heap.size w w'->J3 w w' (.returned (.tuple #[FV (aN p:Nat) (NV 2 4) (NV 6 8) a1 D.length c1,.bool true])) p):=λw' a1 c1 hO hB=>by
  rw[<-Yv.out] at hO
  refine⟨a1,c1,?_,hO,hB⟩
  rw[<-V9.out,<-V9.out,Yu.out.2.1,<-Yv.out,Yu.out.2.2]
  rfl
 have HNL:Hid (NV 14 2=(aU p:Nat)):=by
  have:=Yu.out.1
  rw[V9.out] at this
  exact this
 have V_:Hid (∀ wx,Below w.heap.size w wx->∀ c,Calls (Al.PB prog zb) 93 #[.slice (some ⟨b,off+20,none⟩) (aU p) c] wx λe w'=>p9 wx w' e D):=by
  rw[<-Yv.out]
  exact HCl.out
 clear Yu HN V9 HCl Yv
 generalize aU p=L at *
 generalize aN p=KK at *
 have l1:(1:Int)<(p.length:Int):=by omega
 have l6:(6:Int)<=(cap:Int):=by omega
 have l14:(14:Int)<=(cap:Int):=by omega
 have l16:(16:Int)<=(cap:Int):=by omega
 have n2:¬cap=2:=by omega
 have n6:¬cap=6:=by omega
 have n14:¬cap=14:=by omega
 have n20:¬cap=20:=by omega
 have hl:¬(p.length:Int)-21<(L:Int):=by omega
 have w20:IntKind.i64.wrap (20+(L:Int))=20+(L:Int):=by rw[IntKind.wrap_i64];omega
 have l20:(20:Int)<=20+(L:Int):=by omega
 have m20:20+(L:Int)<=(cap:Int):=by omega
 have t20:(20+(L:Int)).toNat=20+L:=by omega
 clear hc hL hlt h hA
 go_enter Al.func70,Tryz.ntmps70
 go_wp2_with fail
 refine(hs _).mono ?_
 rintro e w1 ⟨rfl,rfl⟩
 go_wp2_with fail
 refine(Zd.out _ (HB.out _) 14 2 _ (by omega) (by omega)).mono ?_
 rintro e w1 ⟨rfl,rfl⟩
 rw[HNL.out]
 have HZ:Hid (∀ w',Below (w.alloc (.cells #[.int .i64 0,.int .i64 0,.int .i64 0,.slice none 0 0] 68)).heap.size (w.alloc (.cells #[.int .i64 0,.int .i64 0,.int .i64 0,.slice none 0 0] 68)) w'->eY w' w.heap.size 0 0 0 none 0 0/\(∀ i,w'.frozen? ⟨w.heap.size,i,none⟩=false)):=λw' hb=>by
  have hh:(w.alloc (.cells #[.int .i64 0,.int .i64 0,.int .i64 0,.slice none 0 0] 68)).heap[w.heap.size]?=some (.cells #[.int .i64 0,.int .i64 0,.int .i64 0,.slice none 0 0] 68 (0,0)):=heap_alloc_new w _
  refine⟨(gW w 0 0 0 none 0 0).below hb,λi=>?_⟩
  have e:=hb.block w.heap.size (aX hh)
  rw[hh] at e
  exact dP e i
 have hcA:=hc1 (.cells #[.int .i64 0,.int .i64 0,.int .i64 0,.slice none 0 0] 68)
 have HD:Hid (Below w.heap.size w (w.alloc (.cells #[.int .i64 0,.int .i64 0,.int .i64 0,.slice none 0 0] 68))):=HB.out _
 have hnA:=Zd.out _ HD.out.drew
 have hcl:=V_.out _ HD.out.drew (cap-20)
 have HC1:Hid (∀ w',Below (w.alloc (.cells #[.int .i64 0,.int .i64 0,.int .i64 0,.slice none 0 0] 68)).drew.heap.size (w.alloc (.cells #[.int .i64 0,.int .i64 0,.int .i64 0,.slice none 0 0] 68)).drew w'->w'.cell? ⟨b,off+1,none⟩=some (.int .u8 (KK:Int))):=λw' hb=>by
  have:=hb.cell (p:=⟨b,off+1,none⟩) (World.block_lt_of_cell? _ _ (show (w.alloc (.cells #[.int .i64 0,.int .i64 0,.int .i64 0,.slice none 0 0] 68)).drew.cell? ⟨b,off+1,none⟩=_ from hcA))
  exact this.trans hcA
 have HQ:Hid (∀ w' a1 c1,dV w' (w.alloc (.cells #[.int .i64 0,.int .i64 0,.int .i64 0,.slice none 0 0] 68)).drew.heap.size a1 c1 D->Below (w.alloc (.cells #[.int .i64 0,.int .i64 0,.int .i64 0,.slice none 0 0] 68)).drew.heap.size (w.alloc (.cells #[.int .i64 0,.int .i64 0,.int .i64 0,.slice none 0 0] 68)).drew w'->Hid (eY w' w.heap.size 0 0 0 none 0 0/\(∀ i,w'.frozen? ⟨w.heap.size,i,none⟩=false)/\dV w' (w.heap.size+1) a1 c1 D/\Below w.heap.size w w')):=λw' a1 c1 hO hB=>by
  have hz:=HZ.out w' (((Below.refl _ _).drew).trans hB)
  refine⟨hz.1,hz.2,?_,HD.out.drew.trans (hB.mono HD.out.drew.size)⟩
  have e:(w.alloc (.cells #[.int .i64 0,.int .i64 0,.int .i64 0,.slice none 0 0] 68)).drew.heap.size=w.heap.size+1:=by simp
  rw[e] at hO
  exact hO
 have HKs:Hid (∀ (w':World) (u0 u1 u2 u3:Value),Keep (λq=>q=w.heap.size) w' ((((w'.setCell ⟨w.heap.size,0,none⟩ u0).setCell ⟨w.heap.size,1,none⟩ u1).setCell ⟨w.heap.size,2,none⟩ u2).setCell ⟨w.heap.size,3,none⟩ u3)):=λw' u0 u1 u2 u3 =>
  ((((Keep.refl (λq=>q=w.heap.size) w').set (p:=⟨w.heap.size,0,none⟩) rfl u0).set (p:=⟨w.heap.size,1,none⟩) rfl u1).set (p:=⟨w.heap.size,2,none⟩) rfl u2).set (p:=⟨w.heap.size,3,none⟩) rfl u3
 have HKp:Hid (∀ (w':World) (u0 u1 u2 u3:Value),w'.cell? ⟨b,off+1,none⟩=some (.int .u8 (KK:Int))->((((w'.setCell ⟨w.heap.size,0,none⟩ u0).setCell ⟨w.heap.size,1,none⟩ u1).setCell ⟨w.heap.size,2,none⟩ u2).setCell ⟨w.heap.size,3,none⟩ u3).cell? ⟨b,off+1,none⟩=some (.int .u8 (KK:Int))):=λw' u0 u1 u2 u3 hw=>by
  have hk:Keep (λq=>q=w.heap.size) w' ((((w'.setCell ⟨w.heap.size,0,none⟩ u0).setCell ⟨w.heap.size,1,none⟩ u1).setCell ⟨w.heap.size,2,none⟩ u2).setCell ⟨w.heap.size,3,none⟩ u3):=((((Keep.refl (λq=>q=w.heap.size) w').set (p:=⟨w.heap.size,0,none⟩) rfl u0).set (p:=⟨w.heap.size,1,none⟩) rfl u1).set (p:=⟨w.heap.size,2,none⟩) rfl u2).set (p:=⟨w.heap.size,3,none⟩) rfl u3
  rw[hk.cell (p:=⟨b,off+1,none⟩) (World.block_lt_of_cell? _ _ hw) hne1]
  exact hw
 have hKw:IntKind.i64.wrap (KK:Int)=(KK:Int):=by rw[IntKind.wrap_i64];omega
 clear hs hc1 Zd V_ HZ
 go_upto_region 6 with fail
 go_region_held3 (λw'=>w'.cell? ⟨b,off+1,none⟩=some (.int .u8 (KK:Int))) (first|exact hcA|assumption|exact HKp.out _ _ _ _ _ (by assumption)|go_keep) (first|(go_at_call 92;refine(hnA _ _ _ (by omega) (by omega)).mono ?_;rintro e w' ⟨rfl,rfl⟩)|(go_at_call 93;refine hcl.mono ?_;rintro e w' ⟨a1,c1,rfl,hO,hB⟩;have hcw:=HC1.out w' hB;have HR:=HQ.out w' a1 c1 hO hB;have q0:=HR.out.1.c0;have q1:=HR.out.1.c1;have q2:=HR.out.1.c2;have q3:=HR.out.1.c3;have f0:=HR.out.2.1 0;have f1:=HR.out.2.1 1;have f2:=HR.out.2.1 2;have f3:=HR.out.2.1 3;clear hO hB))
 go_wp2_with fail
 have hz:=mJ HR.out.1 (.int .i64 (KK:Int)) (.int .i64 (NV 2 4)) (.int .i64 (NV 6 8)) (.slice a1 D.length c1)
 refine bodyPost_ret (v:=.tuple #[FV (KK:Nat) (NV 2 4) (NV 6 8) a1 D.length c1,.bool true]) (by simp[results,Tryz.results70,go_sem,hz.1,hz.2.1,hz.2.2.1,hz.2.2.2]) rfl ?_
 exact HU.out _ _ _ ((HR.out.2.2.1.keep (HKs.out w' _ _ _ _) (λq hq e=>by have:=(HR.out.2.2.1.ge hq).1;omega)).base (by omega)) (HR.out.2.2.2.trans ((HKs.out w' _ _ _ _).below HR.out.2.2.2.size (λq hq=>by have e:q=w.heap.size:=hq;omega)))
variable {zb:Bool}
set_option linter.unusedVariables false
abbrev bK:Obj:=.cells #[.int .i64 0,.int .i64 0,.int .i64 0,.slice none 0 0] 68
theorem oz{w w':World}(hb:Below (w.alloc bK).heap.size (w.alloc bK) w'):eY w' w.heap.size 0 0 0 none 0 0/\(∀ i,w'.frozen? ⟨w.heap.size,i,none⟩=false)/\Below w.heap.size w w':=by
 have hh:(w.alloc bK).heap[w.heap.size]?=some (.cells #[.int .i64 0,.int .i64 0,.int .i64 0,.slice none 0 0] 68 (0,0)):=heap_alloc_new w _
 refine⟨(gW w 0 0 0 none 0 0).below hb,λi=>?_,(aA w _).trans (hb.mono (aA w _).size)⟩
 have e:=hb.block w.heap.size (aX hh)
 rw[hh] at e
 exact dP e i
theorem qc(w:World)(b:Nat)(u0 u1 u2 u3:Value):Keep (λq=>q=b) w ((((w.setCell ⟨b,0,none⟩ u0).setCell ⟨b,1,none⟩ u1).setCell ⟨b,2,none⟩ u2).setCell ⟨b,3,none⟩ u3) :=
 ((((Keep.refl (λq=>q=b) w).set (p:=⟨b,0,none⟩) rfl u0).set (p:=⟨b,1,none⟩) rfl u1).set (p:=⟨b,2,none⟩) rfl u2).set (p:=⟨b,3,none⟩) rfl u3
theorem jD{w w':World}(h:Below w.heap.size w w')(u0 u1 u2 u3:Value):Below w.heap.size w ((((w'.setCell ⟨w.heap.size,0,none⟩ u0).setCell ⟨w.heap.size,1,none⟩ u1).setCell ⟨w.heap.size,2,none⟩ u2).setCell ⟨w.heap.size,3,none⟩ u3) :=
 h.trans ((qc w' w.heap.size u0 u1 u2 u3).below h.size (λq hq=>by have e:q=w.heap.size:=hq;omega))
theorem AP(a:Option Addr)(p:List Nat)(cap:Nat)(w:World)(hm:p.length<=9223372036854775807)(hL:bS w a p)(h:dx p) :
 Calls (Al.PB prog zb) 44 #[.slice a p.length cap] w λe w'=>e=.returned (.tuple #[F0,.int .i64 1])/\Below w.heap.size w w':=by
 have HB:Hid (∀ o,Below w.heap.size w (w.alloc o)):=λo=>aA w o
 have he:=λwx hx=>gY (zb:=zb) true a p cap wx ⟨λ_=>h,λ_=>rfl⟩ hm hx
 have Hr:Hid (∀ o,bS (w.alloc o) a p):=λo=>hL.below (aA w o)
 clear h hL
 go_enter Al.func44,Tryz.ntmps44
 go_wp2_with fail
 refine(he _ (Hr.out _)).mono ?_
 rintro e w1 ⟨rfl,rfl⟩
 go_wp2_with fail
 refine bodyPost_ret (v:=.tuple #[F0,.int .i64 1]) (by simp[results,Tryz.results44,go_sem]) rfl ?_
 exact⟨rfl,HB.out _⟩
theorem AQ(a:Option Addr)(p:List Nat)(cap:Nat)(w:World)(hm:p.length<=9223372036854775807)(hL:bS w a p)(h:¬dx p)
 (hU:∀ wx,bS wx a p->Calls (Al.PB prog zb) 70 #[.slice a p.length cap] wx λe w'=>e=.returned (.tuple #[F0,.bool false])/\Below wx.heap.size wx w') :
 Calls (Al.PB prog zb) 44 #[.slice a p.length cap] w λe w'=>e=.returned (.tuple #[F0,.int .i64 3])/\Below w.heap.size w w':=by
 have he:=λwx hx=>gY (zb:=zb) false a p cap wx ⟨(λe=>by cases e),λe=>absurd e h⟩ hm hx
 have Hr:Hid (∀ o,bS (w.alloc o) a p):=λo=>hL.below (aA w o)
 clear h hL
 go_enter Al.func44,Tryz.ntmps44
 go_wp2_with fail
 refine(he _ (Hr.out _)).mono ?_
 rintro e w1 ⟨rfl,rfl⟩
 go_wp2_with fail
 refine(hU _ (Hr.out _)).mono ?_
 rintro e w2 ⟨rfl,hb2⟩
 have H3:Hid (∀ o,Below (w.alloc bK).heap.size (w.alloc bK) (w2.alloc o)):=λo=>hb2.alloc hb2.size o
 have H4:Hid (∀ o,eY (w2.alloc o) w.heap.size 0 0 0 none 0 0/\(∀ i,(w2.alloc o).frozen? ⟨w.heap.size,i,none⟩=false)/\Below w.heap.size w (w2.alloc o)):=λo=>oz (H3.out o)
 clear hb2 hU he H3
 have q0:=λo=>(H4.out o).1.c0
 have q1:=λo=>(H4.out o).1.c1
 have q2:=λo=>(H4.out o).1.c2
 have q3:=λo=>(H4.out o).1.c3
 have f0:=λo=>(H4.out o).2.1 0
 have f1:=λo=>(H4.out o).2.1 1
 have f2:=λo=>(H4.out o).2.1 2
 have f3:=λo=>(H4.out o).2.1 3
 go_wp2_with fail
 have hz:=mJ (H4.out (iR 0 0 0 none 0 0)).1 (.int .i64 0) (.int .i64 0) (.int .i64 0) (.slice none 0 0)
 refine bodyPost_ret (v:=.tuple #[F0,.int .i64 3]) (by simp[results,Tryz.results44,go_sem,hz.1,hz.2.1,hz.2.2.1,hz.2.2.2]) rfl ?_
 exact⟨rfl,jD (H4.out _).2.2 _ _ _ _⟩
theorem Ht(a:Option Addr)(p:List Nat)(cap:Nat)(w:World)(h1:24<=p.length)(h2:p.length<=4096)(hcap:p.length<=cap)(hA:aW p)(hL:bS w a p)(hE:¬dx p)(h3:aU p+21<=p.length)(hn:¬Named (aN p:Nat) (bL p:Nat) (wr (bq p))) :
 Calls (Al.PB prog zb) 44 #[.slice a p.length cap] w λe w'=>e=.returned (.tuple #[F0,.int .i64 3])/\Below w.heap.size w w':=by
 have Wd:=h1
 obtain⟨b,off,rfl,hc⟩:=hL.kP (by omega)
 have QZ:¬dx p:=hE
 have he:=λwx hx=>gY (zb:=zb) false (some ⟨b,off,none⟩) p cap wx ⟨(λe=>by cases e),λe=>absurd e QZ⟩ (by omega) hx
 have Hr:Hid (bS (w.alloc bK) (some ⟨b,off,none⟩) p):=hL.below (aA w bK)
 have HU:=lV (zb:=zb) (some ⟨b,off,none⟩) p cap (w.alloc bK) h1 h2 hcap hA Hr.out h3
 have Yw:Hid (aW p):=hA
 have Js:Hid ((aR p).length=aU p/\aW (aR p)):=⟨fK h3,fZ hA⟩
 have hP:=λwx a1 c1=>Hl (zb:=zb) (p.length:Int) (aN p:Nat) (bL p:Nat) (wr (bq p)) a1 (aU p) c1 wx (by omega) hn
 clear hn
 clear hE QZ hL hc h3
 go_enter Al.func44,Tryz.ntmps44
 go_wp2_with fail
 refine(he _ Hr.out).mono ?_
 rintro e w1 ⟨rfl,rfl⟩
 go_wp2_with fail
 refine HU.mono ?_
 rintro e w2 ⟨a1,c1,rfl,hO,hb2⟩
 have HI2:Hid (Below (w.alloc bK).heap.size (w.alloc bK) (w2.alloc (iR (aN p:Nat) (bL p:Nat) (wr (bq p)) a1 (aU p) c1))/\eY (w2.alloc (iR (aN p:Nat) (bL p:Nat) (wr (bq p)) a1 (aU p) c1)) w2.heap.size (aN p:Nat) (bL p:Nat) (wr (bq p)) a1 (aU p) c1/\dV (w2.alloc (iR (aN p:Nat) (bL p:Nat) (wr (bq p)) a1 (aU p) c1)) (w.alloc bK).heap.size a1 c1 (aR p)/\(w.alloc bK).heap.size<=w2.heap.size) :=
  ⟨hb2.alloc hb2.size _,gW w2 _ _ _ _ _ _,hO.below (aA w2 _),hb2.size⟩
 clear hO hb2 HU he
 generalize aN p=KK at *
 generalize bL p=LL at *
 generalize wr (bq p)=SS at *
 generalize aU p=DD at *
 go_wp2_with fail
 refine(hP _ _ _).mono ?_
 rintro e w3 ⟨rfl,hb3⟩
 have H4:Hid (eY w3 w.heap.size 0 0 0 none 0 0/\(∀ i,w3.frozen? ⟨w.heap.size,i,none⟩=false)/\Below w.heap.size w w3):=oz (HI2.out.1.trans (hb3.mono HI2.out.1.size))
 clear hb3 HI2 hP
 have q0:=H4.out.1.c0
 have q1:=H4.out.1.c1
 have q2:=H4.out.1.c2
 have q3:=H4.out.1.c3
 have f0:=H4.out.2.1 0
 have f1:=H4.out.2.1 1
 have f2:=H4.out.2.1 2
 have f3:=H4.out.2.1 3
 go_wp2_with fail
 have hz:=mJ H4.out.1 (.int .i64 0) (.int .i64 0) (.int .i64 0) (.slice none 0 0)
 refine bodyPost_ret (v:=.tuple #[F0,.int .i64 3]) (by simp[results,Tryz.results44,go_sem,hz.1,hz.2.1,hz.2.2.1,hz.2.2.2]) rfl ?_
 exact⟨rfl,jD H4.out.2.2 _ _ _ _⟩
theorem Hu(a:Option Addr)(p:List Nat)(cap:Nat)(w:World)(h1:24<=p.length)(h2:p.length<=4096)(hcap:p.length<=cap)(hA:aW p)(hL:bS w a p)(hE:¬dx p)(h3:aU p+21<=p.length)(hF:zP p.length (aN p) (bL p) (bq p) (aU p))(hne:aP p.length (aN p) (bL p) (bq p) (aR p)≠p) :
 Calls (Al.PB prog zb) 44 #[.slice a p.length cap] w λe w'=>e=.returned (.tuple #[F0,.int .i64 3])/\Below w.heap.size w w':=by
 have Wd:=h1
 obtain⟨b,off,rfl,hc⟩:=hL.kP (by omega)
 have QZ:¬dx p:=hE
 have he:=λwx hx=>gY (zb:=zb) false (some ⟨b,off,none⟩) p cap wx ⟨(λe=>by cases e),λe=>absurd e QZ⟩ (by omega) hx
 have Hr:Hid (bS (w.alloc bK) (some ⟨b,off,none⟩) p):=hL.below (aA w bK)
 have HU:=lV (zb:=zb) (some ⟨b,off,none⟩) p cap (w.alloc bK) h1 h2 hcap hA Hr.out h3
 have Yw:Hid (aW p):=hA
 have Js:Hid ((aR p).length=aU p/\aW (aR p)):=⟨fK h3,fZ hA⟩
 have rT:wr (bq p)=(bq p:Nat):=jC (by have:=hF.s1;omega)
 have Wh:Calls (Al.PB prog zb) 70 #[.slice (some ⟨b,off,none⟩) p.length cap] (w.alloc bK) λe w'=>∃ a c,e=.returned (.tuple #[FV (aN p:Nat) (bL p:Nat) (bq p:Nat) a (aU p) c,.bool true])/\dV w' (w.alloc bK).heap.size a c (aR p)/\Below (w.alloc bK).heap.size (w.alloc bK) w':=HU.mono λe w' h=>by
  obtain⟨a,c,h4,h5⟩:=h
  rw[rT] at h4
  exact⟨a,c,h4,h5⟩
 have hP:∀ wx a1 c1,bS wx a1 (aR p)->Calls (Al.PB prog zb) 35 #[.int .i64 p.length,FV (aN p:Nat) (bL p:Nat) (bq p:Nat) a1 (aU p) c1] wx λe w'=>∃ g,e=.returned (.tuple #[.slice (some ⟨g,0,none⟩) p.length p.length,.nilIface])/\wx.heap.size<=g/\Row w' g (aP p.length (aN p) (bL p) (bq p) (aR p))/\Below wx.heap.size wx w':=λwx a1 c1 hx=>by
  have:=p8 (zb:=zb) p.length (aN p) (bL p) (bq p) a1 c1 (aR p) wx (by rw[Js.out.1];exact hF) Js.out.2 hx
  rw[Js.out.1] at this
  exact this
 have Wi:Hid ((aP p.length (aN p) (bL p) (bq p) (aR p)).length=p.length/\aW (aP p.length (aN p) (bL p) (bq p) (aR p))):=⟨fJ _ _ _ _ _ (by rw[Js.out.1];exact h3),iQ _ _ _ _ _ (by have:=hF.k1;omega) Js.out.2⟩
 have Q0:Hid (∀ w',Below (w.alloc bK).heap.size (w.alloc bK) w'->∀ i,i<p.length->w'.cell? ⟨b,off+i,none⟩=some (.int .u8 ((p[i]?.getD 0:Nat):Int))):=λw' hb i hi=>by
  have e:(w.alloc bK).cell? ⟨b,off+i,none⟩=some (.int .u8 ((p[i]?.getD 0:Nat):Int)):=by rw[(aA w bK).cell (p:=⟨b,off+i,none⟩) (World.block_lt_of_cell? w _ (hc i hi))];exact hc i hi
  rw[hb.cell (p:=⟨b,off+i,none⟩) (World.block_lt_of_cell? _ _ e)]
  exact e
 obtain⟨PG,Jq⟩:∃ L,Hid (aP p.length (aN p) (bL p) (bq p) (aR p)=L):=⟨_,rfl⟩
 have Ze:Hid (PG≠p):=by rw[<-Jq.out];exact hne
 clear hne
 rw[Jq.out] at hP
 have J4:Hid (PG.length=p.length/\aW PG):=by rw[<-Jq.out];exact Wi.out
 clear HU Wi Jq rT hF
 clear hE QZ hL hc h3
 go_enter Al.func44,Tryz.ntmps44
 go_wp2_with fail
 refine(he _ Hr.out).mono ?_
 rintro e w1 ⟨rfl,rfl⟩
 go_wp2_with fail
 refine Wh.mono ?_
 rintro e w2 ⟨a1,c1,rfl,hO,hb2⟩
 have HI2:Hid (Below (w.alloc bK).heap.size (w.alloc bK) (w2.alloc (iR (aN p:Nat) (bL p:Nat) (bq p:Nat) a1 (aU p) c1))/\eY (w2.alloc (iR (aN p:Nat) (bL p:Nat) (bq p:Nat) a1 (aU p) c1)) w2.heap.size (aN p:Nat) (bL p:Nat) (bq p:Nat) a1 (aU p) c1/\dV (w2.alloc (iR (aN p:Nat) (bL p:Nat) (bq p:Nat) a1 (aU p) c1)) (w.alloc bK).heap.size a1 c1 (aR p)/\(w.alloc bK).heap.size<=w2.heap.size) :=
  ⟨hb2.alloc hb2.size _,gW w2 _ _ _ _ _ _,hO.below (aA w2 _),hb2.size⟩
 clear hO hb2 Wh he
 generalize aN p=KK at *
 generalize bL p=LL at *
 generalize bq p=SS at *
 generalize aU p=DD at *
 generalize aR p=DT at *
 go_wp2_with fail
 refine(hP _ _ _ HI2.out.2.2.1.lies).mono ?_
 rintro e w3 ⟨g,rfl,hg,hr,hb3⟩
 have H4:Hid (eY w3 w.heap.size 0 0 0 none 0 0/\(∀ i,w3.frozen? ⟨w.heap.size,i,none⟩=false)/\Below w.heap.size w w3):=oz (HI2.out.1.trans (hb3.mono HI2.out.1.size))
 have H5:Hid (eY w3 w2.heap.size KK LL SS a1 DD c1/\dV w3 (w.alloc bK).heap.size a1 c1 DT/\(w.alloc bK).heap.size<=w2.heap.size):=⟨HI2.out.2.1.below hb3,HI2.out.2.2.1.below hb3,HI2.out.2.2.2⟩
 have heq:Calls (Al.PB prog zb) 71 #[.slice (some ⟨g,0,none⟩) p.length p.length,.slice (some ⟨b,off,none⟩) p.length cap] w3 λe w'=>e=.returned (.bool (decide (PG=p)))/\w'=w3:=by
  have:=wO (zb:=zb) g 0 PG p.length b off p cap w3 J4.out.2 Yw.out (λi hi=>by rw[Nat.zero_add];exact gV hr i hi) (Q0.out w3 (HI2.out.1.trans (hb3.mono HI2.out.1.size)))
  rw[show (Value.slice (some ⟨g,0,none⟩) PG.length p.length)=.slice (some ⟨g,0,none⟩) p.length p.length by rw[J4.out.1]] at this
  exact this
 clear hb3 hr hg HI2 hP Q0
 rw[decide_eq_false Ze.out] at heq
 clear H5
 have q0:=H4.out.1.c0
 have q1:=H4.out.1.c1
 have q2:=H4.out.1.c2
 have q3:=H4.out.1.c3
 have f0:=H4.out.2.1 0
 have f1:=H4.out.2.1 1
 have f2:=H4.out.2.1 2
 have f3:=H4.out.2.1 3
 go_wp2_with fail
 refine heq.mono ?_
 rintro e w4 ⟨rfl,rfl⟩
 go_wp2_with fail
 have hz:=mJ H4.out.1 (.int .i64 0) (.int .i64 0) (.int .i64 0) (.slice none 0 0)
 refine bodyPost_ret (v:=.tuple #[F0,.int .i64 3]) (by simp[results,Tryz.results44,go_sem,hz.1,hz.2.1,hz.2.2.1,hz.2.2.2]) rfl ?_
 exact⟨rfl,jD H4.out.2.2 _ _ _ _⟩
def jW(w w':World)(e:Ending)(p:List Nat):Prop:=∃ a c,e=.returned (.tuple #[FV (aN p:Nat) (bL p:Nat) (bq p:Nat) a (aU p) c,.int .i64 2])/\dV w' w.heap.size a c (aR p)/\Below w.heap.size w w'
theorem NM(a:Option Addr)(p:List Nat)(cap:Nat)(w:World)(h1:24<=p.length)(h2:p.length<=4096)(hcap:p.length<=cap)(hA:aW p)(hL:bS w a p)(hE:¬dx p)(h3:aU p+21<=p.length)(hF:zP p.length (aN p) (bL p) (bq p) (aU p))(Wj:aP p.length (aN p) (bL p) (bq p) (aR p)=p) :
 Calls (Al.PB prog zb) 44 #[.slice a p.length cap] w λe w'=>jW w w' e p:=by
 have Wd:=h1
 obtain⟨b,off,rfl,hc⟩:=hL.kP (by omega)
 have QZ:¬dx p:=hE
 have he:=λwx hx=>gY (zb:=zb) false (some ⟨b,off,none⟩) p cap wx ⟨(λe=>by cases e),λe=>absurd e QZ⟩ (by omega) hx
 have Hr:Hid (bS (w.alloc bK) (some ⟨b,off,none⟩) p):=hL.below (aA w bK)
 have HU:=lV (zb:=zb) (some ⟨b,off,none⟩) p cap (w.alloc bK) h1 h2 hcap hA Hr.out h3
 have Yw:Hid (aW p):=hA
 have Js:Hid ((aR p).length=aU p/\aW (aR p)):=⟨fK h3,fZ hA⟩
 have rT:wr (bq p)=(bq p:Nat):=jC (by have:=hF.s1;omega)
 have Wh:Calls (Al.PB prog zb) 70 #[.slice (some ⟨b,off,none⟩) p.length cap] (w.alloc bK) λe w'=>∃ a c,e=.returned (.tuple #[FV (aN p:Nat) (bL p:Nat) (bq p:Nat) a (aU p) c,.bool true])/\dV w' (w.alloc bK).heap.size a c (aR p)/\Below (w.alloc bK).heap.size (w.alloc bK) w':=HU.mono λe w' h=>by
  obtain⟨a,c,h4,h5⟩:=h
  rw[rT] at h4
  exact⟨a,c,h4,h5⟩
 have hP:∀ wx a1 c1,bS wx a1 (aR p)->Calls (Al.PB prog zb) 35 #[.int .i64 p.length,FV (aN p:Nat) (bL p:Nat) (bq p:Nat) a1 (aU p) c1] wx λe w'=>∃ g,e=.returned (.tuple #[.slice (some ⟨g,0,none⟩) p.length p.length,.nilIface])/\wx.heap.size<=g/\Row w' g (aP p.length (aN p) (bL p) (bq p) (aR p))/\Below wx.heap.size wx w':=λwx a1 c1 hx=>by
  have:=p8 (zb:=zb) p.length (aN p) (bL p) (bq p) a1 c1 (aR p) wx (by rw[Js.out.1];exact hF) Js.out.2 hx
  rw[Js.out.1] at this
  exact this
 have Wi:Hid ((aP p.length (aN p) (bL p) (bq p) (aR p)).length=p.length/\aW (aP p.length (aN p) (bL p) (bq p) (aR p))):=⟨fJ _ _ _ _ _ (by rw[Js.out.1];exact h3),iQ _ _ _ _ _ (by have:=hF.k1;omega) Js.out.2⟩
 have Q0:Hid (∀ w',Below (w.alloc bK).heap.size (w.alloc bK) w'->∀ i,i<p.length->w'.cell? ⟨b,off+i,none⟩=some (.int .u8 ((p[i]?.getD 0:Nat):Int))):=λw' hb i hi=>by
  have e:(w.alloc bK).cell? ⟨b,off+i,none⟩=some (.int .u8 ((p[i]?.getD 0:Nat):Int)):=by rw[(aA w bK).cell (p:=⟨b,off+i,none⟩) (World.block_lt_of_cell? w _ (hc i hi))];exact hc i hi
  rw[hb.cell (p:=⟨b,off+i,none⟩) (World.block_lt_of_cell? _ _ e)]
  exact e
 obtain⟨PG,Jq⟩:∃ L,Hid (aP p.length (aN p) (bL p) (bq p) (aR p)=L):=⟨_,rfl⟩
 have Ze:Hid (PG=p):=by rw[<-Jq.out];exact Wj
 clear Wj
 have HV:Hid (∀ w' a c,dV w' w.heap.size a c (aR p)->Below w.heap.size w w'->jW w w' (.returned (.tuple #[FV (aN p:Nat) (bL p:Nat) (bq p:Nat) a (aU p) c,.int .i64 2])) p):=λw' a c h6 h7=>⟨a,c,rfl,h6,h7⟩
 rw[Jq.out] at hP
 have J4:Hid (PG.length=p.length/\aW PG):=by rw[<-Jq.out];exact Wi.out
 clear HU Wi Jq rT hF
 clear hE QZ hL hc h3
 go_enter Al.func44,Tryz.ntmps44
 go_wp2_with fail
 refine(he _ Hr.out).mono ?_
 rintro e w1 ⟨rfl,rfl⟩
 go_wp2_with fail
 refine Wh.mono ?_
 rintro e w2 ⟨a1,c1,rfl,hO,hb2⟩
 have HI2:Hid (Below (w.alloc bK).heap.size (w.alloc bK) (w2.alloc (iR (aN p:Nat) (bL p:Nat) (bq p:Nat) a1 (aU p) c1))/\eY (w2.alloc (iR (aN p:Nat) (bL p:Nat) (bq p:Nat) a1 (aU p) c1)) w2.heap.size (aN p:Nat) (bL p:Nat) (bq p:Nat) a1 (aU p) c1/\dV (w2.alloc (iR (aN p:Nat) (bL p:Nat) (bq p:Nat) a1 (aU p) c1)) (w.alloc bK).heap.size a1 c1 (aR p)/\(w.alloc bK).heap.size<=w2.heap.size) :=
  ⟨hb2.alloc hb2.size _,gW w2 _ _ _ _ _ _,hO.below (aA w2 _),hb2.size⟩
 clear hO hb2 Wh he
 generalize aN p=KK at *
 generalize bL p=LL at *
 generalize bq p=SS at *
 generalize aU p=DD at *
 generalize aR p=DT at *
 go_wp2_with fail
 refine(hP _ _ _ HI2.out.2.2.1.lies).mono ?_
 rintro e w3 ⟨g,rfl,hg,hr,hb3⟩
 have H4:Hid (eY w3 w.heap.size 0 0 0 none 0 0/\(∀ i,w3.frozen? ⟨w.heap.size,i,none⟩=false)/\Below w.heap.size w w3):=oz (HI2.out.1.trans (hb3.mono HI2.out.1.size))
 have H5:Hid (eY w3 w2.heap.size KK LL SS a1 DD c1/\dV w3 (w.alloc bK).heap.size a1 c1 DT/\(w.alloc bK).heap.size<=w2.heap.size):=⟨HI2.out.2.1.below hb3,HI2.out.2.2.1.below hb3,HI2.out.2.2.2⟩
 have heq:Calls (Al.PB prog zb) 71 #[.slice (some ⟨g,0,none⟩) p.length p.length,.slice (some ⟨b,off,none⟩) p.length cap] w3 λe w'=>e=.returned (.bool (decide (PG=p)))/\w'=w3:=by
  have:=wO (zb:=zb) g 0 PG p.length b off p cap w3 J4.out.2 Yw.out (λi hi=>by rw[Nat.zero_add];exact gV hr i hi) (Q0.out w3 (HI2.out.1.trans (hb3.mono HI2.out.1.size)))
  rw[show (Value.slice (some ⟨g,0,none⟩) PG.length p.length)=.slice (some ⟨g,0,none⟩) p.length p.length by rw[J4.out.1]] at this
  exact this
 clear hb3 hr hg HI2 hP Q0
 rw[decide_eq_true Ze.out] at heq
 have q0:=H4.out.1.c0
 have q1:=H4.out.1.c1
 have q2:=H4.out.1.c2
 have q3:=H4.out.1.c3
 have f0:=H4.out.2.1 0
 have f1:=H4.out.2.1 1
 have f2:=H4.out.2.1 2
 have f3:=H4.out.2.1 3
 have r0:=H5.out.1.c0
 have r1:=H5.out.1.c1
 have r2:=H5.out.1.c2
 have r3:=H5.out.1.c3
 go_wp2_with fail
 refine heq.mono ?_
 rintro e w4 ⟨rfl,rfl⟩
 clear heq
 go_wp2_with fail
 have hz:=mJ H4.out.1 (.int .i64 (KK:Int)) (.int .i64 (LL:Int)) (.int .i64 (SS:Int)) (.slice a1 DD c1)
 refine bodyPost_ret (v:=.tuple #[FV (KK:Nat) (LL:Nat) (SS:Nat) a1 DD c1,.int .i64 2]) (by simp[results,Tryz.results44,go_sem,hz.1,hz.2.1,hz.2.2.1,hz.2.2.2]) rfl ?_
 exact HV.out _ _ _ ((H5.out.2.1.keep (qc _ w.heap.size _ _ _ _) (λq hq e=>by have h6:=(H5.out.2.1.ge hq).1;simp at h6;omega)).base (by simp)) (jD H4.out.2.2 _ _ _ _)
theorem AU(a:Option Addr)(p:List Nat)(cap:Nat)(w:World)(hA:aW p)(hL:bS w a p)(hcap:p.length<=cap)(hm:p.length<=9223372036854775807) :
 Calls (Al.PB prog zb) 44 #[.slice a p.length cap] w λe w'=>(dx p/\e=.returned (.tuple #[F0,.int .i64 1])/\Below w.heap.size w w')\/(¬dx p/\fC p/\jW w w' e p)\/(¬dx p/\¬fC p/\e=.returned (.tuple #[F0,.int .i64 3])/\Below w.heap.size w w'):=by
 by_cases hE:dx p
 ·exact(AP a p cap w hm hL hE).mono λe w' ⟨h1,h2⟩=>Or.inl ⟨hE,h1,h2⟩
 by_cases h1:24<=p.length/\p.length<=4096
 case neg=>exact(AQ a p cap w hm hL hE (λwx _=>AL a p.length cap wx (by omega))).mono λe w' ⟨h2,h3⟩=>Or.inr (Or.inr ⟨hE,λhv=>h1 ⟨hv.1.n0,hv.1.n1⟩,h2,h3⟩)
 obtain⟨h1,h2⟩:=h1
 by_cases h3:aU p+21<=p.length
 case neg=>exact(AQ a p cap w hm hL hE (λwx hx=>AO a p cap wx h1 h2 hcap hA hx h3)).mono λe w' ⟨h4,h5⟩=>Or.inr (Or.inr ⟨hE,λhv=>h3 hv.1.d1,h4,h5⟩)
 have Zf:bq p<18446744073709551616:=by
  have:=nJ (dN p 6 8) (fZ hA)
  rw[gZ (by omega)] at this
  exact this
 by_cases hn:Named (aN p:Nat) (bL p:Nat) (wr (bq p))
 case neg =>
  refine(Ht a p cap w h1 h2 hcap hA hL hE h3 hn).mono λe w' ⟨h4,h5⟩=>Or.inr (Or.inr ⟨hE,λhv=>hn ?_,h4,h5⟩)
  have hq:=hv.1
  refine⟨⟨by have:=hq.k0;omega,by have:=hq.k1;omega⟩,⟨by omega,by have:=hq.l1;omega⟩,?_⟩
  rw[jC (by have:=hq.s1;omega)]
  exact⟨by omega,by have:=hq.s1;omega⟩
 have hsm:bq p<9223372036854775808:=by
  by_cases hb:bq p<9223372036854775808
  ·exact hb
  ·have:=RO (by omega:9223372036854775808<=bq p) Zf
   have:=hn.2.2.1
   omega
 rw[show wr (bq p)=(bq p:Nat) from jC hsm] at hn
 have hF:zP p.length (aN p) (bL p) (bq p) (aU p):=⟨h1,h2,by have:=hn.1.1;omega,by have:=hn.1.2;omega,by have:=hn.2.1.2;omega,by have:=hn.2.2.2;omega,h3⟩
 by_cases he:aP p.length (aN p) (bL p) (bq p) (aR p)=p
 ·exact(NM a p cap w h1 h2 hcap hA hL hE h3 hF he).mono λe w' h=>Or.inr (Or.inl ⟨hE,⟨hF,he⟩,h⟩)
 ·exact(Hu a p cap w h1 h2 hcap hA hL hE h3 hF he).mono λe w' ⟨h4,h5⟩=>Or.inr (Or.inr ⟨hE,λhv=>he hv.2,h4,h5⟩)
variable {zb:Bool}
def wP(w w':World)(e:Ending)(p:List Nat):Prop:=∃ a d c,e=.returned (.tuple #[FV (vF p:Nat) (vG p:Nat) (x9 p:Nat) a d c,.int .i64 (stP p:Nat)])/\Below w.heap.size w w'
theorem uj(a:Option Addr)(p:List Nat)(cap:Nat)(w:World)(hA:aW p)(hL:bS w a p)(hcap:p.length<=cap)(hm:p.length<=9223372036854775807) :
 Calls (Al.PB prog zb) 44 #[.slice a p.length cap] w λe w'=>wP w w' e p:=by
 refine(AU a p cap w hA hL hcap hm).mono ?_
 rintro e w' (⟨h1,rfl,h2⟩|⟨h1,h2,a',c',rfl,_,h3⟩|⟨h1,h2,rfl,h3⟩)
 ·obtain⟨e1,e2,e3,e4⟩:=Ae h1
  exact⟨none,0,0,by rw[e1,e2,e3,e4];rfl,h2⟩
 ·obtain⟨e1,e2,e3,e4⟩:=Db h1 h2
  exact⟨a',_,c',by rw[e1,e2,e3,e4];rfl,h3⟩
 ·obtain⟨e1,e2,e3,e4⟩:=Af h1 h2
  exact⟨none,0,0,by rw[e1,e2,e3,e4];rfl,h3⟩
structure Pg where
 a:Option Addr
 p:List Nat
 c:Nat
abbrev pg0:Pg:=⟨none,[],0⟩
def gP(L:List Pg)(i:Nat):Pg:=L[i]?.getD pg0
structure Wm(w:World)(g:Pg):Prop where
 all:aW g.p
 lies:bS w g.a g.p
 cap:g.p.length<=g.c
 most:g.p.length<=9223372036854775807
def kR(w:World)(b off:Nat)(L:List Pg):Prop:=∀ i,i<L.length->w.cell? ⟨b,off+i,none⟩=some (.slice (gP L i).a (gP L i).p.length (gP L i).c)/\Wm w (gP L i)
theorem fM{w w':World}{x:Addr}{v:Value}(hb:Below w.heap.size w w')(h:w.cell? x=some v):w'.cell? x=some v:=by
 have hlt:x.block<w.heap.size:=by
  unfold World.cell? at h
  cases hh:w.heap[x.block]? with
  |none=>rw[hh] at h;cases h
  |some o=>exact(Array.getElem?_eq_some_iff.1 hh).1
 rw[hb.cell hlt]
 exact h
theorem kR.below{w w':World}{b off:Nat}{L:List Pg}(h:kR w b off L)(hb:Below w.heap.size w w'):kR w' b off L:=λi hi=>by
 obtain⟨h1,h2⟩:=h i hi
 exact⟨fM hb h1,⟨h2.all,h2.lies.below hb,h2.cap,h2.most⟩⟩
structure Wn(cs:Array Value)(i:Nat)(p:List Nat):Prop where
 c0:cs[5*i]?=some (.int .i64 (stP p:Nat))
 c1:cs[5*i+1]?=some (.int .i64 (vG p:Nat))
 c2:cs[5*i+2]?=some (.int .i64 (i:Nat))
 c3:cs[5*i+3]?=some (.int .i64 (x9 p:Nat))
 c4:cs[5*i+4]?=some (.int .i64 (vF p:Nat))
structure RS(w wr:World)(L:List Pg)(k:Nat):Prop where
 bU:Below w.heap.size w wr
 row:∃ cs,wr.heap[w.heap.size]?=some (.cells cs 151 (0,0))/\cs.size=5*L.length/\∀ i,i<k->Wn cs i (gP L i).p
def oC(w w':World)(e:Ending)(L:List Pg):Prop:=e=.returned (.tuple #[.slice (some ⟨w.heap.size,0,none⟩) L.length L.length,.nilIface])/\RS w w' L L.length
def WS(w wr:World):Prop:=wr=w
theorem AV(a:Option Addr)(l c:Nat)(n:Int)(w:World)(h:n<1\/n>8):Calls (Al.PB prog false) 72 #[.slice a l c,.int .i64 n] w λe w'=>e=.returned (.tuple #[.slice none 0 0,.iface 58 (.int .i64 1)])/\w'=w:=by
 by_cases h1:n<1
 ·go_enter Al.func72,Al.ntmps72
  unfold Al.jU
  go_wp2
  go_ret2
  exact⟨rfl,rfl⟩
 ·have h2:n>8:=by omega
  go_enter Al.func72,Al.ntmps72
  unfold Al.jU
  go_wp2
  go_ret2
  exact⟨rfl,rfl⟩
theorem Dm(a:Option Addr)(l c:Nat)(n:Int)(w:World)(h0:¬n<1)(h8:¬n>8)(h:(l:Int)>4096):Calls (Al.PB prog false) 72 #[.slice a l c,.int .i64 n] w λe w'=>e=.returned (.tuple #[.slice none 0 0,.iface 58 (.int .i64 3)])/\w'=w:=by
 go_enter Al.func72,Al.ntmps72
 unfold Al.jU
 go_wp2
 go_ret2
 exact⟨rfl,rfl⟩
theorem AX(n:Nat)(hn:n<=4096):∃ z:Value,∀ wx:World,(Instr.makeSlice 147 (.int .i64 (n:Int)) (.int .i64 (n:Int))).run (Al.PB prog false) wx=.ok (.slice (some ⟨wx.heap.size,0,none⟩) n n) (wx.alloc (.cells (madeCells z.cells (n*5)) 151)):=by
 refine⟨.agg #[.int .i64 0,.int .i64 0,.int .i64 0,.int .i64 0,.int .i64 0],λwx=>?_⟩
 have hb:((((Al.PB prog false).info? 151).getD default).bytes:Int)<=1024:=Int.ofNat_le.2 (Nat.le_of_ble_eq_true (by kernel_rfl))
 have hs:(((Al.PB prog false).info? 151).getD default).size=5:=by kernel_rfl
 have hbn:((((Al.PB prog false).info? 151).getD default).bytes:Int)*n<=1024*4096:=Int.mul_le_mul hb (by omega) (by omega) (by omega)
 have hr:=run_make (P:=(Al.PB prog false)) wx 147 151 (((Al.PB prog false).info? 151).getD default) (.agg #[.int .i64 0,.int .i64 0,.int .i64 0,.int .i64 0,.int .i64 0]) (by kernel_rfl) (by kernel_rfl) (by kernel_rfl) .i64 .i64 (n:Int) (n:Int) (by omega) (by omega) (by omega) (by omega)
 rw[Int.toNat_natCast,hs] at hr
 exact hr
theorem Hw(w:World)(b o0 o1 o2 o3 o4:Nat)(u0 u1 u2 u3 u4:Value):Keep (λq=>q=b) w (((((w.setCell ⟨b,o0,none⟩ u0).setCell ⟨b,o1,none⟩ u1).setCell ⟨b,o2,none⟩ u2).setCell ⟨b,o3,none⟩ u3).setCell ⟨b,o4,none⟩ u4) :=
 (((((Keep.refl (λq=>q=b) w).set (p:=⟨b,o0,none⟩) rfl u0).set (p:=⟨b,o1,none⟩) rfl u1).set (p:=⟨b,o2,none⟩) rfl u2).set (p:=⟨b,o3,none⟩) rfl u3).set (p:=⟨b,o4,none⟩) rfl u4
theorem RS.put{w wr:World}{L:List Pg}{k:Nat}(h:RS w wr L k)(hk:k<L.length){w2:World}(hb:Below wr.heap.size wr w2) :
 (∀ j,j<5->(∃ v,w2.cell? ⟨w.heap.size,5*k+j,none⟩=some v)/\w2.frozen? ⟨w.heap.size,5*k+j,none⟩=false) /\
 RS w (((((w2.setCell ⟨w.heap.size,5*k,none⟩ (.int .i64 (stP (gP L k).p:Nat))).setCell ⟨w.heap.size,5*k+1,none⟩ (.int .i64 (vG (gP L k).p:Nat))).setCell ⟨w.heap.size,5*k+2,none⟩ (.int .i64 (k:Nat))).setCell ⟨w.heap.size,5*k+3,none⟩ (.int .i64 (x9 (gP L k).p:Nat))).setCell ⟨w.heap.size,5*k+4,none⟩ (.int .i64 (vF (gP L k).p:Nat))) L (k+1):=by
 obtain⟨cs,hcs,hsz,hat⟩:=h.row
 have hlt:w.heap.size<wr.heap.size:=(Array.getElem?_eq_some_iff.1 hcs).1
 have h2:w2.heap[w.heap.size]?=some (.cells cs 151 (0,0)):=(hb.block _ hlt).trans hcs
 have key:∀ (wx:World) (cx:Array Value) (o:Nat) (v:Value),wx.heap[w.heap.size]?=some (.cells cx 151 (0,0))->(wx.setCell ⟨w.heap.size,o,none⟩ v).heap[w.heap.size]?=some (.cells (cx.setIfInBounds o v) 151 (0,0))/\(wx.setCell ⟨w.heap.size,o,none⟩ v).heap.size=wx.heap.size/\∀ q,q≠w.heap.size->(wx.setCell ⟨w.heap.size,o,none⟩ v).heap[q]?=wx.heap[q]?:=λwx cx o v hx=>by
  have hl:w.heap.size<wx.heap.size:=(Array.getElem?_eq_some_iff.1 hx).1
  have hv:wx.heap[w.heap.size]=.cells cx 151 (0,0):=(Array.getElem?_eq_some_iff.1 hx).2
  refine⟨?_,by simp[World.setCell],λq hq=>by simp[World.setCell,Array.getElem?_modify,Ne.symm hq]⟩
  simp[World.setCell,Array.getElem?_modify,hx]
 refine⟨λj hj=>⟨?_,by simp[World.frozen?,h2]⟩,?_⟩
 ·have:5*k+j<cs.size:=by omega
  exact⟨cs[5*k+j],by simp[World.cell?,h2,this]⟩
 ·have k0:=key w2 cs (5*k) (.int .i64 (stP (gP L k).p:Nat)) h2
  have k1:=key _ _ (5*k+1) (.int .i64 (vG (gP L k).p:Nat)) k0.1
  have k2:=key _ _ (5*k+2) (.int .i64 (k:Nat)) k1.1
  have k3:=key _ _ (5*k+3) (.int .i64 (x9 (gP L k).p:Nat)) k2.1
  have k4:=key _ _ (5*k+4) (.int .i64 (vF (gP L k).p:Nat)) k3.1
  refine⟨?_,_,k4.1,by simp[hsz],λi hi=>?_⟩
  ·have hk:Keep (λq=>q=w.heap.size) w2 _:=Hw w2 w.heap.size (5*k) (5*k+1) (5*k+2) (5*k+3) (5*k+4) (.int .i64 (stP (gP L k).p:Nat)) (.int .i64 (vG (gP L k).p:Nat)) (.int .i64 (k:Nat)) (.int .i64 (x9 (gP L k).p:Nat)) (.int .i64 (vF (gP L k).p:Nat))
   exact(h.bU.trans (hb.mono h.bU.size)).trans (hk.below (h.bU.trans (hb.mono h.bU.size)).size (λq hq=>by have e:q=w.heap.size:=hq;omega))
  ·by_cases e:i=k
   ·subst e
    constructor<;>(simp only[Array.getElem?_setIfInBounds,Array.size_setIfInBounds];repeat (first|rw[if_pos (by omega)] | rw[if_neg (by omega)]))<;>simp<;>omega
   ·obtain⟨c0,c1,c2,c3,c4⟩:=hat i (by omega)
    constructor<;>(simp only[Array.getElem?_setIfInBounds,Array.size_setIfInBounds];repeat rw[if_neg (by omega)])<;>assumption
set_option maxRecDepth 20000 in
theorem Dn(b off pc:Nat)(L:List Pg)(n:Int)(w:World)(h0:¬n<1)(h8:¬n>8)(hpos:0<L.length)(hl:L.length<=4096)(hp:kR w b off L) :
 Calls (Al.PB prog false) 72 #[.slice (some ⟨b,off,none⟩) L.length pc,.int .i64 n] w λe w'=>oC w w' e L:=by
 have HL:¬(L.length:Int)>4096:=by omega
 have he:∀ w:World,(binOp .eql 102 (.slice (some ⟨b,off,none⟩) L.length pc) (.slice none 0 0)).run (Al.PB prog false) w=.ok (.bool false) w:=λ_=>rfl
 have heS:∀ (x:Addr) (l c:Nat) (w:World),(binOp .eql 34 (.slice (some x) l c) (.slice none 0 0)).run (Al.PB prog false) w=.ok (.bool false) w:=λ_ _ _ _=>rfl
 have heN:∀ (l c:Nat) (w:World),(binOp .eql 34 (.slice none l c) (.slice none 0 0)).run (Al.PB prog false) w=.ok (.bool true) w:=λ_ _ _=>rfl
 have HP:Hid (kR w b off L):=hp
 have HO:Hid (∀ wr,Below w.heap.size w wr->kR wr b off L):=λwr hb=>hp.below hb
 obtain⟨z,hz⟩:=AX L.length hl
 generalize z.cells=zc at hz
 have HZ:Hid (∀ cs:Array Value,RS w (w.alloc (.cells (madeCells cs (L.length*5)) 151)) L 0):=λcs=>⟨aA w _,_,heap_alloc_new w _,by simp[madeCells];omega,λi hi=>absurd hi (Nat.not_lt_zero _)⟩
 have fi0:∀ (k l s:Int) (a:Option Addr) (d c:Nat) (w:World),(Instr.field 68 (FV k l s a d c) 0).run (Al.PB prog false) w=.ok (.int .i64 k) w:=λ_ _ _ _ _ _ _=>by kernel_rfl
 have fi1:∀ (k l s:Int) (a:Option Addr) (d c:Nat) (w:World),(Instr.field 68 (FV k l s a d c) 1).run (Al.PB prog false) w=.ok (.int .i64 l) w:=λ_ _ _ _ _ _ _=>by kernel_rfl
 have fi2:∀ (k l s:Int) (a:Option Addr) (d c:Nat) (w:World),(Instr.field 68 (FV k l s a d c) 2).run (Al.PB prog false) w=.ok (.int .i64 s) w:=λ_ _ _ _ _ _ _=>by kernel_rfl
 clear hp
 go_enter Al.func72,Al.ntmps72
 unfold Al.jU
 go_wp2
 go_loopw [11] (λj wr=>∃ k:Nat,k<=L.length/\j=.int .i64 k/\Hid (WS w wr)) (λj _=>L.length-(intOf j).toNat)
 case atStart=>exact⟨0,Nat.zero_le _,rfl,rfl⟩
 case round =>
  obtain⟨k,hk,rfl,hR⟩:=hrel
  have hwr:w=wr:=hR.out.symm
  subst hwr
  clear hR
  by_cases hlt:k<L.length
  ·obtain⟨hc,hg⟩:=HP.out k hlt
   have k0:(0:Int)<=(k:Int):=by omega
   have k1:(k:Int)<(L.length:Int):=by omega
   generalize gP L k=gg at hc hg
   obtain⟨ga,gp,gc⟩:=gg
   have HG:Hid (aW gp/\bS w ga gp):=⟨hg.all,hg.lies⟩
   have g1:¬(gp.length:Int)>(gc:Int):=by have:=hg.cap;simp only at this;omega
   have g2:¬(gp.length:Int)>9223372036854775807:=by have:=hg.most;simp only at this;omega
   simp only at hc
   clear hg
   rcases Classical.em (gp=[]) with hnil|hne
   ·subst hnil
    cases ga with
    |none =>
     go_wp2
     go_loopw [17] (λj wx=>j=.int .i64 0/\Hid (WS w wx)) (λ_ _=>0)
     case atStart=>exact⟨rfl,rfl⟩
     case round =>
      obtain⟨rfl,hX⟩:=hrel
      have hwx:w=wr:=hX.out.symm
      subst hwx
      go_wp2
      exact⟨⟨k+1,by omega,by go_num,rfl⟩,by simp[intOf];omega⟩
    |some x =>
     go_wp2
     go_loopw [17] (λj wx=>j=.int .i64 0/\Hid (WS w wx)) (λ_ _=>0)
     case atStart=>exact⟨rfl,rfl⟩
     case round =>
      obtain⟨rfl,hX⟩:=hrel
      have hwx:w=wr:=hX.out.symm
      subst hwx
      go_wp2
      exact⟨⟨k+1,by omega,by go_num,rfl⟩,by simp[intOf];omega⟩
   ·obtain⟨bb,oo,rfl,hby⟩:∃ bb oo,ga=some ⟨bb,oo,none⟩/\∀ i,i<gp.length->w.cell? ⟨bb,oo+i,none⟩=some (.int .u8 ((gp[i]?.getD 0:Nat):Int)):=HG.out.2.resolve_left hne
    have hall:Hid (∀ i:Nat,¬((gp[i]?.getD 0:Nat):Int)>255):=λi=>by
     have:=HG.out.1
     cases hi:gp[i]? with
     |none=>simp
     |some x=>have:=this x (List.mem_of_getElem? hi);simp;omega
    have HB:Hid (∀ i,i<gp.length->w.cell? ⟨bb,oo+i,none⟩=some (.int .u8 ((gp[i]?.getD 0:Nat):Int))):=hby
    clear hby hne HG
    go_wp2
    go_loopw [17] (λj wx=>∃ q:Nat,q<=gp.length/\j=.int .i64 q/\Hid (WS w wx)) (λj _=>gp.length-(intOf j).toNat)
    case atStart=>exact⟨0,Nat.zero_le _,rfl,rfl⟩
    case round =>
     obtain⟨q,hq,rfl,hX⟩:=hrel
     have hwx:w=wr:=hX.out.symm
     subst hwx
     clear hX
     by_cases hqt:q<gp.length
     ·have q0:(0:Int)<=(q:Int):=by omega
      have q1:(q:Int)<(gp.length:Int):=by omega
      have hcell:=HB.out q hqt
      have hsm:=hall.out q
      generalize gp[q]?.getD 0=zz at hcell hsm
      have hz0:¬((zz:Nat):Int)<0:=by omega
      go_wp2
      exact⟨⟨q+1,by omega,by go_num,rfl⟩,by simp[intOf];omega⟩
     ·obtain rfl:q=gp.length:=by omega
      clear hqt
      go_wp2
      exact⟨⟨k+1,by omega,by go_num,rfl⟩,by simp[intOf];omega⟩
  ·obtain rfl:k=L.length:=by omega
   clear hlt
   go_wp2
   go_loopw [26] (λj wr=>∃ k:Nat,k<=L.length/\j=.int .i64 k/\Hid (RS w wr L k)) (λj _=>L.length-(intOf j).toNat)
   case atStart=>exact⟨0,Nat.zero_le _,rfl,HZ.out _⟩
   case round =>
    obtain⟨k,hk,rfl,hR⟩:=hrel
    by_cases hlt:k<L.length
    ·obtain⟨hc,hg⟩:=HO.out wr hR.out.bU k hlt
     have k0:(0:Int)<=(k:Int):=by omega
     have k1:(k:Int)<(L.length:Int):=by omega
     have Wo:Hid (∀ w2,Below wr.heap.size wr w2->(∀ j,j<5->(∃ v,w2.cell? ⟨w.heap.size,5*k+j,none⟩=some v)/\w2.frozen? ⟨w.heap.size,5*k+j,none⟩=false) /\
      RS w (((((w2.setCell ⟨w.heap.size,5*k,none⟩ (.int .i64 (stP (gP L k).p:Nat))).setCell ⟨w.heap.size,5*k+1,none⟩ (.int .i64 (vG (gP L k).p:Nat))).setCell ⟨w.heap.size,5*k+2,none⟩ (.int .i64 (k:Nat))).setCell ⟨w.heap.size,5*k+3,none⟩ (.int .i64 (x9 (gP L k).p:Nat))).setCell ⟨w.heap.size,5*k+4,none⟩ (.int .i64 (vF (gP L k).p:Nat))) L (k+1)):=λw2 hb=>hR.out.put hlt hb
     have HS:Hid (Calls (Al.PB prog false) 44 #[.slice (gP L k).a (gP L k).p.length (gP L k).c] wr λe w'=>∃ a d c,e=.returned (.tuple #[FV (vF (gP L k).p:Nat) (vG (gP L k).p:Nat) (x9 (gP L k).p:Nat) a d c,.int .i64 (stP (gP L k).p:Nat)])/\Below wr.heap.size wr w'):=uj _ _ _ wr hg.all hg.lies hg.cap hg.most
     clear hR hg
     generalize gP L k=gg at *
     obtain⟨ga,gp,gc⟩:=gg
     generalize stP gp=ST at *
     generalize vG gp=LB at *
     generalize x9 gp=SQ at *
     generalize vF gp=KD at *
     simp only at hc HS
     go_wp2_with fail
     refine HS.out.mono ?_
     rintro e w2 ⟨fa,fd,fc,rfl,hb⟩
     have em:5*k=k*5:=Nat.mul_comm 5 k
     have hP2:=Wo.out w2 hb
     rw[em] at hP2
     obtain⟨hcs,hRS⟩:=hP2
     clear em
     obtain⟨⟨v0,c0⟩,f0⟩:=hcs 0 (by omega)
     rw[Nat.add_zero] at c0 f0
     obtain⟨⟨v1,c1⟩,f1⟩:=hcs 1 (by omega)
     obtain⟨⟨v2,c2⟩,f2⟩:=hcs 2 (by omega)
     obtain⟨⟨v3,c3⟩,f3⟩:=hcs 3 (by omega)
     obtain⟨⟨v4,c4⟩,f4⟩:=hcs 4 (by omega)
     have HRS:Hid (RS w _ L (k+1)):=hRS
     clear hcs hRS Wo hb HS
     go_wp2
     exact⟨⟨k+1,by omega,by go_num,HRS.out⟩,by simp[intOf];omega⟩
    ·obtain rfl:k=L.length:=by omega
     clear hlt
     go_wp2
     go_ret2
     exact⟨rfl,hR.out⟩
set_option maxRecDepth 20000 in
theorem Hy(pa:Option Addr)(pc:Nat)(n:Int)(w:World)(h0:¬n<1)(h8:¬n>8) :
 Calls (Al.PB prog false) 72 #[.slice pa 0 pc,.int .i64 n] w λe w'=>oC w w' e []:=by
 have heS:∀ (x:Addr) (l c:Nat) (w:World),(binOp .eql 102 (.slice (some x) l c) (.slice none 0 0)).run (Al.PB prog false) w=.ok (.bool false) w:=λ_ _ _ _=>rfl
 have heN:∀ (l c:Nat) (w:World),(binOp .eql 102 (.slice none l c) (.slice none 0 0)).run (Al.PB prog false) w=.ok (.bool true) w:=λ_ _ _=>rfl
 obtain⟨z,hz⟩:=AX 0 (by omega)
 generalize z.cells=zc at hz
 have hz':∀ wx:World,(Instr.makeSlice 147 (.int .i64 0) (.int .i64 0)).run (Al.PB prog false) wx=.ok (.slice (some ⟨wx.heap.size,0,none⟩) 0 0) (wx.alloc (.cells (madeCells zc (0*5)) 151)):=hz
 have HZ:Hid (∀ cs:Array Value,RS w (w.alloc (.cells (madeCells cs (0*5)) 151)) [] 0):=λcs=>⟨aA w _,_,heap_alloc_new w _,by simp[madeCells],λi hi=>absurd hi (Nat.not_lt_zero _)⟩
 clear hz
 cases pa with
 |none =>
  go_enter Al.func72,Al.ntmps72
  unfold Al.jU
  go_wp2
  go_loopw [11] (λj wr=>j=.int .i64 0/\Hid (WS w wr)) (λ_ _=>0)
  case atStart=>exact⟨rfl,rfl⟩
  case round =>
   obtain⟨rfl,hX⟩:=hrel
   have hwx:w=wr:=hX.out.symm
   subst hwx
   clear hX
   go_wp2
   go_loopw [26] (λj wr=>j=.int .i64 0/\Hid (RS w wr [] 0)) (λ_ _=>0)
   case atStart=>exact⟨rfl,HZ.out _⟩
   case round =>
    obtain⟨rfl,hX⟩:=hrel
    go_wp2
    go_ret2
    exact⟨rfl,hX.out⟩
 |some x =>
  go_enter Al.func72,Al.ntmps72
  unfold Al.jU
  go_wp2
  go_loopw [11] (λj wr=>j=.int .i64 0/\Hid (WS w wr)) (λ_ _=>0)
  case atStart=>exact⟨rfl,rfl⟩
  case round =>
   obtain⟨rfl,hX⟩:=hrel
   have hwx:w=wr:=hX.out.symm
   subst hwx
   clear hX
   go_wp2
   go_loopw [26] (λj wr=>j=.int .i64 0/\Hid (RS w wr [] 0)) (λ_ _=>0)
   case atStart=>exact⟨rfl,HZ.out _⟩
   case round =>
    obtain⟨rfl,hX⟩:=hrel
    go_wp2
    go_ret2
    exact⟨rfl,hX.out⟩
def NP(w:World)(pa:Option Addr)(L:List Pg):Prop:=L=[]\/∃ b off,pa=some ⟨b,off,none⟩/\kR w b off L
theorem wQ(pa:Option Addr)(pc:Nat)(L:List Pg)(n:Int)(w:World)(h0:¬n<1)(h8:¬n>8)(hl:L.length<=4096)(hp:NP w pa L) :
 Calls (Al.PB prog false) 72 #[.slice pa L.length pc,.int .i64 n] w λe w'=>oC w w' e L:=by
 by_cases h:L=[]
 ·subst h
  exact Hy pa pc n w h0 h8
 ·obtain⟨b,off,rfl,hq⟩:=hp.resolve_left h
  exact Dn b off pc L n w h0 h8 (List.length_pos_iff.2 h) hl hq
end Go.Proofs.ah
namespace Go.Proofs.ah
open Tryz (prog)
open ay
open ak
open Go.RowKit Go.Sort
def g_(x y:Int):Int:=if x<y then -1 else if y<x then 1 else 0
theorem yC{x y:Int}(h:x<y):g_ x y=-1:=if_pos h
theorem yD{x y:Int}(h:y<x):g_ x y=1:=by unfold g_;rw[if_neg (by omega),if_pos h]
theorem yE{x y:Int}(h:x=y):g_ x y=0:=by unfold g_;rw[if_neg (by omega),if_neg (by omega)]
theorem iU(x:Int)(w:World):Calls (Al.PB prog false) 101 #[.int .i64 x] w λe w'=>e=.returned (.bool false)/\w'=w:=by
 go_enter Al.func101,Tryz.ntmps101
 go_wp2
 go_ret
 exact⟨by simp,rfl⟩
theorem lX(x y:Int)(w:World):Calls (Al.PB prog false) 76 #[.int .i64 x,.int .i64 y] w λe w'=>e=.returned (.int .i64 (g_ x y))/\w'=w:=by
 by_cases h:x<y
 ·rw[yC h]
  go_enter Al.func76,Tryz.ntmps76
  go_wp2_with (go_at_call 101;refine(iU _ _).mono ?_;rintro e w' ⟨rfl,rfl⟩)
  go_ret
  exact⟨rfl,rfl⟩
 ·by_cases h2:y<x
  ·rw[yD h2]
   go_enter Al.func76,Tryz.ntmps76
   go_wp2_with (go_at_call 101;refine(iU _ _).mono ?_;rintro e w' ⟨rfl,rfl⟩)
   go_ret
   exact⟨rfl,rfl⟩
  ·rw[yE (by omega)]
   go_enter Al.func76,Tryz.ntmps76
   go_wp2_with (go_at_call 101;refine(iU _ _).mono ?_;rintro e w' ⟨rfl,rfl⟩)
   go_ret
   exact⟨rfl,rfl⟩
def lD:List Int->Int
 | []=>0
 |x::r=>if x=0 then lD r else x
theorem jE:∀ (vs:List Int) (k:Nat),k<=vs.length->(∀ i,i<k->vs[i]?.getD 0=0)->lD vs=lD (vs.drop k)
 |vs,0,_,_=>by simp
 | [],k+1,h,_=>by simp at h
 |x::r,k+1,h,h0=>by
  have hx:x=0:=by simpa using h0 0 (by omega)
  rw[lD,if_pos hx,List.drop_succ_cons]
  exact jE r k (by simpa using h) (λi hi=>by simpa using h0 (i+1) (by omega))
theorem yF{vs:List Int}{k:Nat}(h:k<vs.length)(h0:∀ i,i<k->vs[i]?.getD 0=0)(hn:vs[k]?.getD 0≠0):lD vs=vs[k]?.getD 0:=by
 rw[jE vs k (by omega) h0,List.drop_eq_getElem_cons h,lD]
 rw[List.getElem?_eq_getElem h] at hn ⊢
 rw[if_neg (show ¬vs[k]=0 from hn)]
 rfl
theorem yG{vs:List Int}(h0:∀ i,i<vs.length->vs[i]?.getD 0=0):lD vs=0:=by
 rw[jE vs vs.length (Nat.le_refl _) h0]
 simp[lD]
def RQ(w wr:World)(vs:List Int)(k:Nat):Prop:=wr=w/\∀ i,i<k->vs[i]?.getD 0=0
theorem Dp(g cap:Nat)(vs:List Int)(w:World)(hl:vs.length<=64)(hc:∀ i,i<vs.length->w.cell? ⟨g,i,none⟩=some (.int .i64 (vs[i]?.getD 0))) :
 Calls (Al.PB prog false) 75 #[.slice (some ⟨g,0,none⟩) vs.length cap] w λe w'=>e=.returned (.int .i64 (lD vs))/\w'=w:=by
 have HC:Hid (∀ i,i<vs.length->w.cell? ⟨g,i,none⟩=some (.int .i64 (vs[i]?.getD 0))):=hc
 clear hc
 go_enter Al.func75,Tryz.ntmps75
 go_wp2
 go_loopw [8] (λj wr=>∃ k:Nat,k<=vs.length/\j=.int .i64 k/\Hid (RQ w wr vs k)) (λj _=>vs.length-(intOf j).toNat)
 case atStart=>exact⟨0,Nat.zero_le _,rfl,(⟨rfl,λi hi=>absurd hi (Nat.not_lt_zero _)⟩:RQ w w vs 0)⟩
 case round =>
  obtain⟨k,hk,rfl,hR0⟩:=hrel
  obtain⟨rfl,Wp⟩:=hR0.out
  have hR:Hid (∀ i,i<k->vs[i]?.getD 0=0):=Wp
  clear hR0 Wp
  by_cases hlt:k<vs.length
  ·have c0:=HC.out k hlt
   have HH:Hid (vs[k]?.getD 0≠0->lD vs=vs[k]?.getD 0):=λh=>yF hlt hR.out h
   have HS:Hid (vs[k]?.getD 0=0->∀ i,i<k+1->vs[i]?.getD 0=0):=λh i hi=>by
    by_cases e:i=k
    ·rw[e];exact h
    ·exact hR.out i (by omega)
   clear hR
   generalize vs[k]?.getD 0=v at *
   by_cases hv:v=0
   ·subst hv
    go_wp2
    exact⟨⟨k+1,by omega,by go_num,(⟨rfl,HS.out rfl⟩:RQ wr wr vs (k+1))⟩,by simp[intOf];omega⟩
   ·have hv2:(v != 0)=true:=bne_iff_ne.2 hv
    go_wp2
    go_ret
    exact⟨by rw[HH.out hv];rfl,rfl⟩
  ·obtain rfl:k=vs.length:=by omega
   clear hlt
   have HZ:Hid (lD vs=0):=yG hR.out
   go_wp2
   go_ret
   exact⟨by rw[HZ.out];rfl,rfl⟩
theorem Dq(W:World)(x y z:Int):Calls (Al.PB prog false) 75 #[.slice (some ⟨W.heap.size,0,none⟩) 3 3] (W.alloc (.cells #[.int .i64 x,.int .i64 y,.int .i64 z] 3)).drew λe w'=>e=.returned (.int .i64 (lD [x,y,z]))/\w'=(W.alloc (.cells #[.int .i64 x,.int .i64 y,.int .i64 z] 3)).drew:=by
 refine Dp W.heap.size 3 [x,y,z] _ (by simp) (λi hi=>?_)
 have h:i=0\/i=1\/i=2:=by simp at hi;omega
 rcases h with rfl|rfl|rfl<;>simp
set_option maxRecDepth 100000 in
theorem Hz(a0 a1 a2 a3 b0 b1 b2 b3:Int)(w:World) :
 Calls (Al.PB prog false) 74 #[.agg #[.int .i64 a0,.int .i64 a1,.int .i64 a2,.int .i64 a3],.agg #[.int .i64 b0,.int .i64 b1,.int .i64 b2,.int .i64 b3]] w λe w'=>e=.returned (.int .i64 (lD [g_ a0 b0,g_ b2 a2,g_ b1 a1]))/\∃ q os',w'=grow (w.drewN q) os':=by
 have HE:Hid (∀ o1 o2 o3:Obj,∃ q os',(((w.alloc o1).alloc o2).alloc o3).drew=grow (w.drewN q) os'):=λo1 o2 o3=>⟨1,#[o1,o2,o3],by rw[alloc_eq_grow,alloc_eq_grow,alloc_eq_grow,grow_grow,grow_grow,drew_grow];rfl⟩
 have HC:Hid (∀ x y W,Calls (Al.PB prog false) 76 #[.int .i64 x,.int .i64 y] W λe w'=>e=.returned (.int .i64 (g_ x y))/\w'=W):=lX
 obtain⟨W,hW⟩:∃ W,W=(w.alloc (.cells #[.int .i64 a0,.int .i64 a1,.int .i64 a2,.int .i64 a3] 111)).alloc (.cells #[.int .i64 b0,.int .i64 b1,.int .i64 b2,.int .i64 b3] 111):=⟨_,rfl⟩
 have HW:Hid (∀ o:Obj,∃ q os',(W.alloc o).drew=grow (w.drewN q) os'):=λo=>by rw[hW];exact HE.out _ _ o
 clear HE
 obtain⟨g,hg⟩:∃ g,g=w.heap.size:=⟨_,rfl⟩
 have c0:W.cell? ⟨g,0,none⟩=some (.int .i64 a0):=by rw[hW,hg];simp
 have c1:W.cell? ⟨g,1,none⟩=some (.int .i64 a1):=by rw[hW,hg];simp
 have c2:W.cell? ⟨g,2,none⟩=some (.int .i64 a2):=by rw[hW,hg];simp
 have d0:W.cell? ⟨g+1,0,none⟩=some (.int .i64 b0):=by rw[hW,hg];simp
 have d1:W.cell? ⟨g+1,1,none⟩=some (.int .i64 b1):=by rw[hW,hg];simp
 have d2:W.cell? ⟨g+1,2,none⟩=some (.int .i64 b2):=by rw[hW,hg];simp
 go_enter Al.func74,Tryz.ntmps74
 go_wp2
 rw[<-hW,<-hg]
 clear hW hg
 generalize g+1=h at *
 go_region_held3 (λw'=>w'.cell? ⟨g,0,none⟩=some (.int .i64 a0)/\w'.cell? ⟨g,1,none⟩=some (.int .i64 a1)/\w'.cell? ⟨g,2,none⟩=some (.int .i64 a2)/\w'.cell? ⟨h,0,none⟩=some (.int .i64 b0)/\w'.cell? ⟨h,1,none⟩=some (.int .i64 b1)/\w'.cell? ⟨h,2,none⟩=some (.int .i64 b2)) (first|assumption|go_keep) (first|(go_at_call 76;refine(HC.out _ _ _).mono ?_;rintro e w' ⟨rfl,rfl⟩)|(go_at_call 75;refine(Dq _ _ _ _).mono ?_;rintro e w' ⟨rfl,rfl⟩))
 go_wp2
 go_ret
 exact⟨rfl,HW.out _⟩
theorem Dr(a0 a1 a2 a3 b0 b1 b2 b3:Int)(w:World) :
 Calls (Al.PB prog false) 78 #[.agg #[.int .i64 a0,.int .i64 a1,.int .i64 a2,.int .i64 a3],.agg #[.int .i64 b0,.int .i64 b1,.int .i64 b2,.int .i64 b3]] w λe w'=>e=.returned (.bool (a0==b0))/\∃ q os',w'=grow (w.drewN q) os':=by
 have HE:Hid (∀ o1 o2:Obj,∃ q os',((w.alloc o1).alloc o2)=grow (w.drewN q) os'):=λo1 o2=>⟨0,#[o1,o2],by rw[alloc_eq_grow,alloc_eq_grow,grow_grow];rfl⟩
 go_enter Al.func78,Tryz.ntmps78
 go_wp2
 go_ret
 exact⟨rfl,HE.out _ _⟩
