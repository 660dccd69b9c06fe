/- Part of the proof. -/
import Derived.Test.YtjlgehmebfkioaaGreatDoorZ03
import Derived.Laws.MakeOwn
import Derived.Sort.Grow
set_option maxRecDepth 100000
open Go.Proofs.Tryz (prog)
open Go.Proofs.ah.Al (PB)
set_option maxHeartbeats 4000000
set_option linter.unusedVariables false
namespace Go.Proofs.ah
open ay aj Go.RowKit
variable {p:List Nat}
variable {zb:Bool}
set_option linter.unusedVariables false
def sM(w w':World)(e:Ending)(ys:List Nat):Prop:=∃ a cap,e=.returned (.slice a ys.length cap)/\fC w' w.heap.size a cap ys/\Below w.heap.size w w'
theorem LM(x:Addr)(c:Nat)(ys:List Nat)(w:World)(hm:ys.length<=1048576)(hL:bN w (some x) ys) :
 Calls (PB prog zb) 116 #[.slice (some x) ys.length c] w λe w'=>sM w w' e ys:=by
 have he:∀ w:World,(binOp .eql 60 (.slice (some x) ys.length c) (.slice none 0 0)).run (PB prog zb) w=.ok (.bool false) w:=λ_=>rfl
 have HA:Hid (Below w.heap.size w (w.alloc (.cells #[] 5))/\bN (w.alloc (.cells #[] 5)) (some x) ys):=⟨aC w _,hL.below (aC w _)⟩
 have HM:Hid (ys.length<=1048576):=hm
 clear hL hm
 go_enter Al.func116,Tryz.ntmps116
 go_wp2_with (at_builtin;refine EH rfl (.tmp 5) (.tmp 6) rfl w.heap.size (some ⟨w.heap.size,0,none⟩) 0 [] (by rfl) (SF w w.heap.size [] (Nat.le_refl _) (by simp) _ rfl) (some x) c ys (by rfl) (λe=>by cases e) HA.out.2 ys rfl HM.out HA.out.1.size ?_)
 intro a1 c1 w1 hO hK
 have HR:Hid (fC w1 w.heap.size a1 c1 ys/\Below w.heap.size w w1):=⟨hO,HA.out.1.trans (hK.below HA.out.1.size (λb hb=>by obtain⟨x,e,rfl⟩:=hb;cases e;exact Nat.le_refl _))⟩
 clear hO hK HA
 go_wp2
 go_ret
 exact⟨a1,c1,rfl,HR.out⟩
theorem iR{o k:Nat}(h:o+k<=p.length):(dU p o k).length=k:=by unfold dU;rw[List.length_take,List.length_drop];omega
theorem h_{o k:Nat}(h:aW p):aW (dU p o k):=λx hx=>h x (List.mem_of_mem_drop (List.mem_of_mem_take hx))
theorem sP{w:World}{b off:Nat}(hc:∀ i,i<p.length->w.cell? ⟨b,off+i,none⟩=some (.int .u8 ((p[i]?.getD 0:Nat):Int)))(o k:Nat)(h:o+k<=p.length):∀ i,i<(dU p o k).length->w.cell? ⟨b,off+o+i,none⟩=some (.int .u8 (((dU p o k)[i]?.getD 0:Nat):Int)):=λi hi=>by
 rw[iR h] at hi
 have e:(dU p o k)[i]?.getD 0=p[o+i]?.getD 0:=by unfold dU;rw[List.getElem?_take,if_pos hi,List.getElem?_drop]
 rw[e,Nat.add_assoc]
 exact hc (o+i) (by omega)
theorem oh{w:World}{b:Nat}{k l s:Int}{a:Option Addr}{m c:Nat}(h:fQ w b k l s a m c)(u0 u1 u2 u3:Value) :
 (w.setCell ⟨b,0,none⟩ u0).cell? ⟨b,0,none⟩=some u0/\((w.setCell ⟨b,0,none⟩ u0).setCell ⟨b,1,none⟩ u1).cell? ⟨b,1,none⟩=some u1 /\
 (((w.setCell ⟨b,0,none⟩ u0).setCell ⟨b,1,none⟩ u1).setCell ⟨b,2,none⟩ u2).cell? ⟨b,2,none⟩=some u2 /\
 ((((w.setCell ⟨b,0,none⟩ u0).setCell ⟨b,1,none⟩ u1).setCell ⟨b,2,none⟩ u2).setCell ⟨b,3,none⟩ u3).cell? ⟨b,3,none⟩=some u3:=by
 refine⟨World.cell?_setCell_same _ _ _ h.c0,World.cell?_setCell_same _ _ _ (u:=.int .i64 l) ?_,World.cell?_setCell_same _ _ _ (u:=.int .i64 s) ?_,World.cell?_setCell_same _ _ _ (u:=.slice a m c) ?_⟩
 .rw[far _ (by omega)];exact h.c1
 .rw[far _ (by omega),far _ (by omega)];exact h.c2
 .rw[far _ (by omega),far _ (by omega),far _ (by omega)];exact h.c3
abbrev F0:Value:=FV 0 0 0 none 0 0
theorem EJ(a:Option Addr)(n cap:Nat)(w:World)(h:¬(24<=(n:Int)/\(n:Int)<=4096)) :
 Calls (PB prog zb) 86 #[.slice a n cap] w λe w'=>e=.returned (.tuple #[F0,.bool false])/\Below w.heap.size w w':=by
 have HB:Hid (∀ o,Below w.heap.size w (w.alloc o)):=λo=>aC w o
 have hs:=λwx=>jX (zb:=zb) (n:Int) wx
 rw[B_ h] at hs
 clear h
 go_enter Al.func86,Tryz.ntmps86
 go_wp2_with fail
 refine(hs _).mono ?_
 rintro e w1 ⟨rfl,rfl⟩
 go_wp2_with fail
 refine bodyPost_ret (v:=.tuple #[F0,.bool false]) (by simp[results,Tryz.results86,go_sem]) rfl ?_
 exact⟨rfl,HB.out _⟩
theorem EK(a:Option Addr)(p:List Nat)(cap:Nat)(w:World)(h1:24<=p.length)(h2:p.length<=4096)(hcap:p.length<=cap)(hA:aW p)(hL:bN w a p)(h:¬aX p+21<=p.length) :
 Calls (PB prog zb) 86 #[.slice a p.length cap] w λe w'=>e=.returned (.tuple #[F0,.bool false])/\Below w.heap.size w w':=by
 obtain⟨b,off,rfl,hc⟩:=hL.mg (by omega)
 have HB:Hid (∀ o,Below w.heap.size w (w.alloc o)):=λo=>aC w o
 have hs:=λwx=>jX (zb:=zb) (p.length:Int) wx
 rw[nG (by omega)] at hs
 have hlt:=qb (dU p 14 2) (h_ hA)
 rw[iR (by omega)] at hlt
 have hlt':aX p<65536:=hlt
 have aey:∀ o c,Calls (PB prog zb) 115 #[.slice (some ⟨b,off+14,none⟩) 2 c] (w.alloc o) λe w'=>e=.returned (.int .i64 (aX p:Nat))/\w'=w.alloc o:=λo c=>by
  have:=w_ (zb:=zb) b (off+14) (dU p 14 2) c (w.alloc o) (by rw[iR (by omega)];omega) (h_ hA) (λi hi=>by
   have e:=sP hc 14 2 (by omega) i hi
   rw[(HB.out o).cell (p:=⟨b,off+14+i,none⟩) (World.block_lt_of_cell? w _ e)]
   exact e)
  rw[iR (by omega),jY (by omega)] at this
  exact this
 have l16:(16:Int)<=(cap:Int):=by omega
 have n14:¬cap=14:=by omega
 generalize aX p=L at *
 have hl:(p.length:Int)-21<(L:Int):=by omega
 clear hc hL hlt h
 go_enter Al.func86,Tryz.ntmps86
 go_wp2_with fail
 refine(hs _).mono ?_
 rintro e w1 ⟨rfl,rfl⟩
 go_wp2_with fail
 refine(aey _ _).mono ?_
 rintro e w1 ⟨rfl,rfl⟩
 go_wp2_with fail
 refine bodyPost_ret (v:=.tuple #[F0,.bool false]) (by simp[results,Tryz.results86,go_sem]) rfl ?_
 exact⟨rfl,HB.out _⟩
def Om(w w':World)(e:Ending)(p:List Nat):Prop:=∃ a c,e=.returned (.tuple #[FV (aQ p:Nat) (bT p:Nat) (wr (bM p)) a (aX p) c,.bool true])/\fC w' w.heap.size a c (aT p)/\Below w.heap.size w w'
theorem nH(a:Option Addr)(p:List Nat)(cap:Nat)(w:World)(h1:24<=p.length)(h2:p.length<=4096)(hcap:p.length<=cap)(hA:aW p)(hL:bN w a p)(h:aX p+21<=p.length) :
 Calls (PB prog zb) 86 #[.slice a p.length cap] w λe w'=>Om w w' e p:=by
 obtain⟨b,off,rfl,hc⟩:=hL.mg (by omega)
 have HB:Hid (∀ o,Below w.heap.size w (w.alloc o)):=λo=>aC w o
 have hs:=λwx=>jX (zb:=zb) (p.length:Int) wx
 rw[nG (by omega)] at hs
 have HN:Hid (∀ wx,Below w.heap.size w wx->∀ o k c,o+k<=p.length->k<=8->Calls (PB prog zb) 115 #[.slice (some ⟨b,off+o,none⟩) k c] wx λe w'=>e=.returned (.int .i64 (wr (num (dU p o k))))/\w'=wx):=λwx hb o k c ho hk=>by
  have:=w_ (zb:=zb) b (off+o) (dU p o k) c wx (by rw[iR ho];omega) (h_ hA) (λi hi=>by
   have e:=sP hc o k ho i hi
   rw[hb.cell (p:=⟨b,off+o+i,none⟩) (World.block_lt_of_cell? w _ e)]
   exact e)
  rw[iR ho] at this
  exact this
 have HCl:Hid (∀ wx,Below w.heap.size w wx->∀ c,Calls (PB prog zb) 116 #[.slice (some ⟨b,off+20,none⟩) (aX p) c] wx λe w'=>sM wx w' e (aT p)):=λwx hb c=>by
  have hL':bN wx (some ⟨b,off+20,none⟩) (aT p):=(show bN w (some ⟨b,off+20,none⟩) (aT p) from Or.inr ⟨b,off+20,rfl,sP hc 20 (aX p) (by omega)⟩).below hb
  have:=LM (zb:=zb) ⟨b,off+20,none⟩ c (aT p) wx (by rw[gL h];omega) hL'
  rw[gL h] at this
  exact this
 have hlt:=qb (dU p 14 2) (h_ hA)
 rw[iR (by omega)] at hlt
 have hlt':aX p<65536:=hlt
 have HBd:Hid (wr (num (dU p 14 2))=(aX p:Nat)/\wr (num (dU p 2 4))=(bT p:Nat)/\(aT p).length=aX p):=⟨jY (by show aX p<_;omega),jY (by
  have:=qb (dU p 2 4) (h_ hA)
  rw[iR (by omega)] at this
  show bT p<_
  have e:bT p<4294967296:=this
  omega),gL h⟩
 have hc1:=λo=>((HB.out o).cell (p:=⟨b,off+1,none⟩) (World.block_lt_of_cell? w _ (hc 1 (by omega)))).trans (hc 1 (by omega))
 have hk:p[1]?.getD 0=aQ p:=rfl
 rw[hk] at hc1
 have hk8:aQ p<256:=hA.at 1
 have hbw:b<w.heap.size:=World.block_lt_of_cell? w ⟨b,off+1,none⟩ (hc 1 (by omega))
 have hne1:¬b=w.heap.size:=by omega
 have hne2:¬w.heap.size=b:=by omega
 obtain⟨NV,HNV⟩:∃ NV:Nat->Nat->Int,Hid (∀ o k,wr (num (dU p o k))=NV o k):=⟨_,λ_ _=>rfl⟩
 have HN2:Hid (∀ wx,Below w.heap.size w wx->∀ o k c,o+k<=p.length->k<=8->Calls (PB prog zb) 115 #[.slice (some ⟨b,off+o,none⟩) k c] wx λe w'=>e=.returned (.int .i64 (NV o k))/\w'=wx):=λwx hb o k c ho hk=>by
  have:=HN.out wx hb o k c ho hk
  rw[HNV.out] at this
  exact this
 obtain⟨D,HDD⟩:∃ D,Hid (aT p=D):=⟨_,rfl⟩
 have HU:Hid (∀ w' a1 c1,fC w' w.heap.size a1 c1 D->Below w.heap.size w w'->Om w w' (.returned (.tuple #[FV (aQ p:Nat) (NV 2 4) (NV 6 8) a1 D.length c1,.bool true])) p):=λw' a1 c1 hO hB=>by
  rw[<-HDD.out] at hO
  refine⟨a1,c1,?_,hO,hB⟩
  rw[<-HNV.out,<-HNV.out,HBd.out.2.1,<-HDD.out,HBd.out.2.2]
  rfl
 have HNL:Hid (NV 14 2=(aX p:Nat)):=by
  have:=HBd.out.1
  rw[HNV.out] at this
  exact this
 have abB:Hid (∀ wx,Below w.heap.size w wx->∀ c,Calls (PB prog zb) 116 #[.slice (some ⟨b,off+20,none⟩) (aX p) c] wx λe w'=>sM wx w' e D):=by
  rw[<-HDD.out]
  exact HCl.out
 clear HBd HN HNV HCl HDD
 generalize aX p=L at *
 generalize aQ p=KK at *
 have l1:(1:Int)<(p.length:Int):=by omega
 have l6:(6:Int)<=(cap:Int):=by omega
 have l14:(14:Int)<=(cap:Int):=by omega
 have l16:(16:Int)<=(cap:Int):=by omega
 have n2:¬cap=2:=by omega
 have n6:¬cap=6:=by omega
 have n14:¬cap=14:=by omega
 have n20:¬cap=20:=by omega
 have hl:¬(p.length:Int)-21<(L:Int):=by omega
 have w20:IntKind.i64.wrap (20+(L:Int))=20+(L:Int):=by rw[IntKind.wrap_i64];omega
 have l20:(20:Int)<=20+(L:Int):=by omega
 have m20:20+(L:Int)<=(cap:Int):=by omega
 have t20:(20+(L:Int)).toNat=20+L:=by omega
 clear hc hL hlt h hA
 go_enter Al.func86,Tryz.ntmps86
 go_wp2_with fail
 refine(hs _).mono ?_
 rintro e w1 ⟨rfl,rfl⟩
 go_wp2_with fail
 refine(HN2.out _ (HB.out _) 14 2 _ (by omega) (by omega)).mono ?_
 rintro e w1 ⟨rfl,rfl⟩
 rw[HNL.out]
 have HZ:Hid (∀ w',Below (w.alloc (.cells #[.int .i64 0,.int .i64 0,.int .i64 0,.slice none 0 0] 88)).heap.size (w.alloc (.cells #[.int .i64 0,.int .i64 0,.int .i64 0,.slice none 0 0] 88)) w'->fQ w' w.heap.size 0 0 0 none 0 0/\(∀ i,w'.frozen? ⟨w.heap.size,i,none⟩=false)):=λw' hb=>by
  have hh:(w.alloc (.cells #[.int .i64 0,.int .i64 0,.int .i64 0,.slice none 0 0] 88)).heap[w.heap.size]?=some (.cells #[.int .i64 0,.int .i64 0,.int .i64 0,.slice none 0 0] 88 (0,0)):=heap_alloc_new w _
  refine⟨(iP w 0 0 0 none 0 0).below hb,λi=>?_⟩
  have e:=hb.block w.heap.size (aU hh)
  rw[hh] at e
  exact dJ e i
 have hcA:=hc1 (.cells #[.int .i64 0,.int .i64 0,.int .i64 0,.slice none 0 0] 88)
 have HD:Hid (Below w.heap.size w (w.alloc (.cells #[.int .i64 0,.int .i64 0,.int .i64 0,.slice none 0 0] 88))):=HB.out _
 have hnA:=HN2.out _ HD.out.drew
 have hcl:=abB.out _ HD.out.drew (cap-20)
 have HC1:Hid (∀ w',Below (w.alloc (.cells #[.int .i64 0,.int .i64 0,.int .i64 0,.slice none 0 0] 88)).drew.heap.size (w.alloc (.cells #[.int .i64 0,.int .i64 0,.int .i64 0,.slice none 0 0] 88)).drew w'->w'.cell? ⟨b,off+1,none⟩=some (.int .u8 (KK:Int))):=λw' hb=>by
  have:=hb.cell (p:=⟨b,off+1,none⟩) (World.block_lt_of_cell? _ _ (show (w.alloc (.cells #[.int .i64 0,.int .i64 0,.int .i64 0,.slice none 0 0] 88)).drew.cell? ⟨b,off+1,none⟩=_ from hcA))
  exact this.trans hcA
 have HQ:Hid (∀ w' a1 c1,fC w' (w.alloc (.cells #[.int .i64 0,.int .i64 0,.int .i64 0,.slice none 0 0] 88)).drew.heap.size a1 c1 D->Below (w.alloc (.cells #[.int .i64 0,.int .i64 0,.int .i64 0,.slice none 0 0] 88)).drew.heap.size (w.alloc (.cells #[.int .i64 0,.int .i64 0,.int .i64 0,.slice none 0 0] 88)).drew w'->Hid (fQ w' w.heap.size 0 0 0 none 0 0/\(∀ i,w'.frozen? ⟨w.heap.size,i,none⟩=false)/\fC w' (w.heap.size+1) a1 c1 D/\Below w.heap.size w w')):=λw' a1 c1 hO hB=>by
  have hz:=HZ.out w' (((Below.refl _ _).drew).trans hB)
  refine⟨hz.1,hz.2,?_,HD.out.drew.trans (hB.mono HD.out.drew.size)⟩
  have e:(w.alloc (.cells #[.int .i64 0,.int .i64 0,.int .i64 0,.slice none 0 0] 88)).drew.heap.size=w.heap.size+1:=by simp
  rw[e] at hO
  exact hO
 have HKs:Hid (∀ (w':World) (u0 u1 u2 u3:Value),Keep (λq=>q=w.heap.size) w' ((((w'.setCell ⟨w.heap.size,0,none⟩ u0).setCell ⟨w.heap.size,1,none⟩ u1).setCell ⟨w.heap.size,2,none⟩ u2).setCell ⟨w.heap.size,3,none⟩ u3)):=λw' u0 u1 u2 u3 =>
  ((((Keep.refl (λq=>q=w.heap.size) w').set (p:=⟨w.heap.size,0,none⟩) rfl u0).set (p:=⟨w.heap.size,1,none⟩) rfl u1).set (p:=⟨w.heap.size,2,none⟩) rfl u2).set (p:=⟨w.heap.size,3,none⟩) rfl u3
 have HKp:Hid (∀ (w':World) (u0 u1 u2 u3:Value),w'.cell? ⟨b,off+1,none⟩=some (.int .u8 (KK:Int))->((((w'.setCell ⟨w.heap.size,0,none⟩ u0).setCell ⟨w.heap.size,1,none⟩ u1).setCell ⟨w.heap.size,2,none⟩ u2).setCell ⟨w.heap.size,3,none⟩ u3).cell? ⟨b,off+1,none⟩=some (.int .u8 (KK:Int))):=λw' u0 u1 u2 u3 hw=>by
  have hk:Keep (λq=>q=w.heap.size) w' ((((w'.setCell ⟨w.heap.size,0,none⟩ u0).setCell ⟨w.heap.size,1,none⟩ u1).setCell ⟨w.heap.size,2,none⟩ u2).setCell ⟨w.heap.size,3,none⟩ u3):=((((Keep.refl (λq=>q=w.heap.size) w').set (p:=⟨w.heap.size,0,none⟩) rfl u0).set (p:=⟨w.heap.size,1,none⟩) rfl u1).set (p:=⟨w.heap.size,2,none⟩) rfl u2).set (p:=⟨w.heap.size,3,none⟩) rfl u3
  rw[hk.cell (p:=⟨b,off+1,none⟩) (World.block_lt_of_cell? _ _ hw) hne1]
  exact hw
 have hKw:IntKind.i64.wrap (KK:Int)=(KK:Int):=by rw[IntKind.wrap_i64];omega
 clear hs hc1 HN2 abB HZ
 go_upto_region 6 with fail
 go_region_held3 (λw'=>w'.cell? ⟨b,off+1,none⟩=some (.int .u8 (KK:Int))) (first|exact hcA|assumption|exact HKp.out _ _ _ _ _ (by assumption)|go_keep) (first|(go_at_call 115;refine(hnA _ _ _ (by omega) (by omega)).mono ?_;rintro e w' ⟨rfl,rfl⟩)|(go_at_call 116;refine hcl.mono ?_;rintro e w' ⟨a1,c1,rfl,hO,hB⟩;have hcw:=HC1.out w' hB;have HR:=HQ.out w' a1 c1 hO hB;have q0:=HR.out.1.c0;have q1:=HR.out.1.c1;have q2:=HR.out.1.c2;have q3:=HR.out.1.c3;have f0:=HR.out.2.1 0;have f1:=HR.out.2.1 1;have f2:=HR.out.2.1 2;have f3:=HR.out.2.1 3;clear hO hB))
 go_wp2_with fail
 have hz:=oh HR.out.1 (.int .i64 (KK:Int)) (.int .i64 (NV 2 4)) (.int .i64 (NV 6 8)) (.slice a1 D.length c1)
 refine bodyPost_ret (v:=.tuple #[FV (KK:Nat) (NV 2 4) (NV 6 8) a1 D.length c1,.bool true]) (by simp[results,Tryz.results86,go_sem,hz.1,hz.2.1,hz.2.2.1,hz.2.2.2]) rfl ?_
 exact HU.out _ _ _ ((HR.out.2.2.1.keep (HKs.out w' _ _ _ _) (λq hq e=>by have:=(HR.out.2.2.1.ge hq).1;omega)).base (by omega)) (HR.out.2.2.2.trans ((HKs.out w' _ _ _ _).below HR.out.2.2.2.size (λq hq=>by have e:q=w.heap.size:=hq;omega)))
variable {zb:Bool}
set_option linter.unusedVariables false
abbrev bQ:Obj:=.cells #[.int .i64 0,.int .i64 0,.int .i64 0,.slice none 0 0] 88
theorem qL{w w':World}(hb:Below (w.alloc bQ).heap.size (w.alloc bQ) w'):fQ w' w.heap.size 0 0 0 none 0 0/\(∀ i,w'.frozen? ⟨w.heap.size,i,none⟩=false)/\Below w.heap.size w w':=by
 have hh:(w.alloc bQ).heap[w.heap.size]?=some (.cells #[.int .i64 0,.int .i64 0,.int .i64 0,.slice none 0 0] 88 (0,0)):=heap_alloc_new w _
 refine⟨(iP w 0 0 0 none 0 0).below hb,λi=>?_,(aC w _).trans (hb.mono (aC w _).size)⟩
 have e:=hb.block w.heap.size (aU hh)
 rw[hh] at e
 exact dJ e i
theorem sQ(w:World)(b:Nat)(u0 u1 u2 u3:Value):Keep (λq=>q=b) w ((((w.setCell ⟨b,0,none⟩ u0).setCell ⟨b,1,none⟩ u1).setCell ⟨b,2,none⟩ u2).setCell ⟨b,3,none⟩ u3) :=
 ((((Keep.refl (λq=>q=b) w).set (p:=⟨b,0,none⟩) rfl u0).set (p:=⟨b,1,none⟩) rfl u1).set (p:=⟨b,2,none⟩) rfl u2).set (p:=⟨b,3,none⟩) rfl u3
theorem jZ{w w':World}(h:Below w.heap.size w w')(u0 u1 u2 u3:Value):Below w.heap.size w ((((w'.setCell ⟨w.heap.size,0,none⟩ u0).setCell ⟨w.heap.size,1,none⟩ u1).setCell ⟨w.heap.size,2,none⟩ u2).setCell ⟨w.heap.size,3,none⟩ u3) :=
 h.trans ((sQ w' w.heap.size u0 u1 u2 u3).below h.size (λq hq=>by have e:q=w.heap.size:=hq;omega))
theorem EL(a:Option Addr)(p:List Nat)(cap:Nat)(w:World)(hm:p.length<=9223372036854775807)(hL:bN w a p)(h:dH p) :
 Calls (PB prog zb) 59 #[.slice a p.length cap] w λe w'=>e=.returned (.tuple #[F0,.int .i64 1])/\Below w.heap.size w w':=by
 have HB:Hid (∀ o,Below w.heap.size w (w.alloc o)):=λo=>aC w o
 have he:=λwx hx=>iQ (zb:=zb) true a p cap wx ⟨λ_=>h,λ_=>rfl⟩ hm hx
 have LP:Hid (∀ o,bN (w.alloc o) a p):=λo=>hL.below (aC w o)
 clear h hL
 go_enter Al.func59,Tryz.ntmps59
 go_wp2_with fail
 refine(he _ (LP.out _)).mono ?_
 rintro e w1 ⟨rfl,rfl⟩
 go_wp2_with fail
 refine bodyPost_ret (v:=.tuple #[F0,.int .i64 1]) (by simp[results,Tryz.results59,go_sem]) rfl ?_
 exact⟨rfl,HB.out _⟩
theorem EN(a:Option Addr)(p:List Nat)(cap:Nat)(w:World)(hm:p.length<=9223372036854775807)(hL:bN w a p)(h:¬dH p)
 (hU:∀ wx,bN wx a p->Calls (PB prog zb) 86 #[.slice a p.length cap] wx λe w'=>e=.returned (.tuple #[F0,.bool false])/\Below wx.heap.size wx w') :
 Calls (PB prog zb) 59 #[.slice a p.length cap] w λe w'=>e=.returned (.tuple #[F0,.int .i64 3])/\Below w.heap.size w w':=by
 have he:=λwx hx=>iQ (zb:=zb) false a p cap wx ⟨(λe=>by cases e),λe=>absurd e h⟩ hm hx
 have LP:Hid (∀ o,bN (w.alloc o) a p):=λo=>hL.below (aC w o)
 clear h hL
 go_enter Al.func59,Tryz.ntmps59
 go_wp2_with fail
 refine(he _ (LP.out _)).mono ?_
 rintro e w1 ⟨rfl,rfl⟩
 go_wp2_with fail
 refine(hU _ (LP.out _)).mono ?_
 rintro e w2 ⟨rfl,hb2⟩
 have H3:Hid (∀ o,Below (w.alloc bQ).heap.size (w.alloc bQ) (w2.alloc o)):=λo=>hb2.alloc hb2.size o
 have H4:Hid (∀ o,fQ (w2.alloc o) w.heap.size 0 0 0 none 0 0/\(∀ i,(w2.alloc o).frozen? ⟨w.heap.size,i,none⟩=false)/\Below w.heap.size w (w2.alloc o)):=λo=>qL (H3.out o)
 clear hb2 hU he H3
 have q0:=λo=>(H4.out o).1.c0
 have q1:=λo=>(H4.out o).1.c1
 have q2:=λo=>(H4.out o).1.c2
 have q3:=λo=>(H4.out o).1.c3
 have f0:=λo=>(H4.out o).2.1 0
 have f1:=λo=>(H4.out o).2.1 1
 have f2:=λo=>(H4.out o).2.1 2
 have f3:=λo=>(H4.out o).2.1 3
 go_wp2_with fail
 have hz:=oh (H4.out (jw 0 0 0 none 0 0)).1 (.int .i64 0) (.int .i64 0) (.int .i64 0) (.slice none 0 0)
 refine bodyPost_ret (v:=.tuple #[F0,.int .i64 3]) (by simp[results,Tryz.results59,go_sem,hz.1,hz.2.1,hz.2.2.1,hz.2.2.2]) rfl ?_
 exact⟨rfl,jZ (H4.out _).2.2 _ _ _ _⟩
theorem LU(a:Option Addr)(p:List Nat)(cap:Nat)(w:World)(h1:24<=p.length)(h2:p.length<=4096)(hcap:p.length<=cap)(hA:aW p)(hL:bN w a p)(hE:¬dH p)(h3:aX p+21<=p.length)(hn:¬Named (aQ p:Nat) (bT p:Nat) (wr (bM p))) :
 Calls (PB prog zb) 59 #[.slice a p.length cap] w λe w'=>e=.returned (.tuple #[F0,.int .i64 3])/\Below w.heap.size w w':=by
 have abC:=h1
 obtain⟨b,off,rfl,hc⟩:=hL.mg (by omega)
 have Wd:¬dH p:=hE
 have he:=λwx hx=>iQ (zb:=zb) false (some ⟨b,off,none⟩) p cap wx ⟨(λe=>by cases e),λe=>absurd e Wd⟩ (by omega) hx
 have LP:Hid (bN (w.alloc bQ) (some ⟨b,off,none⟩) p):=hL.below (aC w bQ)
 have HU:=nH (zb:=zb) (some ⟨b,off,none⟩) p cap (w.alloc bQ) h1 h2 hcap hA LP.out h3
 have HPA:Hid (aW p):=hA
 have Nv:Hid ((aT p).length=aX p/\aW (aT p)):=⟨gL h3,h_ hA⟩
 have hP:=λwx a1 c1=>LJ (zb:=zb) (p.length:Int) (aQ p:Nat) (bT p:Nat) (wr (bM p)) a1 (aX p) c1 wx (by omega) hn
 clear hn
 clear hE Wd hL hc h3
 go_enter Al.func59,Tryz.ntmps59
 go_wp2_with fail
 refine(he _ LP.out).mono ?_
 rintro e w1 ⟨rfl,rfl⟩
 go_wp2_with fail
 refine HU.mono ?_
 rintro e w2 ⟨a1,c1,rfl,hO,hb2⟩
 have HI2:Hid (Below (w.alloc bQ).heap.size (w.alloc bQ) (w2.alloc (jw (aQ p:Nat) (bT p:Nat) (wr (bM p)) a1 (aX p) c1))/\fQ (w2.alloc (jw (aQ p:Nat) (bT p:Nat) (wr (bM p)) a1 (aX p) c1)) w2.heap.size (aQ p:Nat) (bT p:Nat) (wr (bM p)) a1 (aX p) c1/\fC (w2.alloc (jw (aQ p:Nat) (bT p:Nat) (wr (bM p)) a1 (aX p) c1)) (w.alloc bQ).heap.size a1 c1 (aT p)/\(w.alloc bQ).heap.size<=w2.heap.size) :=
  ⟨hb2.alloc hb2.size _,iP w2 _ _ _ _ _ _,hO.below (aC w2 _),hb2.size⟩
 clear hO hb2 HU he
 generalize aQ p=KK at *
 generalize bT p=LL at *
 generalize wr (bM p)=SS at *
 generalize aX p=DD at *
 go_wp2_with fail
 refine(hP _ _ _).mono ?_
 rintro e w3 ⟨rfl,hb3⟩
 have H4:Hid (fQ w3 w.heap.size 0 0 0 none 0 0/\(∀ i,w3.frozen? ⟨w.heap.size,i,none⟩=false)/\Below w.heap.size w w3):=qL (HI2.out.1.trans (hb3.mono HI2.out.1.size))
 clear hb3 HI2 hP
 have q0:=H4.out.1.c0
 have q1:=H4.out.1.c1
 have q2:=H4.out.1.c2
 have q3:=H4.out.1.c3
 have f0:=H4.out.2.1 0
 have f1:=H4.out.2.1 1
 have f2:=H4.out.2.1 2
 have f3:=H4.out.2.1 3
 go_wp2_with fail
 have hz:=oh H4.out.1 (.int .i64 0) (.int .i64 0) (.int .i64 0) (.slice none 0 0)
 refine bodyPost_ret (v:=.tuple #[F0,.int .i64 3]) (by simp[results,Tryz.results59,go_sem,hz.1,hz.2.1,hz.2.2.1,hz.2.2.2]) rfl ?_
 exact⟨rfl,jZ H4.out.2.2 _ _ _ _⟩
theorem LV(a:Option Addr)(p:List Nat)(cap:Nat)(w:World)(h1:24<=p.length)(h2:p.length<=4096)(hcap:p.length<=cap)(hA:aW p)(hL:bN w a p)(hE:¬dH p)(h3:aX p+21<=p.length)(hF:Dy p.length (aQ p) (bT p) (bM p) (aX p))(hne:aR p.length (aQ p) (bT p) (bM p) (aT p)≠p) :
 Calls (PB prog zb) 59 #[.slice a p.length cap] w λe w'=>e=.returned (.tuple #[F0,.int .i64 3])/\Below w.heap.size w w':=by
 have abC:=h1
 obtain⟨b,off,rfl,hc⟩:=hL.mg (by omega)
 have Wd:¬dH p:=hE
 have he:=λwx hx=>iQ (zb:=zb) false (some ⟨b,off,none⟩) p cap wx ⟨(λe=>by cases e),λe=>absurd e Wd⟩ (by omega) hx
 have LP:Hid (bN (w.alloc bQ) (some ⟨b,off,none⟩) p):=hL.below (aC w bQ)
 have HU:=nH (zb:=zb) (some ⟨b,off,none⟩) p cap (w.alloc bQ) h1 h2 hcap hA LP.out h3
 have HPA:Hid (aW p):=hA
 have Nv:Hid ((aT p).length=aX p/\aW (aT p)):=⟨gL h3,h_ hA⟩
 have vC:wr (bM p)=(bM p:Nat):=jY (by have:=hF.s1;omega)
 have HU2:Calls (PB prog zb) 86 #[.slice (some ⟨b,off,none⟩) p.length cap] (w.alloc bQ) λe w'=>∃ a c,e=.returned (.tuple #[FV (aQ p:Nat) (bT p:Nat) (bM p:Nat) a (aX p) c,.bool true])/\fC w' (w.alloc bQ).heap.size a c (aT p)/\Below (w.alloc bQ).heap.size (w.alloc bQ) w':=HU.mono λe w' h=>by
  obtain⟨a,c,h4,h5⟩:=h
  rw[vC] at h4
  exact⟨a,c,h4,h5⟩
 have hP:∀ wx a1 c1,bN wx a1 (aT p)->Calls (PB prog zb) 63 #[.int .i64 p.length,FV (aQ p:Nat) (bT p:Nat) (bM p:Nat) a1 (aX p) c1] wx λe w'=>∃ g,e=.returned (.tuple #[.slice (some ⟨g,0,none⟩) p.length p.length,.nilIface])/\wx.heap.size<=g/\Row w' g (aR p.length (aQ p) (bT p) (bM p) (aT p))/\Below wx.heap.size wx w':=λwx a1 c1 hx=>by
  have:=sG (zb:=zb) p.length (aQ p) (bT p) (bM p) a1 c1 (aT p) wx (by rw[Nv.out.1];exact hF) Nv.out.2 hx
  rw[Nv.out.1] at this
  exact this
 have HPK:Hid ((aR p.length (aQ p) (bT p) (bM p) (aT p)).length=p.length/\aW (aR p.length (aQ p) (bT p) (bM p) (aT p))):=⟨gJ _ _ _ _ _ (by rw[Nv.out.1];exact h3),jr _ _ _ _ _ (by have:=hF.k1;omega) Nv.out.2⟩
 have Wh:Hid (∀ w',Below (w.alloc bQ).heap.size (w.alloc bQ) w'->∀ i,i<p.length->w'.cell? ⟨b,off+i,none⟩=some (.int .u8 ((p[i]?.getD 0:Nat):Int))):=λw' hb i hi=>by
  have e:(w.alloc bQ).cell? ⟨b,off+i,none⟩=some (.int .u8 ((p[i]?.getD 0:Nat):Int)):=by rw[(aC w bQ).cell (p:=⟨b,off+i,none⟩) (World.block_lt_of_cell? w _ (hc i hi))];exact hc i hi
  rw[hb.cell (p:=⟨b,off+i,none⟩) (World.block_lt_of_cell? _ _ e)]
  exact e
 obtain⟨PG,Nt⟩:∃ L,Hid (aR p.length (aQ p) (bT p) (bM p) (aT p)=L):=⟨_,rfl⟩
 have HNE:Hid (PG≠p):=by rw[<-Nt.out];exact hne
 clear hne
 rw[Nt.out] at hP
 have Oo:Hid (PG.length=p.length/\aW PG):=by rw[<-Nt.out];exact HPK.out
 clear HU HPK Nt vC hF
 clear hE Wd hL hc h3
 go_enter Al.func59,Tryz.ntmps59
 go_wp2_with fail
 refine(he _ LP.out).mono ?_
 rintro e w1 ⟨rfl,rfl⟩
 go_wp2_with fail
 refine HU2.mono ?_
 rintro e w2 ⟨a1,c1,rfl,hO,hb2⟩
 have HI2:Hid (Below (w.alloc bQ).heap.size (w.alloc bQ) (w2.alloc (jw (aQ p:Nat) (bT p:Nat) (bM p:Nat) a1 (aX p) c1))/\fQ (w2.alloc (jw (aQ p:Nat) (bT p:Nat) (bM p:Nat) a1 (aX p) c1)) w2.heap.size (aQ p:Nat) (bT p:Nat) (bM p:Nat) a1 (aX p) c1/\fC (w2.alloc (jw (aQ p:Nat) (bT p:Nat) (bM p:Nat) a1 (aX p) c1)) (w.alloc bQ).heap.size a1 c1 (aT p)/\(w.alloc bQ).heap.size<=w2.heap.size) :=
  ⟨hb2.alloc hb2.size _,iP w2 _ _ _ _ _ _,hO.below (aC w2 _),hb2.size⟩
 clear hO hb2 HU2 he
 generalize aQ p=KK at *
 generalize bT p=LL at *
 generalize bM p=SS at *
 generalize aX p=DD at *
 generalize aT p=DT at *
 go_wp2_with fail
 refine(hP _ _ _ HI2.out.2.2.1.lies).mono ?_
 rintro e w3 ⟨g,rfl,hg,hr,hb3⟩
 have H4:Hid (fQ w3 w.heap.size 0 0 0 none 0 0/\(∀ i,w3.frozen? ⟨w.heap.size,i,none⟩=false)/\Below w.heap.size w w3):=qL (HI2.out.1.trans (hb3.mono HI2.out.1.size))
 have H5:Hid (fQ w3 w2.heap.size KK LL SS a1 DD c1/\fC w3 (w.alloc bQ).heap.size a1 c1 DT/\(w.alloc bQ).heap.size<=w2.heap.size):=⟨HI2.out.2.1.below hb3,HI2.out.2.2.1.below hb3,HI2.out.2.2.2⟩
 have heq:Calls (PB prog zb) 87 #[.slice (some ⟨g,0,none⟩) p.length p.length,.slice (some ⟨b,off,none⟩) p.length cap] w3 λe w'=>e=.returned (.bool (decide (PG=p)))/\w'=w3:=by
  have:=Ao (zb:=zb) g 0 PG p.length b off p cap w3 Oo.out.2 HPA.out (λi hi=>by rw[Nat.zero_add];exact iO hr i hi) (Wh.out w3 (HI2.out.1.trans (hb3.mono HI2.out.1.size)))
  rw[show (Value.slice (some ⟨g,0,none⟩) PG.length p.length)=.slice (some ⟨g,0,none⟩) p.length p.length by rw[Oo.out.1]] at this
  exact this
 clear hb3 hr hg HI2 hP Wh
 rw[decide_eq_false HNE.out] at heq
 clear H5
 have q0:=H4.out.1.c0
 have q1:=H4.out.1.c1
 have q2:=H4.out.1.c2
 have q3:=H4.out.1.c3
 have f0:=H4.out.2.1 0
 have f1:=H4.out.2.1 1
 have f2:=H4.out.2.1 2
 have f3:=H4.out.2.1 3
 go_wp2_with fail
 refine heq.mono ?_
 rintro e w4 ⟨rfl,rfl⟩
 go_wp2_with fail
 have hz:=oh H4.out.1 (.int .i64 0) (.int .i64 0) (.int .i64 0) (.slice none 0 0)
 refine bodyPost_ret (v:=.tuple #[F0,.int .i64 3]) (by simp[results,Tryz.results59,go_sem,hz.1,hz.2.1,hz.2.2.1,hz.2.2.2]) rfl ?_
 exact⟨rfl,jZ H4.out.2.2 _ _ _ _⟩
def lu(w w':World)(e:Ending)(p:List Nat):Prop:=∃ a c,e=.returned (.tuple #[FV (aQ p:Nat) (bT p:Nat) (bM p:Nat) a (aX p) c,.int .i64 2])/\fC w' w.heap.size a c (aT p)/\Below w.heap.size w w'
theorem SH(a:Option Addr)(p:List Nat)(cap:Nat)(w:World)(h1:24<=p.length)(h2:p.length<=4096)(hcap:p.length<=cap)(hA:aW p)(hL:bN w a p)(hE:¬dH p)(h3:aX p+21<=p.length)(hF:Dy p.length (aQ p) (bT p) (bM p) (aX p))(abF:aR p.length (aQ p) (bT p) (bM p) (aT p)=p) :
 Calls (PB prog zb) 59 #[.slice a p.length cap] w λe w'=>lu w w' e p:=by
 have abC:=h1
 obtain⟨b,off,rfl,hc⟩:=hL.mg (by omega)
 have Wd:¬dH p:=hE
 have he:=λwx hx=>iQ (zb:=zb) false (some ⟨b,off,none⟩) p cap wx ⟨(λe=>by cases e),λe=>absurd e Wd⟩ (by omega) hx
 have LP:Hid (bN (w.alloc bQ) (some ⟨b,off,none⟩) p):=hL.below (aC w bQ)
 have HU:=nH (zb:=zb) (some ⟨b,off,none⟩) p cap (w.alloc bQ) h1 h2 hcap hA LP.out h3
 have HPA:Hid (aW p):=hA
 have Nv:Hid ((aT p).length=aX p/\aW (aT p)):=⟨gL h3,h_ hA⟩
 have vC:wr (bM p)=(bM p:Nat):=jY (by have:=hF.s1;omega)
 have HU2:Calls (PB prog zb) 86 #[.slice (some ⟨b,off,none⟩) p.length cap] (w.alloc bQ) λe w'=>∃ a c,e=.returned (.tuple #[FV (aQ p:Nat) (bT p:Nat) (bM p:Nat) a (aX p) c,.bool true])/\fC w' (w.alloc bQ).heap.size a c (aT p)/\Below (w.alloc bQ).heap.size (w.alloc bQ) w':=HU.mono λe w' h=>by
  obtain⟨a,c,h4,h5⟩:=h
  rw[vC] at h4
  exact⟨a,c,h4,h5⟩
 have hP:∀ wx a1 c1,bN wx a1 (aT p)->Calls (PB prog zb) 63 #[.int .i64 p.length,FV (aQ p:Nat) (bT p:Nat) (bM p:Nat) a1 (aX p) c1] wx λe w'=>∃ g,e=.returned (.tuple #[.slice (some ⟨g,0,none⟩) p.length p.length,.nilIface])/\wx.heap.size<=g/\Row w' g (aR p.length (aQ p) (bT p) (bM p) (aT p))/\Below wx.heap.size wx w':=λwx a1 c1 hx=>by
  have:=sG (zb:=zb) p.length (aQ p) (bT p) (bM p) a1 c1 (aT p) wx (by rw[Nv.out.1];exact hF) Nv.out.2 hx
  rw[Nv.out.1] at this
  exact this
 have HPK:Hid ((aR p.length (aQ p) (bT p) (bM p) (aT p)).length=p.length/\aW (aR p.length (aQ p) (bT p) (bM p) (aT p))):=⟨gJ _ _ _ _ _ (by rw[Nv.out.1];exact h3),jr _ _ _ _ _ (by have:=hF.k1;omega) Nv.out.2⟩
 have Wh:Hid (∀ w',Below (w.alloc bQ).heap.size (w.alloc bQ) w'->∀ i,i<p.length->w'.cell? ⟨b,off+i,none⟩=some (.int .u8 ((p[i]?.getD 0:Nat):Int))):=λw' hb i hi=>by
  have e:(w.alloc bQ).cell? ⟨b,off+i,none⟩=some (.int .u8 ((p[i]?.getD 0:Nat):Int)):=by rw[(aC w bQ).cell (p:=⟨b,off+i,none⟩) (World.block_lt_of_cell? w _ (hc i hi))];exact hc i hi
  rw[hb.cell (p:=⟨b,off+i,none⟩) (World.block_lt_of_cell? _ _ e)]
  exact e
 obtain⟨PG,Nt⟩:∃ L,Hid (aR p.length (aQ p) (bT p) (bM p) (aT p)=L):=⟨_,rfl⟩
 have HNE:Hid (PG=p):=by rw[<-Nt.out];exact abF
 clear abF
 have HV:Hid (∀ w' a c,fC w' w.heap.size a c (aT p)->Below w.heap.size w w'->lu w w' (.returned (.tuple #[FV (aQ p:Nat) (bT p:Nat) (bM p:Nat) a (aX p) c,.int .i64 2])) p):=λw' a c h6 h7=>⟨a,c,rfl,h6,h7⟩
 rw[Nt.out] at hP
 have Oo:Hid (PG.length=p.length/\aW PG):=by rw[<-Nt.out];exact HPK.out
 clear HU HPK Nt vC hF
 clear hE Wd hL hc h3
 go_enter Al.func59,Tryz.ntmps59
 go_wp2_with fail
 refine(he _ LP.out).mono ?_
 rintro e w1 ⟨rfl,rfl⟩
 go_wp2_with fail
 refine HU2.mono ?_
 rintro e w2 ⟨a1,c1,rfl,hO,hb2⟩
 have HI2:Hid (Below (w.alloc bQ).heap.size (w.alloc bQ) (w2.alloc (jw (aQ p:Nat) (bT p:Nat) (bM p:Nat) a1 (aX p) c1))/\fQ (w2.alloc (jw (aQ p:Nat) (bT p:Nat) (bM p:Nat) a1 (aX p) c1)) w2.heap.size (aQ p:Nat) (bT p:Nat) (bM p:Nat) a1 (aX p) c1/\fC (w2.alloc (jw (aQ p:Nat) (bT p:Nat) (bM p:Nat) a1 (aX p) c1)) (w.alloc bQ).heap.size a1 c1 (aT p)/\(w.alloc bQ).heap.size<=w2.heap.size) :=
  ⟨hb2.alloc hb2.size _,iP w2 _ _ _ _ _ _,hO.below (aC w2 _),hb2.size⟩
 clear hO hb2 HU2 he
 generalize aQ p=KK at *
 generalize bT p=LL at *
 generalize bM p=SS at *
 generalize aX p=DD at *
 generalize aT p=DT at *
 go_wp2_with fail
 refine(hP _ _ _ HI2.out.2.2.1.lies).mono ?_
 rintro e w3 ⟨g,rfl,hg,hr,hb3⟩
 have H4:Hid (fQ w3 w.heap.size 0 0 0 none 0 0/\(∀ i,w3.frozen? ⟨w.heap.size,i,none⟩=false)/\Below w.heap.size w w3):=qL (HI2.out.1.trans (hb3.mono HI2.out.1.size))
 have H5:Hid (fQ w3 w2.heap.size KK LL SS a1 DD c1/\fC w3 (w.alloc bQ).heap.size a1 c1 DT/\(w.alloc bQ).heap.size<=w2.heap.size):=⟨HI2.out.2.1.below hb3,HI2.out.2.2.1.below hb3,HI2.out.2.2.2⟩
 have heq:Calls (PB prog zb) 87 #[.slice (some ⟨g,0,none⟩) p.length p.length,.slice (some ⟨b,off,none⟩) p.length cap] w3 λe w'=>e=.returned (.bool (decide (PG=p)))/\w'=w3:=by
  have:=Ao (zb:=zb) g 0 PG p.length b off p cap w3 Oo.out.2 HPA.out (λi hi=>by rw[Nat.zero_add];exact iO hr i hi) (Wh.out w3 (HI2.out.1.trans (hb3.mono HI2.out.1.size)))
  rw[show (Value.slice (some ⟨g,0,none⟩) PG.length p.length)=.slice (some ⟨g,0,none⟩) p.length p.length by rw[Oo.out.1]] at this
  exact this
 clear hb3 hr hg HI2 hP Wh
 rw[decide_eq_true HNE.out] at heq
 have q0:=H4.out.1.c0
 have q1:=H4.out.1.c1
 have q2:=H4.out.1.c2
 have q3:=H4.out.1.c3
 have f0:=H4.out.2.1 0
 have f1:=H4.out.2.1 1
 have f2:=H4.out.2.1 2
 have f3:=H4.out.2.1 3
 have r0:=H5.out.1.c0
 have r1:=H5.out.1.c1
 have r2:=H5.out.1.c2
 have r3:=H5.out.1.c3
 go_wp2_with fail
 refine heq.mono ?_
 rintro e w4 ⟨rfl,rfl⟩
 clear heq
 go_wp2_with fail
 have hz:=oh H4.out.1 (.int .i64 (KK:Int)) (.int .i64 (LL:Int)) (.int .i64 (SS:Int)) (.slice a1 DD c1)
 refine bodyPost_ret (v:=.tuple #[FV (KK:Nat) (LL:Nat) (SS:Nat) a1 DD c1,.int .i64 2]) (by simp[results,Tryz.results59,go_sem,hz.1,hz.2.1,hz.2.2.1,hz.2.2.2]) rfl ?_
 exact HV.out _ _ _ ((H5.out.2.1.keep (sQ _ w.heap.size _ _ _ _) (λq hq e=>by have h6:=(H5.out.2.1.ge hq).1;simp at h6;omega)).base (by simp)) (jZ H4.out.2.2 _ _ _ _)
theorem ER(a:Option Addr)(p:List Nat)(cap:Nat)(w:World)(hA:aW p)(hL:bN w a p)(hcap:p.length<=cap)(hm:p.length<=9223372036854775807) :
 Calls (PB prog zb) 59 #[.slice a p.length cap] w λe w'=>(dH p/\e=.returned (.tuple #[F0,.int .i64 1])/\Below w.heap.size w w')\/(¬dH p/\fZ p/\lu w w' e p)\/(¬dH p/\¬fZ p/\e=.returned (.tuple #[F0,.int .i64 3])/\Below w.heap.size w w'):=by
 by_cases hE:dH p
 .exact(EL a p cap w hm hL hE).mono λe w' ⟨h1,h2⟩=>Or.inl ⟨hE,h1,h2⟩
 by_cases h1:24<=p.length/\p.length<=4096
 case neg=>exact(EN a p cap w hm hL hE (λwx _=>EJ a p.length cap wx (by omega))).mono λe w' ⟨h2,h3⟩=>Or.inr (Or.inr ⟨hE,λhv=>h1 ⟨hv.1.n0,hv.1.n1⟩,h2,h3⟩)
 obtain⟨h1,h2⟩:=h1
 by_cases h3:aX p+21<=p.length
 case neg=>exact(EN a p cap w hm hL hE (λwx hx=>EK a p cap wx h1 h2 hcap hA hx h3)).mono λe w' ⟨h4,h5⟩=>Or.inr (Or.inr ⟨hE,λhv=>h3 hv.1.d1,h4,h5⟩)
 have aeB:bM p<18446744073709551616:=by
  have:=qb (dU p 6 8) (h_ hA)
  rw[iR (by omega)] at this
  exact this
 by_cases hn:Named (aQ p:Nat) (bT p:Nat) (wr (bM p))
 case neg =>
  refine(LU a p cap w h1 h2 hcap hA hL hE h3 hn).mono λe w' ⟨h4,h5⟩=>Or.inr (Or.inr ⟨hE,λhv=>hn ?_,h4,h5⟩)
  have hq:=hv.1
  refine⟨⟨by have:=hq.k0;omega,by have:=hq.k1;omega⟩,⟨by omega,by have:=hq.l1;omega⟩,?_⟩
  rw[jY (by have:=hq.s1;omega)]
  exact⟨by omega,by have:=hq.s1;omega⟩
 have hsm:bM p<9223372036854775808:=by
  by_cases hb:bM p<9223372036854775808
  .exact hb
  .have:=Xo (by omega:9223372036854775808<=bM p) aeB
   have:=hn.2.2.1
   omega
 rw[show wr (bM p)=(bM p:Nat) from jY hsm] at hn
 have hF:Dy p.length (aQ p) (bT p) (bM p) (aX p):=⟨h1,h2,by have:=hn.1.1;omega,by have:=hn.1.2;omega,by have:=hn.2.1.2;omega,by have:=hn.2.2.2;omega,h3⟩
 by_cases he:aR p.length (aQ p) (bT p) (bM p) (aT p)=p
 .exact(SH a p cap w h1 h2 hcap hA hL hE h3 hF he).mono λe w' h=>Or.inr (Or.inl ⟨hE,⟨hF,he⟩,h⟩)
 .exact(LV a p cap w h1 h2 hcap hA hL hE h3 hF he).mono λe w' ⟨h4,h5⟩=>Or.inr (Or.inr ⟨hE,λhv=>he hv.2,h4,h5⟩)
variable {zb:Bool}
def Ap(w w':World)(e:Ending)(p:List Nat):Prop:=∃ a d c,e=.returned (.tuple #[FV (zu p:Nat) (zw p:Nat) (BG p:Nat) a d c,.int .i64 (stP p:Nat)])/\Below w.heap.size w w'
theorem xk(a:Option Addr)(p:List Nat)(cap:Nat)(w:World)(hA:aW p)(hL:bN w a p)(hcap:p.length<=cap)(hm:p.length<=9223372036854775807) :
 Calls (PB prog zb) 59 #[.slice a p.length cap] w λe w'=>Ap w w' e p:=by
 refine(ER a p cap w hA hL hcap hm).mono ?_
 rintro e w' (⟨h1,rfl,h2⟩|⟨h1,h2,a',c',rfl,_,h3⟩|⟨h1,h2,rfl,h3⟩)
 .obtain⟨e1,e2,e3,e4⟩:=Em h1
  exact⟨none,0,0,by rw[e1,e2,e3,e4];rfl,h2⟩
 .obtain⟨e1,e2,e3,e4⟩:=GY h1 h2
  exact⟨a',_,c',by rw[e1,e2,e3,e4];rfl,h3⟩
 .obtain⟨e1,e2,e3,e4⟩:=En h1 h2
  exact⟨none,0,0,by rw[e1,e2,e3,e4];rfl,h3⟩
variable {w:World}
structure Pg where
 a:Option Addr
 p:List Nat
 c:Nat
abbrev pg0:Pg:=⟨none,[],0⟩
def gP(L:List Pg)(i:Nat):Pg:=L[i]?.getD pg0
structure abG(w:World)(g:Pg):Prop where
 all:aW g.p
 lies:bN w g.a g.p
 cap:g.p.length<=g.c
 most:g.p.length<=9223372036854775807
def mq(w:World)(b off:Nat)(L:List Pg):Prop:=∀ i,i<L.length->w.cell? ⟨b,off+i,none⟩=some (.slice (gP L i).a (gP L i).p.length (gP L i).c)/\abG w (gP L i)
theorem fq{w':World}{x:Addr}{v:Value}(hb:Below w.heap.size w w')(h:w.cell? x=some v):w'.cell? x=some v:=by
 have hlt:x.block<w.heap.size:=by
  unfold World.cell? at h
  cases hh:w.heap[x.block]? with
  |none=>rw[hh] at h;cases h
  |some o=>exact(Array.getElem?_eq_some_iff.1 hh).1
 rw[hb.cell hlt]
 exact h
theorem mq.below{w':World}{b off:Nat}{L:List Pg}(h:mq w b off L)(hb:Below w.heap.size w w'):mq w' b off L:=λi hi=>by
 obtain⟨h1,h2⟩:=h i hi
 exact⟨fq hb h1,⟨h2.all,h2.lies.below hb,h2.cap,h2.most⟩⟩
structure SAt(cs:Array Value)(i:Nat)(p:List Nat):Prop where
 c0:cs[5*i]?=some (.int .i64 (stP p:Nat))
 c1:cs[5*i+1]?=some (.int .i64 (zw p:Nat))
 c2:cs[5*i+2]?=some (.int .i64 (i:Nat))
 c3:cs[5*i+3]?=some (.int .i64 (BG p:Nat))
 c4:cs[5*i+4]?=some (.int .i64 (zu p:Nat))
structure RS(w wr:World)(L:List Pg)(k:Nat):Prop where
 cO:Below w.heap.size w wr
 row:∃ cs,wr.heap[w.heap.size]?=some (.cells cs 151 (0,0))/\cs.size=5*L.length/\∀ i,i<k->SAt cs i (gP L i).p
def qM(w w':World)(e:Ending)(L:List Pg):Prop:=e=.returned (.tuple #[.slice (some ⟨w.heap.size,0,none⟩) L.length L.length,.nilIface])/\RS w w' L L.length
def WS(w wr:World):Prop:=wr=w
theorem ES(a:Option Addr)(l c:Nat)(n:Int)(w:World)(h:n<1\/n>8):Calls (PB prog false) 74 #[.slice a l c,.int .i64 n] w λe w'=>e=.returned (.tuple #[.slice none 0 0,.iface 31 (.int .i64 1)])/\w'=w:=by
 by_cases h1:n<1
 .go_enter Al.func74,Al.ntmps74
  unfold Al.lg
  go_wp2
  go_ret2
  exact⟨rfl,rfl⟩
 .have h2:n>8:=by omega
  go_enter Al.func74,Al.ntmps74
  unfold Al.lg
  go_wp2
  go_ret2
  exact⟨rfl,rfl⟩
theorem Hf(a:Option Addr)(l c:Nat)(n:Int)(w:World)(h0:¬n<1)(h8:¬n>8)(h:(l:Int)>4096):Calls (PB prog false) 74 #[.slice a l c,.int .i64 n] w λe w'=>e=.returned (.tuple #[.slice none 0 0,.iface 31 (.int .i64 3)])/\w'=w:=by
 go_enter Al.func74,Al.ntmps74
 unfold Al.lg
 go_wp2
 go_ret2
 exact⟨rfl,rfl⟩
theorem EU(n:Nat)(hn:n<=4096):∃ z:Value,∀ wx:World,(Instr.makeSlice 147 (.int .i64 (n:Int)) (.int .i64 (n:Int))).run (PB prog false) wx=.ok (.slice (some ⟨wx.heap.size,0,none⟩) n n) (wx.alloc (.cells (madeCells z.cells (n*5)) 151)):=by
 refine⟨.agg #[.int .i64 0,.int .i64 0,.int .i64 0,.int .i64 0,.int .i64 0],λwx=>?_⟩
 have hb:((((PB prog false).info? 151).getD default).bytes:Int)<=1024:=Int.ofNat_le.2 (Nat.le_of_ble_eq_true (by kernel_rfl))
 have hs:(((PB prog false).info? 151).getD default).size=5:=by kernel_rfl
 have hbn:((((PB prog false).info? 151).getD default).bytes:Int)*n<=1024*4096:=Int.mul_le_mul hb (by omega) (by omega) (by omega)
 have hr:=run_make (P:=(PB prog false)) wx 147 151 (((PB prog false).info? 151).getD default) (.agg #[.int .i64 0,.int .i64 0,.int .i64 0,.int .i64 0,.int .i64 0]) (by kernel_rfl) (by kernel_rfl) (by kernel_rfl) .i64 .i64 (n:Int) (n:Int) (by omega) (by omega) (by omega) (by omega)
 rw[Int.toNat_natCast,hs] at hr
 exact hr
theorem LW(w:World)(b o0 o1 o2 o3 o4:Nat)(u0 u1 u2 u3 u4:Value):Keep (λq=>q=b) w (((((w.setCell ⟨b,o0,none⟩ u0).setCell ⟨b,o1,none⟩ u1).setCell ⟨b,o2,none⟩ u2).setCell ⟨b,o3,none⟩ u3).setCell ⟨b,o4,none⟩ u4) :=
 (((((Keep.refl (λq=>q=b) w).set (p:=⟨b,o0,none⟩) rfl u0).set (p:=⟨b,o1,none⟩) rfl u1).set (p:=⟨b,o2,none⟩) rfl u2).set (p:=⟨b,o3,none⟩) rfl u3).set (p:=⟨b,o4,none⟩) rfl u4
theorem RS.put{wr:World}{L:List Pg}{k:Nat}(h:RS w wr L k)(hk:k<L.length){w2:World}(hb:Below wr.heap.size wr w2) :
 (∀ j,j<5->(∃ v,w2.cell? ⟨w.heap.size,5*k+j,none⟩=some v)/\w2.frozen? ⟨w.heap.size,5*k+j,none⟩=false) /\
 RS w (((((w2.setCell ⟨w.heap.size,5*k,none⟩ (.int .i64 (stP (gP L k).p:Nat))).setCell ⟨w.heap.size,5*k+1,none⟩ (.int .i64 (zw (gP L k).p:Nat))).setCell ⟨w.heap.size,5*k+2,none⟩ (.int .i64 (k:Nat))).setCell ⟨w.heap.size,5*k+3,none⟩ (.int .i64 (BG (gP L k).p:Nat))).setCell ⟨w.heap.size,5*k+4,none⟩ (.int .i64 (zu (gP L k).p:Nat))) L (k+1):=by
 obtain⟨cs,hcs,hsz,hat⟩:=h.row
 have hlt:w.heap.size<wr.heap.size:=(Array.getElem?_eq_some_iff.1 hcs).1
 have h2:w2.heap[w.heap.size]?=some (.cells cs 151 (0,0)):=(hb.block _ hlt).trans hcs
 have key:∀ (wx:World) (cx:Array Value) (o:Nat) (v:Value),wx.heap[w.heap.size]?=some (.cells cx 151 (0,0))->(wx.setCell ⟨w.heap.size,o,none⟩ v).heap[w.heap.size]?=some (.cells (cx.setIfInBounds o v) 151 (0,0))/\(wx.setCell ⟨w.heap.size,o,none⟩ v).heap.size=wx.heap.size/\∀ q,q≠w.heap.size->(wx.setCell ⟨w.heap.size,o,none⟩ v).heap[q]?=wx.heap[q]?:=λwx cx o v hx=>by
  have hl:w.heap.size<wx.heap.size:=(Array.getElem?_eq_some_iff.1 hx).1
  have hv:wx.heap[w.heap.size]=.cells cx 151 (0,0):=(Array.getElem?_eq_some_iff.1 hx).2
  refine⟨?_,by simp[World.setCell],λq hq=>by simp[World.setCell,Array.getElem?_modify,Ne.symm hq]⟩
  simp[World.setCell,Array.getElem?_modify,hx]
 refine⟨λj hj=>⟨?_,by simp[World.frozen?,h2]⟩,?_⟩
 .have:5*k+j<cs.size:=by omega
  exact⟨cs[5*k+j],by simp[World.cell?,h2,this]⟩
 .have k0:=key w2 cs (5*k) (.int .i64 (stP (gP L k).p:Nat)) h2
  have k1:=key _ _ (5*k+1) (.int .i64 (zw (gP L k).p:Nat)) k0.1
  have k2:=key _ _ (5*k+2) (.int .i64 (k:Nat)) k1.1
  have k3:=key _ _ (5*k+3) (.int .i64 (BG (gP L k).p:Nat)) k2.1
  have k4:=key _ _ (5*k+4) (.int .i64 (zu (gP L k).p:Nat)) k3.1
  refine⟨?_,_,k4.1,by simp[hsz],λi hi=>?_⟩
  .have hk:Keep (λq=>q=w.heap.size) w2 _:=LW w2 w.heap.size (5*k) (5*k+1) (5*k+2) (5*k+3) (5*k+4) (.int .i64 (stP (gP L k).p:Nat)) (.int .i64 (zw (gP L k).p:Nat)) (.int .i64 (k:Nat)) (.int .i64 (BG (gP L k).p:Nat)) (.int .i64 (zu (gP L k).p:Nat))
   exact(h.cO.trans (hb.mono h.cO.size)).trans (hk.below (h.cO.trans (hb.mono h.cO.size)).size (λq hq=>by have e:q=w.heap.size:=hq;omega))
  .by_cases e:i=k
   .subst e
    constructor<;>(simp only[Array.getElem?_setIfInBounds,Array.size_setIfInBounds];repeat (first|rw[if_pos (by omega)] | rw[if_neg (by omega)]))<;>simp<;>omega
   .obtain⟨c0,c1,c2,c3,c4⟩:=hat i (by omega)
    constructor<;>(simp only[Array.getElem?_setIfInBounds,Array.size_setIfInBounds];repeat rw[if_neg (by omega)])<;>assumption
theorem Hg(b off pc:Nat)(L:List Pg)(n:Int)(w:World)(h0:¬n<1)(h8:¬n>8)(hpos:0<L.length)(hl:L.length<=4096)(hp:mq w b off L) :
 Calls (PB prog false) 74 #[.slice (some ⟨b,off,none⟩) L.length pc,.int .i64 n] w λe w'=>qM w w' e L:=by
 have HL:¬(L.length:Int)>4096:=by omega
 have he:∀ w:World,(binOp .eql 35 (.slice (some ⟨b,off,none⟩) L.length pc) (.slice none 0 0)).run (PB prog false) w=.ok (.bool false) w:=λ_=>rfl
 have heS:∀ (x:Addr) (l c:Nat) (w:World),(binOp .eql 60 (.slice (some x) l c) (.slice none 0 0)).run (PB prog false) w=.ok (.bool false) w:=λ_ _ _ _=>rfl
 have heN:∀ (l c:Nat) (w:World),(binOp .eql 60 (.slice none l c) (.slice none 0 0)).run (PB prog false) w=.ok (.bool true) w:=λ_ _ _=>rfl
 have HP:Hid (mq w b off L):=hp
 have HO:Hid (∀ wr,Below w.heap.size w wr->mq wr b off L):=λwr hb=>hp.below hb
 obtain⟨z,hz⟩:=EU L.length hl
 generalize z.cells=zc at hz
 have HZ:Hid (∀ cs:Array Value,RS w (w.alloc (.cells (madeCells cs (L.length*5)) 151)) L 0):=λcs=>⟨aC w _,_,heap_alloc_new w _,by simp[madeCells];omega,λi hi=>absurd hi (Nat.not_lt_zero _)⟩
 have fi0:∀ (k l s:Int) (a:Option Addr) (d c:Nat) (w:World),(Instr.field 88 (FV k l s a d c) 0).run (PB prog false) w=.ok (.int .i64 k) w:=λ_ _ _ _ _ _ _=>by kernel_rfl
 have fi1:∀ (k l s:Int) (a:Option Addr) (d c:Nat) (w:World),(Instr.field 88 (FV k l s a d c) 1).run (PB prog false) w=.ok (.int .i64 l) w:=λ_ _ _ _ _ _ _=>by kernel_rfl
 have fi2:∀ (k l s:Int) (a:Option Addr) (d c:Nat) (w:World),(Instr.field 88 (FV k l s a d c) 2).run (PB prog false) w=.ok (.int .i64 s) w:=λ_ _ _ _ _ _ _=>by kernel_rfl
 clear hp
 go_enter Al.func74,Al.ntmps74
 unfold Al.lg
 go_wp2
 go_loopw [11] (λj wr=>∃ k:Nat,k<=L.length/\j=.int .i64 k/\Hid (WS w wr)) (λj _=>L.length-(intOf j).toNat)
 case atStart=>exact⟨0,Nat.zero_le _,rfl,rfl⟩
 case round =>
  obtain⟨k,hk,rfl,hR⟩:=hrel
  have hwr:w=wr:=hR.out.symm
  subst hwr
  clear hR
  by_cases hlt:k<L.length
  .obtain⟨hc,hg⟩:=HP.out k hlt
   have k0:(0:Int)<=(k:Int):=by omega
   have k1:(k:Int)<(L.length:Int):=by omega
   generalize gP L k=gg at hc hg
   obtain⟨ga,gp,gc⟩:=gg
   have HG:Hid (aW gp/\bN w ga gp):=⟨hg.all,hg.lies⟩
   have g1:¬(gp.length:Int)>(gc:Int):=by have:=hg.cap;simp only at this;omega
   have g2:¬(gp.length:Int)>9223372036854775807:=by have:=hg.most;simp only at this;omega
   simp only at hc
   clear hg
   rcases Classical.em (gp=[]) with hnil|hne
   .subst hnil
    cases ga with
    |none =>
     go_wp2
     go_loopw [17] (λj wx=>j=.int .i64 0/\Hid (WS w wx)) (λ_ _=>0)
     case atStart=>exact⟨rfl,rfl⟩
     case round =>
      obtain⟨rfl,hX⟩:=hrel
      have hwx:w=wr:=hX.out.symm
      subst hwx
      go_wp2
      exact⟨⟨k+1,by omega,by go_num,rfl⟩,by simp[intOf];omega⟩
    |some x =>
     go_wp2
     go_loopw [17] (λj wx=>j=.int .i64 0/\Hid (WS w wx)) (λ_ _=>0)
     case atStart=>exact⟨rfl,rfl⟩
     case round =>
      obtain⟨rfl,hX⟩:=hrel
      have hwx:w=wr:=hX.out.symm
      subst hwx
      go_wp2
      exact⟨⟨k+1,by omega,by go_num,rfl⟩,by simp[intOf];omega⟩
   .obtain⟨bb,oo,rfl,hby⟩:∃ bb oo,ga=some ⟨bb,oo,none⟩/\∀ i,i<gp.length->w.cell? ⟨bb,oo+i,none⟩=some (.int .u8 ((gp[i]?.getD 0:Nat):Int)):=HG.out.2.resolve_left hne
    have hall:Hid (∀ i:Nat,¬((gp[i]?.getD 0:Nat):Int)>255):=λi=>by
     have:=HG.out.1
     cases hi:gp[i]? with
     |none=>simp
     |some x=>have:=this x (List.mem_of_getElem? hi);simp;omega
    have HB:Hid (∀ i,i<gp.length->w.cell? ⟨bb,oo+i,none⟩=some (.int .u8 ((gp[i]?.getD 0:Nat):Int))):=hby
    clear hby hne HG
    go_wp2
    go_loopw [17] (λj wx=>∃ q:Nat,q<=gp.length/\j=.int .i64 q/\Hid (WS w wx)) (λj _=>gp.length-(intOf j).toNat)
    case atStart=>exact⟨0,Nat.zero_le _,rfl,rfl⟩
    case round =>
     obtain⟨q,hq,rfl,hX⟩:=hrel
     have hwx:w=wr:=hX.out.symm
     subst hwx
     clear hX
     by_cases hqt:q<gp.length
     .have q0:(0:Int)<=(q:Int):=by omega
      have q1:(q:Int)<(gp.length:Int):=by omega
      have hcell:=HB.out q hqt
      have hsm:=hall.out q
      generalize gp[q]?.getD 0=zz at hcell hsm
      have hz0:¬((zz:Nat):Int)<0:=by omega
      go_wp2
      exact⟨⟨q+1,by omega,by go_num,rfl⟩,by simp[intOf];omega⟩
     .obtain rfl:q=gp.length:=by omega
      clear hqt
      go_wp2
      exact⟨⟨k+1,by omega,by go_num,rfl⟩,by simp[intOf];omega⟩
  .obtain rfl:k=L.length:=by omega
   clear hlt
   go_wp2
   go_loopw [26] (λj wr=>∃ k:Nat,k<=L.length/\j=.int .i64 k/\Hid (RS w wr L k)) (λj _=>L.length-(intOf j).toNat)
   case atStart=>exact⟨0,Nat.zero_le _,rfl,HZ.out _⟩
   case round =>
    obtain⟨k,hk,rfl,hR⟩:=hrel
    by_cases hlt:k<L.length
    .obtain⟨hc,hg⟩:=HO.out wr hR.out.cO k hlt
     have k0:(0:Int)<=(k:Int):=by omega
     have k1:(k:Int)<(L.length:Int):=by omega
     have abI:Hid (∀ w2,Below wr.heap.size wr w2->(∀ j,j<5->(∃ v,w2.cell? ⟨w.heap.size,5*k+j,none⟩=some v)/\w2.frozen? ⟨w.heap.size,5*k+j,none⟩=false) /\
      RS w (((((w2.setCell ⟨w.heap.size,5*k,none⟩ (.int .i64 (stP (gP L k).p:Nat))).setCell ⟨w.heap.size,5*k+1,none⟩ (.int .i64 (zw (gP L k).p:Nat))).setCell ⟨w.heap.size,5*k+2,none⟩ (.int .i64 (k:Nat))).setCell ⟨w.heap.size,5*k+3,none⟩ (.int .i64 (BG (gP L k).p:Nat))).setCell ⟨w.heap.size,5*k+4,none⟩ (.int .i64 (zu (gP L k).p:Nat))) L (k+1)):=λw2 hb=>hR.out.put hlt hb
     have HS:Hid (Calls (PB prog false) 59 #[.slice (gP L k).a (gP L k).p.length (gP L k).c] wr λe w'=>∃ a d c,e=.returned (.tuple #[FV (zu (gP L k).p:Nat) (zw (gP L k).p:Nat) (BG (gP L k).p:Nat) a d c,.int .i64 (stP (gP L k).p:Nat)])/\Below wr.heap.size wr w'):=xk _ _ _ wr hg.all hg.lies hg.cap hg.most
     clear hR hg
     generalize gP L k=gg at *
     obtain⟨ga,gp,gc⟩:=gg
     generalize stP gp=ST at *
     generalize zw gp=LB at *
     generalize BG gp=SQ at *
     generalize zu gp=KD at *
     simp only at hc HS
     go_wp2_with fail
     refine HS.out.mono ?_
     rintro e w2 ⟨fa,fd,fc,rfl,hb⟩
     have em:5*k=k*5:=Nat.mul_comm 5 k
     have hP2:=abI.out w2 hb
     rw[em] at hP2
     obtain⟨hcs,hRS⟩:=hP2
     clear em
     obtain⟨⟨v0,c0⟩,f0⟩:=hcs 0 (by omega)
     rw[Nat.add_zero] at c0 f0
     obtain⟨⟨v1,c1⟩,f1⟩:=hcs 1 (by omega)
     obtain⟨⟨v2,c2⟩,f2⟩:=hcs 2 (by omega)
     obtain⟨⟨v3,c3⟩,f3⟩:=hcs 3 (by omega)
     obtain⟨⟨v4,c4⟩,f4⟩:=hcs 4 (by omega)
     have HRS:Hid (RS w _ L (k+1)):=hRS
     clear hcs hRS abI hb HS
     go_wp2
     exact⟨⟨k+1,by omega,by go_num,HRS.out⟩,by simp[intOf];omega⟩
    .obtain rfl:k=L.length:=by omega
     clear hlt
     go_wp2
     go_ret2
     exact⟨rfl,hR.out⟩
theorem LX(pa:Option Addr)(pc:Nat)(n:Int)(w:World)(h0:¬n<1)(h8:¬n>8) :
 Calls (PB prog false) 74 #[.slice pa 0 pc,.int .i64 n] w λe w'=>qM w w' e []:=by
 have heS:∀ (x:Addr) (l c:Nat) (w:World),(binOp .eql 35 (.slice (some x) l c) (.slice none 0 0)).run (PB prog false) w=.ok (.bool false) w:=λ_ _ _ _=>rfl
 have heN:∀ (l c:Nat) (w:World),(binOp .eql 35 (.slice none l c) (.slice none 0 0)).run (PB prog false) w=.ok (.bool true) w:=λ_ _ _=>rfl
 obtain⟨z,hz⟩:=EU 0 (by omega)
 generalize z.cells=zc at hz
 have hz':∀ wx:World,(Instr.makeSlice 147 (.int .i64 0) (.int .i64 0)).run (PB prog false) wx=.ok (.slice (some ⟨wx.heap.size,0,none⟩) 0 0) (wx.alloc (.cells (madeCells zc (0*5)) 151)):=hz
 have HZ:Hid (∀ cs:Array Value,RS w (w.alloc (.cells (madeCells cs (0*5)) 151)) [] 0):=λcs=>⟨aC w _,_,heap_alloc_new w _,by simp[madeCells],λi hi=>absurd hi (Nat.not_lt_zero _)⟩
 clear hz
 cases pa with
 |none =>
  go_enter Al.func74,Al.ntmps74
  unfold Al.lg
  go_wp2
  go_loopw [11] (λj wr=>j=.int .i64 0/\Hid (WS w wr)) (λ_ _=>0)
  case atStart=>exact⟨rfl,rfl⟩
  case round =>
   obtain⟨rfl,hX⟩:=hrel
   have hwx:w=wr:=hX.out.symm
   subst hwx
   clear hX
   go_wp2
   go_loopw [26] (λj wr=>j=.int .i64 0/\Hid (RS w wr [] 0)) (λ_ _=>0)
   case atStart=>exact⟨rfl,HZ.out _⟩
   case round =>
    obtain⟨rfl,hX⟩:=hrel
    go_wp2
    go_ret2
    exact⟨rfl,hX.out⟩
 |some x =>
  go_enter Al.func74,Al.ntmps74
  unfold Al.lg
  go_wp2
  go_loopw [11] (λj wr=>j=.int .i64 0/\Hid (WS w wr)) (λ_ _=>0)
  case atStart=>exact⟨rfl,rfl⟩
  case round =>
   obtain⟨rfl,hX⟩:=hrel
   have hwx:w=wr:=hX.out.symm
   subst hwx
   clear hX
   go_wp2
   go_loopw [26] (λj wr=>j=.int .i64 0/\Hid (RS w wr [] 0)) (λ_ _=>0)
   case atStart=>exact⟨rfl,HZ.out _⟩
   case round =>
    obtain⟨rfl,hX⟩:=hrel
    go_wp2
    go_ret2
    exact⟨rfl,hX.out⟩
def SI(w:World)(pa:Option Addr)(L:List Pg):Prop:=L=[]\/∃ b off,pa=some ⟨b,off,none⟩/\mq w b off L
theorem Aq(pa:Option Addr)(pc:Nat)(L:List Pg)(n:Int)(w:World)(h0:¬n<1)(h8:¬n>8)(hl:L.length<=4096)(hp:SI w pa L) :
 Calls (PB prog false) 74 #[.slice pa L.length pc,.int .i64 n] w λe w'=>qM w w' e L:=by
 by_cases h:L=[]
 .subst h
  exact LX pa pc n w h0 h8
 .obtain⟨b,off,rfl,hq⟩:=hp.resolve_left h
  exact Hg b off pc L n w h0 h8 (List.length_pos_iff.2 h) hl hq
end Go.Proofs.ah
namespace Go.Proofs.ah
open ay aj Go.RowKit Go.Sort
variable {y:Int}
def iU(x y:Int):Int:=if x<y then -1 else if y<x then 1 else 0
theorem Ca{x:Int}(h:x<y):iU x y=-1:=if_pos h
theorem Cb{x:Int}(h:y<x):iU x y=1:=by unfold iU;rw[if_neg (by omega),if_pos h]
theorem Cc{x:Int}(h:x=y):iU x y=0:=by unfold iU;rw[if_neg (by omega),if_neg (by omega)]
theorem jy(x:Int)(w:World):Calls (PB prog false) 113 #[.int .i64 x] w λe w'=>e=.returned (.bool false)/\w'=w:=by
 go_enter Al.func113,Tryz.ntmps113
 go_wp2
 go_ret
 exact⟨by simp,rfl⟩
theorem nI(x y:Int)(w:World):Calls (PB prog false) 78 #[.int .i64 x,.int .i64 y] w λe w'=>e=.returned (.int .i64 (iU x y))/\w'=w:=by
 by_cases h:x<y
 .rw[Ca h]
  go_enter Al.func78,Tryz.ntmps78
  go_wp2_with (go_at_call 113;refine(jy _ _).mono ?_;rintro e w' ⟨rfl,rfl⟩)
  go_ret
  exact⟨rfl,rfl⟩
 .by_cases h2:y<x
  .rw[Cb h2]
   go_enter Al.func78,Tryz.ntmps78
   go_wp2_with (go_at_call 113;refine(jy _ _).mono ?_;rintro e w' ⟨rfl,rfl⟩)
   go_ret
   exact⟨rfl,rfl⟩
  .rw[Cc (by omega)]
   go_enter Al.func78,Tryz.ntmps78
   go_wp2_with (go_at_call 113;refine(jy _ _).mono ?_;rintro e w' ⟨rfl,rfl⟩)
   go_ret
   exact⟨rfl,rfl⟩
def mU:List Int->Int
 | []=>0
 |x::r=>if x=0 then mU r else x
theorem j4:∀ (vs:List Int) (k:Nat),k<=vs.length->(∀ i,i<k->vs[i]?.getD 0=0)->mU vs=mU (vs.drop k)
 |vs,0,_,_=>by simp
 | [],k+1,h,_=>by simp at h
 |x::r,k+1,h,h0=>by
  have hx:x=0:=by simpa using h0 0 (by omega)
  rw[mU,if_pos hx,List.drop_succ_cons]
  exact j4 r k (by simpa using h) (λi hi=>by simpa using h0 (i+1) (by omega))
theorem Ce{vs:List Int}{k:Nat}(h:k<vs.length)(h0:∀ i,i<k->vs[i]?.getD 0=0)(hn:vs[k]?.getD 0≠0):mU vs=vs[k]?.getD 0:=by
 rw[j4 vs k (by omega) h0,List.drop_eq_getElem_cons h,mU]
 rw[List.getElem?_eq_getElem h] at hn ⊢
 rw[if_neg (show ¬vs[k]=0 from hn)]
 rfl
theorem Cg{vs:List Int}(h0:∀ i,i<vs.length->vs[i]?.getD 0=0):mU vs=0:=by
 rw[j4 vs vs.length (Nat.le_refl _) h0]
 simp[mU]
def Xq(w wr:World)(vs:List Int)(k:Nat):Prop:=wr=w/\∀ i,i<k->vs[i]?.getD 0=0
theorem Hl(g cap:Nat)(vs:List Int)(w:World)(hl:vs.length<=64)(hc:∀ i,i<vs.length->w.cell? ⟨g,i,none⟩=some (.int .i64 (vs[i]?.getD 0))) :
 Calls (PB prog false) 77 #[.slice (some ⟨g,0,none⟩) vs.length cap] w λe w'=>e=.returned (.int .i64 (mU vs))/\w'=w:=by
 have HC:Hid (∀ i,i<vs.length->w.cell? ⟨g,i,none⟩=some (.int .i64 (vs[i]?.getD 0))):=hc
 clear hc
 go_enter Al.func77,Tryz.ntmps77
 go_wp2
 go_loopw [8] (λj wr=>∃ k:Nat,k<=vs.length/\j=.int .i64 k/\Hid (Xq w wr vs k)) (λj _=>vs.length-(intOf j).toNat)
 case atStart=>exact⟨0,Nat.zero_le _,rfl,(⟨rfl,λi hi=>absurd hi (Nat.not_lt_zero _)⟩:Xq w w vs 0)⟩
 case round =>
  obtain⟨k,hk,rfl,hR0⟩:=hrel
  obtain⟨rfl,hR1⟩:=hR0.out
  have hR:Hid (∀ i,i<k->vs[i]?.getD 0=0):=hR1
  clear hR0 hR1
  by_cases hlt:k<vs.length
  .have c0:=HC.out k hlt
   have HH:Hid (vs[k]?.getD 0≠0->mU vs=vs[k]?.getD 0):=λh=>Ce hlt hR.out h
   have HS:Hid (vs[k]?.getD 0=0->∀ i,i<k+1->vs[i]?.getD 0=0):=λh i hi=>by
    by_cases e:i=k
    .rw[e];exact h
    .exact hR.out i (by omega)
   clear hR
   generalize vs[k]?.getD 0=v at *
   by_cases hv:v=0
   .subst hv
    go_wp2
    exact⟨⟨k+1,by omega,by go_num,(⟨rfl,HS.out rfl⟩:Xq wr wr vs (k+1))⟩,by simp[intOf];omega⟩
   .have hv2:(v != 0)=true:=bne_iff_ne.2 hv
    go_wp2
    go_ret
    exact⟨by rw[HH.out hv];rfl,rfl⟩
  .obtain rfl:k=vs.length:=by omega
   clear hlt
   have HZ:Hid (mU vs=0):=Cg hR.out
   go_wp2
   go_ret
   exact⟨by rw[HZ.out];rfl,rfl⟩
theorem Ho(W:World)(x y z:Int):Calls (PB prog false) 77 #[.slice (some ⟨W.heap.size,0,none⟩) 3 3] (W.alloc (.cells #[.int .i64 x,.int .i64 y,.int .i64 z] 3)).drew λe w'=>e=.returned (.int .i64 (mU [x,y,z]))/\w'=(W.alloc (.cells #[.int .i64 x,.int .i64 y,.int .i64 z] 3)).drew:=by
 refine Hl W.heap.size 3 [x,y,z] _ (by simp) (λi hi=>?_)
 have h:i=0\/i=1\/i=2:=by simp at hi;omega
 rcases h with rfl|rfl|rfl<;>simp
theorem LY(a0 a1 a2 a3 b0 b1 b2 b3:Int)(w:World) :
 Calls (PB prog false) 76 #[.agg #[.int .i64 a0,.int .i64 a1,.int .i64 a2,.int .i64 a3],.agg #[.int .i64 b0,.int .i64 b1,.int .i64 b2,.int .i64 b3]] w λe w'=>e=.returned (.int .i64 (mU [iU a0 b0,iU b2 a2,iU b1 a1]))/\∃ q os',w'=grow (w.drewN q) os':=by
 have HE:Hid (∀ o1 o2 o3:Obj,∃ q os',(((w.alloc o1).alloc o2).alloc o3).drew=grow (w.drewN q) os'):=λo1 o2 o3=>⟨1,#[o1,o2,o3],by rw[alloc_eq_grow,alloc_eq_grow,alloc_eq_grow,grow_grow,grow_grow,drew_grow];rfl⟩
 have HC:Hid (∀ x y W,Calls (PB prog false) 78 #[.int .i64 x,.int .i64 y] W λe w'=>e=.returned (.int .i64 (iU x y))/\w'=W):=nI
 obtain⟨W,hW⟩:∃ W,W=(w.alloc (.cells #[.int .i64 a0,.int .i64 a1,.int .i64 a2,.int .i64 a3] 110)).alloc (.cells #[.int .i64 b0,.int .i64 b1,.int .i64 b2,.int .i64 b3] 110):=⟨_,rfl⟩
 have HW:Hid (∀ o:Obj,∃ q os',(W.alloc o).drew=grow (w.drewN q) os'):=λo=>by rw[hW];exact HE.out _ _ o
 clear HE
 obtain⟨g,hg⟩:∃ g,g=w.heap.size:=⟨_,rfl⟩
 have c0:W.cell? ⟨g,0,none⟩=some (.int .i64 a0):=by rw[hW,hg];simp
 have c1:W.cell? ⟨g,1,none⟩=some (.int .i64 a1):=by rw[hW,hg];simp
 have c2:W.cell? ⟨g,2,none⟩=some (.int .i64 a2):=by rw[hW,hg];simp
 have d0:W.cell? ⟨g+1,0,none⟩=some (.int .i64 b0):=by rw[hW,hg];simp
 have d1:W.cell? ⟨g+1,1,none⟩=some (.int .i64 b1):=by rw[hW,hg];simp
 have d2:W.cell? ⟨g+1,2,none⟩=some (.int .i64 b2):=by rw[hW,hg];simp
 go_enter Al.func76,Tryz.ntmps76
 go_wp2
 rw[<-hW,<-hg]
 clear hW hg
 generalize g+1=h at *
 go_region_held3 (λw'=>w'.cell? ⟨g,0,none⟩=some (.int .i64 a0)/\w'.cell? ⟨g,1,none⟩=some (.int .i64 a1)/\w'.cell? ⟨g,2,none⟩=some (.int .i64 a2)/\w'.cell? ⟨h,0,none⟩=some (.int .i64 b0)/\w'.cell? ⟨h,1,none⟩=some (.int .i64 b1)/\w'.cell? ⟨h,2,none⟩=some (.int .i64 b2)) (first|assumption|go_keep) (first|(go_at_call 78;refine(HC.out _ _ _).mono ?_;rintro e w' ⟨rfl,rfl⟩)|(go_at_call 77;refine(Ho _ _ _ _).mono ?_;rintro e w' ⟨rfl,rfl⟩))
 go_wp2
 go_ret
 exact⟨rfl,HW.out _⟩
theorem Hq(a0 a1 a2 a3 b0 b1 b2 b3:Int)(w:World) :
 Calls (PB prog false) 80 #[.agg #[.int .i64 a0,.int .i64 a1,.int .i64 a2,.int .i64 a3],.agg #[.int .i64 b0,.int .i64 b1,.int .i64 b2,.int .i64 b3]] w λe w'=>e=.returned (.bool (a0==b0))/\∃ q os',w'=grow (w.drewN q) os':=by
 have HE:Hid (∀ o1 o2:Obj,∃ q os',((w.alloc o1).alloc o2)=grow (w.drewN q) os'):=λo1 o2=>⟨0,#[o1,o2],by rw[alloc_eq_grow,alloc_eq_grow,grow_grow];rfl⟩
 go_enter Al.func80,Tryz.ntmps80
 go_wp2
 go_ret
 exact⟨rfl,HE.out _ _⟩
