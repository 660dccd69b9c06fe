/- Part of the proof. -/
import Derived.Test.YtjlgehmebfkioaaGreatDoorZ14
import Derived.Test.YtjlgehmebfkioaaGreatDoorZ06
import Derived.Shelf.Slices.SearchI
import Derived.Shelf.Sort.Plain
import Derived.Test.YtjlgehmebfkioaaGreatDoorZ10
set_option maxRecDepth 100000
open Go.Proofs.Tryz renaming prog->aa
open Go.Proofs.ah.Al (PB)
set_option maxHeartbeats 6400000
set_option linter.unusedVariables false
open Classical renaming byContradiction->cD
open Go renaming World->ae,Calls->ax,Value->ai
open Go.Instr renaming typeAssert->cR
open Go.Shelf renaming Ren->pS
open Go.Value renaming int->ef
open Go.World renaming block_lt_of_cell?->cj,cell?_of_block->hQ,frozen?_of_block->oR
open Int renaming toNat_natCast->cm
open List renaming replicate->aq,getElem?_eq_getElem->az,pairwise_iff_getElem->js,mem_iff_getElem->ls,length_map->dp,range->dj,getElem?_map->dm,getElem?_range->il
open Nat renaming le_trans->cG,zero_add->de,le_refl->al,zero_le->cS,lt_of_lt_of_le->cC
open Or renaming inl->bh,inr->be
namespace Go.Proofs.aA
open ah au aj Go.RowKit aC aD ah
def pV:Gm:=⟨1,6,2,24,2,0⟩
theorem PD:Geo pV.D pV.B pV.P pV.Y:=⟨by decide,by decide,by decide,by decide,by decide,by decide,by decide,by decide,by decide⟩
theorem AQ(w:ae):Row (w.alloc (.cells #[.int .u8 1,.int .u8 2,.int .u8 3] 5)) w.heap.size [1,2,3]:=heap_alloc_new w _
theorem lV{B:Nat}{R:Nat->Prop}{w w':ae}(h:Keep (λb=>¬R b) w w')(hB:B<=w.heap.size)(hr:∀ b,b<B->R b):Below B w w':=h.below hB (λb e=>Nat.le_of_not_lt (λhb=>e (hr b hb)))
theorem Eb(HL:Lib)(w:ae):ax (PB aa false) 9 #[] w λe w'=>e=.returned (.bool true)/\Below w.heap.size w w':=by
 have HN:Hid (ax (PB aa false) 10 #[.agg #[.int .i64 1,.int .i64 6,.int .i64 2,.int .i64 24],.int .i64 2,.int .i64 0] w λe w'=>∃ db,e=.returned (.tuple #[.pointer (some ⟨db,0,none⟩),.nilIface])/\CO pV (λb=>b<w.heap.size) 0 w' db (λ_=>aq 3 0)/\Below w.heap.size w w'):=Wo HL (g:=pV) (λb=>b<w.heap.size) w PD (by decide) (λb hb=>hb)
 go_enter Al.func9,Tryz.ntmps9
 go_wp2_with fail
 refine HN.out.mono ?_
 rintro e w1 ⟨db,rfl,hc1,hb1⟩
 have hwr:=J4 HL (g:=pV) (R:=λb=>b<w.heap.size\/b=w1.heap.size) (hc1.more (λb hb=>hb.elim bh (λe=>be (by omega))) |>.below (aB w1 (.cells #[.int .u8 1,.int .u8 2,.int .u8 3] 5))) (by omega) 0 (some ⟨w1.heap.size,0,none⟩) 3 [1,2,3] (λx hx=>by simp at hx;omega) (iV (AQ w1)) (λb off e=>by cases e;exact be rfl) (by simp)
 have HB1:Hid (Below w.heap.size w (w1.alloc (.cells #[.int .u8 1,.int .u8 2,.int .u8 3] 5))):=hb1.alloc hb1.size _
 have hc0:fI pV 0 ([1,2,3]:List Nat).length=0:=by decide
 rw[hc0,if_pos rfl,bX] at hwr
 clear hc1 hb1 HN
 go_wp2_with fail
 refine hwr.mono ?_
 rintro e w2 ⟨rfl,hc2,hk2⟩
 have HB2:Hid (Below w.heap.size w w2):=HB1.out.trans (lV hk2 HB1.out.size (λb hb=>bh hb))
 have hrd:=X3 HL hc2 (by omega) 0
 have HC2:Hid (CO pV (λb=>b<w.heap.size\/b=w1.heap.size) (0+1) w2 db (upd (λ_=>aq 3 0) (0:Int).toNat [1,2,3])):=hc2
 clear hwr hc2 hk2 HB1
 go_wp2_with fail
 refine hrd.mono ?_
 rintro e w3 (⟨h0,_⟩|⟨j,hj,hj2,gb,rfl,hge,hrow,hb3⟩)
 .exact absurd (by decide) h0
 .obtain rfl:j=0:=by omega
  have ev:upd (λ_=>aq 3 0) (0:Int).toNat [1,2,3] 0=[1,2,3]:=rfl
  rw[ev] at hrow ⊢
  have HB3:Hid (Below w.heap.size w (w3.alloc (.cells #[.int .u8 1,.int .u8 2,.int .u8 3] 5))/\CO pV (λb=>b<w.heap.size\/b=w1.heap.size) (0+1) (w3.alloc (.cells #[.int .u8 1,.int .u8 2,.int .u8 3] 5)) db (upd (λ_=>aq 3 0) (0:Int).toNat [1,2,3])):=by
   have h1:=HB2.out.trans (hb3.mono HB2.out.size)
   exact⟨h1.alloc h1.size _,(HC2.out.below hb3).below (aB _ _)⟩
  have hby:=sS (some ⟨gb,0,none⟩) (some ⟨w3.heap.size,0,none⟩) [1,2,3] [1,2,3] 3 3 (w3.alloc (.cells #[.int .u8 1,.int .u8 2,.int .u8 3] 5)) (by simp) (by simp) (iV (hrow.below (aB _ _))) (iV (AQ w3))
  rw[decide_eq_true rfl] at hby
  clear hrd HC2 HB2 hj hj2 hge hrow hb3 ev
  go_wp2_with fail
  refine hby.mono ?_
  rintro e w4 ⟨rfl,hb4⟩
  have Tz:Hid (Below w.heap.size w w4):=HB3.out.1.trans (hb4.mono HB3.out.1.size)
  have hsz:=NS (HB3.out.2.below hb4)
  clear hby HB3 hb4
  go_wp2_with fail
  refine hsz.mono ?_
  rintro e w5 ⟨rfl,rfl⟩
  clear hsz
  go_wp2
  go_ret
  exact⟨rfl,Tz.out⟩
end Go.Proofs.aA
namespace Go.Proofs.aA
open ah au aj Go.RowKit
theorem yC(v:ai)(w:ae):(cR (.iface 31 v) 28 31 true).run (PB aa false) w=.ok (.tuple #[v,.bool true]) w:=by kernel_rfl
theorem CZ(w:ae):(cR .nilIface 28 31 true).run (PB aa false) w=.ok (.tuple #[.int .i64 0,.bool false]) w:=by kernel_rfl
theorem J5(m:Int)(W:ae):ax (PB aa false) 42 #[.nilIface,.iface 31 (.int .i64 m)] W λe w'=>e=.returned (.bool false)/\w'=W:=by
 have h1:=CZ
 have h2:=yC (.int .i64 m)
 go_enter Al.func42,Al.ntmps42
 unfold Al.LD
 go_wp2
 go_ret
 exact⟨rfl,rfl⟩
theorem AU(n m:Int)(W:ae):ax (PB aa false) 42 #[.iface 31 (.int .i64 n),.iface 31 (.int .i64 m)] W λe w'=>e=.returned (.bool (n==m))/\w'=W:=by
 have h1:=yC (.int .i64 n)
 have h2:=yC (.int .i64 m)
 go_enter Al.func42,Al.ntmps42
 unfold Al.LD
 go_wp2
 go_ret
 exact⟨rfl,rfl⟩
theorem aci:CV:=λn m hm W=>by
 have hB:Below W.heap.size W W:=Below.refl _ _
 by_cases h0:n=0
 .subst h0
  rw[bX,decide_eq_false (λe=>hm e.symm)]
  exact(J5 m W).mono λe w' h=>⟨h.1,by rw[h.2];exact hB⟩
 .rw[dY h0]
  refine(AU n m W).mono λe w' h=>⟨?_,by rw[h.2];exact hB⟩
  rw[h.1]
  congr 2
  rw[Bool.eq_iff_iff]
  simp
  omega
end Go.Proofs.aA
namespace Go.Proofs.aA
open ah au aj Go.RowKit aC aD ah
def SL(w:ae)(a:Option Addr)(n:Nat):Prop:=n=0\/∃ g off,a=some ⟨g,off,none⟩/\∀ i,i<n->∃ x y z:Int,w.cell? ⟨g,off+i*3,none⟩=some (.int .i64 x)/\w.cell? ⟨g,off+i*3+1,none⟩=some (.int .i64 y)/\w.cell? ⟨g,off+i*3+2,none⟩=some (.int .i64 z)/\(-9223372036854775808<=y/\y<=9223372036854775807)
theorem SL.below{w w':ae}{a:Option Addr}{n:Nat}(h:SL w a n)(hb:Below w.heap.size w w'):SL w' a n:=by
 rcases h with h|⟨g,off,e,h⟩
 .exact bh h
 .refine be ⟨g,off,e,λi hi=>?_⟩
  obtain⟨x,y,z,h0,h1,h2,h3⟩:=h i hi
  have k:∀ (o:Nat) (v:ai),w.cell? ⟨g,o,none⟩=some v->w'.cell? ⟨g,o,none⟩=some v:=λo v hv=>(hb.cell (p:=⟨g,o,none⟩) (cj w _ hv)).trans hv
  exact⟨x,y,z,k _ _ h0,k _ _ h1,k _ _ h2,h3⟩
def GV(g0 g1 g2 g3 lb sp:Int):Prop:=¬qF g0 g1 g2 g3\/∃ D B P Y:Nat,g0=D/\g1=B/\g2=P/\g3=Y/\Geo D B P Y/\ny D B P Y lb sp≠0
theorem Sk(g0 g1 g2 g3 lb sp:Int):GV g0 g1 g2 g3 lb sp\/∃ g:Gm,g0=g.D/\g1=g.B/\g2=g.P/\g3=g.Y/\lb=g.L/\sp=g.spare/\Geo g.D g.B g.P g.Y/\ny g.D g.B g.P g.Y (g.L:Int) (g.spare:Int)=0:=by
 by_cases h:qF g0 g1 g2 g3
 .obtain⟨D,B,P,Y,rfl,rfl,rfl,rfl,hG⟩:=h.nat
  by_cases hc:ny D B P Y lb sp=0
  .obtain⟨L,spare,rfl,rfl,_⟩:=Bv hG hc
   exact be ⟨⟨D,B,P,Y,L,spare⟩,rfl,rfl,rfl,rfl,rfl,rfl,hG,hc⟩
  .exact bh (be ⟨D,B,P,Y,rfl,rfl,rfl,rfl,hG,hc⟩)
 .exact bh (bh h)
structure LS(w1 wq:ae)(g:Gm)(n db:Nat)(V:Nat->List Nat):Prop where
 co:CO g (λb=>b<w1.heap.size) n wq db V
 dx:Below w1.heap.size w1 wq
theorem LS.below{w1 wq w':ae}{g:Gm}{n db:Nat}{V:Nat->List Nat}(h:LS w1 wq g n db V)(hb:Below wq.heap.size wq w'):LS w1 w' g n db V:=⟨h.co.below hb,h.dx.trans (hb.mono h.dx.size)⟩
theorem LS.write(HL:Lib){w1 wr wq w2:ae}{g:Gm}{n db:Nat}{V:Nat->List Nat}{a:Option Addr}{cap m:Nat}{l:List Nat}(h:LS w1 wr g n db V)(hal:Below wr.heap.size wr wq)(hn:n<=100000000000000)(hb:IG wq w2 a cap m l)(hm:m<=1000000)(fZ:Int) :
 ax (PB aa false) 27 #[.pointer (some ⟨db,0,none⟩),.int .i64 fZ,.slice a m cap] w2 λe w'=>e=.returned (bV (fI g fZ m))/\LS w1 w' g (n+1) db (if fI g fZ m=0 then upd V fZ.toNat l else V)/\(∀ b,wr.heap.size<=b->b<w2.heap.size->w'.heap[b]?=w2.heap[b]?):=by
 have hs:=h.dx.size
 have hw:Below wr.heap.size wr w2:=hal.trans (hb.dx.mono hal.size)
 have hco:CO g (λb=>b<w1.heap.size\/(wr.heap.size<=b/\b<w2.heap.size)) n w2 db V:=(h.co.more (R':=λb=>b<w1.heap.size\/(wr.heap.size<=b/\b<w2.heap.size)) (λb e=>e.elim bh (λe2=>be e2.1))).below hw
 have hx:=J4 HL hco hn fZ a cap l hb.all hb.own.lies (λb off e=>by
  have:=hb.own.ge (b:=b) ⟨_,e,rfl⟩
  have:=hal.size
  exact be ⟨by omega,by omega⟩) (by rw[hb.len];omega)
 rw[hb.len] at hx
 refine hx.mono ?_
 rintro e w' ⟨rfl,q1,q2⟩
 have h2:=h.below hw
 exact⟨rfl,⟨q1.more (λb e=>bh (bh e)),h2.dx.trans (lV q2 h2.dx.size (λb e=>bh e))⟩,λb h3 h4=>q2.block b h4 (λe=>e (be ⟨h3,h4⟩))⟩
end Go.Proofs.aA
namespace Go.Proofs.aA
open au aj Go.RowKit aC aD ah
theorem TD(p:List Nat):(stP p==2&&(zG p==1||zG p==2))=true↔pI p:=by
 unfold pI
 rw[<-Af]
 simp only[Bool.and_eq_true,Bool.or_eq_true,beq_iff_eq]
 unfold stP zG qI
 cases h1:iR p<;>cases h2:qd p<;>simp
theorem yD{p:List Nat}(h:pI p):zH p=bS p/\BJ p=bO p:=by
 have:=(Af p).2 h.1
 unfold zH BJ
 rw[this]
 exact⟨rfl,rfl⟩
theorem C8{L:List Pg}{i:Nat}:i∈flt L L.length↔i<L.length/\pI (gP L i).p:=by
 unfold flt
 rw[List.mem_filter,List.mem_range]
 refine and_congr_right λ_=>?_
 exact TD _
theorem X4{N:List ah.Fd}{i:Nat}(h:i<N.length):gF N i∈N:=by
 unfold gF
 rw[az h]
 exact List.getElem_mem h
theorem acj(L:List Pg):NF L.length (λi=>(gP L i).p) (newF L).length (λi=>(gF (newF L) i).lb) (λi=>(gF (newF L) i).pg) (λi=>(gF (newF L) i).sq):=by
 have hI:Wx (nk L) (flt L L.length) (newF L):=Xy _ _
 refine⟨λi j hij hj=>?_,λi hi=>?_,λp hp hc=>?_⟩
 .have:=js.1 hI.rise i j (by omega) hj hij
  unfold gF
  rw[az hj,az (show i<(newF L).length by omega)]
  exact this
 .obtain⟨p,hp,e,hb⟩:=hI.best _ (X4 hi)
  obtain⟨p1,p2⟩:=C8.1 hp
  obtain⟨t1,t2⟩:=yD p2
  have e1:(gF (newF L) i).pg=p:=by rw[e];rfl
  have e2:(gF (newF L) i).lb=bS (gP L p).p:=by rw[e];exact t1
  have e3:(gF (newF L) i).sq=bO (gP L p).p:=by rw[e];exact t2
  rw[e1,e2,e3]
  refine⟨p1,p2,rfl,rfl,λq hq hc hl=>?_⟩
  obtain⟨s1,s2⟩:=yD hc
  have hlt:=hb q (C8.2 ⟨hq,hc⟩) (by rw[e2];show zH (gP L q).p=_;rw[s1];exact hl)
  unfold Ck at hlt
  have f1:(nk L q).lb=(nk L p).lb:=by show zH _=zH _;rw[s1,t1];exact hl
  have f2:(nk L q).sq=bO (gP L q).p:=s2
  have f3:(nk L p).sq=bO (gP L p).p:=t2
  rw[f2,f3] at hlt
  rcases Nat.lt_or_ge (bO (gP L p).p) (bO (gP L q).p) with h|h
  .exact(hlt (be ⟨f1,bh h⟩)).elim
  .exact h
 .obtain⟨e,he,hl⟩:=hI.all p (C8.2 ⟨hp,hc⟩)
  obtain⟨i,hi,rfl⟩:=ls.1 he
  refine⟨i,hi,?_⟩
  unfold gF
  rw[az hi]
  show (newF L)[i].lb=_
  rw[hl]
  exact(yD hc).1
theorem TF(L:List Pg):(newF L).length<=L.length:=by
 unfold newF zI DZ
 rw[dp]
 refine cG (List.length_filter_le _ _) ?_
 rw[List.length_range,dp]
 have:=(Fa (nk L) (flt L L.length)).length_eq
 rw[this]
 exact Cn L L.length
theorem X5:FU:=λpa pc L w hl hp=>(Ib pa pc L 8 w (by decide) (by decide) hl hp).mono λe w' ⟨a,cap,h1,h2,h3⟩=>by
 refine⟨a,cap,(newF L).length,_,_,_,λi=>(gF (newF L) i).kd,h1,?_,acj L,TF L,h3⟩
 rcases h2.at with e|⟨g,off,rfl,hc⟩
 .exact bh (by rw[e];rfl)
 .exact be ⟨g,off,rfl,λi hi=>hc i hi⟩
end Go.Proofs.aA
namespace Go.Proofs.aA
open ah Go.Shelf
def Mx:pS:=⟨fun|25=>121|31=>160|32=>161|37=>113|n=>n,fun|22=>114|3=>3|4=>4|40=>93|0=>0|n=>n,fun|n=>n⟩
theorem acn:Go.Proofs.Lays2.n25 (PB aa false) Mx:={
 mixed:=by kernel_rfl
 f25:=Al.func121.trans (congrArg some (by kernel_rfl))
 f31:=Al.func160.trans (congrArg some (by kernel_rfl))
 f32:=Al.func161.trans (congrArg some (by kernel_rfl))
 f37:=Al.func113.trans (congrArg some (by kernel_rfl))
 t0:=((Al.und 0).trans Tryz.underlying0)
 a0:=λw=>(Al.agg 0 w).trans (Tryz.isAgg0 w)
 z0:=λw=>(Al.jv 0 w).trans (Tryz.sizeOf0 w)
 v0:=λw=>(Al.jw 0 w).trans (Tryz.zeroValue0 w)
 t3:=((Al.und 3).trans Tryz.underlying3)
 a3:=λw=>(Al.agg 3 w).trans (Tryz.isAgg3 w)
 z3:=λw=>(Al.jv 3 w).trans (Tryz.sizeOf3 w)
 v3:=λw=>(Al.jw 3 w).trans (Tryz.zeroValue3 w)
 t4:=((Al.und 4).trans Tryz.underlying4)
 a4:=λw=>(Al.agg 4 w).trans (Tryz.isAgg4 w)
 z4:=λw=>(Al.jv 4 w).trans (Tryz.sizeOf4 w)
 v4:=λw=>(Al.jw 4 w).trans (Tryz.zeroValue4 w)
 t22:=((Al.und 114).trans Tryz.underlying114)
 a22:=λw=>(Al.agg 114 w).trans (Tryz.isAgg114 w)
 z22:=λw=>(Al.jv 114 w).trans (Tryz.sizeOf114 w)
 v22:=λw=>(Al.jw 114 w).trans (Tryz.zeroValue114 w)
 t40:=((Al.und 93).trans Tryz.underlying93)
 a40:=λw=>(Al.agg 93 w).trans (Tryz.isAgg93 w)
 z40:=λw=>(Al.jv 93 w).trans (Tryz.sizeOf93 w)
 v40:=λw=>(Al.jw 93 w).trans (Tryz.zeroValue93 w) }
def MB:pS:=⟨fun|189=>120|125=>112|257=>159|128=>155|129=>156|294=>175|295=>176|296=>177|297=>178|298=>179|299=>180|216=>160|300=>181|301=>182|328=>185|329=>171|330=>172|331=>186|332=>187|215=>113|343=>196|n=>n,fun|28=>114|3=>3|46=>93|0=>0|51=>92|53=>199|4=>4|183=>240|182=>239|131=>216|5=>5|9=>9|218=>262|222=>265|228=>273|229=>130|n=>n,fun|n=>n⟩
theorem aco:Go.Proofs.Lays.n189 (PB aa false) MB:={
 mixed:=by kernel_rfl
 f125:=Al.func112.trans (congrArg some (by kernel_rfl))
 f128:=Al.func155.trans (congrArg some (by kernel_rfl))
 f129:=Al.func156.trans (congrArg some (by kernel_rfl))
 f189:=Al.func120.trans (congrArg some (by kernel_rfl))
 f215:=Al.func113.trans (congrArg some (by kernel_rfl))
 f216:=Al.func160.trans (congrArg some (by kernel_rfl))
 f257:=Al.func159.trans (congrArg some (by kernel_rfl))
 f294:=Al.func175.trans (congrArg some (by kernel_rfl))
 f295:=Al.func176.trans (congrArg some (by kernel_rfl))
 f296:=Al.func177.trans (congrArg some (by kernel_rfl))
 f297:=Al.func178.trans (congrArg some (by kernel_rfl))
 f298:=Al.func179.trans (congrArg some (by kernel_rfl))
 f299:=Al.func180.trans (congrArg some (by kernel_rfl))
 f300:=Al.func181.trans (congrArg some (by kernel_rfl))
 f301:=Al.func182.trans (congrArg some (by kernel_rfl))
 f328:=Al.func185.trans (congrArg some (by kernel_rfl))
 f329:=Al.func171.trans (congrArg some (by kernel_rfl))
 f330:=Al.func172.trans (congrArg some (by kernel_rfl))
 f331:=Al.func186.trans (congrArg some (by kernel_rfl))
 f332:=Al.func187.trans (congrArg some (by kernel_rfl))
 f343:=Al.func196.trans (congrArg some (by kernel_rfl))
 t0:=((Al.und 0).trans Tryz.underlying0)
 a0:=λw=>(Al.agg 0 w).trans (Tryz.isAgg0 w)
 z0:=λw=>(Al.jv 0 w).trans (Tryz.sizeOf0 w)
 v0:=λw=>(Al.jw 0 w).trans (Tryz.zeroValue0 w)
 t3:=((Al.und 3).trans Tryz.underlying3)
 a3:=λw=>(Al.agg 3 w).trans (Tryz.isAgg3 w)
 z3:=λw=>(Al.jv 3 w).trans (Tryz.sizeOf3 w)
 v3:=λw=>(Al.jw 3 w).trans (Tryz.zeroValue3 w)
 t4:=((Al.und 4).trans Tryz.underlying4)
 a4:=λw=>(Al.agg 4 w).trans (Tryz.isAgg4 w)
 z4:=λw=>(Al.jv 4 w).trans (Tryz.sizeOf4 w)
 v4:=λw=>(Al.jw 4 w).trans (Tryz.zeroValue4 w)
 t5:=((Al.und 5).trans Tryz.underlying5)
 a5:=λw=>(Al.agg 5 w).trans (Tryz.isAgg5 w)
 z5:=λw=>(Al.jv 5 w).trans (Tryz.sizeOf5 w)
 v5:=λw=>(Al.jw 5 w).trans (Tryz.zeroValue5 w)
 t9:=((Al.und 9).trans Tryz.underlying9)
 a9:=λw=>(Al.agg 9 w).trans (Tryz.isAgg9 w)
 z9:=λw=>(Al.jv 9 w).trans (Tryz.sizeOf9 w)
 v9:=λw=>(Al.jw 9 w).trans (Tryz.zeroValue9 w)
 t28:=((Al.und 114).trans Tryz.underlying114)
 a28:=λw=>(Al.agg 114 w).trans (Tryz.isAgg114 w)
 z28:=λw=>(Al.jv 114 w).trans (Tryz.sizeOf114 w)
 v28:=λw=>(Al.jw 114 w).trans (Tryz.zeroValue114 w)
 t46:=((Al.und 93).trans Tryz.underlying93)
 a46:=λw=>(Al.agg 93 w).trans (Tryz.isAgg93 w)
 z46:=λw=>(Al.jv 93 w).trans (Tryz.sizeOf93 w)
 v46:=λw=>(Al.jw 93 w).trans (Tryz.zeroValue93 w)
 t51:=((Al.und 92).trans Tryz.underlying92)
 a51:=λw=>(Al.agg 92 w).trans (Tryz.isAgg92 w)
 z51:=λw=>(Al.jv 92 w).trans (Tryz.sizeOf92 w)
 v51:=λw=>(Al.jw 92 w).trans (Tryz.zeroValue92 w)
 t53:=((Al.und 199).trans Tryz.underlying199)
 a53:=λw=>(Al.agg 199 w).trans (Tryz.isAgg199 w)
 z53:=λw=>(Al.jv 199 w).trans (Tryz.sizeOf199 w)
 v53:=λw=>(Al.jw 199 w).trans (Tryz.zeroValue199 w)
 t131:=((Al.und 216).trans Tryz.underlying216)
 a131:=λw=>(Al.agg 216 w).trans (Tryz.isAgg216 w)
 z131:=λw=>(Al.jv 216 w).trans (Tryz.sizeOf216 w)
 v131:=λw=>(Al.jw 216 w).trans (Tryz.zeroValue216 w)
 t182:=((Al.und 239).trans Tryz.underlying239)
 a182:=λw=>(Al.agg 239 w).trans (Tryz.isAgg239 w)
 z182:=λw=>(Al.jv 239 w).trans (Tryz.sizeOf239 w)
 v182:=λw=>(Al.jw 239 w).trans (Tryz.zeroValue239 w)
 t183:=((Al.und 240).trans Tryz.underlying240)
 a183:=λw=>(Al.agg 240 w).trans (Tryz.isAgg240 w)
 z183:=λw=>(Al.jv 240 w).trans (Tryz.sizeOf240 w)
 v183:=λw=>(Al.jw 240 w).trans (Tryz.zeroValue240 w)
 t218:=((Al.und 262).trans Tryz.underlying262)
 a218:=λw=>(Al.agg 262 w).trans (Tryz.isAgg262 w)
 z218:=λw=>(Al.jv 262 w).trans (Tryz.sizeOf262 w)
 v218:=λw=>(Al.jw 262 w).trans (Tryz.zeroValue262 w)
 t222:=((Al.und 265).trans Tryz.underlying265)
 a222:=λw=>(Al.agg 265 w).trans (Tryz.isAgg265 w)
 z222:=λw=>(Al.jv 265 w).trans (Tryz.sizeOf265 w)
 v222:=λw=>(Al.jw 265 w).trans (Tryz.zeroValue265 w)
 t228:=((Al.und 273).trans Tryz.underlying273)
 a228:=λw=>(Al.agg 273 w).trans (Tryz.isAgg273 w)
 z228:=λw=>(Al.jv 273 w).trans (Tryz.sizeOf273 w)
 v228:=λw=>(Al.jw 273 w).trans (Tryz.zeroValue273 w)
 t229:=((Al.und 130).trans Tryz.underlying130)
 a229:=λw=>(Al.agg 130 w).trans (Tryz.isAgg130 w)
 z229:=λw=>(Al.jv 130 w).trans (Tryz.sizeOf130 w)
 v229:=λw=>(Al.jw 130 w).trans (Tryz.zeroValue130 w) }
end Go.Proofs.aA
namespace Go.Proofs.aA
open ah au aj Go.RowKit Go.Shelf Go.Sort
def qz(n:Nat)(f:Nat->Int):List Int:=(dj n).map f
theorem jL(n:Nat)(f:Nat->Int):(qz n f).length=n:=by simp[qz]
theorem TG{n:Nat}{f:Nat->Int}{i:Nat}(h:i<n):(qz n f)[i]?=some (f i):=by unfold qz;rw[dm,il h];rfl
theorem TH:qx:=λgb n f W h1 h2 hI=>by
 have hH:Holds (ef .i64) W gb 0 (qz n f).toArray:=λj hj=>by
  have hj':j<n:=by simpa [qz] using hj
  refine⟨?_,hI.free _⟩
  rw[de,hI.cell j hj']
  have e:(qz n f).toArray[j]! = f j:=by
   rw[getElem!_pos _ j hj]
   simp[qz]
  rw[e]
 have hS:=Any.slices_Sort_int aco gb 0 n (qz n f) W hH (hI.lt h1) (by rw[jL];omega)
 change ax (PB aa false) 120 _ _ _ at hS
 rw[jL] at hS
 refine hS.mono ?_
 rintro e w' ⟨rfl,m,os,rfl⟩
 obtain⟨Z,hZ⟩:∃ Z,(qz n f).mergeSort (λx y=>decide (x<=y))=Z:=⟨_,rfl⟩
 have hZl:Z.length=n:=by rw[<-hZ,List.length_mergeSort,jL]
 have hZs:Z.Pairwise (λx y=>x<=y):=by
  have:=List.pairwise_mergeSort (le:=λx y:Int=>decide (x<=y)) (λa b c h1 h2=>by simp at *;omega) (λa b=>by simp;omega) (qz n f)
  rw[hZ] at this
  exact this.imp (λh=>by simpa using h)
 rw[hZ]
 have hlt:=hI.lt h1
 have hsz:∀ (d:Array Int),gb<(putRow (ef .i64) (Sort.ahead W m) gb 0 d).heap.size:=λd=>by rw[size_putRow,heap_ahead];exact hlt
 have hh:=holds_putRow (ef .i64) (Sort.ahead W m) gb 0 (qz n f).toArray Z.toArray (holds_ahead _ _ _ _ _ _ hH) (by simp[hZl,qz])
 have hblk:∀ k,k<W.heap.size->(grow (putRow (ef .i64) (Sort.ahead W m) gb 0 Z.toArray) os).heap[k]?=(putRow (ef .i64) (Sort.ahead W m) gb 0 Z.toArray).heap[k]?:=λk hk=>heap_grow_old _ _ (by rw[size_putRow,heap_ahead];exact hk)
 refine⟨rfl,λi=>Z[i]?.getD 0,⟨λk hk=>?_,λo=>?_⟩,λi j hij hj=>?_,⟨rfl,rfl,rfl,?_,λk hk hs=>?_⟩⟩
 .have:=(hh k (by simp[hZl];exact hk)).1
  rw[de] at this
  have ec:(grow (putRow (ef .i64) (Sort.ahead W m) gb 0 Z.toArray) os).cell? ⟨gb,k,none⟩=(putRow (ef .i64) (Sort.ahead W m) gb 0 Z.toArray).cell? ⟨gb,k,none⟩:=hQ (hblk gb hlt)
  rw[ec,this]
  rw[getElem!_pos _ k (by simp[hZl];exact hk),az (by omega)]
  simp
 .have ec:(grow (putRow (ef .i64) (Sort.ahead W m) gb 0 Z.toArray) os).frozen? ⟨gb,o,none⟩=(putRow (ef .i64) (Sort.ahead W m) gb 0 Z.toArray).frozen? ⟨gb,o,none⟩:=oR (hblk gb hlt)
  rw[ec,frozen?_putRow,frozen?_ahead]
  exact hI.free o
 .rcases Nat.lt_or_eq_of_le hij with h|h
  .have:=js.1 hZs i j (by omega) (by omega) h
   show Z[i]?.getD 0<=Z[j]?.getD 0
   rw[az (show i<Z.length by omega),az (show j<Z.length by omega)]
   exact this
  .rw[h];exact Int.le_refl _
 .rw[size_grow,size_putRow,heap_ahead];omega
 .rw[hblk k hk]
  have hne:¬gb=k:=λe=>hs e.symm
  simp[putRow,mapBlock,Array.getElem?_modify,hne]
theorem TJ:qy:=λgb n f v W h1 h2 hI hs=>by
 have hS:=Any.slices_BinarySearch_int acn gb 0 n n (qz n f) v W (by rw[jL];exact al _) (by omega) (λj hj=>by
  rw[jL] at hj
  rw[de,hI.cell j hj,List.getD_eq_getElem?_getD,TG hj];rfl) (by
  rw[List.take_of_length_le (by rw[jL];exact al _),js]
  intro i j hi hj hij
  rw[jL] at hj
  simp only[qz,List.getElem_map,List.getElem_range]
  exact hs i j (by omega) hj)
 change ax (PB aa false) 121 _ _ _ at hS
 refine hS.mono ?_
 rintro e w' ⟨rfl,q,rfl⟩
 refine⟨_,_,?_,rfl,?_⟩
 .refine cG List.countP_le_length ?_
  rw[List.length_take,jL];omega
 .exact below_drewN (Below.refl _ _) q
theorem MC:lT:=λtb n P u lv rk W h1 h2 h3 h4 hB hb hex=>by
 obtain⟨l,hl⟩:∃ l:List Bl,l=(dj n).map λk=>(⟨u k,(lv k:Int),(rk k:Int)⟩:Bl):=⟨_,rfl⟩
 have hlen:l.length=n:=by rw[hl];simp
 have hat:∀ i,i<n->gB l i=⟨u i,(lv i:Int),(rk i:Int)⟩:=λi hi=>by
  unfold gB
  rw[hl,dm,il hi];rfl
 have hBL:aP.BL W (some ⟨tb,0,none⟩) l:=be ⟨tb,0,rfl,λi hi=>by
  rw[hlen] at hi
  rw[hat i hi]
  refine⟨?_,?_,?_⟩
  .rw[de];exact hB.b i hi
  .rw[de];exact hB.x i hi
  .rw[de];exact hB.r i hi⟩
 have hC:=aP.Ir (some ⟨tb,0,none⟩) n l (P:Int) W hBL
 rw[hlen] at hC
 have hf:gZ l (P:Int) false=0:=by
  unfold gZ
  rw[if_neg (by omega),if_neg (by simp;omega),if_pos]
  rw[List.all_eq_true]
  intro b hbm
  obtain⟨i,hi,rfl⟩:=ls.1 hbm
  have e:l[i]=gB l i:=by unfold gB;rw[az hi];rfl
  rw[hlen] at hi
  rw[e,hat i hi]
  have:=hb i hi
  exact(sP _ _).2 ⟨by show (0:Int)<=lv i;omega,by show (lv i:Int)<=P;omega,by show (0:Int)<=rk i;omega,by show (rk i:Int)<=1000000000;omega⟩
 have hcan:∀ i,can l (P:Int) i↔i<n/\u i=true/\lv i<P:=λi=>by
  unfold can
  rw[hlen]
  refine and_congr_right λhi=>?_
  rw[hat i hi]
  exact and_congr_right λ_=>by show (lv i:Int)<P↔_;omega
 refine hC.mono ?_
 rintro e w' ⟨hp,hbl⟩
 rcases hp with ⟨f,q1,q2,_⟩|⟨_,q2,_⟩|⟨k,_,q2,q3⟩
 .rw[hf] at q1;exact(q2 q1).elim
 .obtain⟨k,k1,k2,k3⟩:=hex
  exact(q2 k ((hcan k).2 ⟨k1,k2,k3⟩)).elim
 .obtain⟨k1,k2,k3⟩:=(hcan k).1 q2.1
  refine⟨k,k1,k2,k3,λj j1 j2 j3=>?_,q3,hbl⟩
  rcases q2.2 j ((hcan j).2 ⟨j1,j2,j3⟩) with e|e
  .rw[e];exact al _
  .unfold vG at e
   rw[hat k k1,hat j j1] at e
   dsimp only at e
   omega
theorem lib:Lib:=⟨aci,TH,TJ,MC,X5⟩
end Go.Proofs.aA
namespace Go.Proofs.aA
open ah au aj Go.RowKit aC aD ah
theorem ad6{g:Gm}{w:ae}{a:Ad}{x:Sd}(h:DK g w a x)(n:Int) :
 ax (PB aa false) 29 #[.pointer (some ⟨a.db,0,none⟩),.int .i64 n] w λe w'=>e=.returned (.tuple #[])/\DK g w' a { x with cut:=n.toNat }/\Keep (OD g a) w w':=by
 have c0:w.cell? ⟨a.db,0,none⟩=some (.int .i64 (x.cut:Nat)):=h.st.cell 0
 have f0:=h.st.free 0
 have H:Hid (DK g (w.setCell ⟨a.db,0,none⟩ (.int .i64 (n.toNat:Nat))) a { x with cut:=n.toNat }/\Keep (OD g a) w (w.setCell ⟨a.db,0,none⟩ (.int .i64 (n.toNat:Nat)))):=⟨h.cell { x with cut:=n.toNat } 0 _ rfl rfl rfl,((Keep.refl (λb=>b=a.db) _).set1 _ _).mono λb e=>bh e⟩
 clear h
 by_cases h0:0<=n
 .obtain⟨m,rfl⟩:∃ m:Nat,n=(m:Int):=⟨n.toNat,by omega⟩
  rw[cm] at H ⊢
  have e1:max (m:Int) 0=(m:Int):=by omega
  have e2:¬((m:Int)<0):=by omega
  go_enter Al.func29,Tryz.ntmps29
  go_wp2
  go_end0
  exact⟨rfl,H.out.1,H.out.2⟩
 .have e0:n.toNat=0:=by omega
  rw[e0] at H ⊢
  have e1:max n 0=0:=by omega
  have e2:n<0:=by omega
  go_enter Al.func29,Tryz.ntmps29
  go_wp2
  go_end0
  exact⟨rfl,H.out.1,H.out.2⟩
theorem ME{g:Gm}{w:ae}{a:Ad}{x:Sd}(h:DK g w a x)(n:Int) :
 ax (PB aa false) 17 #[.pointer (some ⟨a.db,0,none⟩),.int .i64 n] w λe w'=>e=.returned (.tuple #[])/\DK g w' a { x with fails:=n.toNat }/\Keep (OD g a) w w':=by
 have c0:w.cell? ⟨a.db,1,none⟩=some (.int .i64 (x.fails:Nat)):=h.st.cell 1
 have f0:=h.st.free 1
 have H:Hid (DK g (w.setCell ⟨a.db,1,none⟩ (.int .i64 (n.toNat:Nat))) a { x with fails:=n.toNat }/\Keep (OD g a) w (w.setCell ⟨a.db,1,none⟩ (.int .i64 (n.toNat:Nat)))):=⟨h.cell { x with fails:=n.toNat } 1 _ rfl rfl rfl,((Keep.refl (λb=>b=a.db) _).set1 _ _).mono λb e=>bh e⟩
 clear h
 by_cases h0:0<=n
 .obtain⟨m,rfl⟩:∃ m:Nat,n=(m:Int):=⟨n.toNat,by omega⟩
  rw[cm] at H ⊢
  have e1:max (m:Int) 0=(m:Int):=by omega
  have e2:¬((m:Int)<0):=by omega
  go_enter Al.func17,Tryz.ntmps17
  go_wp2
  go_end0
  exact⟨rfl,H.out.1,H.out.2⟩
 .have e0:n.toNat=0:=by omega
  rw[e0] at H ⊢
  have e1:max n 0=0:=by omega
  have e2:n<0:=by omega
  go_enter Al.func17,Tryz.ntmps17
  go_wp2
  go_end0
  exact⟨rfl,H.out.1,H.out.2⟩
theorem MF{g:Gm}{w:ae}{a:Ad}{x:Sd}(h:DK g w a x) :
 ax (PB aa false) 16 #[.pointer (some ⟨a.db,0,none⟩)] w λe w'=>e=.returned (.tuple #[.int .i64 (x.bad:Nat),.bool (decide (g.spare<x.bad)),.bool x.s.off])/\Below w.heap.size w w':=by
 have c4:w.cell? ⟨a.db,4,none⟩=some (.int .i64 (x.bad:Nat)):=h.st.cell 4
 have c6:w.cell? ⟨a.db,6,none⟩=some (.pointer (some ⟨a.cb,0,none⟩)):=h.st.cell 6
 have HL:Hid (∀ W,Below w.heap.size w W->ax (PB aa false) 35 #[.pointer (some ⟨a.db,0,none⟩)] W λe w'=>e=.returned (.bool (decide (g.spare<x.bad)))/\Below w.heap.size w w'):=λW hW=>(fP (h.below hW)).mono λe w' hh=>⟨hh.1,hW.trans (hh.2.mono hW.size)⟩
 have HO:Hid (∀ W,Below w.heap.size w W->ax (PB aa false) 36 #[.pointer (some ⟨a.cb,0,none⟩)] W λe w'=>e=.returned (.bool x.s.off)/\w'=W):=λW hW=>vQ W (h.below hW).hc
 have HD:Hid (∀ W,Below w.heap.size w W->W.cell? ⟨a.db,4,none⟩=some (.int .i64 (x.bad:Nat))/\W.cell? ⟨a.db,6,none⟩=some (.pointer (some ⟨a.cb,0,none⟩))):=λW hW=>⟨(h.below hW).st.cell 4,(h.below hW).st.cell 6⟩
 clear h
 generalize decide (g.spare<x.bad)=lt at *
 generalize x.s.off=of at *
 generalize x.bad=bd at *
 go_enter Al.func16,Tryz.ntmps16
 go_wp2
 go_region_held3 (λw'=>w'.cell? ⟨a.db,4,none⟩=some (.int .i64 (bd:Nat))/\w'.cell? ⟨a.db,6,none⟩=some (.pointer (some ⟨a.cb,0,none⟩))) (first|assumption|exact HD.out _ hb|go_keep) (first|(go_at_call 35;refine(HL.out _ (by first|exact Below.refl _ _|exact(Below.refl _ _).drew)).mono ?_;rintro e w2 ⟨rfl,hb⟩)|(go_at_call 36;refine(HO.out _ (by first|exact hb|exact Below.refl _ _|exact(Below.refl _ _).drew)).mono ?_;rintro e w3 ⟨rfl,rfl⟩))
 have HZ:Hid (Below w.heap.size w w3):=hb
 clear hb HL HO HD
 go_wp2
 refine bodyPost_ret (v:=.tuple #[.int .i64 (bd:Nat),.bool lt,.bool of]) (by simp[results,Tryz.results16,go_sem]) rfl ?_
 exact⟨rfl,HZ.out⟩
structure LQ(g:Gm)(n:Nat)(V:Nat->List Nat)(bad bf:Nat)(x:Sd):Prop where
 st:DS g x 0\/DL g x
 off:x.s.off=false
 cut:x.cut=0
 bd:x.bad=bad
 sm:x.bad+x.fails=bf
 bfm:bf<4611686018427387904
 seq:x.seq<=20000*n
 aF:∀ j,x.s.aF j<=2000*n
 see:∀ j,j<g.L->DW.see g x j=V j
def CL(g:Gm)(R:Nat->Prop)(n:Nat)(w:ae)(db:Nat)(V:Nat->List Nat)(bad bf:Nat):Prop:=∃ x,D5 g R w db x/\LQ g n V bad bf x
section
variable {g:Gm} {R R' S:Nat->Prop} {n m:Nat} {w w':ae} {db:Nat} {V:Nat->List Nat} {bad bf:Nat}
theorem CL.keep(h:CL g R n w db V bad bf)(hk:Keep S w w')(hs:∀ b,S b->R b):CL g R n w' db V bad bf:=by
 obtain⟨x,h1,h2⟩:=h
 exact⟨x,h1.keep hk hs,h2⟩
theorem CL.below(h:CL g R n w db V bad bf)(hb:Below w.heap.size w w'):CL g R n w' db V bad bf:=by
 obtain⟨x,h1,h2⟩:=h
 exact⟨x,h1.below hb,h2⟩
theorem CL.more(h:CL g R n w db V bad bf)(hr:∀ b,R' b->R b\/w.heap.size<=b):CL g R' n w db V bad bf:=by
 obtain⟨x,h1,h2⟩:=h
 exact⟨x,h1.more hr,h2⟩
theorem LQ.late{x:Sd}(h:LQ g n V bad bf x)(hm:n<=m):LQ g m V bad bf x:=⟨h.st,h.off,h.cut,h.bd,h.sm,h.bfm,by have:=h.seq;omega,λj=>by have:=h.aF j;omega,h.see⟩
theorem CL.late(h:CL g R n w db V bad bf)(hm:n<=m):CL g R m w db V bad bf:=by
 obtain⟨x,h1,h2⟩:=h
 exact⟨x,h1,h2.late hm⟩
theorem LQ.dw{x:Sd}(h:LQ g n V bad bf x):DW g x:=h.st.elim (λe=>e.dw) (λe=>e.dw)
theorem LQ.okb{x:Sd}(h:LQ g n V bad bf x)(hd:DS g x 0)(hn:n<=100000000000000):Bd x 1072 :=
 ⟨by rw[h.cut];omega,by have:=h.sm;have:=h.bfm;omega,by have:=h.seq;omega,λj=>by have:=h.aF j;omega⟩
theorem LQ.good{x:Sd}(h:LQ g n V bad bf x)(hb:¬g.spare<bad):DS g x 0:=h.st.resolve_right λe=>by have:=e.no;have:=h.bd;omega
theorem LQ.next{x y:Sd}{V':Nat->List Nat}(h:LQ g n V bad bf x)(hm:R7 x y 1072)(hs:DS g y 0\/DL g y)(ho:y.s.off=false)(hv:∀ j,j<g.L->DW.see g y j=V' j):LQ g (n+1) V' y.bad bf y :=
 ⟨hs,ho,by have:=h.cut;have:=hm.cut;omega,rfl,by have:=h.sm;have:=hm.bf;omega,h.bfm,by have:=h.seq;have:=hm.seq;omega,λj=>by have:=h.aF j;have:=hm.aF j;omega,hv⟩
def ChL(g:Gm)(bad bad':Nat)(V V' W:Nat->List Nat)(c:Nat):Prop:=(g.spare<bad/\c=9/\V'=V/\bad'=bad)\/(¬g.spare<bad/\bad<=bad'/\((c=0/\V'=W/\¬g.spare<bad')\/(c=9/\V'=V/\g.spare<bad')))
def AnL(g:Gm)(bad bad':Nat)(V V' W:Nat->List Nat)(k c:Nat):Prop:=(k≠0/\c=k/\V'=V/\bad'=bad)\/(k=0/\ChL g bad bad' V V' W c)
theorem LQ.change{x y:Sd}{l c:Nat}{v:List Nat}(h:LQ g n V bad bf x)(hb:¬g.spare<bad)(hm:R7 x y 1072)(hq:ChQ g x y 0 l v c):∃ V',LQ g (n+1) V' y.bad bf y/\ChL g bad y.bad V V' (upd V l v) c:=by
 have hbm:=hm.bm
 have hbd:=h.bd
 rcases hq with ⟨rfl,q2,q3,q4,q5⟩|⟨_,_,q,⟨_,_,_,q7⟩|⟨rfl,q8,q9⟩⟩
 .refine⟨upd V l v,h.next hm (bh q2) q3 λj hj=>?_,be ⟨hb,by omega,bh ⟨rfl,rfl,by have:=q2.ok;omega⟩⟩⟩
  rw[q5 j hj]
  unfold upd
  split
  .rfl
  .exact h.see j hj
 .have:=h.cut;omega
 .exact⟨V,h.next hm (be q8) q9 λj hj=>(q j hj).trans (h.see j hj),be ⟨hb,by omega,be ⟨rfl,rfl,q8.no⟩⟩⟩
theorem TK(HL:Lib)(h:CL g R n w db V bad bf)(hn:n<=100000000000000)(l:Int)(fa:Option Addr)(cap m:Nat)(data:List Nat)(hA:aY data)(hL:bM w fa data)(hfa:∀ b off,fa=some ⟨b,off,none⟩->R b)(hdl:data.length=m)(hm:m<=1000000) :
 ax (PB aa false) 27 #[.pointer (some ⟨db,0,none⟩),.int .i64 l,.slice fa m cap] w λe w'=>∃ c V' bad',e=.returned (bV c)/\CL g R (n+1) w' db V' bad' bf/\Keep (λb=>¬R b) w w'/\AnL g bad bad' V V' (upd V l.toNat data) (fI g l m) c:=by
 subst hdl
 obtain⟨x,⟨a,rfl,hdk,hod⟩,hc⟩:=h
 have hbd:=hc.bd
 have hwr:Tx g x l data.length=if fI g l data.length=0 then(if g.spare<bad then 9 else 0) else fI g l data.length:=by
  unfold Tx fI
  rw[qZ hc.off,hbd]
  unfold fJ
  by_cases h1:0<=l/\l<(g.L:Int)
  .by_cases h2:data.length=g.Y-21
   .simp[h1,h2]
   .simp[h1,h2]
  .simp[h1]
 by_cases h0:fI g l data.length=0
 .rw[if_pos h0] at hwr
  by_cases hb:g.spare<bad
  .rw[if_pos hb] at hwr
   refine(yu hdk (by have:=hc.dw.y;omega) l fa data.length cap (by omega) (by rw[hwr];omega)).mono ?_
   rintro e w' ⟨rfl,hb'⟩
   rw[hwr]
   exact⟨9,V,bad,rfl,⟨x,D5.below (g:=g) (R:=R) (db:=a.db) ⟨a,rfl,hdk,hod⟩ hb',hc.late (by omega)⟩,Keep.of_below hb',be ⟨h0,bh ⟨hb,rfl,rfl,rfl⟩⟩⟩
  .rw[if_neg hb] at hwr
   have hds:=hc.good hb
   have hr:0<=l/\l<(g.L:Int):=by
    unfold fI at h0
    refine cD λhn=>?_
    rw[if_pos hn] at h0
    cases h0
   have hlen:data.length=g.Y-21:=by
    unfold fI at h0
    rw[if_neg (by simp[hr])] at h0
    refine cD λhn=>?_
    rw[if_pos hn] at h0
    cases h0
   obtain⟨j,rfl⟩:∃ j:Nat,l=j:=⟨l.toNat,by omega⟩
   rw[cm]
   have hy:=hds.dw.y
   have hch:=uo HL.is HL.so HL.se HL.ch hdk 0 1072 hds hc.off (cS _) (hc.okb hds hn) (vT hds hdk.iP) (by have:=hds.spare hdk.iP;omega) 1 j data ⟨bh rfl,λ_=>by omega,(λe=>by cases e),hA,by omega⟩ fa cap hL (λb off e hb=>hod b hb (hfa b off e))
   refine(AP hdk (by omega) fa cap hwr hch).mono ?_
   rintro e w' ⟨y,c,rfl,p1,p2,p3,p4⟩
   obtain⟨V',q1,q2⟩:=hc.change hb p3 p4
   exact⟨c,V',y.bad,rfl,⟨y,⟨a,rfl,p1,hod⟩,q1⟩,keepR p2 hod,be ⟨h0,q2⟩⟩
 .rw[if_neg h0] at hwr
  refine(yu hdk (by have:=hc.dw.y;omega) l fa data.length cap (by omega) (by rw[hwr];exact h0)).mono ?_
  rintro e w' ⟨rfl,hb⟩
  rw[hwr]
  exact⟨_,V,bad,rfl,⟨x,D5.below (g:=g) (R:=R) (db:=a.db) ⟨a,rfl,hdk,hod⟩ hb,hc.late (by omega)⟩,Keep.of_below hb,bh ⟨h0,rfl,rfl,rfl⟩⟩
theorem X6(HL:Lib)(h:CL g R n w db V bad bf)(hn:n<=100000000000000)(l:Int) :
 ax (PB aa false) 30 #[.pointer (some ⟨db,0,none⟩),.int .i64 l] w λe w'=>∃ c V' bad',e=.returned (bV c)/\CL g R (n+1) w' db V' bad' bf/\Keep (λb=>¬R b) w w'/\AnL g bad bad' V V' (upd V l.toNat (aq (g.Y-21) 0)) (fJ g l) c:=by
 obtain⟨x,⟨a,rfl,hdk,hod⟩,hc⟩:=h
 have hbd:=hc.bd
 have hwr:XW g x l=if fJ g l=0 then(if g.spare<bad then 9 else 0) else fJ g l:=by
  unfold XW
  rw[qZ hc.off,hbd]
  by_cases h1:fJ g l=0
  .simp[h1]
  .simp[h1]
 by_cases h0:fJ g l=0
 .rw[if_pos h0] at hwr
  by_cases hb:g.spare<bad
  .rw[if_pos hb] at hwr
   refine(J2 hdk l (by rw[hwr];omega)).mono ?_
   rintro e w' ⟨rfl,hb'⟩
   rw[hwr]
   exact⟨9,V,bad,rfl,⟨x,D5.below (g:=g) (R:=R) (db:=a.db) ⟨a,rfl,hdk,hod⟩ hb',hc.late (by omega)⟩,Keep.of_below hb',be ⟨h0,bh ⟨hb,rfl,rfl,rfl⟩⟩⟩
  .rw[if_neg hb] at hwr
   have hds:=hc.good hb
   have hr:0<=l/\l<(g.L:Int):=by
    unfold fJ at h0
    refine cD λhn=>?_
    rw[if_pos hn] at h0
    cases h0
   obtain⟨j,rfl⟩:∃ j:Nat,l=j:=⟨l.toNat,by omega⟩
   rw[cm]
   have hch:=uo HL.is HL.so HL.se HL.ch hdk 0 1072 hds hc.off (cS _) (hc.okb hds hn) (vT hds hdk.iP) (by have:=hds.spare hdk.iP;omega) 2 j [] ⟨be rfl,(λe=>by cases e),λ_=>rfl,(λx hx=>by cases hx),by omega⟩ none 0 (bh rfl) (λb off e=>by cases e)
   refine(Pm hdk hwr hch).mono ?_
   rintro e w' ⟨y,c,rfl,p1,p2,p3,p4⟩
   obtain⟨V',q1,q2⟩:=hc.change hb p3 p4
   exact⟨c,V',y.bad,rfl,⟨y,⟨a,rfl,p1,hod⟩,q1⟩,keepR p2 hod,be ⟨h0,q2⟩⟩
 .rw[if_neg h0] at hwr
  refine(J2 hdk l (by rw[hwr];exact h0)).mono ?_
  rintro e w' ⟨rfl,hb⟩
  rw[hwr]
  exact⟨_,V,bad,rfl,⟨x,D5.below (g:=g) (R:=R) (db:=a.db) ⟨a,rfl,hdk,hod⟩ hb,hc.late (by omega)⟩,Keep.of_below hb,bh ⟨h0,rfl,rfl,rfl⟩⟩
theorem TM(HL:Lib)(h:CL g R n w db V bad bf)(hn:n<=100000000000000) :
 ax (PB aa false) 25 #[.pointer (some ⟨db,0,none⟩)] w λe w'=>∃ c V' bad',e=.returned (bV c)/\CL g R (n+1) w' db V' bad' bf/\Keep (λb=>¬R b) w w'/\ChL g bad bad' V V' V c:=by
 obtain⟨x,⟨a,rfl,hdk,hod⟩,hc⟩:=h
 have hbd:=hc.bd
 have hf:flF g x=if g.spare<bad then 9 else 0:=by
  unfold flF
  rw[hc.off,if_neg (by decide),hbd]
 by_cases hb:g.spare<bad
 .rw[if_pos hb] at hf
  refine(FQ hdk (bh (by rw[hf];omega))).mono ?_
  rintro e w' ⟨rfl,hb'⟩
  rw[hf]
  exact⟨9,V,bad,rfl,⟨x,D5.below (g:=g) (R:=R) (db:=a.db) ⟨a,rfl,hdk,hod⟩ hb',hc.late (by omega)⟩,Keep.of_below hb',bh ⟨hb,rfl,rfl,rfl⟩⟩
 .rw[if_neg hb] at hf
  have hds:=hc.good hb
  cases hch:x.ch with
  |false =>
   refine(FQ hdk (be hch)).mono ?_
   rintro e w' ⟨rfl,hb'⟩
   rw[hf]
   exact⟨0,V,bad,rfl,⟨x,D5.below (g:=g) (R:=R) (db:=a.db) ⟨a,rfl,hdk,hod⟩ hb',hc.late (by omega)⟩,Keep.of_below hb',be ⟨hb,al _,bh ⟨rfl,rfl,hb⟩⟩⟩
  |true =>
   refine(Pn HL.is HL.so HL.se HL.ch hdk 0 1072 hds hc.off (cS _) (hc.okb hds hn) (vT hds hdk.iP) (by have:=hds.spare hdk.iP;omega) hch).mono ?_
   rintro e w' ⟨y,c,rfl,p1,p2,p3,p4,p5⟩
   have hbm:=p3.bm
   rcases p5 with ⟨rfl,q2,q3,q4⟩|⟨_,_,⟨_,_,_,q⟩|⟨rfl,q,q9⟩⟩
   .exact⟨0,V,y.bad,rfl,⟨y,⟨a,rfl,p1,hod⟩,hc.next p3 (bh q2) q3 λj hj=>(p4 j hj).trans (hc.see j hj)⟩,keepR p2 hod,be ⟨hb,by omega,bh ⟨rfl,rfl,by have:=q2.ok;omega⟩⟩⟩
   .have:=hc.cut;omega
   .exact⟨9,V,y.bad,rfl,⟨y,⟨a,rfl,p1,hod⟩,hc.next p3 (be q) q9 λj hj=>(p4 j hj).trans (hc.see j hj)⟩,keepR p2 hod,be ⟨hb,by omega,be ⟨rfl,rfl,q.no⟩⟩⟩
theorem X7(HL:Lib)(h:CL g R n w db V bad bf)(hn:n<=100000000000000)(l:Int) :
 ax (PB aa false) 23 #[.pointer (some ⟨db,0,none⟩),.int .i64 l] w λe w'=>((fJ g l≠0/\e=.returned (.tuple #[.slice none 0 0,bV (fJ g l)])/\w'=w)\/(∃ j:Nat,l=j/\j<g.L/\RdP e w w' (V j))):=by
 obtain⟨x,⟨a,rfl,hdk,hod⟩,hc⟩:=h
 by_cases h0:fJ g l=0
 .have hr:0<=l/\l<(g.L:Int):=by
   unfold fJ at h0
   refine cD λhn=>?_
   rw[if_pos hn] at h0
   cases h0
  obtain⟨j,rfl⟩:∃ j:Nat,l=j:=⟨l.toNat,by omega⟩
  refine(FT HL.is hdk hc.dw (by have:=hc.seq;omega) j (by omega) hc.off).mono ?_
  rintro e w' hq
  rw[hc.see j (by omega)] at hq
  exact be ⟨j,rfl,by omega,hq⟩
 .have e:=qZ (g:=g) (l:=l) hc.off
  refine(J3 hdk l (by rw[e];exact h0)).mono ?_
  rintro ev w' ⟨rfl,rfl⟩
  rw[e]
  exact bh ⟨h0,rfl,rfl⟩
theorem X8(h:CL g R n w db V bad bf) :
 ax (PB aa false) 13 #[.pointer (some ⟨db,0,none⟩)] w λe w'=>e=.returned (.int .i64 ((g.Y-21:Nat):Int))/\w'=w:=by
 obtain⟨x,⟨a,rfl,hdk,hod⟩,hc⟩:=h
 exact nU hdk (by have:=hc.dw.y;omega)
theorem TN(h:CL g R n w db V bad bf) :
 ax (PB aa false) 16 #[.pointer (some ⟨db,0,none⟩)] w λe w'=>e=.returned (.tuple #[.int .i64 (bad:Nat),.bool (decide (g.spare<bad)),.bool false])/\Below w.heap.size w w':=by
 obtain⟨x,⟨a,rfl,hdk,hod⟩,hc⟩:=h
 have:=MF hdk
 rw[hc.bd,hc.off] at this
 exact this
theorem TP(h:CL g R n w db V bad bf)(k:Int)(hk:k<2305843009213693952)(hb:bad<2305843009213693952) :
 ax (PB aa false) 17 #[.pointer (some ⟨db,0,none⟩),.int .i64 k] w λe w'=>e=.returned (.tuple #[])/\CL g R n w' db V bad (bad+k.toNat)/\Keep (λb=>¬R b) w w':=by
 obtain⟨x,⟨a,rfl,hdk,hod⟩,hc⟩:=h
 refine(ME hdk k).mono ?_
 rintro e w' ⟨rfl,h1,h2⟩
 have hx:=hc.bd
 refine⟨rfl,⟨_,⟨a,rfl,h1,hod⟩,⟨hc.st.imp (λd=>⟨⟨d.dw.dv,d.dw.y,d.dw.y1,d.dw.l⟩,d.fit,d.nb,d.ok,d.room⟩) (λd=>⟨⟨d.dw.dv,d.dw.y,d.dw.y1,d.dw.l⟩,d.nb,d.no⟩),hc.off,hc.cut,hc.bd,by show x.bad+k.toNat=_;rw[hx],by omega,hc.seq,hc.aF,hc.see⟩⟩,keepR h2 hod⟩
end
theorem CO.cl{g:Gm}{R:Nat->Prop}{n:Nat}{w:ae}{db:Nat}{V:Nat->List Nat}(h:CO g R n w db V):∃ bad,¬g.spare<bad/\CL g R n w db V bad bad:=by
 obtain⟨x,h1,h2⟩:=h
 have:=h2.ok.ds.spare
 exact⟨x.bad,by have:=h2.ok.ds.ok;omega,x,h1,⟨bh h2.ok.ds,h2.ok.off,h2.cut,rfl,by rw[h2.fails];rfl,by obtain⟨a,_,hdk,_⟩:=h1;have:=this hdk.iP;have:=h2.ok.ds.ok;omega,h2.ok.seq,h2.ok.aF,h2.see⟩⟩
end Go.Proofs.aA
namespace Go.Proofs.aA
open au aj Go.RowKit aC aD ah
structure NL(w:ae)(S:Nat->Prop)(nb L m:Nat)(V:Nat->List Nat):Prop where
 row:∀ j,j<L->∃ a c,w.cell? ⟨nb,j,none⟩=some (.slice a m c)/\bM w a (V j)/\∀ b off,a=some ⟨b,off,none⟩->S b/\b≠nb
 len:∀ j,j<L->(V j).length=m
 fr:∀ j,w.frozen? ⟨nb,j,none⟩=false
 own:S nb
section
variable {w w' w1 wr:ae} {S S' T R:Nat->Prop} {nb L m:Nat} {V:Nat->List Nat}
theorem AV(hk:Keep T w w'){b:Nat}(h:¬T b){o:Nat}{v:ai}(hv:w.cell? ⟨b,o,none⟩=some v):w'.cell? ⟨b,o,none⟩=some v:=(hQ (w:=w) (hk.block b (cj w _ hv) h)).trans hv
theorem oM(hk:Keep T w w'){a:Option Addr}{l:List Nat}(h:bM w a l)(hT:∀ b off,a=some ⟨b,off,none⟩->¬T b):bM w' a l:=by
 rcases h with h|⟨b,off,e,h⟩
 .exact bh h
 .exact be ⟨b,off,e,λi hi=>AV hk (hT b off e) (h i hi)⟩
theorem NL.keep(h:NL w S nb L m V)(hk:Keep T w w')(hT:∀ b,S b->¬T b)(hlt:nb<w.heap.size):NL w' S nb L m V:=by
 refine⟨λj hj=>?_,h.len,λj=>?_,h.own⟩
 .obtain⟨a,c,h1,h2,h3⟩:=h.row j hj
  exact⟨a,c,AV hk (hT _ h.own) h1,oM hk h2 (λb off e=>hT b (h3 b off e).1),h3⟩
 .rw[oR (w:=w) (hk.block nb hlt (hT _ h.own))]
  exact h.fr j
theorem NL.more(h:NL w S nb L m V)(hs:∀ b,S b->S' b):NL w S' nb L m V :=
 ⟨λj hj=>by obtain⟨a,c,h1,h2,h3⟩:=h.row j hj;exact⟨a,c,h1,h2,λb off e=>⟨hs b (h3 b off e).1,(h3 b off e).2⟩⟩,h.len,h.fr,hs _ h.own⟩
variable {g:Gm} {n db:Nat} {bad bf N:Nat}
def PN(w1 w:ae)(g:Gm)(n db nb:Nat)(V:Nat->List Nat)(bad bf:Nat):Prop :=
 ∃ R:Nat->Prop,CL g R n w db V bad bf/\(∀ b,R b->b<w.heap.size)/\(∀ b,b<w1.heap.size->R b)/\NL w R nb g.L (g.Y-21) V/\Below w1.heap.size w1 w
def PX(w1 wr w:ae)(N:Nat)(X:Nat->Prop)(g:Gm)(n db nb:Nat)(Vd Vn:Nat->List Nat)(bad bf:Nat):Prop :=
 ∃ R S:Nat->Prop,CL g R n w db Vd bad bf/\(∀ b,R b->b<w.heap.size)/\(∀ b,b<w1.heap.size->R b)/\(∀ b,S b->R b/\(b<wr.heap.size\/X b))/\(∀ b,wr.heap.size<=b->b<N->R b)/\NL w S nb g.L (g.Y-21) Vn/\Below w1.heap.size w1 w/\wr.heap.size<=w.heap.size/\N<=w.heap.size
variable {X:Nat->Prop} {Vd Vn:Nat->List Nat}
theorem PN.begin(h:PN w1 wr g n db nb V bad bf)(hb:Below wr.heap.size wr w):PX w1 wr w w.heap.size (λ_=>False) g n db nb V V bad bf:=by
 obtain⟨R,h1,h2,h3,h4,h5⟩:=h
 have hs:=hb.size
 refine⟨λb=>R b\/(wr.heap.size<=b/\b<w.heap.size),R,(h1.more (λb e=>e.elim bh (λe=>be e.1))).below hb,λb e=>e.elim (λe=>by have:=h2 b e;omega) (λe=>e.2),λb e=>bh (h3 b e),λb e=>⟨bh e,bh (h2 b e)⟩,λb e1 e2=>be ⟨e1,e2⟩,h4.keep (Keep.of_below (S:=λ_=>False) hb) (λ_ _ e=>e) (h2 _ h4.own),h5.trans (hb.mono h5.size),hs,al _⟩
theorem PN.late{k:Nat}(h:PN w1 w g n db nb V bad bf)(hk:n<=k):PN w1 w g k db nb V bad bf:=by
 obtain⟨R,h1,h2⟩:=h
 exact⟨R,h1.late hk,h2⟩
theorem PN.below(h:PN w1 w g n db nb V bad bf)(hb:Below w.heap.size w w'):PN w1 w' g n db nb V bad bf:=by
 obtain⟨R,h1,h2,h3,h4,h5⟩:=h
 exact⟨R,h1.below hb,λb e=>cC (h2 b e) hb.size,h3,h4.keep (Keep.of_below (S:=λ_=>False) hb) (λ_ _ e=>e) (h2 _ h4.own),h5.trans (hb.mono h5.size)⟩
theorem PN.dx(h:PN w1 w g n db nb V bad bf):Below w1.heap.size w1 w:=by
 obtain⟨R,h1,h2,h3,h4,h5⟩:=h
 exact h5
theorem PX.below(h:PX w1 wr w N X g n db nb Vd Vn bad bf)(hb:Below w.heap.size w w'):PX w1 wr w' N X g n db nb Vd Vn bad bf:=by
 obtain⟨R,S,h1,h2,h3,h4,h5,h6,h7,h8,h9⟩:=h
 have hs:=hb.size
 exact⟨R,S,h1.below hb,λb e=>cC (h2 b e) hs,h3,h4,h5,h6.keep (Keep.of_below (S:=λ_=>False) hb) (λ_ _ e=>e) (h2 _ (h4 _ h6.own).1),h7.trans (hb.mono h7.size),by omega,by omega⟩
theorem PX.more{M:Nat}(h:PX w1 wr w N X g n db nb Vd Vn bad bf)(hM:w.heap.size<=M)(hb:Below w.heap.size w w')(hM2:M<w'.heap.size):∃ R S:Nat->Prop,(CL g R n w' db Vd bad bf/\(∀ b,R b->b<w'.heap.size)/\(∀ b,b<w1.heap.size->R b)/\(∀ b,S b->R b/\(b<wr.heap.size\/X b))/\(∀ b,wr.heap.size<=b->b<N->R b)/\NL w' S nb g.L (g.Y-21) Vn/\Below w1.heap.size w1 w'/\wr.heap.size<=w'.heap.size/\N<=w'.heap.size)/\R M/\(∀ b,S b->b<w.heap.size):=by
 obtain⟨R,S,h1,h2,h3,h4,h5,h6,h7,h8,h9⟩:=h
 have hs:=hb.size
 refine⟨λb=>R b\/b=M,S,⟨(h1.more (λb e=>e.elim bh (λe=>be (by omega)))).below hb,λb e=>e.elim (λe=>by have:=h2 b e;omega) (λe=>by omega),λb e=>bh (h3 b e),λb e=>⟨bh (h4 b e).1,(h4 b e).2⟩,λb e1 e2=>bh (h5 b e1 e2),h6.keep (Keep.of_below (S:=λ_=>False) hb) (λ_ _ e=>e) (h2 _ (h4 _ h6.own).1),h7.trans (hb.mono h7.size),by omega,by omega⟩,be rfl,λb e=>h2 b (h4 b e).1⟩
def II(wr:ae)(N:Nat)(w w':ae):Prop:=∀ b,wr.heap.size<=b->b<N->b<w.heap.size->w'.heap[b]?=w.heap[b]?
theorem II.cell(h:II wr N w w'){b o:Nat}{v:ai}(h1:wr.heap.size<=b)(h2:b<N)(hv:w.cell? ⟨b,o,none⟩=some v):w'.cell? ⟨b,o,none⟩=some v:=(hQ (h b h1 h2 (cj w _ hv))).trans hv
theorem PX.fin(h:PX w1 wr w N X g n db nb V V bad bf):PN w1 w g n db nb V bad bf:=by
 obtain⟨R,S,h1,h2,h3,h4,h5,h6,h7,h8,h9⟩:=h
 exact⟨R,h1,h2,h3,h6.more (λb e=>(h4 b e).1),h7⟩
theorem PX.turn{bb:Nat}(h:PX w1 wr w N X g n db nb V V bad bf)(hb1:wr.heap.size<=bb)(hb2:bb<N)(hX:¬X bb)(PE:w1.heap.size<=wr.heap.size)(hk:Keep (λb=>b=bb) w w'):PN w1 w' g n db nb V bad bf:=by
 obtain⟨R,S,h1,h2,h3,h4,h5,h6,h7,h8,h9⟩:=h
 have hs:=hk.size
 have hsb:∀ b,S b->¬b=bb:=λb e e2=>by
  subst e2
  rcases (h4 b e).2 with h|h
  .omega
  .exact hX h
 refine⟨R,h1.keep hk (λb e=>by rw[e];exact h5 bb hb1 hb2),λb e=>cC (h2 b e) hs,h3,(h6.keep hk hsb (h2 _ (h4 _ h6.own).1)).more (λb e=>(h4 b e).1),h7.trans (hk.below h7.size (λb e=>by omega))⟩
end
end Go.Proofs.aA
namespace Go.Proofs.aA
open ah au aj Go.RowKit aC aD ah
theorem bW(c:Nat)(k:Int)(v:Bool)(w:ae)(hv:decide ((c:Int)=k)=v):ax (PB aa false) 12 #[bV c,.int .i64 k] w λe w'=>e=.returned (.bool v)/\w'=w:=by
 have HT:Hid (ax (PB aa false) 34 #[bV c] w λe w'=>e=.returned (.int .i64 (c:Nat))/\w'=w):=by
  by_cases h:c=0
  .subst h;rw[bX];exact Aw w
  .rw[dY h];exact uY c w
 generalize bV c=ev at *
 go_enter Al.func12,Tryz.ntmps12
 go_wp2_with fail
 refine HT.out.mono ?_
 rintro e w1 ⟨rfl,rfl⟩
 clear HT
 go_wp2
 go_ret
 refine⟨?_,rfl⟩
 rw[<-hv]
 by_cases h:(c:Int)=k<;>simp[h]
theorem J6:bV 1=.iface 31 (.int .i64 1):=rfl
theorem WJ:bV 2=.iface 31 (.int .i64 2):=rfl
theorem AX:bV 9=.iface 31 (.int .i64 9):=rfl
def Lt(g:Gm)(bad:Nat):Bool:=decide (g.spare<bad)
def RZ(e:Ending)(w1 w':ae)(g:Gm)(n db nb bad bf:Nat):Prop:=e=.returned (.bool true)/\∃ V' bad',PN w1 w' g (n+1) db nb V' bad' bf/\bad<=bad'/\(g.spare<bad->bad'=bad)
theorem GK{w1 w':ae}{g:Gm}{n db nb bad bf bad':Nat}{V':Nat->List Nat}(h:PN w1 w' g (n+1) db nb V' bad' bf)(h1:bad<=bad')(h2:g.spare<bad->bad'=bad):RZ (.returned (.bool true)) w1 w' g n db nb bad bf:=⟨rfl,V',bad',h,h1,h2⟩
section
variable {w1 wr w:ae} {N:Nat} {X:Nat->Prop} {g:Gm} {n db nb:Nat} {Vd Vn:Nat->List Nat} {bad bf:Nat}
theorem mM(h:PX w1 wr w N X g n db nb Vd Vn bad bf):ax (PB aa false) 13 #[.pointer (some ⟨db,0,none⟩)] w λe w'=>e=.returned (.int .i64 ((g.Y-21:Nat):Int))/\w'=w:=by
 obtain⟨R,S,h1,_⟩:=h
 exact X8 h1
theorem fK(h:PX w1 wr w N X g n db nb Vd Vn bad bf):ax (PB aa false) 16 #[.pointer (some ⟨db,0,none⟩)] w λe w'=>e=.returned (.tuple #[.int .i64 (bad:Nat),.bool (Lt g bad),.bool false])/\PX w1 wr w' N X g n db nb Vd Vn bad bf/\Below w.heap.size w w':=by
 obtain⟨R,S,h1,h2⟩:=h
 exact(TN h1).mono λe w' q=>⟨q.1,PX.below ⟨R,S,h1,h2⟩ q.2,q.2⟩
theorem PK(HL:Lib)(h:PX w1 wr w N X g n db nb Vd Vn bad bf)(hn:n<=100000000000000):ax (PB aa false) 25 #[.pointer (some ⟨db,0,none⟩)] w λe w'=>∃ c V' bad',e=.returned (bV c)/\PX w1 wr w' N X g (n+1) db nb V' Vn bad' bf/\II wr N w w'/\ChL g bad bad' Vd V' Vd c:=by
 have h0:=h
 obtain⟨R,S,h1,h2,h3,h4,h5,h6⟩:=h
 refine(TM HL h1 hn).mono ?_
 rintro e w' ⟨c,V',bad',rfl,q1,q2,q3⟩
 have hs:=q2.size
 obtain⟨h6,h7,h8,h9⟩:=h6
 exact⟨c,V',bad',rfl,⟨R,S,q1,λb e=>cC (h2 b e) hs,h3,h4,h5,h6.keep q2 (λb e e2=>e2 (h4 b e).1) (h2 _ (h4 _ h6.own).1),h7.trans (lV q2 h7.size h3),by omega,by omega⟩,λb e1 e2 e3=>q2.block b e3 (λe=>e (h5 b e1 e2)),q3⟩
theorem J7(HL:Lib)(h:PX w1 wr w N X g n db nb Vd Vn bad bf)(hn:n<=100000000000000)(l:Int):ax (PB aa false) 30 #[.pointer (some ⟨db,0,none⟩),.int .i64 l] w λe w'=>∃ c V' bad',e=.returned (bV c)/\PX w1 wr w' N X g (n+1) db nb V' Vn bad' bf/\II wr N w w'/\AnL g bad bad' Vd V' (upd Vd l.toNat (aq (g.Y-21) 0)) (fJ g l) c:=by
 obtain⟨R,S,h1,h2,h3,h4,h5,h6,h7,h8,h9⟩:=h
 refine(X6 HL h1 hn l).mono ?_
 rintro e w' ⟨c,V',bad',rfl,q1,q2,q3⟩
 have hs:=q2.size
 exact⟨c,V',bad',rfl,⟨R,S,q1,λb e=>cC (h2 b e) hs,h3,h4,h5,h6.keep q2 (λb e e2=>e2 (h4 b e).1) (h2 _ (h4 _ h6.own).1),h7.trans (lV q2 h7.size h3),by omega,by omega⟩,λb e1 e2 e3=>q2.block b e3 (λe=>e (h5 b e1 e2)),q3⟩
theorem PL(HL:Lib)(h:PX w1 wr w N X g n db nb Vd Vn bad bf)(hn:n<=100000000000000)(l:Int)(fb cap m:Nat)(data:List Nat)(hA:aY data)(hL:bM w (some ⟨fb,0,none⟩) data)(hf1:wr.heap.size<=fb)(hf2:fb<N)(hdl:data.length=m)(hm:m<=1000000):ax (PB aa false) 27 #[.pointer (some ⟨db,0,none⟩),.int .i64 l,.slice (some ⟨fb,0,none⟩) m cap] w λe w'=>∃ c V' bad',e=.returned (bV c)/\PX w1 wr w' N X g (n+1) db nb V' Vn bad' bf/\II wr N w w'/\AnL g bad bad' Vd V' (upd Vd l.toNat data) (fI g l m) c:=by
 obtain⟨R,S,h1,h2,h3,h4,h5,h6,h7,h8,h9⟩:=h
 refine(TK HL h1 hn l (some ⟨fb,0,none⟩) cap m data hA hL (λb off e=>by cases e;exact h5 fb hf1 hf2) hdl hm).mono ?_
 rintro e w' ⟨c,V',bad',rfl,q1,q2,q3⟩
 have hs:=q2.size
 exact⟨c,V',bad',rfl,⟨R,S,q1,λb e=>cC (h2 b e) hs,h3,h4,h5,h6.keep q2 (λb e e2=>e2 (h4 b e).1) (h2 _ (h4 _ h6.own).1),h7.trans (lV q2 h7.size h3),by omega,by omega⟩,λb e1 e2 e3=>q2.block b e3 (λe=>e (h5 b e1 e2)),q3⟩
end
theorem FW(HL:Lib){w1 w:ae}{g:Gm}{n db nb cap:Nat}{V:Nat->List Nat}{bad bf:Nat}(h:PN w1 w g n db nb V bad bf)(hn:n<=100000000000000)(l s:Int)(hY:g.Y<=277) :
 ax (PB aa false) 18 #[.pointer (some ⟨db,0,none⟩),.slice (some ⟨nb,0,none⟩) g.L cap,.agg #[.int .i64 3,.int .i64 l,.int .i64 s],.bool (Lt g bad)] w λe w'=>RZ e w1 w' g n db nb bad bf:=by
 have HP:Hid (∀ o,PX w1 w (w.alloc o) (w.alloc o).heap.size (λ_=>False) g n db nb V V bad bf):=λo=>h.begin (aB w o)
 have HZ:Hid (∀ o:Obj,w.heap.size<(w.alloc o).heap.size):=λo=>by simp
 obtain⟨m,hm⟩:∃ m,g.Y-21=m:=⟨_,rfl⟩
 have HS:Hid (∀ o,ax (PB aa false) 13 #[.pointer (some ⟨db,0,none⟩)] (w.alloc o) λe w'=>e=.returned (.int .i64 (m:Nat))/\w'=w.alloc o):=λo=>by rw[<-hm];exact mM (HP.out o)
 have HF:Hid (∀ o,ax (PB aa false) 25 #[.pointer (some ⟨db,0,none⟩)] (w.alloc o) λe w'=>∃ c V' bad',e=.returned (bV c)/\PX w1 w w' (w.alloc o).heap.size (λ_=>False) g (n+1) db nb V' V bad' bf/\II w (w.alloc o).heap.size (w.alloc o) w'/\ChL g bad bad' V V' V c):=λo=>PK HL (HP.out o) hn
 clear h hY hm
 by_cases hb:g.spare<bad
 .have hlt:Lt g bad=true:=decide_eq_true hb
  rw[hlt]
  go_enter Al.func18,Tryz.ntmps18
  go_wp2_with fail
  refine(HS.out _).mono ?_
  rintro e wa ⟨rfl,rfl⟩
  clear HS
  go_wp2_with fail
  refine(HF.out _).mono ?_
  rintro e wb ⟨c,V',bad',rfl,q1,q2,q3⟩
  rcases q3 with ⟨_,rfl,rfl,rfl⟩|⟨e1,_⟩
  .have HE:=λW=>bW 9 9 true W (by simp)
   have HT:=fK q1
   rw[hlt] at HT
   clear HF HP q1 q2 hlt HZ
   go_wp2_with fail
   refine(HE _).mono ?_
   rintro e wc ⟨rfl,rfl⟩
   go_wp2_with fail
   refine HT.mono ?_
   rintro e wd ⟨rfl,q1,-⟩
   have HQ:Hid (PN w1 wd g (n+1) db nb V' bad' bf):=q1.fin
   clear HT q1
   go_wp2
   go_ret
   exact GK HQ.out (al _) (λ_=>rfl)
  .exact absurd hb e1
 .have hlt:Lt g bad=false:=decide_eq_false hb
  rw[hlt]
  go_enter Al.func18,Tryz.ntmps18
  go_wp2_with fail
  refine(HS.out _).mono ?_
  rintro e wa ⟨rfl,rfl⟩
  clear HS
  go_wp2_with fail
  refine(HF.out _).mono ?_
  rintro e wb ⟨c,V',bad',rfl,q1,q2,q3⟩
  rcases q3 with ⟨e1,_⟩|⟨_,hle,⟨rfl,rfl,hb2⟩|⟨rfl,rfl,hb2⟩⟩
  .exact absurd e1 hb
  .have HE:=λW=>bW 0 0 true W (by simp)
   have HT:=fK q1
   rw[show Lt g bad'=false from decide_eq_false hb2] at HT
   clear HF HP q1 q2 hlt HZ
   go_wp2_with fail
   refine(HE _).mono ?_
   rintro e wc ⟨rfl,rfl⟩
   go_wp2_with fail
   refine HT.mono ?_
   rintro e wd ⟨rfl,q1,-⟩
   have HQ:Hid (PN w1 wd g (n+1) db nb V' bad' bf):=q1.fin
   clear HT q1
   go_wp2
   go_ret
   exact GK HQ.out hle (λe=>absurd e hb)
  .have HE:=λW=>bW 9 0 false W (by simp)
   have HE2:=λW=>bW 9 9 true W (by simp)
   have HT:=fK q1
   rw[show Lt g bad'=true from decide_eq_true hb2] at HT
   clear HF HP q1 q2 hlt HZ
   go_wp2_with fail
   refine(HE _).mono ?_
   rintro e wc ⟨rfl,rfl⟩
   go_wp2_with fail
   refine HT.mono ?_
   rintro e wd ⟨rfl,q1,-⟩
   have HQ:Hid (PN w1 wd g (n+1) db nb V' bad' bf):=q1.fin
   clear HT q1
   go_wp2_with fail
   refine(HE2 _).mono ?_
   rintro e we ⟨rfl,rfl⟩
   go_wp2
   go_ret
   exact GK HQ.out hle (λe=>absurd e hb)
