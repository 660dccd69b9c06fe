/- Part of the proof. -/
import Derived.Test.YtjlgehmebfkioaaGreatDoorZ14
import Derived.Test.YtjlgehmebfkioaaGreatDoorZ06
import Derived.Shelf.Slices.SearchI
import Derived.Shelf.Sort.Plain
import Derived.Test.YtjlgehmebfkioaaGreatDoorZ10
set_option maxRecDepth 100000
open Go.Proofs.Tryz (prog)
open Go.Proofs.ah.Al (PB)
set_option maxHeartbeats 3200000
set_option linter.unusedVariables false
namespace Go.Proofs.aA
open ah ay aj Go.RowKit aB aD ah
def pR:Gm:=⟨1,6,2,24,2,0⟩
theorem Pp:Geo pR.D pR.B pR.P pR.Y:=⟨by decide,by decide,by decide,by decide,by decide,by decide,by decide,by decide,by decide⟩
theorem AP(w:World):Row (w.alloc (.cells #[.int .u8 1,.int .u8 2,.int .u8 3] 5)) w.heap.size [1,2,3]:=heap_alloc_new w _
theorem vW{B:Nat}{R:Nat->Prop}{w w':World}(h:Keep (λb=>¬R b) w w')(hB:B<=w.heap.size)(hr:∀ b,b<B->R b):Below B w w':=h.below hB (λb e=>Nat.le_of_not_lt (λhb=>e (hr b hb)))
theorem D9(HL:Lib)(w:World):Calls (PB prog false) 9 #[] w λe w'=>e=.returned (.bool true)/\Below w.heap.size w w':=by
 have HN:Hid (Calls (PB prog false) 10 #[.agg #[.int .i64 1,.int .i64 6,.int .i64 2,.int .i64 24],.int .i64 2,.int .i64 0] w λe w'=>∃ db,e=.returned (.tuple #[.pointer (some ⟨db,0,none⟩),.nilIface])/\CO pR (λb=>b<w.heap.size) 0 w' db (λ_=>List.replicate 3 0)/\Below w.heap.size w w'):=ab_ HL (g:=pR) (λb=>b<w.heap.size) w Pp (by decide) (λb hb=>hb)
 go_enter Al.func9,Tryz.ntmps9
 go_wp2_with fail
 refine HN.out.mono ?_
 rintro e w1 ⟨db,rfl,hc1,hb1⟩
 have hwr:=JV HL (g:=pR) (R:=λb=>b<w.heap.size\/b=w1.heap.size) (hc1.more (λb hb=>hb.elim Or.inl (λe=>Or.inr (by omega))) |>.below (aC w1 (.cells #[.int .u8 1,.int .u8 2,.int .u8 3] 5))) (by omega) 0 (some ⟨w1.heap.size,0,none⟩) 3 [1,2,3] (λx hx=>by simp at hx;omega) (gZ (AP w1)) (λb off e=>by cases e;exact Or.inr rfl) (by simp)
 have HB1:Hid (Below w.heap.size w (w1.alloc (.cells #[.int .u8 1,.int .u8 2,.int .u8 3] 5))):=hb1.alloc hb1.size _
 have hc0:pQ pR 0 ([1,2,3]:List Nat).length=0:=by decide
 rw[hc0,if_pos rfl,bV] at hwr
 clear hc1 hb1 HN
 go_wp2_with fail
 refine hwr.mono ?_
 rintro e w2 ⟨rfl,hc2,hk2⟩
 have HB2:Hid (Below w.heap.size w w2):=HB1.out.trans (vW hk2 HB1.out.size (λb hb=>Or.inl hb))
 have hrd:=XW HL hc2 (by omega) 0
 have HC2:Hid (CO pR (λb=>b<w.heap.size\/b=w1.heap.size) (0+1) w2 db (upd (λ_=>List.replicate 3 0) (0:Int).toNat [1,2,3])):=hc2
 clear hwr hc2 hk2 HB1
 go_wp2_with fail
 refine hrd.mono ?_
 rintro e w3 (⟨h0,_⟩|⟨j,hj,hj2,gb,rfl,hge,hrow,hb3⟩)
 .exact absurd (by decide) h0
 .obtain rfl:j=0:=by omega
  have ev:upd (λ_=>List.replicate 3 0) (0:Int).toNat [1,2,3] 0=[1,2,3]:=rfl
  rw[ev] at hrow ⊢
  have HB3:Hid (Below w.heap.size w (w3.alloc (.cells #[.int .u8 1,.int .u8 2,.int .u8 3] 5))/\CO pR (λb=>b<w.heap.size\/b=w1.heap.size) (0+1) (w3.alloc (.cells #[.int .u8 1,.int .u8 2,.int .u8 3] 5)) db (upd (λ_=>List.replicate 3 0) (0:Int).toNat [1,2,3])):=by
   have h1:=HB2.out.trans (hb3.mono HB2.out.size)
   exact⟨h1.alloc h1.size _,(HC2.out.below hb3).below (aC _ _)⟩
  have hby:=nW (some ⟨gb,0,none⟩) (some ⟨w3.heap.size,0,none⟩) [1,2,3] [1,2,3] 3 3 (w3.alloc (.cells #[.int .u8 1,.int .u8 2,.int .u8 3] 5)) (by simp) (by simp) (gZ (hrow.below (aC _ _))) (gZ (AP w3))
  rw[decide_eq_true rfl] at hby
  clear hrd HC2 HB2 hj hj2 hge hrow hb3 ev
  go_wp2_with fail
  refine hby.mono ?_
  rintro e w4 ⟨rfl,hb4⟩
  have Tk:Hid (Below w.heap.size w w4):=HB3.out.1.trans (hb4.mono HB3.out.1.size)
  have hsz:=XY (HB3.out.2.below hb4)
  clear hby HB3 hb4
  go_wp2_with fail
  refine hsz.mono ?_
  rintro e w5 ⟨rfl,rfl⟩
  clear hsz
  go_wp2
  go_ret
  exact⟨rfl,Tk.out⟩
end Go.Proofs.aA
namespace Go.Proofs.aA
open ah ay aj Go.RowKit
theorem yw(v:Value)(w:World):(Instr.typeAssert (.iface 31 v) 28 31 true).run (PB prog false) w=.ok (.tuple #[v,.bool true]) w:=by kernel_rfl
theorem CX(w:World):(Instr.typeAssert .nilIface 28 31 true).run (PB prog false) w=.ok (.tuple #[.int .i64 0,.bool false]) w:=by kernel_rfl
theorem JW(m:Int)(W:World):Calls (PB prog false) 42 #[.nilIface,.iface 31 (.int .i64 m)] W λe w'=>e=.returned (.bool false)/\w'=W:=by
 have h1:=CX
 have h2:=yw (.int .i64 m)
 go_enter Al.func42,Al.ntmps42
 unfold Al.LG
 go_wp2
 go_ret
 exact⟨rfl,rfl⟩
theorem AQ(n m:Int)(W:World):Calls (PB prog false) 42 #[.iface 31 (.int .i64 n),.iface 31 (.int .i64 m)] W λe w'=>e=.returned (.bool (n==m))/\w'=W:=by
 have h1:=yw (.int .i64 n)
 have h2:=yw (.int .i64 m)
 go_enter Al.func42,Al.ntmps42
 unfold Al.LG
 go_wp2
 go_ret
 exact⟨rfl,rfl⟩
theorem ab':CS:=λn m hm W=>by
 have hB:Below W.heap.size W W:=Below.refl _ _
 by_cases h0:n=0
 .subst h0
  rw[bV,decide_eq_false (λe=>hm e.symm)]
  exact(JW m W).mono λe w' h=>⟨h.1,by rw[h.2];exact hB⟩
 .rw[dW h0]
  refine(AQ n m W).mono λe w' h=>⟨?_,by rw[h.2];exact hB⟩
  rw[h.1]
  congr 2
  rw[Bool.eq_iff_iff]
  simp
  omega
end Go.Proofs.aA
namespace Go.Proofs.aA
open ah ay aj Go.RowKit aB aD ah
def GD(g0 g1 g2 g3 lb sp:Int):Prop:=¬zN g0 g1 g2 g3\/∃ D B P Y:Nat,g0=D/\g1=B/\g2=P/\g3=Y/\Geo D B P Y/\p9 D B P Y lb sp≠0
theorem GH{g0 g1 g2 g3 lb sp:Int}(w:World)(h:GD g0 g1 g2 g3 lb sp):Calls (PB prog false) 10 #[.agg #[.int .i64 g0,.int .i64 g1,.int .i64 g2,.int .i64 g3],.int .i64 lb,.int .i64 sp] w λe w'=>∃ c:Nat,c≠0/\e=.returned (.tuple #[.pointer none,.iface 31 (.int .i64 (c:Nat))])/\Below w.heap.size w w':=by
 rcases h with h|⟨D,B,P,Y,rfl,rfl,rfl,rfl,hG,hc⟩
 .refine(Tp g0 g1 g2 g3 lb sp w h).mono ?_
  rintro e w' ⟨rfl,hb⟩
  exact⟨1,by omega,rfl,hb⟩
 .refine(Pk lb sp w hG hc).mono ?_
  rintro e w' ⟨rfl,hb⟩
  exact⟨_,hc,by rw[dW hc],hb⟩
theorem R8(g0 g1 g2 g3 lb sp:Int):GD g0 g1 g2 g3 lb sp\/∃ g:Gm,g0=g.D/\g1=g.B/\g2=g.P/\g3=g.Y/\lb=g.L/\sp=g.spare/\Geo g.D g.B g.P g.Y/\p9 g.D g.B g.P g.Y (g.L:Int) (g.spare:Int)=0:=by
 by_cases h:zN g0 g1 g2 g3
 .obtain⟨D,B,P,Y,rfl,rfl,rfl,rfl,hG⟩:=h.nat
  by_cases hc:p9 D B P Y lb sp=0
  .obtain⟨L,spare,rfl,rfl,_⟩:=Bq hG hc
   exact Or.inr ⟨⟨D,B,P,Y,L,spare⟩,rfl,rfl,rfl,rfl,rfl,rfl,hG,hc⟩
  .exact Or.inl (Or.inr ⟨D,B,P,Y,rfl,rfl,rfl,rfl,hG,hc⟩)
 .exact Or.inl (Or.inl h)
structure LS(w1 wq:World)(g:Gm)(n db:Nat)(V:Nat->List Nat):Prop where
 co:CO g (λb=>b<w1.heap.size) n wq db V
 cO:Below w1.heap.size w1 wq
theorem LS.below{w1 wq w':World}{g:Gm}{n db:Nat}{V:Nat->List Nat}(h:LS w1 wq g n db V)(hb:Below wq.heap.size wq w'):LS w1 w' g n db V:=⟨h.co.below hb,h.cO.trans (hb.mono h.cO.size)⟩
theorem LS.write(HL:Lib){w1 wr wq w2:World}{g:Gm}{n db:Nat}{V:Nat->List Nat}{a:Option Addr}{cap m:Nat}{l:List Nat}(h:LS w1 wr g n db V)(hal:Below wr.heap.size wr wq)(hn:n<=100000000000000)(hb:Gt wq w2 a cap m l)(hm:m<=1000000)(gH:Int) :
 Calls (PB prog false) 27 #[.pointer (some ⟨db,0,none⟩),.int .i64 gH,.slice a m cap] w2 λe w'=>e=.returned (cK (pQ g gH m))/\LS w1 w' g (n+1) db (if pQ g gH m=0 then upd V gH.toNat l else V)/\(∀ b,wr.heap.size<=b->b<w2.heap.size->w'.heap[b]?=w2.heap[b]?):=by
 have hs:=h.cO.size
 have hw:Below wr.heap.size wr w2:=hal.trans (hb.cO.mono hal.size)
 have hco:CO g (λb=>b<w1.heap.size\/(wr.heap.size<=b/\b<w2.heap.size)) n w2 db V:=(h.co.more (R':=λb=>b<w1.heap.size\/(wr.heap.size<=b/\b<w2.heap.size)) (λb e=>e.elim Or.inl (λe2=>Or.inr e2.1))).below hw
 have hx:=JV HL hco hn gH a cap l hb.all hb.own.lies (λb off e=>by
  have:=hb.own.ge (b:=b) ⟨_,e,rfl⟩
  have:=hal.size
  exact Or.inr ⟨by omega,by omega⟩) (by rw[hb.len];omega)
 rw[hb.len] at hx
 refine hx.mono ?_
 rintro e w' ⟨rfl,q1,q2⟩
 have h2:=h.below hw
 exact⟨rfl,⟨q1.more (λb e=>Or.inl (Or.inl e)),h2.cO.trans (vW q2 h2.cO.size (λb e=>Or.inl e))⟩,λb h3 h4=>q2.block b h4 (λe=>e (Or.inr ⟨h3,h4⟩))⟩
end Go.Proofs.aA
namespace Go.Proofs.aA
open ay aj Go.RowKit aB aD ah
theorem Tt(p:List Nat):(stP p==2&&(zu p==1||zu p==2))=true↔o_ p:=by
 unfold o_
 rw[<-Ag]
 simp only[Bool.and_eq_true,Bool.or_eq_true,beq_iff_eq]
 unfold stP zu qH
 cases h1:iN p<;>cases h2:qc p<;>simp
theorem yx{p:List Nat}(h:o_ p):zw p=bT p/\BG p=bM p:=by
 have:=(Ag p).2 h.1
 unfold zw BG
 rw[this]
 exact⟨rfl,rfl⟩
theorem CY{L:List Pg}{i:Nat}:i∈flt L L.length↔i<L.length/\o_ (gP L i).p:=by
 unfold flt
 rw[List.mem_filter,List.mem_range]
 refine and_congr_right λ_=>?_
 exact Tt _
theorem XZ{N:List ah.Fd}{i:Nat}(h:i<N.length):gF N i∈N:=by
 unfold gF
 rw[List.getElem?_eq_getElem h]
 exact List.getElem_mem h
theorem acd(L:List Pg):NF L.length (λi=>(gP L i).p) (newF L).length (λi=>(gF (newF L) i).lb) (λi=>(gF (newF L) i).pg) (λi=>(gF (newF L) i).sq):=by
 have hI:Wj (mV L) (flt L L.length) (newF L):=Xv _ _
 refine⟨λi j hij hj=>?_,λi hi=>?_,λp hp hc=>?_⟩
 .have:=List.pairwise_iff_getElem.1 hI.rise i j (by omega) hj hij
  unfold gF
  rw[List.getElem?_eq_getElem hj,List.getElem?_eq_getElem (show i<(newF L).length by omega)]
  exact this
 .obtain⟨p,hp,e,hb⟩:=hI.best _ (XZ hi)
  obtain⟨p1,p2⟩:=CY.1 hp
  obtain⟨t1,t2⟩:=yx p2
  have e1:(gF (newF L) i).pg=p:=by rw[e];rfl
  have e2:(gF (newF L) i).lb=bT (gP L p).p:=by rw[e];exact t1
  have e3:(gF (newF L) i).sq=bM (gP L p).p:=by rw[e];exact t2
  rw[e1,e2,e3]
  refine⟨p1,p2,rfl,rfl,λq hq hc hl=>?_⟩
  obtain⟨s1,s2⟩:=yx hc
  have hlt:=hb q (CY.2 ⟨hq,hc⟩) (by rw[e2];show zw (gP L q).p=_;rw[s1];exact hl)
  unfold Ci at hlt
  have f1:(mV L q).lb=(mV L p).lb:=by show zw _=zw _;rw[s1,t1];exact hl
  have f2:(mV L q).sq=bM (gP L q).p:=s2
  have f3:(mV L p).sq=bM (gP L p).p:=t2
  rw[f2,f3] at hlt
  rcases Nat.lt_or_ge (bM (gP L p).p) (bM (gP L q).p) with h|h
  .exact(hlt (Or.inr ⟨f1,Or.inl h⟩)).elim
  .exact h
 .obtain⟨e,he,hl⟩:=hI.all p (CY.2 ⟨hp,hc⟩)
  obtain⟨i,hi,rfl⟩:=List.mem_iff_getElem.1 he
  refine⟨i,hi,?_⟩
  unfold gF
  rw[List.getElem?_eq_getElem hi]
  show (newF L)[i].lb=_
  rw[hl]
  exact(yx hc).1
theorem Tv(L:List Pg):(newF L).length<=L.length:=by
 unfold newF zx Dz
 rw[List.length_map]
 refine Nat.le_trans (List.length_filter_le _ _) ?_
 rw[List.length_range,List.length_map]
 have:=(EX (mV L) (flt L L.length)).length_eq
 rw[this]
 exact Ck L L.length
theorem X0:FM:=λpa pc L w hl hp=>(Hu pa pc L 8 w (by decide) (by decide) hl hp).mono λe w' ⟨a,cap,h1,h2,h3⟩=>by
 refine⟨a,cap,(newF L).length,_,_,_,λi=>(gF (newF L) i).kd,h1,?_,acd L,Tv L,h3⟩
 rcases h2.at with e|⟨g,off,rfl,hc⟩
 .exact Or.inl (by rw[e];rfl)
 .exact Or.inr ⟨g,off,rfl,λi hi=>hc i hi⟩
end Go.Proofs.aA
namespace Go.Proofs.aA
open ah Go.Shelf
def Mx:Go.Shelf.Ren:=⟨fun|25=>121|31=>160|32=>161|37=>113|n=>n,fun|22=>114|3=>3|4=>4|40=>93|0=>0|n=>n,fun|n=>n⟩
theorem ace:Go.Proofs.Lays2.n25 (PB prog false) Mx:={
 mixed:=by kernel_rfl
 f25:=Al.func121.trans (congrArg some (by kernel_rfl))
 f31:=Al.func160.trans (congrArg some (by kernel_rfl))
 f32:=Al.func161.trans (congrArg some (by kernel_rfl))
 f37:=Al.func113.trans (congrArg some (by kernel_rfl))
 t0:=((Al.und 0).trans Tryz.underlying0)
 a0:=λw=>(Al.agg 0 w).trans (Tryz.isAgg0 w)
 z0:=λw=>(Al.jl 0 w).trans (Tryz.sizeOf0 w)
 v0:=λw=>(Al.jo 0 w).trans (Tryz.zeroValue0 w)
 t3:=((Al.und 3).trans Tryz.underlying3)
 a3:=λw=>(Al.agg 3 w).trans (Tryz.isAgg3 w)
 z3:=λw=>(Al.jl 3 w).trans (Tryz.sizeOf3 w)
 v3:=λw=>(Al.jo 3 w).trans (Tryz.zeroValue3 w)
 t4:=((Al.und 4).trans Tryz.underlying4)
 a4:=λw=>(Al.agg 4 w).trans (Tryz.isAgg4 w)
 z4:=λw=>(Al.jl 4 w).trans (Tryz.sizeOf4 w)
 v4:=λw=>(Al.jo 4 w).trans (Tryz.zeroValue4 w)
 t22:=((Al.und 114).trans Tryz.underlying114)
 a22:=λw=>(Al.agg 114 w).trans (Tryz.isAgg114 w)
 z22:=λw=>(Al.jl 114 w).trans (Tryz.sizeOf114 w)
 v22:=λw=>(Al.jo 114 w).trans (Tryz.zeroValue114 w)
 t40:=((Al.und 93).trans Tryz.underlying93)
 a40:=λw=>(Al.agg 93 w).trans (Tryz.isAgg93 w)
 z40:=λw=>(Al.jl 93 w).trans (Tryz.sizeOf93 w)
 v40:=λw=>(Al.jo 93 w).trans (Tryz.zeroValue93 w) }
def MB:Go.Shelf.Ren:=⟨fun|189=>120|125=>112|257=>159|128=>155|129=>156|294=>175|295=>176|296=>177|297=>178|298=>179|299=>180|216=>160|300=>181|301=>182|328=>185|329=>171|330=>172|331=>186|332=>187|215=>113|343=>196|n=>n,fun|28=>114|3=>3|46=>93|0=>0|51=>92|53=>199|4=>4|183=>240|182=>239|131=>216|5=>5|9=>9|218=>262|222=>265|228=>273|229=>130|n=>n,fun|n=>n⟩
theorem acf:Go.Proofs.Lays.n189 (PB prog false) MB:={
 mixed:=by kernel_rfl
 f125:=Al.func112.trans (congrArg some (by kernel_rfl))
 f128:=Al.func155.trans (congrArg some (by kernel_rfl))
 f129:=Al.func156.trans (congrArg some (by kernel_rfl))
 f189:=Al.func120.trans (congrArg some (by kernel_rfl))
 f215:=Al.func113.trans (congrArg some (by kernel_rfl))
 f216:=Al.func160.trans (congrArg some (by kernel_rfl))
 f257:=Al.func159.trans (congrArg some (by kernel_rfl))
 f294:=Al.func175.trans (congrArg some (by kernel_rfl))
 f295:=Al.func176.trans (congrArg some (by kernel_rfl))
 f296:=Al.func177.trans (congrArg some (by kernel_rfl))
 f297:=Al.func178.trans (congrArg some (by kernel_rfl))
 f298:=Al.func179.trans (congrArg some (by kernel_rfl))
 f299:=Al.func180.trans (congrArg some (by kernel_rfl))
 f300:=Al.func181.trans (congrArg some (by kernel_rfl))
 f301:=Al.func182.trans (congrArg some (by kernel_rfl))
 f328:=Al.func185.trans (congrArg some (by kernel_rfl))
 f329:=Al.func171.trans (congrArg some (by kernel_rfl))
 f330:=Al.func172.trans (congrArg some (by kernel_rfl))
 f331:=Al.func186.trans (congrArg some (by kernel_rfl))
 f332:=Al.func187.trans (congrArg some (by kernel_rfl))
 f343:=Al.func196.trans (congrArg some (by kernel_rfl))
 t0:=((Al.und 0).trans Tryz.underlying0)
 a0:=λw=>(Al.agg 0 w).trans (Tryz.isAgg0 w)
 z0:=λw=>(Al.jl 0 w).trans (Tryz.sizeOf0 w)
 v0:=λw=>(Al.jo 0 w).trans (Tryz.zeroValue0 w)
 t3:=((Al.und 3).trans Tryz.underlying3)
 a3:=λw=>(Al.agg 3 w).trans (Tryz.isAgg3 w)
 z3:=λw=>(Al.jl 3 w).trans (Tryz.sizeOf3 w)
 v3:=λw=>(Al.jo 3 w).trans (Tryz.zeroValue3 w)
 t4:=((Al.und 4).trans Tryz.underlying4)
 a4:=λw=>(Al.agg 4 w).trans (Tryz.isAgg4 w)
 z4:=λw=>(Al.jl 4 w).trans (Tryz.sizeOf4 w)
 v4:=λw=>(Al.jo 4 w).trans (Tryz.zeroValue4 w)
 t5:=((Al.und 5).trans Tryz.underlying5)
 a5:=λw=>(Al.agg 5 w).trans (Tryz.isAgg5 w)
 z5:=λw=>(Al.jl 5 w).trans (Tryz.sizeOf5 w)
 v5:=λw=>(Al.jo 5 w).trans (Tryz.zeroValue5 w)
 t9:=((Al.und 9).trans Tryz.underlying9)
 a9:=λw=>(Al.agg 9 w).trans (Tryz.isAgg9 w)
 z9:=λw=>(Al.jl 9 w).trans (Tryz.sizeOf9 w)
 v9:=λw=>(Al.jo 9 w).trans (Tryz.zeroValue9 w)
 t28:=((Al.und 114).trans Tryz.underlying114)
 a28:=λw=>(Al.agg 114 w).trans (Tryz.isAgg114 w)
 z28:=λw=>(Al.jl 114 w).trans (Tryz.sizeOf114 w)
 v28:=λw=>(Al.jo 114 w).trans (Tryz.zeroValue114 w)
 t46:=((Al.und 93).trans Tryz.underlying93)
 a46:=λw=>(Al.agg 93 w).trans (Tryz.isAgg93 w)
 z46:=λw=>(Al.jl 93 w).trans (Tryz.sizeOf93 w)
 v46:=λw=>(Al.jo 93 w).trans (Tryz.zeroValue93 w)
 t51:=((Al.und 92).trans Tryz.underlying92)
 a51:=λw=>(Al.agg 92 w).trans (Tryz.isAgg92 w)
 z51:=λw=>(Al.jl 92 w).trans (Tryz.sizeOf92 w)
 v51:=λw=>(Al.jo 92 w).trans (Tryz.zeroValue92 w)
 t53:=((Al.und 199).trans Tryz.underlying199)
 a53:=λw=>(Al.agg 199 w).trans (Tryz.isAgg199 w)
 z53:=λw=>(Al.jl 199 w).trans (Tryz.sizeOf199 w)
 v53:=λw=>(Al.jo 199 w).trans (Tryz.zeroValue199 w)
 t131:=((Al.und 216).trans Tryz.underlying216)
 a131:=λw=>(Al.agg 216 w).trans (Tryz.isAgg216 w)
 z131:=λw=>(Al.jl 216 w).trans (Tryz.sizeOf216 w)
 v131:=λw=>(Al.jo 216 w).trans (Tryz.zeroValue216 w)
 t182:=((Al.und 239).trans Tryz.underlying239)
 a182:=λw=>(Al.agg 239 w).trans (Tryz.isAgg239 w)
 z182:=λw=>(Al.jl 239 w).trans (Tryz.sizeOf239 w)
 v182:=λw=>(Al.jo 239 w).trans (Tryz.zeroValue239 w)
 t183:=((Al.und 240).trans Tryz.underlying240)
 a183:=λw=>(Al.agg 240 w).trans (Tryz.isAgg240 w)
 z183:=λw=>(Al.jl 240 w).trans (Tryz.sizeOf240 w)
 v183:=λw=>(Al.jo 240 w).trans (Tryz.zeroValue240 w)
 t218:=((Al.und 262).trans Tryz.underlying262)
 a218:=λw=>(Al.agg 262 w).trans (Tryz.isAgg262 w)
 z218:=λw=>(Al.jl 262 w).trans (Tryz.sizeOf262 w)
 v218:=λw=>(Al.jo 262 w).trans (Tryz.zeroValue262 w)
 t222:=((Al.und 265).trans Tryz.underlying265)
 a222:=λw=>(Al.agg 265 w).trans (Tryz.isAgg265 w)
 z222:=λw=>(Al.jl 265 w).trans (Tryz.sizeOf265 w)
 v222:=λw=>(Al.jo 265 w).trans (Tryz.zeroValue265 w)
 t228:=((Al.und 273).trans Tryz.underlying273)
 a228:=λw=>(Al.agg 273 w).trans (Tryz.isAgg273 w)
 z228:=λw=>(Al.jl 273 w).trans (Tryz.sizeOf273 w)
 v228:=λw=>(Al.jo 273 w).trans (Tryz.zeroValue273 w)
 t229:=((Al.und 130).trans Tryz.underlying130)
 a229:=λw=>(Al.agg 130 w).trans (Tryz.isAgg130 w)
 z229:=λw=>(Al.jl 130 w).trans (Tryz.sizeOf130 w)
 v229:=λw=>(Al.jo 130 w).trans (Tryz.zeroValue130 w) }
end Go.Proofs.aA
namespace Go.Proofs.aA
open ah ay aj Go.RowKit Go.Shelf Go.Sort
def qx(n:Nat)(f:Nat->Int):List Int:=(List.range n).map f
theorem jJ(n:Nat)(f:Nat->Int):(qx n f).length=n:=by simp[qx]
theorem Tw{n:Nat}{f:Nat->Int}{i:Nat}(h:i<n):(qx n f)[i]?=some (f i):=by unfold qx;rw[List.getElem?_map,List.getElem?_range h];rfl
theorem Tx:qp:=λgb n f W h1 h2 hI=>by
 have hH:Holds (Value.int .i64) W gb 0 (qx n f).toArray:=λj hj=>by
  have hj':j<n:=by simpa [qx] using hj
  refine⟨?_,hI.free _⟩
  rw[Nat.zero_add,hI.cell j hj']
  have e:(qx n f).toArray[j]! = f j:=by
   rw[getElem!_pos _ j hj]
   simp[qx]
  rw[e]
 have hS:=Any.slices_Sort_int acf gb 0 n (qx n f) W hH (hI.lt h1) (by rw[jJ];omega)
 change Calls (PB prog false) 120 _ _ _ at hS
 rw[jJ] at hS
 refine hS.mono ?_
 rintro e w' ⟨rfl,m,os,rfl⟩
 obtain⟨Z,hZ⟩:∃ Z,(qx n f).mergeSort (λx y=>decide (x<=y))=Z:=⟨_,rfl⟩
 have hZl:Z.length=n:=by rw[<-hZ,List.length_mergeSort,jJ]
 have hZs:Z.Pairwise (λx y=>x<=y):=by
  have:=List.pairwise_mergeSort (le:=λx y:Int=>decide (x<=y)) (λa b c h1 h2=>by simp at *;omega) (λa b=>by simp;omega) (qx n f)
  rw[hZ] at this
  exact this.imp (λh=>by simpa using h)
 rw[hZ]
 have hlt:=hI.lt h1
 have hsz:∀ (d:Array Int),gb<(putRow (Value.int .i64) (Sort.ahead W m) gb 0 d).heap.size:=λd=>by rw[size_putRow,heap_ahead];exact hlt
 have hh:=holds_putRow (Value.int .i64) (Sort.ahead W m) gb 0 (qx n f).toArray Z.toArray (holds_ahead _ _ _ _ _ _ hH) (by simp[hZl,qx])
 have hblk:∀ k,k<W.heap.size->(grow (putRow (Value.int .i64) (Sort.ahead W m) gb 0 Z.toArray) os).heap[k]?=(putRow (Value.int .i64) (Sort.ahead W m) gb 0 Z.toArray).heap[k]?:=λk hk=>heap_grow_old _ _ (by rw[size_putRow,heap_ahead];exact hk)
 refine⟨rfl,λi=>Z[i]?.getD 0,⟨λk hk=>?_,λo=>?_⟩,λi j hij hj=>?_,⟨rfl,rfl,rfl,?_,λk hk hs=>?_⟩⟩
 .have:=(hh k (by simp[hZl];exact hk)).1
  rw[Nat.zero_add] at this
  have ec:(grow (putRow (Value.int .i64) (Sort.ahead W m) gb 0 Z.toArray) os).cell? ⟨gb,k,none⟩=(putRow (Value.int .i64) (Sort.ahead W m) gb 0 Z.toArray).cell? ⟨gb,k,none⟩:=World.cell?_of_block (hblk gb hlt)
  rw[ec,this]
  rw[getElem!_pos _ k (by simp[hZl];exact hk),List.getElem?_eq_getElem (by omega)]
  simp
 .have ec:(grow (putRow (Value.int .i64) (Sort.ahead W m) gb 0 Z.toArray) os).frozen? ⟨gb,o,none⟩=(putRow (Value.int .i64) (Sort.ahead W m) gb 0 Z.toArray).frozen? ⟨gb,o,none⟩:=World.frozen?_of_block (hblk gb hlt)
  rw[ec,frozen?_putRow,frozen?_ahead]
  exact hI.free o
 .rcases Nat.lt_or_eq_of_le hij with h|h
  .have:=List.pairwise_iff_getElem.1 hZs i j (by omega) (by omega) h
   show Z[i]?.getD 0<=Z[j]?.getD 0
   rw[List.getElem?_eq_getElem (show i<Z.length by omega),List.getElem?_eq_getElem (show j<Z.length by omega)]
   exact this
  .rw[h];exact Int.le_refl _
 .rw[size_grow,size_putRow,heap_ahead];omega
 .rw[hblk k hk]
  have hne:¬gb=k:=λe=>hs e.symm
  simp[putRow,mapBlock,Array.getElem?_modify,hne]
theorem Tz:qw:=λgb n f v W h1 h2 hI hs=>by
 have hS:=Any.slices_BinarySearch_int ace gb 0 n n (qx n f) v W (by rw[jJ];exact Nat.le_refl _) (by omega) (λj hj=>by
  rw[jJ] at hj
  rw[Nat.zero_add,hI.cell j hj,List.getD_eq_getElem?_getD,Tw hj];rfl) (by
  rw[List.take_of_length_le (by rw[jJ];exact Nat.le_refl _),List.pairwise_iff_getElem]
  intro i j hi hj hij
  rw[jJ] at hj
  simp only[qx,List.getElem_map,List.getElem_range]
  exact hs i j (by omega) hj)
 change Calls (PB prog false) 121 _ _ _ at hS
 refine hS.mono ?_
 rintro e w' ⟨rfl,q,rfl⟩
 refine⟨_,_,?_,rfl,?_⟩
 .refine Nat.le_trans List.countP_le_length ?_
  rw[List.length_take,jJ];omega
 .exact below_drewN (Below.refl _ _) q
theorem MC:lJ:=λtb n P u lv rk W h1 h2 h3 h4 hB hb hex=>by
 obtain⟨l,hl⟩:∃ l:List Bl,l=(List.range n).map λk=>(⟨u k,(lv k:Int),(rk k:Int)⟩:Bl):=⟨_,rfl⟩
 have hlen:l.length=n:=by rw[hl];simp
 have hat:∀ i,i<n->gB l i=⟨u i,(lv i:Int),(rk i:Int)⟩:=λi hi=>by
  unfold gB
  rw[hl,List.getElem?_map,List.getElem?_range hi];rfl
 have hBL:aP.BL W (some ⟨tb,0,none⟩) l:=Or.inr ⟨tb,0,rfl,λi hi=>by
  rw[hlen] at hi
  rw[hat i hi]
  refine⟨?_,?_,?_⟩
  .rw[Nat.zero_add];exact hB.b i hi
  .rw[Nat.zero_add];exact hB.x i hi
  .rw[Nat.zero_add];exact hB.r i hi⟩
 have hC:=aP.Ik (some ⟨tb,0,none⟩) n l (P:Int) W hBL
 rw[hlen] at hC
 have hf:gX l (P:Int) false=0:=by
  unfold gX
  rw[if_neg (by omega),if_neg (by simp;omega),if_pos]
  rw[List.all_eq_true]
  intro b hbm
  obtain⟨i,hi,rfl⟩:=List.mem_iff_getElem.1 hbm
  have e:l[i]=gB l i:=by unfold gB;rw[List.getElem?_eq_getElem hi];rfl
  rw[hlen] at hi
  rw[e,hat i hi]
  have:=hb i hi
  exact(sw _ _).2 ⟨by show (0:Int)<=lv i;omega,by show (lv i:Int)<=P;omega,by show (0:Int)<=rk i;omega,by show (rk i:Int)<=1000000000;omega⟩
 have hcan:∀ i,can l (P:Int) i↔i<n/\u i=true/\lv i<P:=λi=>by
  unfold can
  rw[hlen]
  refine and_congr_right λhi=>?_
  rw[hat i hi]
  exact and_congr_right λ_=>by show (lv i:Int)<P↔_;omega
 refine hC.mono ?_
 rintro e w' ⟨hp,hbl⟩
 rcases hp with ⟨f,q1,q2,_⟩|⟨_,q2,_⟩|⟨k,_,q2,q3⟩
 .rw[hf] at q1;exact(q2 q1).elim
 .obtain⟨k,k1,k2,k3⟩:=hex
  exact(q2 k ((hcan k).2 ⟨k1,k2,k3⟩)).elim
 .obtain⟨k1,k2,k3⟩:=(hcan k).1 q2.1
  refine⟨k,k1,k2,k3,λj j1 j2 j3=>?_,q3,hbl⟩
  rcases q2.2 j ((hcan j).2 ⟨j1,j2,j3⟩) with e|e
  .rw[e];exact Nat.le_refl _
  .unfold vB at e
   rw[hat k k1,hat j j1] at e
   dsimp only at e
   omega
theorem lib:Lib:=⟨ab',Tx,Tz,MC,X0⟩
end Go.Proofs.aA
namespace Go.Proofs.aA
open ah ay aj Go.RowKit aB aD ah
variable {a:Ad} {g:Gm} {w:World}
theorem ad2{x:Sd}(h:DK g w a x)(n:Int) :
 Calls (PB prog false) 29 #[.pointer (some ⟨a.db,0,none⟩),.int .i64 n] w λe w'=>e=.returned (.tuple #[])/\DK g w' a { x with cut:=n.toNat }/\Keep (OD g a) w w':=by
 have c0:w.cell? ⟨a.db,0,none⟩=some (.int .i64 (x.cut:Nat)):=h.st.cell 0
 have f0:=h.st.free 0
 have H:Hid (DK g (w.setCell ⟨a.db,0,none⟩ (.int .i64 (n.toNat:Nat))) a { x with cut:=n.toNat }/\Keep (OD g a) w (w.setCell ⟨a.db,0,none⟩ (.int .i64 (n.toNat:Nat)))):=⟨h.cell { x with cut:=n.toNat } 0 _ rfl rfl rfl,((Keep.refl (λb=>b=a.db) _).set1 _ _).mono λb e=>Or.inl e⟩
 clear h
 by_cases h0:0<=n
 .obtain⟨m,rfl⟩:∃ m:Nat,n=(m:Int):=⟨n.toNat,by omega⟩
  rw[Int.toNat_natCast] at H ⊢
  have e1:max (m:Int) 0=(m:Int):=by omega
  have e2:¬((m:Int)<0):=by omega
  go_enter Al.func29,Tryz.ntmps29
  go_wp2
  go_end0
  exact⟨rfl,H.out.1,H.out.2⟩
 .have e0:n.toNat=0:=by omega
  rw[e0] at H ⊢
  have e1:max n 0=0:=by omega
  have e2:n<0:=by omega
  go_enter Al.func29,Tryz.ntmps29
  go_wp2
  go_end0
  exact⟨rfl,H.out.1,H.out.2⟩
theorem KQ{x:Sd}(h:DK g w a x)(n:Int) :
 Calls (PB prog false) 17 #[.pointer (some ⟨a.db,0,none⟩),.int .i64 n] w λe w'=>e=.returned (.tuple #[])/\DK g w' a { x with fails:=n.toNat }/\Keep (OD g a) w w':=by
 have c0:w.cell? ⟨a.db,1,none⟩=some (.int .i64 (x.fails:Nat)):=h.st.cell 1
 have f0:=h.st.free 1
 have H:Hid (DK g (w.setCell ⟨a.db,1,none⟩ (.int .i64 (n.toNat:Nat))) a { x with fails:=n.toNat }/\Keep (OD g a) w (w.setCell ⟨a.db,1,none⟩ (.int .i64 (n.toNat:Nat)))):=⟨h.cell { x with fails:=n.toNat } 1 _ rfl rfl rfl,((Keep.refl (λb=>b=a.db) _).set1 _ _).mono λb e=>Or.inl e⟩
 clear h
 by_cases h0:0<=n
 .obtain⟨m,rfl⟩:∃ m:Nat,n=(m:Int):=⟨n.toNat,by omega⟩
  rw[Int.toNat_natCast] at H ⊢
  have e1:max (m:Int) 0=(m:Int):=by omega
  have e2:¬((m:Int)<0):=by omega
  go_enter Al.func17,Tryz.ntmps17
  go_wp2
  go_end0
  exact⟨rfl,H.out.1,H.out.2⟩
 .have e0:n.toNat=0:=by omega
  rw[e0] at H ⊢
  have e1:max n 0=0:=by omega
  have e2:n<0:=by omega
  go_enter Al.func17,Tryz.ntmps17
  go_wp2
  go_end0
  exact⟨rfl,H.out.1,H.out.2⟩
theorem ME{x:Sd}(h:DK g w a x) :
 Calls (PB prog false) 16 #[.pointer (some ⟨a.db,0,none⟩)] w λe w'=>e=.returned (.tuple #[.int .i64 (x.bad:Nat),.bool (decide (g.spare<x.bad)),.bool x.s.off])/\Below w.heap.size w w':=by
 have c4:w.cell? ⟨a.db,4,none⟩=some (.int .i64 (x.bad:Nat)):=h.st.cell 4
 have c6:w.cell? ⟨a.db,6,none⟩=some (.pointer (some ⟨a.cb,0,none⟩)):=h.st.cell 6
 have HL:Hid (∀ W,Below w.heap.size w W->Calls (PB prog false) 35 #[.pointer (some ⟨a.db,0,none⟩)] W λe w'=>e=.returned (.bool (decide (g.spare<x.bad)))/\Below w.heap.size w w'):=λW hW=>(fK (h.below hW)).mono λe w' hh=>⟨hh.1,hW.trans (hh.2.mono hW.size)⟩
 have HO:Hid (∀ W,Below w.heap.size w W->Calls (PB prog false) 36 #[.pointer (some ⟨a.cb,0,none⟩)] W λe w'=>e=.returned (.bool x.s.off)/\w'=W):=λW hW=>vN W (h.below hW).hc
 have HD:Hid (∀ W,Below w.heap.size w W->W.cell? ⟨a.db,4,none⟩=some (.int .i64 (x.bad:Nat))/\W.cell? ⟨a.db,6,none⟩=some (.pointer (some ⟨a.cb,0,none⟩))):=λW hW=>⟨(h.below hW).st.cell 4,(h.below hW).st.cell 6⟩
 clear h
 generalize decide (g.spare<x.bad)=lt at *
 generalize x.s.off=of at *
 generalize x.bad=bd at *
 go_enter Al.func16,Tryz.ntmps16
 go_wp2
 go_region_held3 (λw'=>w'.cell? ⟨a.db,4,none⟩=some (.int .i64 (bd:Nat))/\w'.cell? ⟨a.db,6,none⟩=some (.pointer (some ⟨a.cb,0,none⟩))) (first|assumption|exact HD.out _ hb|go_keep) (first|(go_at_call 35;refine(HL.out _ (by first|exact Below.refl _ _|exact(Below.refl _ _).drew)).mono ?_;rintro e w2 ⟨rfl,hb⟩)|(go_at_call 36;refine(HO.out _ (by first|exact hb|exact Below.refl _ _|exact(Below.refl _ _).drew)).mono ?_;rintro e w3 ⟨rfl,rfl⟩))
 have HZ:Hid (Below w.heap.size w w3):=hb
 clear hb HL HO HD
 go_wp2
 refine bodyPost_ret (v:=.tuple #[.int .i64 (bd:Nat),.bool lt,.bool of]) (by simp[results,Tryz.results16,go_sem]) rfl ?_
 exact⟨rfl,HZ.out⟩
structure LQ(g:Gm)(n:Nat)(V:Nat->List Nat)(bad bf:Nat)(x:Sd):Prop where
 st:DS g x 0\/DL g x
 off:x.s.off=false
 cut:x.cut=0
 bd:x.bad=bad
 sm:x.bad+x.fails=bf
 bfm:bf<4611686018427387904
 seq:x.seq<=20000*n
 aF:∀ j,x.s.aF j<=2000*n
 see:∀ j,j<g.L->DW.see g x j=V j
def CL(g:Gm)(R:Nat->Prop)(n:Nat)(w:World)(db:Nat)(V:Nat->List Nat)(bad bf:Nat):Prop:=∃ x,Gz g R w db x/\LQ g n V bad bf x
section
variable {g:Gm} {R R' S:Nat->Prop} {n m:Nat} {w w':World} {db:Nat} {V:Nat->List Nat} {bad bf:Nat}
theorem CL.below(h:CL g R n w db V bad bf)(hb:Below w.heap.size w w'):CL g R n w' db V bad bf:=by
 obtain⟨x,h1,h2⟩:=h
 exact⟨x,h1.below hb,h2⟩
theorem CL.more(h:CL g R n w db V bad bf)(hr:∀ b,R' b->R b\/w.heap.size<=b):CL g R' n w db V bad bf:=by
 obtain⟨x,h1,h2⟩:=h
 exact⟨x,h1.more hr,h2⟩
theorem LQ.late{x:Sd}(h:LQ g n V bad bf x)(hm:n<=m):LQ g m V bad bf x:=⟨h.st,h.off,h.cut,h.bd,h.sm,h.bfm,by have:=h.seq;omega,λj=>by have:=h.aF j;omega,h.see⟩
theorem LQ.dw{x:Sd}(h:LQ g n V bad bf x):DW g x:=h.st.elim (λe=>e.dw) (λe=>e.dw)
theorem LQ.okb{x:Sd}(h:LQ g n V bad bf x)(hd:DS g x 0)(hn:n<=100000000000000):Bd x 1072 :=
 ⟨by rw[h.cut];omega,by have:=h.sm;have:=h.bfm;omega,by have:=h.seq;omega,λj=>by have:=h.aF j;omega⟩
theorem LQ.good{x:Sd}(h:LQ g n V bad bf x)(hb:¬g.spare<bad):DS g x 0:=h.st.resolve_right λe=>by have:=e.no;have:=h.bd;omega
theorem LQ.next{x y:Sd}{V':Nat->List Nat}(h:LQ g n V bad bf x)(hm:RJ x y 1072)(hs:DS g y 0\/DL g y)(ho:y.s.off=false)(hv:∀ j,j<g.L->DW.see g y j=V' j):LQ g (n+1) V' y.bad bf y :=
 ⟨hs,ho,by have:=h.cut;have:=hm.cut;omega,rfl,by have:=h.sm;have:=hm.bf;omega,h.bfm,by have:=h.seq;have:=hm.seq;omega,λj=>by have:=h.aF j;have:=hm.aF j;omega,hv⟩
def ChL(g:Gm)(bad bad':Nat)(V V' W:Nat->List Nat)(c:Nat):Prop:=(g.spare<bad/\c=9/\V'=V/\bad'=bad)\/(¬g.spare<bad/\bad<=bad'/\((c=0/\V'=W/\¬g.spare<bad')\/(c=9/\V'=V/\g.spare<bad')))
theorem LQ.change{x y:Sd}{l c:Nat}{v:List Nat}(h:LQ g n V bad bf x)(hb:¬g.spare<bad)(hm:RJ x y 1072)(hq:ChQ g x y 0 l v c):∃ V',LQ g (n+1) V' y.bad bf y/\ChL g bad y.bad V V' (upd V l v) c:=by
 have hbm:=hm.bm
 have hbd:=h.bd
 rcases hq with ⟨rfl,q2,q3,q4,q5⟩|⟨_,_,q,⟨_,_,_,q7⟩|⟨rfl,q8,q9⟩⟩
 .refine⟨upd V l v,h.next hm (Or.inl q2) q3 λj hj=>?_,Or.inr ⟨hb,by omega,Or.inl ⟨rfl,rfl,by have:=q2.ok;omega⟩⟩⟩
  rw[q5 j hj]
  unfold upd
  split
  .rfl
  .exact h.see j hj
 .have:=h.cut;omega
 .exact⟨V,h.next hm (Or.inr q8) q9 λj hj=>(q j hj).trans (h.see j hj),Or.inr ⟨hb,by omega,Or.inr ⟨rfl,rfl,q8.no⟩⟩⟩
theorem NI(HL:Lib)(h:CL g R n w db V bad bf)(hn:n<=100000000000000)(l:Int) :
 Calls (PB prog false) 23 #[.pointer (some ⟨db,0,none⟩),.int .i64 l] w λe w'=>((jm g l≠0/\e=.returned (.tuple #[.slice none 0 0,cK (jm g l)])/\w'=w)\/(∃ j:Nat,l=j/\j<g.L/\Xb e w w' (V j))):=by
 obtain⟨x,⟨a,rfl,hdk,hod⟩,hc⟩:=h
 by_cases h0:jm g l=0
 .have hr:0<=l/\l<(g.L:Int):=by
   unfold jm at h0
   refine Classical.byContradiction λhn=>?_
   rw[if_pos hn] at h0
   cases h0
  obtain⟨j,rfl⟩:∃ j:Nat,l=j:=⟨l.toNat,by omega⟩
  refine(FK HL.is hdk hc.dw (by have:=hc.seq;omega) j (by omega) hc.off).mono ?_
  rintro e w' hq
  rw[hc.see j (by omega)] at hq
  exact Or.inr ⟨j,rfl,by omega,hq⟩
 .have e:=qC (g:=g) (l:=l) hc.off
  refine(JU hdk l (by rw[e];exact h0)).mono ?_
  rintro ev w' ⟨rfl,rfl⟩
  rw[e]
  exact Or.inl ⟨h0,rfl,rfl⟩
theorem Xc(h:CL g R n w db V bad bf) :
 Calls (PB prog false) 13 #[.pointer (some ⟨db,0,none⟩)] w λe w'=>e=.returned (.int .i64 ((g.Y-21:Nat):Int))/\w'=w:=by
 obtain⟨x,⟨a,rfl,hdk,hod⟩,hc⟩:=h
 exact nM hdk (by have:=hc.dw.y;omega)
theorem RY(h:CL g R n w db V bad bf) :
 Calls (PB prog false) 16 #[.pointer (some ⟨db,0,none⟩)] w λe w'=>e=.returned (.tuple #[.int .i64 (bad:Nat),.bool (decide (g.spare<bad)),.bool false])/\Below w.heap.size w w':=by
 obtain⟨x,⟨a,rfl,hdk,hod⟩,hc⟩:=h
 have:=ME hdk
 rw[hc.bd,hc.off] at this
 exact this
end
end Go.Proofs.aA
namespace Go.Proofs.aA
open ay aj Go.RowKit aB aD ah
structure NL(w:World)(S:Nat->Prop)(nb L m:Nat)(V:Nat->List Nat):Prop where
 row:∀ j,j<L->∃ a c,w.cell? ⟨nb,j,none⟩=some (.slice a m c)/\bN w a (V j)/\∀ b off,a=some ⟨b,off,none⟩->S b/\b≠nb
 len:∀ j,j<L->(V j).length=m
 fr:∀ j,w.frozen? ⟨nb,j,none⟩=false
 own:S nb
section
variable {w w' w1 wr:World} {S S' T R:Nat->Prop} {nb L m:Nat} {V:Nat->List Nat}
theorem r9(hk:Keep T w w'){b:Nat}(h:¬T b){o:Nat}{v:Value}(hv:w.cell? ⟨b,o,none⟩=some v):w'.cell? ⟨b,o,none⟩=some v:=(World.cell?_of_block (w:=w) (hk.block b (World.block_lt_of_cell? w _ hv) h)).trans hv
theorem gG(hk:Keep T w w'){a:Option Addr}{l:List Nat}(h:bN w a l)(hT:∀ b off,a=some ⟨b,off,none⟩->¬T b):bN w' a l:=by
 rcases h with h|⟨b,off,e,h⟩
 .exact Or.inl h
 .exact Or.inr ⟨b,off,e,λi hi=>r9 hk (hT b off e) (h i hi)⟩
theorem NL.keep(h:NL w S nb L m V)(hk:Keep T w w')(hT:∀ b,S b->¬T b)(hlt:nb<w.heap.size):NL w' S nb L m V:=by
 refine⟨λj hj=>?_,h.len,λj=>?_,h.own⟩
 .obtain⟨a,c,h1,h2,h3⟩:=h.row j hj
  exact⟨a,c,r9 hk (hT _ h.own) h1,gG hk h2 (λb off e=>hT b (h3 b off e).1),h3⟩
 .rw[World.frozen?_of_block (w:=w) (hk.block nb hlt (hT _ h.own))]
  exact h.fr j
theorem NL.more(h:NL w S nb L m V)(hs:∀ b,S b->S' b):NL w S' nb L m V :=
 ⟨λj hj=>by obtain⟨a,c,h1,h2,h3⟩:=h.row j hj;exact⟨a,c,h1,h2,λb off e=>⟨hs b (h3 b off e).1,(h3 b off e).2⟩⟩,h.len,h.fr,hs _ h.own⟩
variable {g:Gm} {n db:Nat} {bad bf N:Nat}
def PN(w1 w:World)(g:Gm)(n db nb:Nat)(V:Nat->List Nat)(bad bf:Nat):Prop :=
 ∃ R:Nat->Prop,CL g R n w db V bad bf/\(∀ b,R b->b<w.heap.size)/\(∀ b,b<w1.heap.size->R b)/\NL w R nb g.L (g.Y-21) V/\Below w1.heap.size w1 w
def PX(w1 wr w:World)(N:Nat)(X:Nat->Prop)(g:Gm)(n db nb:Nat)(Vd Vn:Nat->List Nat)(bad bf:Nat):Prop :=
 ∃ R S:Nat->Prop,CL g R n w db Vd bad bf/\(∀ b,R b->b<w.heap.size)/\(∀ b,b<w1.heap.size->R b)/\(∀ b,S b->R b/\(b<wr.heap.size\/X b))/\(∀ b,wr.heap.size<=b->b<N->R b)/\NL w S nb g.L (g.Y-21) Vn/\Below w1.heap.size w1 w/\wr.heap.size<=w.heap.size/\N<=w.heap.size
variable {X:Nat->Prop} {Vd Vn:Nat->List Nat}
theorem PN.begin(h:PN w1 wr g n db nb V bad bf)(hb:Below wr.heap.size wr w):PX w1 wr w w.heap.size (λ_=>False) g n db nb V V bad bf:=by
 obtain⟨R,h1,h2,h3,h4,h5⟩:=h
 have hs:=hb.size
 refine⟨λb=>R b\/(wr.heap.size<=b/\b<w.heap.size),R,(h1.more (λb e=>e.elim Or.inl (λe=>Or.inr e.1))).below hb,λb e=>e.elim (λe=>by have:=h2 b e;omega) (λe=>e.2),λb e=>Or.inl (h3 b e),λb e=>⟨Or.inl e,Or.inl (h2 b e)⟩,λb e1 e2=>Or.inr ⟨e1,e2⟩,h4.keep (Keep.of_below (S:=λ_=>False) hb) (λ_ _ e=>e) (h2 _ h4.own),h5.trans (hb.mono h5.size),hs,Nat.le_refl _⟩
theorem PN.cO(h:PN w1 w g n db nb V bad bf):Below w1.heap.size w1 w:=by
 obtain⟨R,h1,h2,h3,h4,h5⟩:=h
 exact h5
theorem PX.fin(h:PX w1 wr w N X g n db nb V V bad bf):PN w1 w g n db nb V bad bf:=by
 obtain⟨R,S,h1,h2,h3,h4,h5,h6,h7,h8,h9⟩:=h
 exact⟨R,h1,h2,h3,h6.more (λb e=>(h4 b e).1),h7⟩
end
end Go.Proofs.aA
namespace Go.Proofs.aA
open ah ay aj Go.RowKit aB aD ah
theorem KZ(c:Nat)(k:Int)(v:Bool)(w:World)(hv:decide ((c:Int)=k)=v):Calls (PB prog false) 12 #[cK c,.int .i64 k] w λe w'=>e=.returned (.bool v)/\w'=w:=by
 have HT:Hid (Calls (PB prog false) 34 #[cK c] w λe w'=>e=.returned (.int .i64 (c:Nat))/\w'=w):=by
  by_cases h:c=0
  .subst h;rw[bV];exact Ay w
  .rw[dW h];exact uR c w
 generalize cK c=ev at *
 go_enter Al.func12,Tryz.ntmps12
 go_wp2_with fail
 refine HT.out.mono ?_
 rintro e w1 ⟨rfl,rfl⟩
 clear HT
 go_wp2
 go_ret
 refine⟨?_,rfl⟩
 rw[<-hv]
 by_cases h:(c:Int)=k<;>simp[h]
def Lt(g:Gm)(bad:Nat):Bool:=decide (g.spare<bad)
section
variable {w1 wr w:World} {N:Nat} {X:Nat->Prop} {g:Gm} {n db nb:Nat} {Vd Vn:Nat->List Nat} {bad bf:Nat}
end
structure ZB(w wq:World)(bb k:Nat):Prop where
 keep:Keep (λb=>b=bb) w wq
 cell:∀ j,j<k->∃ x:Int,wq.cell? ⟨bb,j,none⟩=some (.int .u8 x)
 free:∀ j,wq.frozen? ⟨bb,j,none⟩=false
section
variable {w1 wr w:World} {N:Nat} {X:Nat->Prop} {g:Gm} {n db nb:Nat} {V Vd Vn:Nat->List Nat} {bad bf:Nat}
theorem TA(HL:Lib)(h:PX w1 wr w N X g n db nb Vd Vn bad bf)(hn:n<=100000000000000)(l:Int):Calls (PB prog false) 23 #[.pointer (some ⟨db,0,none⟩),.int .i64 l] w λe w'=>((jm g l≠0/\e=.returned (.tuple #[.slice none 0 0,cK (jm g l)])/\w'=w)\/(∃ j:Nat,l=j/\j<g.L/\Xb e w w' (Vd j))):=by
 obtain⟨R,S,h1,_⟩:=h
 exact NI HL h1 hn l
theorem Pq(h:PX w1 wr w N X g n db nb Vd Vn bad bf){j:Nat}(hj:j<g.L):(∃ a c,w.cell? ⟨nb,j,none⟩=some (.slice a (g.Y-21) c)/\bN w a (Vn j))/\(Vn j).length=g.Y-21:=by
 obtain⟨R,S,_,_,_,_,_,h6,_⟩:=h
 obtain⟨a,c,q1,q2,_⟩:=h6.row j hj
 exact⟨⟨a,c,q1,q2⟩,h6.len j hj⟩
end
theorem Gt.data{w wr:World}{a:Option Addr}{cap i:Nat}{l:List Nat}(h:Gt w wr a cap i l)(hi:1<=i):∃ bb,a=some ⟨bb,0,none⟩/\w.heap.size<=bb/\bb<wr.heap.size/\∀ W:World,W.heap[bb]?=wr.heap[bb]?->ZB W W bb i/\bN W (some ⟨bb,0,none⟩) l:=by
 have hl:=h.len
 rcases h.own.parts with ⟨_,_,e⟩|⟨g,cur,rfl,h1,h2,h3,h4,h5,h6⟩
 .rw[e] at hl;simp at hl;omega
 .have hlies:=h.own.lies.resolve_left (λe=>by rw[e] at hl;simp at hl;omega)
  obtain⟨g',off,e,hc⟩:=hlies
  cases e
  refine⟨g,rfl,h1,aU h2,λW hW=>?_⟩
  have hcell:∀ o,W.cell? ⟨g,o,none⟩=wr.cell? ⟨g,o,none⟩:=λo=>World.cell?_of_block hW
  refine⟨⟨Keep.refl _ _,λj hj=>⟨_,(hcell j).trans (by have:=hc j (by omega);rwa [Nat.zero_add] at this)⟩,λj=>by rw[World.frozen?_of_block (w:=wr) hW];exact dJ h2 j⟩,Or.inr ⟨g,0,rfl,λj hj=>(hcell _).trans (hc j hj)⟩⟩
theorem Jr(HL:Lib){w1 w:World}{g:Gm}{n db nb cap:Nat}{V:Nat->List Nat}{bad bf:Nat}(h:PN w1 w g n db nb V bad bf)(hn:n<=100000000000000)(hY:g.Y<=277)(hL:g.L<=256) :
 Calls (PB prog false) 19 #[.pointer (some ⟨db,0,none⟩),.slice (some ⟨nb,0,none⟩) g.L cap] w λe w'=>e=.returned (.bool true)/\Below w.heap.size w w':=by
 obtain⟨m,hm⟩:∃ m,g.Y-21=m:=⟨_,rfl⟩
 have HP:Hid (∀ W,Below w.heap.size w W->PX w1 w W W.heap.size (λ_=>False) g n db nb V V bad bf):=λW hb=>h.begin hb
 have HR:Hid (∀ (j:Nat) W,j<g.L->Below w.heap.size w W->Calls (PB prog false) 23 #[.pointer (some ⟨db,0,none⟩),.int .i64 (j:Nat)] W λe w'=>∃ gb,e=.returned (.tuple #[.slice (some ⟨gb,0,none⟩) m m,.nilIface])/\Row w' gb (V j)/\Below W.heap.size W w'):=λj W hj hb=>(TA HL (HP.out W hb) hn j).mono λe w' q=>by
  have hv:=(Pq (HP.out W hb) hj).2
  rcases q with ⟨q,_⟩|⟨i,hi,_,gb,q1,q2,q3,q4⟩
  .exact absurd (if_neg (by simp;omega)) q
  .obtain rfl:j=i:=by omega
   rw[hv,hm] at q1
   exact⟨gb,q1,q3,q4⟩
 have HN:Hid (∀ (j:Nat) W,j<g.L->Below w.heap.size w W->(∃ a c,W.cell? ⟨nb,j,none⟩=some (.slice a m c)/\bN W a (V j))/\(V j).length=m):=λj W hj hb=>by
  rw[<-hm];exact Pq (HP.out W hb) hj
 have hm2:m<=256:=by omega
 obtain⟨L,hLe⟩:∃ L,g.L=L:=⟨_,rfl⟩
 rw[hLe] at HR HN hL ⊢
 clear h hY hm HP hLe
 go_enter Al.func19,Tryz.ntmps19
 go_wp2
 go_loopw [5] (λx wq=>∃ (i:Nat),i<=L/\x=.int .i64 i/\Hid (Below w.heap.size w wq)) (λx _=>L-(intOf x).toNat)
 case atStart=>exact⟨0,Nat.zero_le _,rfl,Below.refl _ _⟩
 case round =>
  obtain⟨i,hi,rfl,hR⟩:=hrel
  by_cases hlt:i<L
  .have hrd:=HR.out i wr hlt hR.out
   go_wp2_with fail
   refine hrd.mono ?_
   rintro e wb ⟨gb,rfl,hrow,hb⟩
   have hwb:=hR.out.trans (hb.mono hR.out.size)
   obtain⟨⟨na,nc,hcell,hlies⟩,hv⟩:=HN.out i wb hlt hwb
   have hby:=nW (some ⟨gb,0,none⟩) na (V i) (V i) m nc wb (by omega) (by omega) (gZ hrow) hlies
   rw[decide_eq_true rfl,hv] at hby
   have HB:Hid (Below w.heap.size w wb):=hwb
   clear hrd hrow hb hwb hlies hv hR
   go_wp2_with fail
   refine hby.mono ?_
   rintro e wc ⟨rfl,hbc⟩
   have HC:Hid (Below w.heap.size w wc):=HB.out.trans (hbc.mono HB.out.size)
   clear hby hbc HB hcell
   go_wp2
   exact⟨⟨i+1,by omega,by go_num,HC.out⟩,by simp[intOf];omega⟩
  .obtain rfl:i=L:=by omega
   go_wp2
   go_ret
   exact⟨rfl,hR.out⟩
structure BN(w wr:World)(a:Option Addr)(cap i m:Nat)(L:List Pg):Prop where
 own:lY wr w.heap.size a cap L
 len:L.length=i
 el:∀ k,k<i->∃ b,gP L k=⟨some ⟨b,0,none⟩,List.replicate m 0,m⟩/\w.heap.size<=b/\Row wr b (List.replicate m 0)
 cO:Below w.heap.size w wr
theorem X3{L:List Pg}{x:Pg}{k:Nat}:gP (L++[x]) k=if k<L.length then gP L k else if k=L.length then x else pg0:=by
 unfold gP
 by_cases h:k<L.length
 .rw[if_pos h,List.getElem?_append_left h]
 .rw[if_neg h,List.getElem?_append_right (by omega)]
  by_cases e:k=L.length
  .rw[if_pos e,e];simp
  .rw[if_neg e,List.getElem?_eq_none (by simp;omega)];rfl
theorem lX{w:World}{base cap:Nat}{a:Option Addr}{L:List Pg}(h:lY w base a cap L){b:Nat}{l:List Nat}(hr:Row w b l):¬blk a b:=by
 rintro ⟨x,rfl,rfl⟩
 rcases h.parts with ⟨e,_⟩|⟨g,cur,e,h1,h2,_⟩
 .cases e
 .cases e
  have e2:some (Obj.cells cur 60 (0,0))=some (Obj.cells (l.map bv).toArray 5 (0,0)):=h2.symm.trans hr
  injection e2 with e2
  injection e2 with _ e3 _
  exact absurd e3 (by decide)
theorem GJ(n m:Nat)(w:World)(hn:n<=256)(hm:m<=256) :
 Calls (PB prog false) 14 #[.int .i64 (n:Nat),.int .i64 (m:Nat)] w λe w'=>∃ a cap L,e=.returned (.slice a n cap)/\BN w w' a cap n m L:=by
 have H0:Hid (BN w w none 0 0 m []):=⟨⟨rfl,Or.inl ⟨rfl,rfl⟩⟩,rfl,(λk hk=>by omega),Below.refl _ _⟩
 have hmk:=ah.jv (zb:=false) m (by omega)
 go_enter Al.func14,Tryz.ntmps14
 go_wp2
 go_loopw [5,6] (λv x wq=>∃ (i:Nat) (a:Option Addr) (cap:Nat) (L:List Pg),i<=n/\v=.slice a i cap/\x=.int .i64 i/\Hid (BN w wq a cap i m L)) (λ_ x _=>n-(intOf x).toNat)
 case atStart=>exact⟨0,none,0,[],Nat.zero_le _,rfl,rfl,H0.out⟩
 case round =>
  obtain⟨i,a,cap,L,hi,rfl,rfl,hR⟩:=hrel
  clear H0
  by_cases hlt:i<n
  .obtain⟨L1,hL1⟩:∃ L1,L1=L++[(⟨some ⟨wr.heap.size,0,none⟩,List.replicate m 0,m⟩:Pg)]:=⟨_,rfl⟩
   have zI:Hid (L.length=i/\L1.length=i+1/\L1=L++[(⟨some ⟨wr.heap.size,0,none⟩,List.replicate m 0,m⟩:Pg)]):=⟨hR.out.len,by rw[hL1,List.length_append,hR.out.len];rfl,hL1⟩
   have HO:Hid (∀ o o2,lY ((wr.alloc o).alloc o2) w.heap.size a cap L/\w.heap.size<=((wr.alloc o).alloc o2).heap.size):=λo o2=>⟨(hR.out.own.below (aC wr o)).below (aC _ o2),Nat.le_trans hR.out.cO.size (Nat.le_trans (aC wr o).size (aC _ o2).size)⟩
   have HX:Hid (D8 ((wr.alloc (.cells (ah.qK m) 5)).alloc (.cells #[.slice (some ⟨wr.heap.size,0,none⟩) m m] 60)) (some ⟨wr.heap.size+1,0,none⟩) [(⟨some ⟨wr.heap.size,0,none⟩,List.replicate m 0,m⟩:Pg)]):=by
    refine Or.inr ⟨_,0,rfl,λk hk=>?_⟩
    obtain rfl:k=0:=by simpa using hk
    simp[oW,gP]
   clear hL1
   go_wp2_with (at_builtin;refine Aa rfl (.tmp 12) (.tmp 15) rfl w.heap.size a cap L i zI.out.1.symm rfl (HO.out _ _).1 (some ⟨wr.heap.size+1,0,none⟩) 1 [(⟨some ⟨wr.heap.size,0,none⟩,List.replicate m 0,m⟩:Pg)] 1 rfl rfl (λe=>by cases e) HX.out L1 zI.out.2.2 (by rw[zI.out.2.1];omega) (HO.out _ _).2 ?_)
   intro a1 c1 w2 hO hK
   have H2:Hid (BN w w2 a1 c1 (i+1) m L1):=by
    have hb2:Below wr.heap.size wr ((wr.alloc (.cells (ah.qK m) 5)).alloc (.cells #[.slice (some ⟨wr.heap.size,0,none⟩) m m] 60)):=(aC wr _).trans ((aC _ _).mono (aC wr _).size)
    have hz:Row ((wr.alloc (.cells (ah.qK m) 5)).alloc (.cells #[.slice (some ⟨wr.heap.size,0,none⟩) m m] 60)) wr.heap.size (List.replicate m 0):=Row.below (heap_alloc_new wr _) (aC _ _)
    have DF:=(HO.out (.cells (ah.qK m) 5) (.cells #[.slice (some ⟨wr.heap.size,0,none⟩) m m] 60)).1
    refine⟨hO,zI.out.2.1,λk hk=>?_,(hR.out.cO.trans (hb2.mono hR.out.cO.size)).trans (hK.below (HO.out _ _).2 (λb e=>(DF.ge e).1))⟩
    rw[zI.out.2.2,X3,zI.out.1]
    by_cases e:k<i
    .rw[if_pos e]
     obtain⟨b,q1,q2,q3⟩:=hR.out.el k e
     exact⟨b,q1,q2,(q3.below hb2).keep hK (lX DF (q3.below hb2))⟩
    .rw[if_neg e,if_pos (by omega)]
     exact⟨_,rfl,hR.out.cO.size,hz.keep hK (lX DF hz)⟩
   rw[zI.out.2.1]
   clear HO hO hK hR zI HX
   go_wp2
   exact⟨⟨i+1,a1,c1,L1,by omega,rfl,by go_num,H2.out⟩,by simp[intOf];omega⟩
  .obtain rfl:i=n:=by omega
   go_wp2
   go_ret
   exact⟨a,cap,L,rfl,hR.out⟩
