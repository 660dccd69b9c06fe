/- Part of the proof. -/
import Derived.Test.YtjlgehmebfkioaaGreatDoorZ13
import Derived.Test.YtjlgehmebfkioaaGreatDoorZ05
import Derived.Shelf.Slices.SearchI
import Derived.Shelf.Sort.Plain
import Derived.Test.YtjlgehmebfkioaaGreatDoorZ09
set_option maxRecDepth 100000
open Go.Proofs.Tryz (prog)
open Go.Proofs.ah.Al (PB)
set_option maxHeartbeats 3200000
set_option linter.unusedVariables false
namespace Go.Proofs.aA
open ah au aj Go.RowKit aB aD ah
def o9:Gm:=⟨1,6,2,24,2,0⟩
theorem OT:Geo o9.D o9.B o9.P o9.Y:=⟨by decide,by decide,by decide,by decide,by decide,by decide,by decide,by decide,by decide⟩
theorem Ao(w:World):Row (w.alloc (.cells #[.int .u8 1,.int .u8 2,.int .u8 3] 5)) w.heap.size [1,2,3]:=heap_alloc_new w _
theorem xR{B:Nat}{R:Nat->Prop}{w w':World}(h:Keep (λb=>¬R b) w w')(hB:B<=w.heap.size)(hr:∀ b,b<B->R b):Below B w w':=h.below hB (λb e=>Nat.le_of_not_lt (λhb=>e (hr b hb)))
theorem Dv(HL:Lib)(w:World):Calls (PB prog false) 9 #[] w λe w'=>e=.returned (.bool true)/\Below w.heap.size w w':=by
 have HN:Hid (Calls (PB prog false) 10 #[.agg #[.int .i64 1,.int .i64 6,.int .i64 2,.int .i64 24],.int .i64 2,.int .i64 0] w λe w'=>∃ db,e=.returned (.tuple #[.pointer (some ⟨db,0,none⟩),.nilIface])/\CO o9 (λb=>b<w.heap.size) 0 w' db (λ_=>List.replicate 3 0)/\Below w.heap.size w w'):=Vv HL (g:=o9) (λb=>b<w.heap.size) w OT (by decide) (λb hb=>hb)
 go_enter Al.func9,Tryz.ntmps9
 go_wp2_with fail
 refine HN.out.mono ?_
 rintro e w1 ⟨db,rfl,hc1,hb1⟩
 have hwr:=JD HL (g:=o9) (R:=λb=>b<w.heap.size\/b=w1.heap.size) (hc1.more (λb hb=>hb.elim Or.inl (λe=>Or.inr (by omega))) |>.below (aC w1 (.cells #[.int .u8 1,.int .u8 2,.int .u8 3] 5))) (by omega) 0 (some ⟨w1.heap.size,0,none⟩) 3 [1,2,3] (λx hx=>by simp at hx;omega) (iJ (Ao w1)) (λb off e=>by cases e;exact Or.inr rfl) (by simp)
 have HB1:Hid (Below w.heap.size w (w1.alloc (.cells #[.int .u8 1,.int .u8 2,.int .u8 3] 5))):=hb1.alloc hb1.size _
 have hc0:o7 o9 0 ([1,2,3]:List Nat).length=0:=by decide
 rw[hc0,if_pos rfl,bX] at hwr
 clear hc1 hb1 HN
 go_wp2_with fail
 refine hwr.mono ?_
 rintro e w2 ⟨rfl,hc2,hk2⟩
 have HB2:Hid (Below w.heap.size w w2):=HB1.out.trans (xR hk2 HB1.out.size (λb hb=>Or.inl hb))
 have hrd:=Xo HL hc2 (by omega) 0
 have HC2:Hid (CO o9 (λb=>b<w.heap.size\/b=w1.heap.size) (0+1) w2 db (upd (λ_=>List.replicate 3 0) (0:Int).toNat [1,2,3])):=hc2
 clear hwr hc2 hk2 HB1
 go_wp2_with fail
 refine hrd.mono ?_
 rintro e w3 (⟨h0,_⟩|⟨j,hj,hj2,gb,rfl,hge,hrow,hb3⟩)
 .exact absurd (by decide) h0
 .obtain rfl:j=0:=by omega
  have ev:upd (λ_=>List.replicate 3 0) (0:Int).toNat [1,2,3] 0=[1,2,3]:=rfl
  rw[ev] at hrow ⊢
  have HB3:Hid (Below w.heap.size w (w3.alloc (.cells #[.int .u8 1,.int .u8 2,.int .u8 3] 5))/\CO o9 (λb=>b<w.heap.size\/b=w1.heap.size) (0+1) (w3.alloc (.cells #[.int .u8 1,.int .u8 2,.int .u8 3] 5)) db (upd (λ_=>List.replicate 3 0) (0:Int).toNat [1,2,3])):=by
   have h1:=HB2.out.trans (hb3.mono HB2.out.size)
   exact⟨h1.alloc h1.size _,(HC2.out.below hb3).below (aC _ _)⟩
  have hby:=nT (some ⟨gb,0,none⟩) (some ⟨w3.heap.size,0,none⟩) [1,2,3] [1,2,3] 3 3 (w3.alloc (.cells #[.int .u8 1,.int .u8 2,.int .u8 3] 5)) (by simp) (by simp) (iJ (hrow.below (aC _ _))) (iJ (Ao w3))
  rw[decide_eq_true rfl] at hby
  clear hrd HC2 HB2 hj hj2 hge hrow hb3 ev
  go_wp2_with fail
  refine hby.mono ?_
  rintro e w4 ⟨rfl,hb4⟩
  have Sk:Hid (Below w.heap.size w w4):=HB3.out.1.trans (hb4.mono HB3.out.1.size)
  have hsz:=M_ (HB3.out.2.below hb4)
  clear hby HB3 hb4
  go_wp2_with fail
  refine hsz.mono ?_
  rintro e w5 ⟨rfl,rfl⟩
  clear hsz
  go_wp2
  go_ret
  exact⟨rfl,Sk.out⟩
end Go.Proofs.aA
namespace Go.Proofs.aA
open ah au aj Go.RowKit
theorem xS(v:Value)(w:World):(Instr.typeAssert (.iface 31 v) 28 31 true).run (PB prog false) w=.ok (.tuple #[v,.bool true]) w:=by kernel_rfl
theorem Cw(w:World):(Instr.typeAssert .nilIface 28 31 true).run (PB prog false) w=.ok (.tuple #[.int .i64 0,.bool false]) w:=by kernel_rfl
theorem JE(m:Int)(W:World):Calls (PB prog false) 42 #[.nilIface,.iface 31 (.int .i64 m)] W λe w'=>e=.returned (.bool false)/\w'=W:=by
 have h1:=Cw
 have h2:=xS (.int .i64 m)
 go_enter Al.func42,Al.ntmps42
 unfold Al.K4
 go_wp2
 go_ret
 exact⟨rfl,rfl⟩
theorem Ap(n m:Int)(W:World):Calls (PB prog false) 42 #[.iface 31 (.int .i64 n),.iface 31 (.int .i64 m)] W λe w'=>e=.returned (.bool (n==m))/\w'=W:=by
 have h1:=xS (.int .i64 n)
 have h2:=xS (.int .i64 m)
 go_enter Al.func42,Al.ntmps42
 unfold Al.K4
 go_wp2
 go_ret
 exact⟨rfl,rfl⟩
theorem abC:Cn:=λn m hm W=>by
 have hB:Below W.heap.size W W:=Below.refl _ _
 by_cases h0:n=0
 .subst h0
  rw[bX,decide_eq_false (λe=>hm e.symm)]
  exact(JE m W).mono λe w' h=>⟨h.1,by rw[h.2];exact hB⟩
 .rw[eY h0]
  refine(Ap n m W).mono λe w' h=>⟨?_,by rw[h.2];exact hB⟩
  rw[h.1]
  congr 2
  rw[Bool.eq_iff_iff]
  simp
  omega
end Go.Proofs.aA
namespace Go.Proofs.aA
open ah au aj Go.RowKit aB aD ah
def SL(w:World)(a:Option Addr)(n:Nat):Prop:=n=0\/∃ g off,a=some ⟨g,off,none⟩/\∀ i,i<n->∃ x y z:Int,w.cell? ⟨g,off+i*3,none⟩=some (.int .i64 x)/\w.cell? ⟨g,off+i*3+1,none⟩=some (.int .i64 y)/\w.cell? ⟨g,off+i*3+2,none⟩=some (.int .i64 z)/\(-9223372036854775808<=y/\y<=9223372036854775807)
theorem SL.below{w w':World}{a:Option Addr}{n:Nat}(h:SL w a n)(hb:Below w.heap.size w w'):SL w' a n:=by
 rcases h with h|⟨g,off,e,h⟩
 .exact Or.inl h
 .refine Or.inr ⟨g,off,e,λi hi=>?_⟩
  obtain⟨x,y,z,h0,h1,h2,h3⟩:=h i hi
  have k:∀ (o:Nat) (v:Value),w.cell? ⟨g,o,none⟩=some v->w'.cell? ⟨g,o,none⟩=some v:=λo v hv=>(hb.cell (p:=⟨g,o,none⟩) (World.block_lt_of_cell? w _ hv)).trans hv
  exact⟨x,y,z,k _ _ h0,k _ _ h1,k _ _ h2,h3⟩
def Gi(g0 g1 g2 g3 lb sp:Int):Prop:=¬zq g0 g1 g2 g3\/∃ D B P Y:Nat,g0=D/\g1=B/\g2=P/\g3=Y/\Geo D B P Y/\qm D B P Y lb sp≠0
theorem Gj{g0 g1 g2 g3 lb sp:Int}(w:World)(h:Gi g0 g1 g2 g3 lb sp):Calls (PB prog false) 10 #[.agg #[.int .i64 g0,.int .i64 g1,.int .i64 g2,.int .i64 g3],.int .i64 lb,.int .i64 sp] w λe w'=>∃ c:Nat,c≠0/\e=.returned (.tuple #[.pointer none,.iface 31 (.int .i64 (c:Nat))])/\Below w.heap.size w w':=by
 rcases h with h|⟨D,B,P,Y,rfl,rfl,rfl,rfl,hG,hc⟩
 .refine(Sq g0 g1 g2 g3 lb sp w h).mono ?_
  rintro e w' ⟨rfl,hb⟩
  exact⟨1,by omega,rfl,hb⟩
 .refine(OL lb sp w hG hc).mono ?_
  rintro e w' ⟨rfl,hb⟩
  exact⟨_,hc,by rw[eY hc],hb⟩
theorem Rp(g0 g1 g2 g3 lb sp:Int):Gi g0 g1 g2 g3 lb sp\/∃ g:Gm,g0=g.D/\g1=g.B/\g2=g.P/\g3=g.Y/\lb=g.L/\sp=g.spare/\Geo g.D g.B g.P g.Y/\qm g.D g.B g.P g.Y (g.L:Int) (g.spare:Int)=0:=by
 by_cases h:zq g0 g1 g2 g3
 .obtain⟨D,B,P,Y,rfl,rfl,rfl,rfl,hG⟩:=h.nat
  by_cases hc:qm D B P Y lb sp=0
  .obtain⟨L,spare,rfl,rfl,_⟩:=A9 hG hc
   exact Or.inr ⟨⟨D,B,P,Y,L,spare⟩,rfl,rfl,rfl,rfl,rfl,rfl,hG,hc⟩
  .exact Or.inl (Or.inr ⟨D,B,P,Y,rfl,rfl,rfl,rfl,hG,hc⟩)
 .exact Or.inl (Or.inl h)
structure LS(w1 wq:World)(g:Gm)(n db:Nat)(V:Nat->List Nat):Prop where
 co:CO g (λb=>b<w1.heap.size) n wq db V
 dh:Below w1.heap.size w1 wq
theorem LS.below{w1 wq w':World}{g:Gm}{n db:Nat}{V:Nat->List Nat}(h:LS w1 wq g n db V)(hb:Below wq.heap.size wq w'):LS w1 w' g n db V:=⟨h.co.below hb,h.dh.trans (hb.mono h.dh.size)⟩
theorem LS.write(HL:Lib){w1 wr wq w2:World}{g:Gm}{n db:Nat}{V:Nat->List Nat}{a:Option Addr}{cap m:Nat}{l:List Nat}(h:LS w1 wr g n db V)(hal:Below wr.heap.size wr wq)(hn:n<=100000000000000)(hb:LP wq w2 a cap m l)(hm:m<=1000000)(fT:Int) :
 Calls (PB prog false) 27 #[.pointer (some ⟨db,0,none⟩),.int .i64 fT,.slice a m cap] w2 λe w'=>e=.returned (cu (o7 g fT m))/\LS w1 w' g (n+1) db (if o7 g fT m=0 then upd V fT.toNat l else V)/\(∀ b,wr.heap.size<=b->b<w2.heap.size->w'.heap[b]?=w2.heap[b]?):=by
 have hs:=h.dh.size
 have hw:Below wr.heap.size wr w2:=hal.trans (hb.dh.mono hal.size)
 have hco:CO g (λb=>b<w1.heap.size\/(wr.heap.size<=b/\b<w2.heap.size)) n w2 db V:=(h.co.more (R':=λb=>b<w1.heap.size\/(wr.heap.size<=b/\b<w2.heap.size)) (λb e=>e.elim Or.inl (λe2=>Or.inr e2.1))).below hw
 have hx:=JD HL hco hn fT a cap l hb.all hb.own.lies (λb off e=>by
  have:=hb.own.ge (b:=b) ⟨_,e,rfl⟩
  have:=hal.size
  exact Or.inr ⟨by omega,by omega⟩) (by rw[hb.len];omega)
 rw[hb.len] at hx
 refine hx.mono ?_
 rintro e w' ⟨rfl,q1,q2⟩
 have h2:=h.below hw
 exact⟨rfl,⟨q1.more (λb e=>Or.inl (Or.inl e)),h2.dh.trans (xR q2 h2.dh.size (λb e=>Or.inl e))⟩,λb h3 h4=>q2.block b h4 (λe=>e (Or.inr ⟨h3,h4⟩))⟩
end Go.Proofs.aA
namespace Go.Proofs.aA
open au aj Go.RowKit aB aD ah
theorem Sy(p:List Nat):(stP p==2&&(y7 p==1||y7 p==2))=true↔oP p:=by
 unfold oP
 rw[<-zQ]
 simp only[Bool.and_eq_true,Bool.or_eq_true,beq_iff_eq]
 unfold stP y7 qw
 cases h1:iK p<;>cases h2:pQ p<;>simp
theorem xU{p:List Nat}(h:oP p):y9 p=bR p/\Bj p=bM p:=by
 have:=(zQ p).2 h.1
 unfold y9 Bj
 rw[this]
 exact⟨rfl,rfl⟩
theorem Cy{L:List Pg}{i:Nat}:i∈flt L L.length↔i<L.length/\oP (gP L i).p:=by
 unfold flt
 rw[List.mem_filter,List.mem_range]
 refine and_congr_right λ_=>?_
 exact Sy _
theorem Xp{N:List ah.Fd}{i:Nat}(h:i<N.length):gF N i∈N:=by
 unfold gF
 rw[List.getElem?_eq_getElem h]
 exact List.getElem_mem h
theorem abD(L:List Pg):NF L.length (λi=>(gP L i).p) (newF L).length (λi=>(gF (newF L) i).lb) (λi=>(gF (newF L) i).pg) (λi=>(gF (newF L) i).sq):=by
 have hI:VG (mV L) (flt L L.length) (newF L):=WM _ _
 refine⟨λi j hij hj=>?_,λi hi=>?_,λp hp hc=>?_⟩
 .have:=List.pairwise_iff_getElem.1 hI.rise i j (by omega) hj hij
  unfold gF
  rw[List.getElem?_eq_getElem hj,List.getElem?_eq_getElem (show i<(newF L).length by omega)]
  exact this
 .obtain⟨p,hp,e,hb⟩:=hI.best _ (Xp hi)
  obtain⟨p1,p2⟩:=Cy.1 hp
  obtain⟨t1,t2⟩:=xU p2
  have e1:(gF (newF L) i).pg=p:=by rw[e];rfl
  have e2:(gF (newF L) i).lb=bR (gP L p).p:=by rw[e];exact t1
  have e3:(gF (newF L) i).sq=bM (gP L p).p:=by rw[e];exact t2
  rw[e1,e2,e3]
  refine⟨p1,p2,rfl,rfl,λq hq hc hl=>?_⟩
  obtain⟨s1,s2⟩:=xU hc
  have hlt:=hb q (Cy.2 ⟨hq,hc⟩) (by rw[e2];show y9 (gP L q).p=_;rw[s1];exact hl)
  unfold BK at hlt
  have f1:(mV L q).lb=(mV L p).lb:=by show y9 _=y9 _;rw[s1,t1];exact hl
  have f2:(mV L q).sq=bM (gP L q).p:=s2
  have f3:(mV L p).sq=bM (gP L p).p:=t2
  rw[f2,f3] at hlt
  rcases Nat.lt_or_ge (bM (gP L p).p) (bM (gP L q).p) with h|h
  .exact(hlt (Or.inr ⟨f1,Or.inl h⟩)).elim
  .exact h
 .obtain⟨e,he,hl⟩:=hI.all p (Cy.2 ⟨hp,hc⟩)
  obtain⟨i,hi,rfl⟩:=List.mem_iff_getElem.1 he
  refine⟨i,hi,?_⟩
  unfold gF
  rw[List.getElem?_eq_getElem hi]
  show (newF L)[i].lb=_
  rw[hl]
  exact(xU hc).1
theorem Sz(L:List Pg):(newF L).length<=L.length:=by
 unfold newF za Dp
 rw[List.length_map]
 refine Nat.le_trans (List.length_filter_le _ _) ?_
 rw[List.length_range,List.length_map]
 have:=(EA (mV L) (flt L L.length)).length_eq
 rw[this]
 exact BP L L.length
theorem Xq:Fh:=λpa pc L w hl hp=>(G5 pa pc L 8 w (by decide) (by decide) hl hp).mono λe w' ⟨a,cap,h1,h2,h3⟩=>by
 refine⟨a,cap,(newF L).length,_,_,_,λi=>(gF (newF L) i).kd,h1,?_,abD L,Sz L,h3⟩
 rcases h2.at with e|⟨g,off,rfl,hc⟩
 .exact Or.inl (by rw[e];rfl)
 .exact Or.inr ⟨g,off,rfl,λi hi=>hc i hi⟩
end Go.Proofs.aA
namespace Go.Proofs.aA
open ah Go.Shelf
def LU:Go.Shelf.Ren:=⟨fun|25=>121|31=>160|32=>161|37=>113|n=>n,fun|22=>114|3=>3|4=>4|40=>93|0=>0|n=>n,fun|n=>n⟩
theorem abE:Go.Proofs.Lays2.n25 (PB prog false) LU:={
 mixed:=by kernel_rfl
 f25:=Al.func121.trans (congrArg some (by kernel_rfl))
 f31:=Al.func160.trans (congrArg some (by kernel_rfl))
 f32:=Al.func161.trans (congrArg some (by kernel_rfl))
 f37:=Al.func113.trans (congrArg some (by kernel_rfl))
 t0:=((Al.und 0).trans Tryz.underlying0)
 a0:=λw=>(Al.agg 0 w).trans (Tryz.isAgg0 w)
 z0:=λw=>(Al.jl 0 w).trans (Tryz.sizeOf0 w)
 v0:=λw=>(Al.jm 0 w).trans (Tryz.zeroValue0 w)
 t3:=((Al.und 3).trans Tryz.underlying3)
 a3:=λw=>(Al.agg 3 w).trans (Tryz.isAgg3 w)
 z3:=λw=>(Al.jl 3 w).trans (Tryz.sizeOf3 w)
 v3:=λw=>(Al.jm 3 w).trans (Tryz.zeroValue3 w)
 t4:=((Al.und 4).trans Tryz.underlying4)
 a4:=λw=>(Al.agg 4 w).trans (Tryz.isAgg4 w)
 z4:=λw=>(Al.jl 4 w).trans (Tryz.sizeOf4 w)
 v4:=λw=>(Al.jm 4 w).trans (Tryz.zeroValue4 w)
 t22:=((Al.und 114).trans Tryz.underlying114)
 a22:=λw=>(Al.agg 114 w).trans (Tryz.isAgg114 w)
 z22:=λw=>(Al.jl 114 w).trans (Tryz.sizeOf114 w)
 v22:=λw=>(Al.jm 114 w).trans (Tryz.zeroValue114 w)
 t40:=((Al.und 93).trans Tryz.underlying93)
 a40:=λw=>(Al.agg 93 w).trans (Tryz.isAgg93 w)
 z40:=λw=>(Al.jl 93 w).trans (Tryz.sizeOf93 w)
 v40:=λw=>(Al.jm 93 w).trans (Tryz.zeroValue93 w) }
def LV:Go.Shelf.Ren:=⟨fun|189=>120|125=>112|257=>159|128=>155|129=>156|294=>175|295=>176|296=>177|297=>178|298=>179|299=>180|216=>160|300=>181|301=>182|328=>185|329=>171|330=>172|331=>186|332=>187|215=>113|343=>196|n=>n,fun|28=>114|3=>3|46=>93|0=>0|51=>92|53=>199|4=>4|183=>240|182=>239|131=>216|5=>5|9=>9|218=>262|222=>265|228=>273|229=>130|n=>n,fun|n=>n⟩
theorem abF:Go.Proofs.Lays.n189 (PB prog false) LV:={
 mixed:=by kernel_rfl
 f125:=Al.func112.trans (congrArg some (by kernel_rfl))
 f128:=Al.func155.trans (congrArg some (by kernel_rfl))
 f129:=Al.func156.trans (congrArg some (by kernel_rfl))
 f189:=Al.func120.trans (congrArg some (by kernel_rfl))
 f215:=Al.func113.trans (congrArg some (by kernel_rfl))
 f216:=Al.func160.trans (congrArg some (by kernel_rfl))
 f257:=Al.func159.trans (congrArg some (by kernel_rfl))
 f294:=Al.func175.trans (congrArg some (by kernel_rfl))
 f295:=Al.func176.trans (congrArg some (by kernel_rfl))
 f296:=Al.func177.trans (congrArg some (by kernel_rfl))
 f297:=Al.func178.trans (congrArg some (by kernel_rfl))
 f298:=Al.func179.trans (congrArg some (by kernel_rfl))
 f299:=Al.func180.trans (congrArg some (by kernel_rfl))
 f300:=Al.func181.trans (congrArg some (by kernel_rfl))
 f301:=Al.func182.trans (congrArg some (by kernel_rfl))
 f328:=Al.func185.trans (congrArg some (by kernel_rfl))
 f329:=Al.func171.trans (congrArg some (by kernel_rfl))
 f330:=Al.func172.trans (congrArg some (by kernel_rfl))
 f331:=Al.func186.trans (congrArg some (by kernel_rfl))
 f332:=Al.func187.trans (congrArg some (by kernel_rfl))
 f343:=Al.func196.trans (congrArg some (by kernel_rfl))
 t0:=((Al.und 0).trans Tryz.underlying0)
 a0:=λw=>(Al.agg 0 w).trans (Tryz.isAgg0 w)
 z0:=λw=>(Al.jl 0 w).trans (Tryz.sizeOf0 w)
 v0:=λw=>(Al.jm 0 w).trans (Tryz.zeroValue0 w)
 t3:=((Al.und 3).trans Tryz.underlying3)
 a3:=λw=>(Al.agg 3 w).trans (Tryz.isAgg3 w)
 z3:=λw=>(Al.jl 3 w).trans (Tryz.sizeOf3 w)
 v3:=λw=>(Al.jm 3 w).trans (Tryz.zeroValue3 w)
 t4:=((Al.und 4).trans Tryz.underlying4)
 a4:=λw=>(Al.agg 4 w).trans (Tryz.isAgg4 w)
 z4:=λw=>(Al.jl 4 w).trans (Tryz.sizeOf4 w)
 v4:=λw=>(Al.jm 4 w).trans (Tryz.zeroValue4 w)
 t5:=((Al.und 5).trans Tryz.underlying5)
 a5:=λw=>(Al.agg 5 w).trans (Tryz.isAgg5 w)
 z5:=λw=>(Al.jl 5 w).trans (Tryz.sizeOf5 w)
 v5:=λw=>(Al.jm 5 w).trans (Tryz.zeroValue5 w)
 t9:=((Al.und 9).trans Tryz.underlying9)
 a9:=λw=>(Al.agg 9 w).trans (Tryz.isAgg9 w)
 z9:=λw=>(Al.jl 9 w).trans (Tryz.sizeOf9 w)
 v9:=λw=>(Al.jm 9 w).trans (Tryz.zeroValue9 w)
 t28:=((Al.und 114).trans Tryz.underlying114)
 a28:=λw=>(Al.agg 114 w).trans (Tryz.isAgg114 w)
 z28:=λw=>(Al.jl 114 w).trans (Tryz.sizeOf114 w)
 v28:=λw=>(Al.jm 114 w).trans (Tryz.zeroValue114 w)
 t46:=((Al.und 93).trans Tryz.underlying93)
 a46:=λw=>(Al.agg 93 w).trans (Tryz.isAgg93 w)
 z46:=λw=>(Al.jl 93 w).trans (Tryz.sizeOf93 w)
 v46:=λw=>(Al.jm 93 w).trans (Tryz.zeroValue93 w)
 t51:=((Al.und 92).trans Tryz.underlying92)
 a51:=λw=>(Al.agg 92 w).trans (Tryz.isAgg92 w)
 z51:=λw=>(Al.jl 92 w).trans (Tryz.sizeOf92 w)
 v51:=λw=>(Al.jm 92 w).trans (Tryz.zeroValue92 w)
 t53:=((Al.und 199).trans Tryz.underlying199)
 a53:=λw=>(Al.agg 199 w).trans (Tryz.isAgg199 w)
 z53:=λw=>(Al.jl 199 w).trans (Tryz.sizeOf199 w)
 v53:=λw=>(Al.jm 199 w).trans (Tryz.zeroValue199 w)
 t131:=((Al.und 216).trans Tryz.underlying216)
 a131:=λw=>(Al.agg 216 w).trans (Tryz.isAgg216 w)
 z131:=λw=>(Al.jl 216 w).trans (Tryz.sizeOf216 w)
 v131:=λw=>(Al.jm 216 w).trans (Tryz.zeroValue216 w)
 t182:=((Al.und 239).trans Tryz.underlying239)
 a182:=λw=>(Al.agg 239 w).trans (Tryz.isAgg239 w)
 z182:=λw=>(Al.jl 239 w).trans (Tryz.sizeOf239 w)
 v182:=λw=>(Al.jm 239 w).trans (Tryz.zeroValue239 w)
 t183:=((Al.und 240).trans Tryz.underlying240)
 a183:=λw=>(Al.agg 240 w).trans (Tryz.isAgg240 w)
 z183:=λw=>(Al.jl 240 w).trans (Tryz.sizeOf240 w)
 v183:=λw=>(Al.jm 240 w).trans (Tryz.zeroValue240 w)
 t218:=((Al.und 262).trans Tryz.underlying262)
 a218:=λw=>(Al.agg 262 w).trans (Tryz.isAgg262 w)
 z218:=λw=>(Al.jl 262 w).trans (Tryz.sizeOf262 w)
 v218:=λw=>(Al.jm 262 w).trans (Tryz.zeroValue262 w)
 t222:=((Al.und 265).trans Tryz.underlying265)
 a222:=λw=>(Al.agg 265 w).trans (Tryz.isAgg265 w)
 z222:=λw=>(Al.jl 265 w).trans (Tryz.sizeOf265 w)
 v222:=λw=>(Al.jm 265 w).trans (Tryz.zeroValue265 w)
 t228:=((Al.und 273).trans Tryz.underlying273)
 a228:=λw=>(Al.agg 273 w).trans (Tryz.isAgg273 w)
 z228:=λw=>(Al.jl 273 w).trans (Tryz.sizeOf273 w)
 v228:=λw=>(Al.jm 273 w).trans (Tryz.zeroValue273 w)
 t229:=((Al.und 130).trans Tryz.underlying130)
 a229:=λw=>(Al.agg 130 w).trans (Tryz.isAgg130 w)
 z229:=λw=>(Al.jl 130 w).trans (Tryz.sizeOf130 w)
 v229:=λw=>(Al.jm 130 w).trans (Tryz.zeroValue130 w) }
end Go.Proofs.aA
namespace Go.Proofs.aA
open ah au aj Go.RowKit Go.Shelf Go.Sort
def qd(n:Nat)(f:Nat->Int):List Int:=(List.range n).map f
theorem jH(n:Nat)(f:Nat->Int):(qd n f).length=n:=by simp[qd]
theorem SA{n:Nat}{f:Nat->Int}{i:Nat}(h:i<n):(qd n f)[i]?=some (f i):=by unfold qd;rw[List.getElem?_map,List.getElem?_range h];rfl
theorem SC:qb:=λgb n f W h1 h2 hI=>by
 have hH:Holds (Value.int .i64) W gb 0 (qd n f).toArray:=λj hj=>by
  have hj':j<n:=by simpa [qd] using hj
  refine⟨?_,hI.free _⟩
  rw[Nat.zero_add,hI.cell j hj']
  have e:(qd n f).toArray[j]! = f j:=by
   rw[getElem!_pos _ j hj]
   simp[qd]
  rw[e]
 have hS:=Any.slices_Sort_int abF gb 0 n (qd n f) W hH (hI.lt h1) (by rw[jH];omega)
 change Calls (PB prog false) 120 _ _ _ at hS
 rw[jH] at hS
 refine hS.mono ?_
 rintro e w' ⟨rfl,m,os,rfl⟩
 obtain⟨Z,hZ⟩:∃ Z,(qd n f).mergeSort (λx y=>decide (x<=y))=Z:=⟨_,rfl⟩
 have hZl:Z.length=n:=by rw[<-hZ,List.length_mergeSort,jH]
 have hZs:Z.Pairwise (λx y=>x<=y):=by
  have:=List.pairwise_mergeSort (le:=λx y:Int=>decide (x<=y)) (λa b c h1 h2=>by simp at *;omega) (λa b=>by simp;omega) (qd n f)
  rw[hZ] at this
  exact this.imp (λh=>by simpa using h)
 rw[hZ]
 have hlt:=hI.lt h1
 have hsz:∀ (d:Array Int),gb<(putRow (Value.int .i64) (Sort.ahead W m) gb 0 d).heap.size:=λd=>by rw[size_putRow,heap_ahead];exact hlt
 have hh:=holds_putRow (Value.int .i64) (Sort.ahead W m) gb 0 (qd n f).toArray Z.toArray (holds_ahead _ _ _ _ _ _ hH) (by simp[hZl,qd])
 have hblk:∀ k,k<W.heap.size->(grow (putRow (Value.int .i64) (Sort.ahead W m) gb 0 Z.toArray) os).heap[k]?=(putRow (Value.int .i64) (Sort.ahead W m) gb 0 Z.toArray).heap[k]?:=λk hk=>heap_grow_old _ _ (by rw[size_putRow,heap_ahead];exact hk)
 refine⟨rfl,λi=>Z[i]?.getD 0,⟨λk hk=>?_,λo=>?_⟩,λi j hij hj=>?_,⟨rfl,rfl,rfl,?_,λk hk hs=>?_⟩⟩
 .have:=(hh k (by simp[hZl];exact hk)).1
  rw[Nat.zero_add] at this
  have ec:(grow (putRow (Value.int .i64) (Sort.ahead W m) gb 0 Z.toArray) os).cell? ⟨gb,k,none⟩=(putRow (Value.int .i64) (Sort.ahead W m) gb 0 Z.toArray).cell? ⟨gb,k,none⟩:=World.cell?_of_block (hblk gb hlt)
  rw[ec,this]
  rw[getElem!_pos _ k (by simp[hZl];exact hk),List.getElem?_eq_getElem (by omega)]
  simp
 .have ec:(grow (putRow (Value.int .i64) (Sort.ahead W m) gb 0 Z.toArray) os).frozen? ⟨gb,o,none⟩=(putRow (Value.int .i64) (Sort.ahead W m) gb 0 Z.toArray).frozen? ⟨gb,o,none⟩:=World.frozen?_of_block (hblk gb hlt)
  rw[ec,frozen?_putRow,frozen?_ahead]
  exact hI.free o
 .rcases Nat.lt_or_eq_of_le hij with h|h
  .have:=List.pairwise_iff_getElem.1 hZs i j (by omega) (by omega) h
   show Z[i]?.getD 0<=Z[j]?.getD 0
   rw[List.getElem?_eq_getElem (show i<Z.length by omega),List.getElem?_eq_getElem (show j<Z.length by omega)]
   exact this
  .rw[h];exact Int.le_refl _
 .rw[size_grow,size_putRow,heap_ahead];omega
 .rw[hblk k hk]
  have hne:¬gb=k:=λe=>hs e.symm
  simp[putRow,mapBlock,Array.getElem?_modify,hne]
theorem SE:qc:=λgb n f v W h1 h2 hI hs=>by
 have hS:=Any.slices_BinarySearch_int abE gb 0 n n (qd n f) v W (by rw[jH];exact Nat.le_refl _) (by omega) (λj hj=>by
  rw[jH] at hj
  rw[Nat.zero_add,hI.cell j hj,List.getD_eq_getElem?_getD,SA hj];rfl) (by
  rw[List.take_of_length_le (by rw[jH];exact Nat.le_refl _),List.pairwise_iff_getElem]
  intro i j hi hj hij
  rw[jH] at hj
  simp only[qd,List.getElem_map,List.getElem_range]
  exact hs i j (by omega) hj)
 change Calls (PB prog false) 121 _ _ _ at hS
 refine hS.mono ?_
 rintro e w' ⟨rfl,q,rfl⟩
 refine⟨_,_,?_,rfl,?_⟩
 .refine Nat.le_trans List.countP_le_length ?_
  rw[List.length_take,jH];omega
 .exact below_drewN (Below.refl _ _) q
theorem LW:lJ:=λtb n P u lv rk W h1 h2 h3 h4 hB hb hex=>by
 obtain⟨l,hl⟩:∃ l:List Bl,l=(List.range n).map λk=>(⟨u k,(lv k:Int),(rk k:Int)⟩:Bl):=⟨_,rfl⟩
 have hlen:l.length=n:=by rw[hl];simp
 have hat:∀ i,i<n->gB l i=⟨u i,(lv i:Int),(rk i:Int)⟩:=λi hi=>by
  unfold gB
  rw[hl,List.getElem?_map,List.getElem?_range hi];rfl
 have hBL:aP.BL W (some ⟨tb,0,none⟩) l:=Or.inr ⟨tb,0,rfl,λi hi=>by
  rw[hlen] at hi
  rw[hat i hi]
  refine⟨?_,?_,?_⟩
  .rw[Nat.zero_add];exact hB.b i hi
  .rw[Nat.zero_add];exact hB.x i hi
  .rw[Nat.zero_add];exact hB.r i hi⟩
 have hC:=aP.Ht (some ⟨tb,0,none⟩) n l (P:Int) W hBL
 rw[hlen] at hC
 have hf:gU l (P:Int) false=0:=by
  unfold gU
  rw[if_neg (by omega),if_neg (by simp;omega),if_pos]
  rw[List.all_eq_true]
  intro b hbm
  obtain⟨i,hi,rfl⟩:=List.mem_iff_getElem.1 hbm
  have e:l[i]=gB l i:=by unfold gB;rw[List.getElem?_eq_getElem hi];rfl
  rw[hlen] at hi
  rw[e,hat i hi]
  have:=hb i hi
  exact(rT _ _).2 ⟨by show (0:Int)<=lv i;omega,by show (lv i:Int)<=P;omega,by show (0:Int)<=rk i;omega,by show (rk i:Int)<=1000000000;omega⟩
 have hcan:∀ i,can l (P:Int) i↔i<n/\u i=true/\lv i<P:=λi=>by
  unfold can
  rw[hlen]
  refine and_congr_right λhi=>?_
  rw[hat i hi]
  exact and_congr_right λ_=>by show (lv i:Int)<P↔_;omega
 refine hC.mono ?_
 rintro e w' ⟨hp,hbl⟩
 rcases hp with ⟨f,q1,q2,_⟩|⟨_,q2,_⟩|⟨k,_,q2,q3⟩
 .rw[hf] at q1;exact(q2 q1).elim
 .obtain⟨k,k1,k2,k3⟩:=hex
  exact(q2 k ((hcan k).2 ⟨k1,k2,k3⟩)).elim
 .obtain⟨k1,k2,k3⟩:=(hcan k).1 q2.1
  refine⟨k,k1,k2,k3,λj j1 j2 j3=>?_,q3,hbl⟩
  rcases q2.2 j ((hcan j).2 ⟨j1,j2,j3⟩) with e|e
  .rw[e];exact Nat.le_refl _
  .unfold uX at e
   rw[hat k k1,hat j j1] at e
   dsimp only at e
   omega
theorem lib:Lib:=⟨abC,SC,SE,LW,Xq⟩
end Go.Proofs.aA
namespace Go.Proofs.aA
open ah au aj Go.RowKit aB aD ah
theorem SF{g:Gm}{w:World}{a:Ad}{x:Sd}(h:DK g w a x)(n:Int) :
 Calls (PB prog false) 29 #[.pointer (some ⟨a.db,0,none⟩),.int .i64 n] w λe w'=>e=.returned (.tuple #[])/\DK g w' a { x with cut:=n.toNat }/\Keep (OD g a) w w':=by
 have c0:w.cell? ⟨a.db,0,none⟩=some (.int .i64 (x.cut:Nat)):=h.st.cell 0
 have f0:=h.st.free 0
 have H:Hid (DK g (w.setCell ⟨a.db,0,none⟩ (.int .i64 (n.toNat:Nat))) a { x with cut:=n.toNat }/\Keep (OD g a) w (w.setCell ⟨a.db,0,none⟩ (.int .i64 (n.toNat:Nat)))):=⟨h.cell { x with cut:=n.toNat } 0 _ rfl rfl rfl,((Keep.refl (λb=>b=a.db) _).set1 _ _).mono λb e=>Or.inl e⟩
 clear h
 by_cases h0:0<=n
 .obtain⟨m,rfl⟩:∃ m:Nat,n=(m:Int):=⟨n.toNat,by omega⟩
  rw[Int.toNat_natCast] at H ⊢
  have e1:max (m:Int) 0=(m:Int):=by omega
  have e2:¬((m:Int)<0):=by omega
  go_enter Al.func29,Tryz.ntmps29
  go_wp2
  go_end0
  exact⟨rfl,H.out.1,H.out.2⟩
 .have e0:n.toNat=0:=by omega
  rw[e0] at H ⊢
  have e1:max n 0=0:=by omega
  have e2:n<0:=by omega
  go_enter Al.func29,Tryz.ntmps29
  go_wp2
  go_end0
  exact⟨rfl,H.out.1,H.out.2⟩
theorem LX{g:Gm}{w:World}{a:Ad}{x:Sd}(h:DK g w a x) :
 Calls (PB prog false) 16 #[.pointer (some ⟨a.db,0,none⟩)] w λe w'=>e=.returned (.tuple #[.int .i64 (x.bad:Nat),.bool (decide (g.spare<x.bad)),.bool x.s.off])/\Below w.heap.size w w':=by
 have c4:w.cell? ⟨a.db,4,none⟩=some (.int .i64 (x.bad:Nat)):=h.st.cell 4
 have c6:w.cell? ⟨a.db,6,none⟩=some (.pointer (some ⟨a.cb,0,none⟩)):=h.st.cell 6
 have HL:Hid (∀ W,Below w.heap.size w W->Calls (PB prog false) 35 #[.pointer (some ⟨a.db,0,none⟩)] W λe w'=>e=.returned (.bool (decide (g.spare<x.bad)))/\Below w.heap.size w w'):=λW hW=>(fJ (h.below hW)).mono λe w' hh=>⟨hh.1,hW.trans (hh.2.mono hW.size)⟩
 have HO:Hid (∀ W,Below w.heap.size w W->Calls (PB prog false) 36 #[.pointer (some ⟨a.cb,0,none⟩)] W λe w'=>e=.returned (.bool x.s.off)/\w'=W):=λW hW=>vC W (h.below hW).hc
 have HD:Hid (∀ W,Below w.heap.size w W->W.cell? ⟨a.db,4,none⟩=some (.int .i64 (x.bad:Nat))/\W.cell? ⟨a.db,6,none⟩=some (.pointer (some ⟨a.cb,0,none⟩))):=λW hW=>⟨(h.below hW).st.cell 4,(h.below hW).st.cell 6⟩
 clear h
 generalize decide (g.spare<x.bad)=lt at *
 generalize x.s.off=of at *
 generalize x.bad=bd at *
 go_enter Al.func16,Tryz.ntmps16
 go_wp2
 go_region_held3 (λw'=>w'.cell? ⟨a.db,4,none⟩=some (.int .i64 (bd:Nat))/\w'.cell? ⟨a.db,6,none⟩=some (.pointer (some ⟨a.cb,0,none⟩))) (first|assumption|exact HD.out _ hb|go_keep) (first|(go_at_call 35;refine(HL.out _ (by first|exact Below.refl _ _|exact(Below.refl _ _).drew)).mono ?_;rintro e w2 ⟨rfl,hb⟩)|(go_at_call 36;refine(HO.out _ (by first|exact hb|exact Below.refl _ _|exact(Below.refl _ _).drew)).mono ?_;rintro e w3 ⟨rfl,rfl⟩))
 have HZ:Hid (Below w.heap.size w w3):=hb
 clear hb HL HO HD
 go_wp2
 refine bodyPost_ret (v:=.tuple #[.int .i64 (bd:Nat),.bool lt,.bool of]) (by simp[results,Tryz.results16,go_sem]) rfl ?_
 exact⟨rfl,HZ.out⟩
structure LQ(g:Gm)(n:Nat)(V:Nat->List Nat)(bad bf:Nat)(x:Sd):Prop where
 st:DS g x 0\/DL g x
 off:x.s.off=false
 cut:x.cut=0
 bd:x.bad=bad
 sm:x.bad+x.fails=bf
 bfm:bf<4611686018427387904
 seq:x.seq<=20000*n
 aF:∀ j,x.s.aF j<=2000*n
 see:∀ j,j<g.L->DW.see g x j=V j
def CL(g:Gm)(R:Nat->Prop)(n:Nat)(w:World)(db:Nat)(V:Nat->List Nat)(bad bf:Nat):Prop:=∃ x,JB g R w db x/\LQ g n V bad bf x
section
variable {g:Gm} {R R' S:Nat->Prop} {n m:Nat} {w w':World} {db:Nat} {V:Nat->List Nat} {bad bf:Nat}
theorem CL.keep(h:CL g R n w db V bad bf)(hk:Keep S w w')(hs:∀ b,S b->R b):CL g R n w' db V bad bf:=by
 obtain⟨x,h1,h2⟩:=h
 exact⟨x,h1.keep hk hs,h2⟩
theorem CL.below(h:CL g R n w db V bad bf)(hb:Below w.heap.size w w'):CL g R n w' db V bad bf:=by
 obtain⟨x,h1,h2⟩:=h
 exact⟨x,h1.below hb,h2⟩
theorem CL.more(h:CL g R n w db V bad bf)(hr:∀ b,R' b->R b\/w.heap.size<=b):CL g R' n w db V bad bf:=by
 obtain⟨x,h1,h2⟩:=h
 exact⟨x,h1.more hr,h2⟩
end
end Go.Proofs.aA
namespace Go.Proofs.aA
open au aj Go.RowKit aB aD ah
structure NL(w:World)(S:Nat->Prop)(nb L m:Nat)(V:Nat->List Nat):Prop where
 row:∀ j,j<L->∃ a c,w.cell? ⟨nb,j,none⟩=some (.slice a m c)/\bU w a (V j)/\∀ b off,a=some ⟨b,off,none⟩->S b/\b≠nb
 len:∀ j,j<L->(V j).length=m
 fr:∀ j,w.frozen? ⟨nb,j,none⟩=false
 own:S nb
section
variable {w w' w1 wr:World} {S S' T R:Nat->Prop} {nb L m:Nat} {V:Nat->List Nat}
theorem Aq(hk:Keep T w w'){b:Nat}(h:¬T b){o:Nat}{v:Value}(hv:w.cell? ⟨b,o,none⟩=some v):w'.cell? ⟨b,o,none⟩=some v:=(World.cell?_of_block (w:=w) (hk.block b (World.block_lt_of_cell? w _ hv) h)).trans hv
theorem Ar(hk:Keep T w w'){a:Option Addr}{l:List Nat}(h:bU w a l)(hT:∀ b off,a=some ⟨b,off,none⟩->¬T b):bU w' a l:=by
 rcases h with h|⟨b,off,e,h⟩
 .exact Or.inl h
 .exact Or.inr ⟨b,off,e,λi hi=>Aq hk (hT b off e) (h i hi)⟩
theorem NL.keep(h:NL w S nb L m V)(hk:Keep T w w')(hT:∀ b,S b->¬T b)(hlt:nb<w.heap.size):NL w' S nb L m V:=by
 refine⟨λj hj=>?_,h.len,λj=>?_,h.own⟩
 .obtain⟨a,c,h1,h2,h3⟩:=h.row j hj
  exact⟨a,c,Aq hk (hT _ h.own) h1,Ar hk h2 (λb off e=>hT b (h3 b off e).1),h3⟩
 .rw[World.frozen?_of_block (w:=w) (hk.block nb hlt (hT _ h.own))]
  exact h.fr j
theorem NL.more(h:NL w S nb L m V)(hs:∀ b,S b->S' b):NL w S' nb L m V :=
 ⟨λj hj=>by obtain⟨a,c,h1,h2,h3⟩:=h.row j hj;exact⟨a,c,h1,h2,λb off e=>⟨hs b (h3 b off e).1,(h3 b off e).2⟩⟩,h.len,h.fr,hs _ h.own⟩
variable {g:Gm} {n db:Nat} {bad bf N:Nat}
def PN(w1 w:World)(g:Gm)(n db nb:Nat)(V:Nat->List Nat)(bad bf:Nat):Prop :=
 ∃ R:Nat->Prop,CL g R n w db V bad bf/\(∀ b,R b->b<w.heap.size)/\(∀ b,b<w1.heap.size->R b)/\NL w R nb g.L (g.Y-21) V/\Below w1.heap.size w1 w
def PX(w1 wr w:World)(N:Nat)(X:Nat->Prop)(g:Gm)(n db nb:Nat)(Vd Vn:Nat->List Nat)(bad bf:Nat):Prop :=
 ∃ R S:Nat->Prop,CL g R n w db Vd bad bf/\(∀ b,R b->b<w.heap.size)/\(∀ b,b<w1.heap.size->R b)/\(∀ b,S b->R b/\(b<wr.heap.size\/X b))/\(∀ b,wr.heap.size<=b->b<N->R b)/\NL w S nb g.L (g.Y-21) Vn/\Below w1.heap.size w1 w/\wr.heap.size<=w.heap.size/\N<=w.heap.size
variable {X:Nat->Prop} {Vd Vn:Nat->List Nat}
theorem PN.begin(h:PN w1 wr g n db nb V bad bf)(hb:Below wr.heap.size wr w):PX w1 wr w w.heap.size (λ_=>False) g n db nb V V bad bf:=by
 obtain⟨R,h1,h2,h3,h4,h5⟩:=h
 have hs:=hb.size
 refine⟨λb=>R b\/(wr.heap.size<=b/\b<w.heap.size),R,(h1.more (λb e=>e.elim Or.inl (λe=>Or.inr e.1))).below hb,λb e=>e.elim (λe=>by have:=h2 b e;omega) (λe=>e.2),λb e=>Or.inl (h3 b e),λb e=>⟨Or.inl e,Or.inl (h2 b e)⟩,λb e1 e2=>Or.inr ⟨e1,e2⟩,h4.keep (Keep.of_below (S:=λ_=>False) hb) (λ_ _ e=>e) (h2 _ h4.own),h5.trans (hb.mono h5.size),hs,Nat.le_refl _⟩
theorem PN.dh(h:PN w1 w g n db nb V bad bf):Below w1.heap.size w1 w:=by
 obtain⟨R,h1,h2,h3,h4,h5⟩:=h
 exact h5
theorem PX.more{M:Nat}(h:PX w1 wr w N X g n db nb Vd Vn bad bf)(hM:w.heap.size<=M)(hb:Below w.heap.size w w')(hM2:M<w'.heap.size):∃ R S:Nat->Prop,(CL g R n w' db Vd bad bf/\(∀ b,R b->b<w'.heap.size)/\(∀ b,b<w1.heap.size->R b)/\(∀ b,S b->R b/\(b<wr.heap.size\/X b))/\(∀ b,wr.heap.size<=b->b<N->R b)/\NL w' S nb g.L (g.Y-21) Vn/\Below w1.heap.size w1 w'/\wr.heap.size<=w'.heap.size/\N<=w'.heap.size)/\R M/\(∀ b,S b->b<w.heap.size):=by
 obtain⟨R,S,h1,h2,h3,h4,h5,h6,h7,h8,h9⟩:=h
 have hs:=hb.size
 refine⟨λb=>R b\/b=M,S,⟨(h1.more (λb e=>e.elim Or.inl (λe=>Or.inr (by omega)))).below hb,λb e=>e.elim (λe=>by have:=h2 b e;omega) (λe=>by omega),λb e=>Or.inl (h3 b e),λb e=>⟨Or.inl (h4 b e).1,(h4 b e).2⟩,λb e1 e2=>Or.inl (h5 b e1 e2),h6.keep (Keep.of_below (S:=λ_=>False) hb) (λ_ _ e=>e) (h2 _ (h4 _ h6.own).1),h7.trans (hb.mono h7.size),by omega,by omega⟩,Or.inr rfl,λb e=>h2 b (h4 b e).1⟩
theorem PX.fin(h:PX w1 wr w N X g n db nb V V bad bf):PN w1 w g n db nb V bad bf:=by
 obtain⟨R,S,h1,h2,h3,h4,h5,h6,h7,h8,h9⟩:=h
 exact⟨R,h1,h2,h3,h6.more (λb e=>(h4 b e).1),h7⟩
end
end Go.Proofs.aA
namespace Go.Proofs.aA
open ah au aj ah Go.RowKit aB aD ah
structure JF(g:Gm)(n k:Nat)(V:Nat->List Nat)(of:Bool)(x:Sd):Prop where
 st:DS g x k
 off:x.s.off=of
 fl:x.fails=0
 cut:x.cut<9223372036854775808
 seq:x.seq<=20000*n
 aF:∀ j,x.s.aF j<=2000*n
 see:∀ j,j<g.L->DW.see g x j=V j
def CP(g:Gm)(R:Nat->Prop)(n k:Nat)(w:World)(db:Nat)(V:Nat->List Nat)(of:Bool)(cut:Nat):Prop:=∃ x,JB g R w db x/\JF g n k V of x/\x.cut=cut
section
variable {g:Gm} {R R' S:Nat->Prop} {n m k:Nat} {w w':World} {db:Nat} {V:Nat->List Nat} {of:Bool} {cut:Nat}
theorem CP.below(h:CP g R n k w db V of cut)(hb:Below w.heap.size w w'):CP g R n k w' db V of cut:=by
 obtain⟨x,h1,h2⟩:=h
 exact⟨x,h1.below hb,h2⟩
theorem CP.more(h:CP g R n k w db V of cut)(hr:∀ b,R' b->R b\/w.heap.size<=b):CP g R' n k w db V of cut:=by
 obtain⟨x,h1,h2⟩:=h
 exact⟨x,h1.more hr,h2⟩
theorem JF.late{x:Sd}(h:JF g n k V of x)(hm:n<=m):JF g m k V of x:=⟨h.st,h.off,h.fl,h.cut,by have:=h.seq;omega,λj=>by have:=h.aF j;omega,h.see⟩
theorem JF.bd{x:Sd}(h:JF g n k V of x)(hn:n<=100000000000000):Bd x 1072 :=
 ⟨h.cut,by rw[h.fl];omega,by have:=h.seq;omega,λj=>by have:=h.aF j;omega⟩
theorem JF.no9{x y:Sd}(h:JF g n k V of x)(hm:Oy x y 1072)(hl:DL g y):False:=by
 have h1:=hm.bf
 have h2:=hl.no
 have h3:=h.st.ok
 have h4:=h.fl
 omega
theorem JF.next{x y:Sd}{k':Nat}{of':Bool}{V':Nat->List Nat}(h:JF g n k V of x)(hm:Oy x y 1072)(hs:DS g y k')(ho:y.s.off=of')(hv:∀ j,j<g.L->DW.see g y j=V' j):JF g (n+1) k' V' of' y :=
 ⟨hs,ho,by have:=h.fl;have:=hm.fails;omega,by have:=h.cut;have:=hm.cut;omega,by have:=h.seq;have:=hm.seq;omega,λj=>by have:=h.aF j;have:=hm.aF j;omega,hv⟩
def PwL(k cut k':Nat)(V V' W:Nat->List Nat)(c:Nat)(of':Bool)(cut':Nat):Prop:=(c=0/\V'=W/\of'=false/\k'=0/\((cut=0/\cut'=0)\/(1<=cut'/\cut'<cut)))\/(c=7/\V'=V/\of'=true/\k'=k+1/\1<=cut)
theorem JF.change{x y:Sd}{l c:Nat}{v:List Nat}(h:JF g n k V of x)(hm:Oy x y 1072)(hq:ChQ g x y k l v c):∃ k' V' of',JF g (n+1) k' V' of' y/\PwL k x.cut k' V V' (upd V l v) c of' y.cut:=by
 rcases hq with ⟨rfl,q2,q3,q4,q5⟩|⟨_,_,q,⟨rfl,q6,q7,q8⟩|⟨rfl,q8,q9⟩⟩
 .refine⟨0,upd V l v,false,h.next hm q2 q3 λj hj=>?_,Or.inl ⟨rfl,rfl,rfl,rfl,?_⟩⟩
  .rw[q5 j hj]
   unfold upd
   split
   .rfl
   .exact h.see j hj
  .have h1:=hm.cz q3
   have h5:=hm.cut
   have h2:=hm.bf
   have h3:=h.fl
   have h4:=hm.bm
   omega
 .exact⟨k+1,V,true,h.next hm q6.ds q6.off λj hj=>(q j hj).trans (h.see j hj),Or.inr ⟨rfl,rfl,rfl,rfl,q8⟩⟩
 .exact(h.no9 hm q8).elim
theorem lu{x:Sd}{l:Int}(ho:x.s.off=true):findF g.L x.s.off l=7:=by unfold findF;rw[if_pos ho]
theorem Dw(h:CP g R n k w db V true cut)(l:Int)(fa:Option Addr)(cap m:Nat)(hm:m<4611686018427387904) :
 Calls (PB prog false) 27 #[.pointer (some ⟨db,0,none⟩),.int .i64 l,.slice fa m cap] w λe w'=>e=.returned (cu 7)/\Below w.heap.size w w':=by
 obtain⟨x,⟨a,rfl,hdk,hod⟩,hc,_⟩:=h
 have e:OB g x l m=7:=by unfold OB;rw[lu hc.off,if_pos (by decide)]
 have:=Fb hdk (by have:=hc.st.dw.y;omega) l fa m cap hm (by rw[e];decide)
 rw[e] at this
 exact this
theorem Gn(h:CP g R n k w db V true cut)(l:Int) :
 Calls (PB prog false) 30 #[.pointer (some ⟨db,0,none⟩),.int .i64 l] w λe w'=>e=.returned (cu 7)/\Below w.heap.size w w':=by
 obtain⟨x,⟨a,rfl,hdk,hod⟩,hc,_⟩:=h
 have e:trF g x l=7:=by unfold trF;rw[lu hc.off,if_pos (by decide)]
 have:=Sj hdk l (by rw[e];decide)
 rw[e] at this
 exact this
theorem Gp(h:CP g R n k w db V true cut)(l:Int) :
 Calls (PB prog false) 23 #[.pointer (some ⟨db,0,none⟩),.int .i64 l] w λe w'=>e=.returned (.tuple #[.slice none 0 0,cu 7])/\w'=w:=by
 obtain⟨x,⟨a,rfl,hdk,hod⟩,hc,_⟩:=h
 have e:=lu (g:=g) (l:=l) hc.off
 have:=JA hdk l (by rw[e];decide)
 rw[e] at this
 exact this
theorem uE(h:CP g R n k w db V true cut) :
 Calls (PB prog false) 25 #[.pointer (some ⟨db,0,none⟩)] w λe w'=>e=.returned (cu 7)/\Below w.heap.size w w':=by
 obtain⟨x,⟨a,rfl,hdk,hod⟩,hc,_⟩:=h
 have e:Xk g x=7:=by unfold Xk;rw[if_pos hc.off]
 have:=Fe hdk (Or.inl (by rw[e];decide))
 rw[e] at this
 exact this
theorem Ja(HL:Lib)(h:CP g R n k w db V false cut)(hn:n<=100000000000000)(hk:k<=2*g.P)(j:Nat)(hj:j<g.L)(fa:Option Addr)(cap m:Nat)(data:List Nat)(hA:aY data)(hL:bU w fa data)(hfa:∀ b off,fa=some ⟨b,off,none⟩->R b)(hdl:data.length=m)(hm:m=g.Y-21) :
 Calls (PB prog false) 27 #[.pointer (some ⟨db,0,none⟩),.int .i64 (j:Nat),.slice fa m cap] w λe w'=>∃ c k' V' of' cut',e=.returned (cu c)/\CP g R (n+1) k' w' db V' of' cut'/\Keep (λb=>¬R b) w w'/\PwL k cut k' V V' (upd V j data) c of' cut':=by
 subst hdl
 obtain⟨x,⟨a,rfl,hdk,hod⟩,hc,rfl⟩:=h
 have hds:=hc.st
 have hy:=hds.dw.y
 have hwr:OB g x (j:Int) data.length=0:=by
  unfold OB
  rw[Cv hc.off]
  have e:uL g (j:Int)=0:=if_neg (by simp;omega)
  have:=hds.ok
  rw[e,if_neg (by decide),if_neg (by omega),if_neg (by omega)]
 have hch:=Aj HL.is HL.so HL.se HL.ch hdk k 1072 hds hc.off hk (hc.bd hn) (Cu hds hdk.iR) (by have:=hds.spare hdk.iR;omega) 1 j data ⟨Or.inl rfl,λ_=>by omega,(λe=>by cases e),hA,hj⟩ fa cap hL (λb off e hb=>hod b hb (hfa b off e))
 refine(Am hdk (by omega) fa cap hwr hch).mono ?_
 rintro e w' ⟨y,c,rfl,p1,p2,p3,p4⟩
 obtain⟨k',V',of',q1,q2⟩:=hc.change p3 p4
 exact⟨c,k',V',of',y.cut,rfl,⟨y,⟨a,rfl,p1,hod⟩,q1,rfl⟩,keepR p2 hod,q2⟩
theorem Rj(HL:Lib)(h:CP g R n k w db V false cut)(hn:n<=100000000000000)(hk:k<=2*g.P) :
 Calls (PB prog false) 25 #[.pointer (some ⟨db,0,none⟩)] w λe w'=>∃ c k' of' cut',e=.returned (cu c)/\CP g R (n+1) k' w' db V of' cut'/\Keep (λb=>¬R b) w w'/\((c=0/\of'=false/\k'<=k)\/(c=7/\of'=true/\k'=k+1/\1<=cut)):=by
 obtain⟨x,⟨a,rfl,hdk,hod⟩,hc,rfl⟩:=h
 have hds:=hc.st
 have hok:=hds.ok
 have hf:Xk g x=0:=by
  unfold Xk
  rw[hc.off,if_neg (by decide),if_neg (by omega)]
 cases hch:x.ch with
 |false =>
  refine(Fe hdk (Or.inr hch)).mono ?_
  rintro e w' ⟨rfl,hb'⟩
  rw[hf]
  exact⟨0,k,false,x.cut,rfl,⟨x,JB.below (g:=g) (R:=R) (db:=a.db) ⟨a,rfl,hdk,hod⟩ hb',hc.late (by omega),rfl⟩,Keep.of_below hb',Or.inl ⟨rfl,rfl,Nat.le_refl _⟩⟩
 |true =>
  refine(OE HL.is HL.so HL.se HL.ch hdk k 1072 hds hc.off hk (hc.bd hn) (Cu hds hdk.iR) (by have:=hds.spare hdk.iR;omega) hch).mono ?_
  rintro e w' ⟨y,c,rfl,p1,p2,p3,p4,p5⟩
  have hv:∀ j,j<g.L->DW.see g y j=V j:=λj hj=>(p4 j hj).trans (hc.see j hj)
  rcases p5 with ⟨rfl,q2,q3,q4⟩|⟨_,_,⟨rfl,q,_,q1⟩|⟨rfl,q,q9⟩⟩
  .exact⟨0,0,false,y.cut,rfl,⟨y,⟨a,rfl,p1,hod⟩,hc.next p3 q2 q3 hv,rfl⟩,keepR p2 hod,Or.inl ⟨rfl,rfl,Nat.zero_le _⟩⟩
  .exact⟨7,k+1,true,y.cut,rfl,⟨y,⟨a,rfl,p1,hod⟩,hc.next p3 q.ds q.off hv,rfl⟩,keepR p2 hod,Or.inr ⟨rfl,rfl,rfl,q1⟩⟩
  .exact(hc.no9 p3 q).elim
theorem Nc(HL:Lib)(h:CP g R n k w db V false cut)(hn:n<=100000000000000)(j:Nat)(hj:j<g.L) :
 Calls (PB prog false) 23 #[.pointer (some ⟨db,0,none⟩),.int .i64 (j:Nat)] w λe w'=>RdP e w w' (V j):=by
 obtain⟨x,⟨a,rfl,hdk,hod⟩,hc,_⟩:=h
 refine(Fg HL.is hdk hc.st.dw (by have:=hc.seq;omega) j hj hc.off).mono ?_
 rintro e w' hq
 rw[hc.see j hj] at hq
 exact hq
theorem Rk(h:CP g R n k w db V of cut) :
 Calls (PB prog false) 16 #[.pointer (some ⟨db,0,none⟩)] w λe w'=>∃ bad:Nat,e=.returned (.tuple #[.int .i64 (bad:Nat),.bool false,.bool of])/\Below w.heap.size w w':=by
 obtain⟨x,⟨a,rfl,hdk,hod⟩,hc,_⟩:=h
 have:=LX hdk
 rw[hc.off,decide_eq_false (by have:=hc.st.ok;omega)] at this
 exact this.mono λe w' q=>⟨x.bad,q⟩
theorem aaC(h:CP g R n k w db V of cut)(c:Int)(hc9:c<9223372036854775808) :
 Calls (PB prog false) 29 #[.pointer (some ⟨db,0,none⟩),.int .i64 c] w λe w'=>e=.returned (.tuple #[])/\CP g R n k w' db V of c.toNat/\Keep (λb=>¬R b) w w':=by
 obtain⟨x,⟨a,rfl,hdk,hod⟩,hc,_⟩:=h
 refine(SF hdk c).mono ?_
 rintro e w' ⟨rfl,h1,h2⟩
 have d:=hc.st
 exact⟨rfl,⟨_,⟨a,rfl,h1,hod⟩,⟨⟨⟨d.dw.dv,d.dw.y,d.dw.y1,d.dw.l⟩,d.fit,d.nb,d.ok,d.room⟩,hc.off,hc.fl,by show c.toNat<_;omega,hc.seq,hc.aF,hc.see⟩,rfl⟩,keepR h2 hod⟩
theorem Rn(HL:Lib)(h:CP g R n k w db V of cut)(hn:n<=100000000000000)(hR:∀ b,R b->b<w.heap.size)(hL:1<=g.L) :
 Calls (PB prog false) 22 #[.pointer (some ⟨db,0,none⟩)] w λe w'=>e=.returned .nilIface/\CP g R n k w' db V false cut/\Keep (λb=>¬R b) w w':=by
 obtain⟨x,⟨a,rfl,hdk,hod⟩,hc,ze⟩:=h
 have hds:=hc.st
 refine(Fj HL.nw hdk.du hL hds.dw.l x.k.pa x.seq (by have:=hc.seq;omega) hds.dw.dv.di).mono ?_
 rintro e w' ⟨kb,ab,ob,kk,sq,rfl,p1,p2,p3,p4,p5,p6⟩
 obtain⟨q1,q2⟩:=Sr hds p1.ho.inv p2 p3
 have hoc:∀ b,OC g a b->¬R b:=λb hb=>hod b (hb.elim Or.inl (λe=>Or.inr (Or.inl e)))
 refine⟨rfl,⟨_,⟨{ a with kb:=kb,ab:=ab,ob:=ob },rfl,p1,λb hb=>?_⟩,⟨q1,rfl,hc.fl,hc.cut,by have:=hc.seq;show sq<=_;omega,hc.aF,λj hj=>(q2 j hj).trans (hc.see j hj)⟩,ze⟩,p6.mono hoc⟩
 rcases hb with e|e|e
 .exact hoc b (Or.inl e)
 .exact hoc b (Or.inr e)
 .intro hr
  have:=p5 b e
  have:=hR b hr
  omega
structure PS(w1 w:World)(R:Nat->Prop)(g:Gm)(n k db:Nat)(V:Nat->List Nat)(of:Bool)(cut:Nat):Prop where
 cp:CP g R n k w db V of cut
 lt:∀ b,R b->b<w.heap.size
 lo:∀ b,b<w1.heap.size->R b
 dh:Below w1.heap.size w1 w
def LR(w:World)(R:Nat->Prop)(a:Option Addr)(l:List Nat):Prop:=bU w a l/\∀ b off,a=some ⟨b,off,none⟩->R b
variable {w1 wr wq w2:World} {a:Option Addr} {cap:Nat} {l:List Nat}
theorem PS.below(h:PS w1 w R g n k db V of cut)(hb:Below w.heap.size w w'):PS w1 w' R g n k db V of cut :=
 ⟨h.cp.below hb,λb e=>Nat.lt_of_lt_of_le (h.lt b e) hb.size,h.lo,h.dh.trans (hb.mono h.dh.size)⟩
theorem PS.step{n' k' cut':Nat}{V':Nat->List Nat}{of':Bool}(h:PS w1 w R g n k db V of cut)(hc:CP g R n' k' w' db V' of' cut')(hk:Keep (λb=>¬R b) w w'):PS w1 w' R g n' k' db V' of' cut' :=
 ⟨hc,λb e=>Nat.lt_of_lt_of_le (h.lt b e) hk.size,h.lo,h.dh.trans (xR hk h.dh.size h.lo)⟩
theorem LR.below(h:LR w R a l)(hb:Below w.heap.size w w'):LR w' R a l:=⟨h.1.below hb,h.2⟩
theorem LR.step(h:LR w R a l)(hk:Keep (λb=>¬R b) w w'):LR w' R a l:=⟨Ar hk h.1 (λb off e e2=>e2 (h.2 b off e)),h.2⟩
theorem PS.made(h:PS w1 wr R g n k db V of cut)(hal:Below wr.heap.size wr wq)(hb:LP wq w2 a cap m l):∃ R':Nat->Prop,PS w1 w2 R' g n k db V of cut/\LR w2 R' a l/\∀ b,R b->R' b:=by
 have hw:Below wr.heap.size wr w2:=hal.trans (hb.dh.mono hal.size)
 have h2:=h.below hw
 refine⟨λb=>R b\/(wr.heap.size<=b/\b<w2.heap.size),⟨(h.cp.more (λb e=>e.elim Or.inl (λe=>Or.inr e.1))).below hw,λb e=>e.elim (λe=>h2.lt b e) (λe=>e.2),λb e=>Or.inl (h.lo b e),h2.dh⟩,⟨hb.own.lies,λb off e=>?_⟩,λb e=>Or.inl e⟩
 have h3:=hb.own.ge (b:=b) ⟨_,e,rfl⟩
 have:=hal.size
 exact Or.inr ⟨by omega,by omega⟩
end
theorem CO.cp{g:Gm}{R:Nat->Prop}{n:Nat}{w:World}{db:Nat}{V:Nat->List Nat}(h:CO g R n w db V):CP g R n 0 w db V false 0:=by
 obtain⟨x,h1,h2⟩:=h
 exact⟨x,h1,⟨h2.ok.ds,h2.ok.off,h2.fails,h2.ok.cut,h2.ok.seq,h2.ok.aF,h2.see⟩,h2.cut⟩
end Go.Proofs.aA
namespace Go.Proofs.aA
open ah au aj Go.RowKit aB aD ah
theorem zL(c:Nat)(k:Int)(v:Bool)(w:World)(hv:decide ((c:Int)=k)=v):Calls (PB prog false) 12 #[cu c,.int .i64 k] w λe w'=>e=.returned (.bool v)/\w'=w:=by
 have HT:Hid (Calls (PB prog false) 34 #[cu c] w λe w'=>e=.returned (.int .i64 (c:Nat))/\w'=w):=by
  by_cases h:c=0
  .subst h;rw[bX];exact Ac w
  .rw[eY h];exact uG c w
 generalize cu c=ev at *
 go_enter Al.func12,Tryz.ntmps12
 go_wp2_with fail
 refine HT.out.mono ?_
 rintro e w1 ⟨rfl,rfl⟩
 clear HT
 go_wp2
 go_ret
 refine⟨?_,rfl⟩
 rw[<-hv]
 by_cases h:(c:Int)=k<;>simp[h]
section
variable {w1 wr w:World} {N:Nat} {X:Nat->Prop} {g:Gm} {n db nb:Nat} {Vd Vn:Nat->List Nat} {bad bf:Nat}
end
