/- Part of the proof. -/
import Derived.Test.YtjlgehmebfkioaaGreatDoorZ14
import Derived.Test.YtjlgehmebfkioaaGreatDoorZ06
import Derived.Shelf.Slices.SearchI
import Derived.Shelf.Sort.Plain
import Derived.Test.YtjlgehmebfkioaaGreatDoorZ10
set_option maxRecDepth 100000
open Go.Proofs.Tryz renaming prog->aa
open Go.Proofs.ah.Al (PB)
set_option maxHeartbeats 3200000
set_option linter.unusedVariables false
open Go renaming World->ae,Calls->aE,Addr->cy
open Go.Instr renaming typeAssert->cT
open Go.Shelf renaming Ren->pS
open Go.Value renaming int->eh
open Go.World renaming block_lt_of_cell?->bu,cell?_of_block->kv,frozen?_of_block->j8
open Int renaming eq_ofNat_of_zero_le->pd
open List renaming replicate->aq,getElem?_eq_getElem->ax,pairwise_iff_getElem->jb,mem_iff_getElem->lr,length_map->dm,range->dg,getElem?_map->dj,getElem?_range->im
open Nat renaming mod_lt->ly,le_trans->cC,zero_add->dp,le_refl->al,zero_le->cV,lt_of_lt_of_le->cI
open Or renaming inl->bh,inr->a_
namespace Go.Proofs.ay
open ah au aj Go.RowKit aB aD ah
def p8:Gm:=⟨1,6,2,24,2,0⟩
theorem Qo:Geo p8.D p8.B p8.P p8.Y:=⟨by decide,by decide,by decide,by decide,by decide,by decide,by decide,by decide,by decide⟩
theorem Bh(w:ae):Row (w.alloc (.cells #[.int .u8 1,.int .u8 2,.int .u8 3] 5)) w.heap.size [1,2,3]:=heap_alloc_new w _
theorem yX{B:Nat}{R:Nat->Prop}{w w':ae}(h:Keep (λb=>¬R b) w w')(hB:B<=w.heap.size)(hr:∀ b,b<B->R b):Below B w w':=h.below hB (λb e=>Nat.le_of_not_lt (λhb=>e (hr b hb)))
theorem Ev(HL:Lib)(w:ae):aE (PB aa false) 9 #[] w λe w'=>e=.returned (.bool true)/\Below w.heap.size w w':=by
 have HN:Hid (aE (PB aa false) 10 #[.agg #[.int .i64 1,.int .i64 6,.int .i64 2,.int .i64 24],.int .i64 2,.int .i64 0] w λe w'=>∃ db,e=.returned (.tuple #[.pointer (some ⟨db,0,none⟩),.nilIface])/\CO p8 (λb=>b<w.heap.size) 0 w' db (λ_=>aq 3 0)/\Below w.heap.size w w'):=WV HL (g:=p8) (λb=>b<w.heap.size) w Qo (by decide) (λb hb=>hb)
 go_enter Al.func9,Tryz.ntmps9
 go_wp2_with fail
 refine HN.out.mono ?_
 rintro e w1 ⟨db,rfl,hc1,hb1⟩
 have hwr:=Kz HL (g:=p8) (R:=λb=>b<w.heap.size\/b=w1.heap.size) (hc1.more (λb hb=>hb.elim bh (λe=>a_ (by omega))) |>.below (aC w1 (.cells #[.int .u8 1,.int .u8 2,.int .u8 3] 5))) (by omega) 0 (some ⟨w1.heap.size,0,none⟩) 3 [1,2,3] (λx hx=>by simp at hx;omega) (iq (Bh w1)) (λb off e=>by cases e;exact a_ rfl) (by simp)
 have HB1:Hid (Below w.heap.size w (w1.alloc (.cells #[.int .u8 1,.int .u8 2,.int .u8 3] 5))):=hb1.alloc hb1.size _
 have hc0:pY p8 0 ([1,2,3]:List Nat).length=0:=by decide
 rw[hc0,if_pos rfl,bX] at hwr
 clear hc1 hb1 HN
 go_wp2_with fail
 refine hwr.mono ?_
 rintro e w2 ⟨rfl,hc2,hk2⟩
 have HB2:Hid (Below w.heap.size w w2):=HB1.out.trans (yX hk2 HB1.out.size (λb hb=>bh hb))
 have hrd:=YB HL hc2 (by omega) 0
 have HC2:Hid (CO p8 (λb=>b<w.heap.size\/b=w1.heap.size) (0+1) w2 db (upd (λ_=>aq 3 0) (0:Int).toNat [1,2,3])):=hc2
 clear hwr hc2 hk2 HB1
 go_wp2_with fail
 refine hrd.mono ?_
 rintro e w3 (⟨h0,_⟩|⟨j,hj,hj2,gb,rfl,hge,hrow,hb3⟩)
 .exact absurd (by decide) h0
 .obtain rfl:j=0:=by omega
  have ev:upd (λ_=>aq 3 0) (0:Int).toNat [1,2,3] 0=[1,2,3]:=rfl
  rw[ev] at hrow ⊢
  have HB3:Hid (Below w.heap.size w (w3.alloc (.cells #[.int .u8 1,.int .u8 2,.int .u8 3] 5))/\CO p8 (λb=>b<w.heap.size\/b=w1.heap.size) (0+1) (w3.alloc (.cells #[.int .u8 1,.int .u8 2,.int .u8 3] 5)) db (upd (λ_=>aq 3 0) (0:Int).toNat [1,2,3])):=by
   have h1:=HB2.out.trans (hb3.mono HB2.out.size)
   exact⟨h1.alloc h1.size _,(HC2.out.below hb3).below (aC _ _)⟩
  have hby:=sQ (some ⟨gb,0,none⟩) (some ⟨w3.heap.size,0,none⟩) [1,2,3] [1,2,3] 3 3 (w3.alloc (.cells #[.int .u8 1,.int .u8 2,.int .u8 3] 5)) (by simp) (by simp) (iq (hrow.below (aC _ _))) (iq (Bh w3))
  rw[decide_eq_true rfl] at hby
  clear hrd HC2 HB2 hj hj2 hge hrow hb3 ev
  go_wp2_with fail
  refine hby.mono ?_
  rintro e w4 ⟨rfl,hb4⟩
  have Ug:Hid (Below w.heap.size w w4):=HB3.out.1.trans (hb4.mono HB3.out.1.size)
  have hsz:=Oz (HB3.out.2.below hb4)
  clear hby HB3 hb4
  go_wp2_with fail
  refine hsz.mono ?_
  rintro e w5 ⟨rfl,rfl⟩
  clear hsz
  go_wp2
  go_ret
  exact⟨rfl,Ug.out⟩
theorem Ov(c:Int)(n:Nat)(w:ae)(h1:1<=n)(h2:n<=4611686018427387904)(hc:-9223372036854775808<=c/\c<=9223372036854775807) :
 aE (PB aa false) 15 #[.int .i64 c,.int .i64 n] w λe w'=>(∃ k:Nat,k<n/\e=.returned (.int .i64 (k:Nat)))/\w'=w:=by
 have hn0:¬((n:Int)=0):=by omega
 by_cases h0:0<=c
 .obtain⟨m,rfl⟩:=pd h0
  have HK:Hid (m%n<n):=ly _ h1
  go_enter Al.func15,Tryz.ntmps15
  go_wp2
  go_ret
  exact⟨⟨m%n,HK.out,by go_num⟩,rfl⟩
 .obtain⟨m,hm⟩:=pd (show 0<=-(c+1) by omega)
  have hc':c=-((m:Int)+1):=by omega
  subst hc'
  have HK:Hid (m%n<n):=ly _ h1
  have hneg:-((m:Int)+1)<0:=by omega
  clear hm h0
  go_enter Al.func15,Tryz.ntmps15
  go_wp2
  go_ret
  refine⟨⟨m%n,HK.out,?_⟩,rfl⟩
  congr 2
  rw[show -((m:Int)+1)+1=-(m:Int) by omega,Int.neg_tmod,Int.neg_neg,Int.tmod_eq_emod_of_nonneg (by omega)]
  simp
end Go.Proofs.ay
namespace Go.Proofs.ay
open ah au aj Go.RowKit
theorem yY(v:Value)(w:ae):(cT (.iface 31 v) 28 31 true).run (PB aa false) w=.ok (.tuple #[v,.bool true]) w:=by kernel_rfl
theorem Dp(w:ae):(cT .nilIface 28 31 true).run (PB aa false) w=.ok (.tuple #[.int .i64 0,.bool false]) w:=by kernel_rfl
theorem KC(m:Int)(W:ae):aE (PB aa false) 42 #[.nilIface,.iface 31 (.int .i64 m)] W λe w'=>e=.returned (.bool false)/\w'=W:=by
 have h1:=Dp
 have h2:=yY (.int .i64 m)
 go_enter Al.func42,Al.ntmps42
 unfold Al.Mk
 go_wp2
 go_ret
 exact⟨rfl,rfl⟩
theorem Bj(n m:Int)(W:ae):aE (PB aa false) 42 #[.iface 31 (.int .i64 n),.iface 31 (.int .i64 m)] W λe w'=>e=.returned (.bool (n==m))/\w'=W:=by
 have h1:=yY (.int .i64 n)
 have h2:=yY (.int .i64 m)
 go_enter Al.func42,Al.ntmps42
 unfold Al.Mk
 go_wp2
 go_ret
 exact⟨rfl,rfl⟩
theorem acV:Dk:=λn m hm W=>by
 have hB:Below W.heap.size W W:=Below.refl _ _
 by_cases h0:n=0
 .subst h0
  rw[bX,decide_eq_false (λe=>hm e.symm)]
  exact(KC m W).mono λe w' h=>⟨h.1,by rw[h.2];exact hB⟩
 .rw[fC h0]
  refine(Bj n m W).mono λe w' h=>⟨?_,by rw[h.2];exact hB⟩
  rw[h.1]
  congr 2
  rw[Bool.eq_iff_iff]
  simp
  omega
end Go.Proofs.ay
namespace Go.Proofs.ay
open ah au aj Go.RowKit aB aD ah
def SL(w:ae)(a:Option cy)(n:Nat):Prop:=n=0\/∃ g off,a=some ⟨g,off,none⟩/\∀ i,i<n->∃ x y z:Int,w.cell? ⟨g,off+i*3,none⟩=some (.int .i64 x)/\w.cell? ⟨g,off+i*3+1,none⟩=some (.int .i64 y)/\w.cell? ⟨g,off+i*3+2,none⟩=some (.int .i64 z)/\(-9223372036854775808<=y/\y<=9223372036854775807)
theorem SL.below{w w':ae}{a:Option cy}{n:Nat}(h:SL w a n)(hb:Below w.heap.size w w'):SL w' a n:=by
 rcases h with h|⟨g,off,e,h⟩
 .exact bh h
 .refine a_ ⟨g,off,e,λi hi=>?_⟩
  obtain⟨x,y,z,h0,h1,h2,h3⟩:=h i hi
  have k:∀ (o:Nat) (v:Value),w.cell? ⟨g,o,none⟩=some v->w'.cell? ⟨g,o,none⟩=some v:=λo v hv=>(hb.cell (p:=⟨g,o,none⟩) (bu w _ hv)).trans hv
  exact⟨x,y,z,k _ _ h0,k _ _ h1,k _ _ h2,h3⟩
def Hz(g0 g1 g2 g3 lb sp:Int):Prop:=¬Ab g0 g1 g2 g3\/∃ D B P Y:Nat,g0=D/\g1=B/\g2=P/\g3=Y/\Geo D B P Y/\qM D B P Y lb sp≠0
theorem H_{g0 g1 g2 g3 lb sp:Int}(w:ae)(h:Hz g0 g1 g2 g3 lb sp):aE (PB aa false) 10 #[.agg #[.int .i64 g0,.int .i64 g1,.int .i64 g2,.int .i64 g3],.int .i64 lb,.int .i64 sp] w λe w'=>∃ c:Nat,c≠0/\e=.returned (.tuple #[.pointer none,.iface 31 (.int .i64 (c:Nat))])/\Below w.heap.size w w':=by
 rcases h with h|⟨D,B,P,Y,rfl,rfl,rfl,rfl,hG,hc⟩
 .refine(Ui g0 g1 g2 g3 lb sp w h).mono ?_
  rintro e w' ⟨rfl,hb⟩
  exact⟨1,by omega,rfl,hb⟩
 .refine(Qj lb sp w hG hc).mono ?_
  rintro e w' ⟨rfl,hb⟩
  exact⟨_,hc,by rw[fC hc],hb⟩
theorem Te(g0 g1 g2 g3 lb sp:Int):Hz g0 g1 g2 g3 lb sp\/∃ g:Gm,g0=g.D/\g1=g.B/\g2=g.P/\g3=g.Y/\lb=g.L/\sp=g.spare/\Geo g.D g.B g.P g.Y/\qM g.D g.B g.P g.Y (g.L:Int) (g.spare:Int)=0:=by
 by_cases h:Ab g0 g1 g2 g3
 .obtain⟨D,B,P,Y,rfl,rfl,rfl,rfl,hG⟩:=h.nat
  by_cases hc:qM D B P Y lb sp=0
  .obtain⟨L,spare,rfl,rfl,_⟩:=Cb hG hc
   exact a_ ⟨⟨D,B,P,Y,L,spare⟩,rfl,rfl,rfl,rfl,rfl,rfl,hG,hc⟩
  .exact bh (a_ ⟨D,B,P,Y,rfl,rfl,rfl,rfl,hG,hc⟩)
 .exact bh (bh h)
structure LS(w1 wq:ae)(g:Gm)(n db:Nat)(V:Nat->List Nat):Prop where
 co:CO g (λb=>b<w1.heap.size) n wq db V
 cK:Below w1.heap.size w1 wq
theorem LS.below{w1 wq w':ae}{g:Gm}{n db:Nat}{V:Nat->List Nat}(h:LS w1 wq g n db V)(hb:Below wq.heap.size wq w'):LS w1 w' g n db V:=⟨h.co.below hb,h.cK.trans (hb.mono h.cK.size)⟩
theorem LS.write(HL:Lib){w1 wr wq w2:ae}{g:Gm}{n db:Nat}{V:Nat->List Nat}{a:Option cy}{cap m:Nat}{l:List Nat}(h:LS w1 wr g n db V)(hal:Below wr.heap.size wr wq)(hn:n<=100000000000000)(hb:KA wq w2 a cap m l)(hm:m<=1000000)(gN:Int) :
 aE (PB aa false) 27 #[.pointer (some ⟨db,0,none⟩),.int .i64 gN,.slice a m cap] w2 λe w'=>e=.returned (b_ (pY g gN m))/\LS w1 w' g (n+1) db (if pY g gN m=0 then upd V gN.toNat l else V)/\(∀ b,wr.heap.size<=b->b<w2.heap.size->w'.heap[b]?=w2.heap[b]?):=by
 have hs:=h.cK.size
 have hw:Below wr.heap.size wr w2:=hal.trans (hb.cK.mono hal.size)
 have hco:CO g (λb=>b<w1.heap.size\/(wr.heap.size<=b/\b<w2.heap.size)) n w2 db V:=(h.co.more (R':=λb=>b<w1.heap.size\/(wr.heap.size<=b/\b<w2.heap.size)) (λb e=>e.elim bh (λe2=>a_ e2.1))).below hw
 have hx:=Kz HL hco hn gN a cap l hb.all hb.own.lies (λb off e=>by
  have:=hb.own.ge (b:=b) ⟨_,e,rfl⟩
  have:=hal.size
  exact a_ ⟨by omega,by omega⟩) (by rw[hb.len];omega)
 rw[hb.len] at hx
 refine hx.mono ?_
 rintro e w' ⟨rfl,q1,q2⟩
 have h2:=h.below hw
 exact⟨rfl,⟨q1.more (λb e=>bh (bh e)),h2.cK.trans (yX q2 h2.cK.size (λb e=>bh e))⟩,λb h3 h4=>q2.block b h4 (λe=>e (a_ ⟨h3,h4⟩))⟩
end Go.Proofs.ay
namespace Go.Proofs.ay
open au aj Go.RowKit aB aD ah
theorem Ul(p:List Nat):(stP p==2&&(zQ p==1||zQ p==2))=true↔pO p:=by
 unfold pO
 rw[<-Ay]
 simp only[Bool.and_eq_true,Bool.or_eq_true,beq_iff_eq]
 unfold stP zQ qO
 cases h1:iU p<;>cases h2:qp p<;>simp
theorem yZ{p:List Nat}(h:pO p):zS p=bT p/\Ck p=bO p:=by
 have:=(Ay p).2 h.1
 unfold zS Ck
 rw[this]
 exact⟨rfl,rfl⟩
theorem Dq{L:List Pg}{i:Nat}:i∈flt L L.length↔i<L.length/\pO (gP L i).p:=by
 unfold flt
 rw[List.mem_filter,List.mem_range]
 refine and_congr_right λ_=>?_
 exact Ul _
theorem YC{N:List ah.Fd}{i:Nat}(h:i<N.length):gF N i∈N:=by
 unfold gF
 rw[ax h]
 exact List.getElem_mem h
theorem acW(L:List Pg):NF L.length (λi=>(gP L i).p) (newF L).length (λi=>(gF (newF L) i).lb) (λi=>(gF (newF L) i).pg) (λi=>(gF (newF L) i).sq):=by
 have hI:Xa (nk L) (flt L L.length) (newF L):=Yb _ _
 refine⟨λi j hij hj=>?_,λi hi=>?_,λp hp hc=>?_⟩
 .have:=jb.1 hI.rise i j (by omega) hj hij
  unfold gF
  rw[ax hj,ax (show i<(newF L).length by omega)]
  exact this
 .obtain⟨p,hp,e,hb⟩:=hI.best _ (YC hi)
  obtain⟨p1,p2⟩:=Dq.1 hp
  obtain⟨t1,t2⟩:=yZ p2
  have e1:(gF (newF L) i).pg=p:=by rw[e];rfl
  have e2:(gF (newF L) i).lb=bT (gP L p).p:=by rw[e];exact t1
  have e3:(gF (newF L) i).sq=bO (gP L p).p:=by rw[e];exact t2
  rw[e1,e2,e3]
  refine⟨p1,p2,rfl,rfl,λq hq hc hl=>?_⟩
  obtain⟨s1,s2⟩:=yZ hc
  have hlt:=hb q (Dq.2 ⟨hq,hc⟩) (by rw[e2];show zS (gP L q).p=_;rw[s1];exact hl)
  unfold CU at hlt
  have f1:(nk L q).lb=(nk L p).lb:=by show zS _=zS _;rw[s1,t1];exact hl
  have f2:(nk L q).sq=bO (gP L q).p:=s2
  have f3:(nk L p).sq=bO (gP L p).p:=t2
  rw[f2,f3] at hlt
  rcases Nat.lt_or_ge (bO (gP L p).p) (bO (gP L q).p) with h|h
  .exact(hlt (a_ ⟨f1,bh h⟩)).elim
  .exact h
 .obtain⟨e,he,hl⟩:=hI.all p (Dq.2 ⟨hp,hc⟩)
  obtain⟨i,hi,rfl⟩:=lr.1 he
  refine⟨i,hi,?_⟩
  unfold gF
  rw[ax hi]
  show (newF L)[i].lb=_
  rw[hl]
  exact(yZ hc).1
theorem Um(L:List Pg):(newF L).length<=L.length:=by
 unfold newF zT Ef
 rw[dm]
 refine cC (List.length_filter_le _ _) ?_
 rw[List.length_range,dm]
 have:=(FH (nk L) (flt L L.length)).length_eq
 rw[this]
 exact CW L L.length
theorem YD:Gl:=λpa pc L w hl hp=>(IK pa pc L 8 w (by decide) (by decide) hl hp).mono λe w' ⟨a,cap,h1,h2,h3⟩=>by
 refine⟨a,cap,(newF L).length,_,_,_,λi=>(gF (newF L) i).kd,h1,?_,acW L,Um L,h3⟩
 rcases h2.at with e|⟨g,off,rfl,hc⟩
 .exact bh (by rw[e];rfl)
 .exact a_ ⟨g,off,rfl,λi hi=>hc i hi⟩
end Go.Proofs.ay
namespace Go.Proofs.ay
open ah Go.Shelf
def M7:pS:=⟨fun|25=>121|31=>160|32=>161|37=>113|n=>n,fun|22=>114|3=>3|4=>4|40=>93|0=>0|n=>n,fun|n=>n⟩
theorem acX:Go.Proofs.Lays2.n25 (PB aa false) M7:={
 mixed:=by kernel_rfl
 f25:=Al.func121.trans (congrArg some (by kernel_rfl))
 f31:=Al.func160.trans (congrArg some (by kernel_rfl))
 f32:=Al.func161.trans (congrArg some (by kernel_rfl))
 f37:=Al.func113.trans (congrArg some (by kernel_rfl))
 t0:=((Al.und 0).trans Tryz.underlying0)
 a0:=λw=>(Al.agg 0 w).trans (Tryz.isAgg0 w)
 z0:=λw=>(Al.jw 0 w).trans (Tryz.sizeOf0 w)
 v0:=λw=>(Al.jy 0 w).trans (Tryz.zeroValue0 w)
 t3:=((Al.und 3).trans Tryz.underlying3)
 a3:=λw=>(Al.agg 3 w).trans (Tryz.isAgg3 w)
 z3:=λw=>(Al.jw 3 w).trans (Tryz.sizeOf3 w)
 v3:=λw=>(Al.jy 3 w).trans (Tryz.zeroValue3 w)
 t4:=((Al.und 4).trans Tryz.underlying4)
 a4:=λw=>(Al.agg 4 w).trans (Tryz.isAgg4 w)
 z4:=λw=>(Al.jw 4 w).trans (Tryz.sizeOf4 w)
 v4:=λw=>(Al.jy 4 w).trans (Tryz.zeroValue4 w)
 t22:=((Al.und 114).trans Tryz.underlying114)
 a22:=λw=>(Al.agg 114 w).trans (Tryz.isAgg114 w)
 z22:=λw=>(Al.jw 114 w).trans (Tryz.sizeOf114 w)
 v22:=λw=>(Al.jy 114 w).trans (Tryz.zeroValue114 w)
 t40:=((Al.und 93).trans Tryz.underlying93)
 a40:=λw=>(Al.agg 93 w).trans (Tryz.isAgg93 w)
 z40:=λw=>(Al.jw 93 w).trans (Tryz.sizeOf93 w)
 v40:=λw=>(Al.jy 93 w).trans (Tryz.zeroValue93 w) }
def M8:pS:=⟨fun|189=>120|125=>112|257=>159|128=>155|129=>156|294=>175|295=>176|296=>177|297=>178|298=>179|299=>180|216=>160|300=>181|301=>182|328=>185|329=>171|330=>172|331=>186|332=>187|215=>113|343=>196|n=>n,fun|28=>114|3=>3|46=>93|0=>0|51=>92|53=>199|4=>4|183=>240|182=>239|131=>216|5=>5|9=>9|218=>262|222=>265|228=>273|229=>130|n=>n,fun|n=>n⟩
theorem acY:Go.Proofs.Lays.n189 (PB aa false) M8:={
 mixed:=by kernel_rfl
 f125:=Al.func112.trans (congrArg some (by kernel_rfl))
 f128:=Al.func155.trans (congrArg some (by kernel_rfl))
 f129:=Al.func156.trans (congrArg some (by kernel_rfl))
 f189:=Al.func120.trans (congrArg some (by kernel_rfl))
 f215:=Al.func113.trans (congrArg some (by kernel_rfl))
 f216:=Al.func160.trans (congrArg some (by kernel_rfl))
 f257:=Al.func159.trans (congrArg some (by kernel_rfl))
 f294:=Al.func175.trans (congrArg some (by kernel_rfl))
 f295:=Al.func176.trans (congrArg some (by kernel_rfl))
 f296:=Al.func177.trans (congrArg some (by kernel_rfl))
 f297:=Al.func178.trans (congrArg some (by kernel_rfl))
 f298:=Al.func179.trans (congrArg some (by kernel_rfl))
 f299:=Al.func180.trans (congrArg some (by kernel_rfl))
 f300:=Al.func181.trans (congrArg some (by kernel_rfl))
 f301:=Al.func182.trans (congrArg some (by kernel_rfl))
 f328:=Al.func185.trans (congrArg some (by kernel_rfl))
 f329:=Al.func171.trans (congrArg some (by kernel_rfl))
 f330:=Al.func172.trans (congrArg some (by kernel_rfl))
 f331:=Al.func186.trans (congrArg some (by kernel_rfl))
 f332:=Al.func187.trans (congrArg some (by kernel_rfl))
 f343:=Al.func196.trans (congrArg some (by kernel_rfl))
 t0:=((Al.und 0).trans Tryz.underlying0)
 a0:=λw=>(Al.agg 0 w).trans (Tryz.isAgg0 w)
 z0:=λw=>(Al.jw 0 w).trans (Tryz.sizeOf0 w)
 v0:=λw=>(Al.jy 0 w).trans (Tryz.zeroValue0 w)
 t3:=((Al.und 3).trans Tryz.underlying3)
 a3:=λw=>(Al.agg 3 w).trans (Tryz.isAgg3 w)
 z3:=λw=>(Al.jw 3 w).trans (Tryz.sizeOf3 w)
 v3:=λw=>(Al.jy 3 w).trans (Tryz.zeroValue3 w)
 t4:=((Al.und 4).trans Tryz.underlying4)
 a4:=λw=>(Al.agg 4 w).trans (Tryz.isAgg4 w)
 z4:=λw=>(Al.jw 4 w).trans (Tryz.sizeOf4 w)
 v4:=λw=>(Al.jy 4 w).trans (Tryz.zeroValue4 w)
 t5:=((Al.und 5).trans Tryz.underlying5)
 a5:=λw=>(Al.agg 5 w).trans (Tryz.isAgg5 w)
 z5:=λw=>(Al.jw 5 w).trans (Tryz.sizeOf5 w)
 v5:=λw=>(Al.jy 5 w).trans (Tryz.zeroValue5 w)
 t9:=((Al.und 9).trans Tryz.underlying9)
 a9:=λw=>(Al.agg 9 w).trans (Tryz.isAgg9 w)
 z9:=λw=>(Al.jw 9 w).trans (Tryz.sizeOf9 w)
 v9:=λw=>(Al.jy 9 w).trans (Tryz.zeroValue9 w)
 t28:=((Al.und 114).trans Tryz.underlying114)
 a28:=λw=>(Al.agg 114 w).trans (Tryz.isAgg114 w)
 z28:=λw=>(Al.jw 114 w).trans (Tryz.sizeOf114 w)
 v28:=λw=>(Al.jy 114 w).trans (Tryz.zeroValue114 w)
 t46:=((Al.und 93).trans Tryz.underlying93)
 a46:=λw=>(Al.agg 93 w).trans (Tryz.isAgg93 w)
 z46:=λw=>(Al.jw 93 w).trans (Tryz.sizeOf93 w)
 v46:=λw=>(Al.jy 93 w).trans (Tryz.zeroValue93 w)
 t51:=((Al.und 92).trans Tryz.underlying92)
 a51:=λw=>(Al.agg 92 w).trans (Tryz.isAgg92 w)
 z51:=λw=>(Al.jw 92 w).trans (Tryz.sizeOf92 w)
 v51:=λw=>(Al.jy 92 w).trans (Tryz.zeroValue92 w)
 t53:=((Al.und 199).trans Tryz.underlying199)
 a53:=λw=>(Al.agg 199 w).trans (Tryz.isAgg199 w)
 z53:=λw=>(Al.jw 199 w).trans (Tryz.sizeOf199 w)
 v53:=λw=>(Al.jy 199 w).trans (Tryz.zeroValue199 w)
 t131:=((Al.und 216).trans Tryz.underlying216)
 a131:=λw=>(Al.agg 216 w).trans (Tryz.isAgg216 w)
 z131:=λw=>(Al.jw 216 w).trans (Tryz.sizeOf216 w)
 v131:=λw=>(Al.jy 216 w).trans (Tryz.zeroValue216 w)
 t182:=((Al.und 239).trans Tryz.underlying239)
 a182:=λw=>(Al.agg 239 w).trans (Tryz.isAgg239 w)
 z182:=λw=>(Al.jw 239 w).trans (Tryz.sizeOf239 w)
 v182:=λw=>(Al.jy 239 w).trans (Tryz.zeroValue239 w)
 t183:=((Al.und 240).trans Tryz.underlying240)
 a183:=λw=>(Al.agg 240 w).trans (Tryz.isAgg240 w)
 z183:=λw=>(Al.jw 240 w).trans (Tryz.sizeOf240 w)
 v183:=λw=>(Al.jy 240 w).trans (Tryz.zeroValue240 w)
 t218:=((Al.und 262).trans Tryz.underlying262)
 a218:=λw=>(Al.agg 262 w).trans (Tryz.isAgg262 w)
 z218:=λw=>(Al.jw 262 w).trans (Tryz.sizeOf262 w)
 v218:=λw=>(Al.jy 262 w).trans (Tryz.zeroValue262 w)
 t222:=((Al.und 265).trans Tryz.underlying265)
 a222:=λw=>(Al.agg 265 w).trans (Tryz.isAgg265 w)
 z222:=λw=>(Al.jw 265 w).trans (Tryz.sizeOf265 w)
 v222:=λw=>(Al.jy 265 w).trans (Tryz.zeroValue265 w)
 t228:=((Al.und 273).trans Tryz.underlying273)
 a228:=λw=>(Al.agg 273 w).trans (Tryz.isAgg273 w)
 z228:=λw=>(Al.jw 273 w).trans (Tryz.sizeOf273 w)
 v228:=λw=>(Al.jy 273 w).trans (Tryz.zeroValue273 w)
 t229:=((Al.und 130).trans Tryz.underlying130)
 a229:=λw=>(Al.agg 130 w).trans (Tryz.isAgg130 w)
 z229:=λw=>(Al.jw 130 w).trans (Tryz.sizeOf130 w)
 v229:=λw=>(Al.jy 130 w).trans (Tryz.zeroValue130 w) }
end Go.Proofs.ay
namespace Go.Proofs.ay
open ah au aj Go.RowKit Go.Shelf Go.Sort
def qE(n:Nat)(f:Nat->Int):List Int:=(dg n).map f
theorem jP(n:Nat)(f:Nat->Int):(qE n f).length=n:=by simp[qE]
theorem Un{n:Nat}{f:Nat->Int}{i:Nat}(h:i<n):(qE n f)[i]?=some (f i):=by unfold qE;rw[dj,im h];rfl
theorem Uo:qC:=λgb n f W h1 h2 hI=>by
 have hH:Holds (eh .i64) W gb 0 (qE n f).toArray:=λj hj=>by
  have hj':j<n:=by simpa [qE] using hj
  refine⟨?_,hI.free _⟩
  rw[dp,hI.cell j hj']
  have e:(qE n f).toArray[j]! = f j:=by
   rw[getElem!_pos _ j hj]
   simp[qE]
  rw[e]
 have hS:=Any.slices_Sort_int acY gb 0 n (qE n f) W hH (hI.lt h1) (by rw[jP];omega)
 change aE (PB aa false) 120 _ _ _ at hS
 rw[jP] at hS
 refine hS.mono ?_
 rintro e w' ⟨rfl,m,os,rfl⟩
 obtain⟨Z,hZ⟩:∃ Z,(qE n f).mergeSort (λx y=>decide (x<=y))=Z:=⟨_,rfl⟩
 have hZl:Z.length=n:=by rw[<-hZ,List.length_mergeSort,jP]
 have hZs:Z.Pairwise (λx y=>x<=y):=by
  have:=List.pairwise_mergeSort (le:=λx y:Int=>decide (x<=y)) (λa b c h1 h2=>by simp at *;omega) (λa b=>by simp;omega) (qE n f)
  rw[hZ] at this
  exact this.imp (λh=>by simpa using h)
 rw[hZ]
 have hlt:=hI.lt h1
 have hsz:∀ (d:Array Int),gb<(putRow (eh .i64) (Sort.ahead W m) gb 0 d).heap.size:=λd=>by rw[size_putRow,heap_ahead];exact hlt
 have hh:=holds_putRow (eh .i64) (Sort.ahead W m) gb 0 (qE n f).toArray Z.toArray (holds_ahead _ _ _ _ _ _ hH) (by simp[hZl,qE])
 have hblk:∀ k,k<W.heap.size->(grow (putRow (eh .i64) (Sort.ahead W m) gb 0 Z.toArray) os).heap[k]?=(putRow (eh .i64) (Sort.ahead W m) gb 0 Z.toArray).heap[k]?:=λk hk=>heap_grow_old _ _ (by rw[size_putRow,heap_ahead];exact hk)
 refine⟨rfl,λi=>Z[i]?.getD 0,⟨λk hk=>?_,λo=>?_⟩,λi j hij hj=>?_,⟨rfl,rfl,rfl,?_,λk hk hs=>?_⟩⟩
 .have:=(hh k (by simp[hZl];exact hk)).1
  rw[dp] at this
  have ec:(grow (putRow (eh .i64) (Sort.ahead W m) gb 0 Z.toArray) os).cell? ⟨gb,k,none⟩=(putRow (eh .i64) (Sort.ahead W m) gb 0 Z.toArray).cell? ⟨gb,k,none⟩:=kv (hblk gb hlt)
  rw[ec,this]
  rw[getElem!_pos _ k (by simp[hZl];exact hk),ax (by omega)]
  simp
 .have ec:(grow (putRow (eh .i64) (Sort.ahead W m) gb 0 Z.toArray) os).frozen? ⟨gb,o,none⟩=(putRow (eh .i64) (Sort.ahead W m) gb 0 Z.toArray).frozen? ⟨gb,o,none⟩:=j8 (hblk gb hlt)
  rw[ec,frozen?_putRow,frozen?_ahead]
  exact hI.free o
 .rcases Nat.lt_or_eq_of_le hij with h|h
  .have:=jb.1 hZs i j (by omega) (by omega) h
   show Z[i]?.getD 0<=Z[j]?.getD 0
   rw[ax (show i<Z.length by omega),ax (show j<Z.length by omega)]
   exact this
  .rw[h];exact Int.le_refl _
 .rw[size_grow,size_putRow,heap_ahead];omega
 .rw[hblk k hk]
  have hne:¬gb=k:=λe=>hs e.symm
  simp[putRow,mapBlock,Array.getElem?_modify,hne]
theorem Uq:qD:=λgb n f v W h1 h2 hI hs=>by
 have hS:=Any.slices_BinarySearch_int acX gb 0 n n (qE n f) v W (by rw[jP];exact al _) (by omega) (λj hj=>by
  rw[jP] at hj
  rw[dp,hI.cell j hj,List.getD_eq_getElem?_getD,Un hj];rfl) (by
  rw[List.take_of_length_le (by rw[jP];exact al _),jb]
  intro i j hi hj hij
  rw[jP] at hj
  simp only[qE,List.getElem_map,List.getElem_range]
  exact hs i j (by omega) hj)
 change aE (PB aa false) 121 _ _ _ at hS
 refine hS.mono ?_
 rintro e w' ⟨rfl,q,rfl⟩
 refine⟨_,_,?_,rfl,?_⟩
 .refine cC List.countP_le_length ?_
  rw[List.length_take,jP];omega
 .exact below_drewN (Below.refl _ _) q
theorem M9:lY:=λtb n P u lv rk W h1 h2 h3 h4 hB hb hex=>by
 obtain⟨l,hl⟩:∃ l:List Bl,l=(dg n).map λk=>(⟨u k,(lv k:Int),(rk k:Int)⟩:Bl):=⟨_,rfl⟩
 have hlen:l.length=n:=by rw[hl];simp
 have hat:∀ i,i<n->gB l i=⟨u i,(lv i:Int),(rk i:Int)⟩:=λi hi=>by
  unfold gB
  rw[hl,dj,im hi];rfl
 have hBL:aP.BL W (some ⟨tb,0,none⟩) l:=a_ ⟨tb,0,rfl,λi hi=>by
  rw[hlen] at hi
  rw[hat i hi]
  refine⟨?_,?_,?_⟩
  .rw[dp];exact hB.b i hi
  .rw[dp];exact hB.x i hi
  .rw[dp];exact hB.r i hi⟩
 have hC:=aP.I8 (some ⟨tb,0,none⟩) n l (P:Int) W hBL
 rw[hlen] at hC
 have hf:h_ l (P:Int) false=0:=by
  unfold h_
  rw[if_neg (by omega),if_neg (by simp;omega),if_pos]
  rw[List.all_eq_true]
  intro b hbm
  obtain⟨i,hi,rfl⟩:=lr.1 hbm
  have e:l[i]=gB l i:=by unfold gB;rw[ax hi];rfl
  rw[hlen] at hi
  rw[e,hat i hi]
  have:=hb i hi
  exact(tQ _ _).2 ⟨by show (0:Int)<=lv i;omega,by show (lv i:Int)<=P;omega,by show (0:Int)<=rk i;omega,by show (rk i:Int)<=1000000000;omega⟩
 have hcan:∀ i,can l (P:Int) i↔i<n/\u i=true/\lv i<P:=λi=>by
  unfold can
  rw[hlen]
  refine and_congr_right λhi=>?_
  rw[hat i hi]
  exact and_congr_right λ_=>by show (lv i:Int)<P↔_;omega
 refine hC.mono ?_
 rintro e w' ⟨hp,hbl⟩
 rcases hp with ⟨f,q1,q2,_⟩|⟨_,q2,_⟩|⟨k,_,q2,q3⟩
 .rw[hf] at q1;exact(q2 q1).elim
 .obtain⟨k,k1,k2,k3⟩:=hex
  exact(q2 k ((hcan k).2 ⟨k1,k2,k3⟩)).elim
 .obtain⟨k1,k2,k3⟩:=(hcan k).1 q2.1
  refine⟨k,k1,k2,k3,λj j1 j2 j3=>?_,q3,hbl⟩
  rcases q2.2 j ((hcan j).2 ⟨j1,j2,j3⟩) with e|e
  .rw[e];exact al _
  .unfold vN at e
   rw[hat k k1,hat j j1] at e
   dsimp only at e
   omega
theorem lib:Lib:=⟨acV,Uo,Uq,M9,YD⟩
end Go.Proofs.ay
namespace Go.Proofs.ay
open ah au aj Go.RowKit aB aD ah
theorem Ur{g:Gm}{w:ae}{a:Ad}{x:Sd}(h:DK g w a x)(n:Int) :
 aE (PB aa false) 29 #[.pointer (some ⟨a.db,0,none⟩),.int .i64 n] w λe w'=>e=.returned (.tuple #[])/\DK g w' a { x with cut:=n.toNat }/\Keep (OD g a) w w':=by
 have c0:w.cell? ⟨a.db,0,none⟩=some (.int .i64 (x.cut:Nat)):=h.st.cell 0
 have f0:=h.st.free 0
 have H:Hid (DK g (w.setCell ⟨a.db,0,none⟩ (.int .i64 (n.toNat:Nat))) a { x with cut:=n.toNat }/\Keep (OD g a) w (w.setCell ⟨a.db,0,none⟩ (.int .i64 (n.toNat:Nat)))):=⟨h.cell { x with cut:=n.toNat } 0 _ rfl rfl rfl,((Keep.refl (λb=>b=a.db) _).set1 _ _).mono λb e=>bh e⟩
 clear h
 by_cases h0:0<=n
 .obtain⟨m,rfl⟩:∃ m:Nat,n=(m:Int):=⟨n.toNat,by omega⟩
  rw[Int.toNat_natCast] at H ⊢
  have e1:max (m:Int) 0=(m:Int):=by omega
  have e2:¬((m:Int)<0):=by omega
  go_enter Al.func29,Tryz.ntmps29
  go_wp2
  go_end0
  exact⟨rfl,H.out.1,H.out.2⟩
 .have e0:n.toNat=0:=by omega
  rw[e0] at H ⊢
  have e1:max n 0=0:=by omega
  have e2:n<0:=by omega
  go_enter Al.func29,Tryz.ntmps29
  go_wp2
  go_end0
  exact⟨rfl,H.out.1,H.out.2⟩
theorem M_{g:Gm}{w:ae}{a:Ad}{x:Sd}(h:DK g w a x) :
 aE (PB aa false) 16 #[.pointer (some ⟨a.db,0,none⟩)] w λe w'=>e=.returned (.tuple #[.int .i64 (x.bad:Nat),.bool (decide (g.spare<x.bad)),.bool x.s.off])/\Below w.heap.size w w':=by
 have c4:w.cell? ⟨a.db,4,none⟩=some (.int .i64 (x.bad:Nat)):=h.st.cell 4
 have c6:w.cell? ⟨a.db,6,none⟩=some (.pointer (some ⟨a.cb,0,none⟩)):=h.st.cell 6
 have HL:Hid (∀ W,Below w.heap.size w W->aE (PB aa false) 35 #[.pointer (some ⟨a.db,0,none⟩)] W λe w'=>e=.returned (.bool (decide (g.spare<x.bad)))/\Below w.heap.size w w'):=λW hW=>(fU (h.below hW)).mono λe w' hh=>⟨hh.1,hW.trans (hh.2.mono hW.size)⟩
 have HO:Hid (∀ W,Below w.heap.size w W->aE (PB aa false) 36 #[.pointer (some ⟨a.cb,0,none⟩)] W λe w'=>e=.returned (.bool x.s.off)/\w'=W):=λW hW=>vY W (h.below hW).hc
 have HD:Hid (∀ W,Below w.heap.size w W->W.cell? ⟨a.db,4,none⟩=some (.int .i64 (x.bad:Nat))/\W.cell? ⟨a.db,6,none⟩=some (.pointer (some ⟨a.cb,0,none⟩))):=λW hW=>⟨(h.below hW).st.cell 4,(h.below hW).st.cell 6⟩
 clear h
 generalize decide (g.spare<x.bad)=lt at *
 generalize x.s.off=of at *
 generalize x.bad=bd at *
 go_enter Al.func16,Tryz.ntmps16
 go_wp2
 go_region_held3 (λw'=>w'.cell? ⟨a.db,4,none⟩=some (.int .i64 (bd:Nat))/\w'.cell? ⟨a.db,6,none⟩=some (.pointer (some ⟨a.cb,0,none⟩))) (first|assumption|exact HD.out _ hb|go_keep) (first|(go_at_call 35;refine(HL.out _ (by first|exact Below.refl _ _|exact(Below.refl _ _).drew)).mono ?_;rintro e w2 ⟨rfl,hb⟩)|(go_at_call 36;refine(HO.out _ (by first|exact hb|exact Below.refl _ _|exact(Below.refl _ _).drew)).mono ?_;rintro e w3 ⟨rfl,rfl⟩))
 have HZ:Hid (Below w.heap.size w w3):=hb
 clear hb HL HO HD
 go_wp2
 refine bodyPost_ret (v:=.tuple #[.int .i64 (bd:Nat),.bool lt,.bool of]) (by simp[results,Tryz.results16,go_sem]) rfl ?_
 exact⟨rfl,HZ.out⟩
structure LQ(g:Gm)(n:Nat)(V:Nat->List Nat)(bad bf:Nat)(x:Sd):Prop where
 st:DS g x 0\/DL g x
 off:x.s.off=false
 cut:x.cut=0
 bd:x.bad=bad
 sm:x.bad+x.fails=bf
 bfm:bf<4611686018427387904
 seq:x.seq<=20000*n
 aF:∀ j,x.s.aF j<=2000*n
 see:∀ j,j<g.L->DW.see g x j=V j
def CL(g:Gm)(R:Nat->Prop)(n:Nat)(w:ae)(db:Nat)(V:Nat->List Nat)(bad bf:Nat):Prop:=∃ x,Ky g R w db x/\LQ g n V bad bf x
section
variable {g:Gm} {R R' S:Nat->Prop} {n m:Nat} {w w':ae} {db:Nat} {V:Nat->List Nat} {bad bf:Nat}
theorem CL.below(h:CL g R n w db V bad bf)(hb:Below w.heap.size w w'):CL g R n w' db V bad bf:=by
 obtain⟨x,h1,h2⟩:=h
 exact⟨x,h1.below hb,h2⟩
theorem CL.more(h:CL g R n w db V bad bf)(hr:∀ b,R' b->R b\/w.heap.size<=b):CL g R' n w db V bad bf:=by
 obtain⟨x,h1,h2⟩:=h
 exact⟨x,h1.more hr,h2⟩
end
end Go.Proofs.ay
namespace Go.Proofs.ay
open au aj Go.RowKit aB aD ah
structure NL(w:ae)(S:Nat->Prop)(nb L m:Nat)(V:Nat->List Nat):Prop where
 row:∀ j,j<L->∃ a c,w.cell? ⟨nb,j,none⟩=some (.slice a m c)/\bM w a (V j)/\∀ b off,a=some ⟨b,off,none⟩->S b/\b≠nb
 len:∀ j,j<L->(V j).length=m
 fr:∀ j,w.frozen? ⟨nb,j,none⟩=false
 own:S nb
section
variable {w w' w1 wr:ae} {S S' T R:Nat->Prop} {nb L m:Nat} {V:Nat->List Nat}
theorem Bn(hk:Keep T w w'){b:Nat}(h:¬T b){o:Nat}{v:Value}(hv:w.cell? ⟨b,o,none⟩=some v):w'.cell? ⟨b,o,none⟩=some v:=(kv (w:=w) (hk.block b (bu w _ hv) h)).trans hv
theorem fT(hk:Keep T w w'){a:Option cy}{l:List Nat}(h:bM w a l)(hT:∀ b off,a=some ⟨b,off,none⟩->¬T b):bM w' a l:=by
 rcases h with h|⟨b,off,e,h⟩
 .exact bh h
 .exact a_ ⟨b,off,e,λi hi=>Bn hk (hT b off e) (h i hi)⟩
theorem NL.keep(h:NL w S nb L m V)(hk:Keep T w w')(hT:∀ b,S b->¬T b)(hlt:nb<w.heap.size):NL w' S nb L m V:=by
 refine⟨λj hj=>?_,h.len,λj=>?_,h.own⟩
 .obtain⟨a,c,h1,h2,h3⟩:=h.row j hj
  exact⟨a,c,Bn hk (hT _ h.own) h1,fT hk h2 (λb off e=>hT b (h3 b off e).1),h3⟩
 .rw[j8 (w:=w) (hk.block nb hlt (hT _ h.own))]
  exact h.fr j
variable {g:Gm} {n db:Nat} {bad bf N:Nat}
def PN(w1 w:ae)(g:Gm)(n db nb:Nat)(V:Nat->List Nat)(bad bf:Nat):Prop :=
 ∃ R:Nat->Prop,CL g R n w db V bad bf/\(∀ b,R b->b<w.heap.size)/\(∀ b,b<w1.heap.size->R b)/\NL w R nb g.L (g.Y-21) V/\Below w1.heap.size w1 w
def PX(w1 wr w:ae)(N:Nat)(X:Nat->Prop)(g:Gm)(n db nb:Nat)(Vd Vn:Nat->List Nat)(bad bf:Nat):Prop :=
 ∃ R S:Nat->Prop,CL g R n w db Vd bad bf/\(∀ b,R b->b<w.heap.size)/\(∀ b,b<w1.heap.size->R b)/\(∀ b,S b->R b/\(b<wr.heap.size\/X b))/\(∀ b,wr.heap.size<=b->b<N->R b)/\NL w S nb g.L (g.Y-21) Vn/\Below w1.heap.size w1 w/\wr.heap.size<=w.heap.size/\N<=w.heap.size
variable {X:Nat->Prop} {Vd Vn:Nat->List Nat}
theorem PN.begin(h:PN w1 wr g n db nb V bad bf)(hb:Below wr.heap.size wr w):PX w1 wr w w.heap.size (λ_=>False) g n db nb V V bad bf:=by
 obtain⟨R,h1,h2,h3,h4,h5⟩:=h
 have hs:=hb.size
 refine⟨λb=>R b\/(wr.heap.size<=b/\b<w.heap.size),R,(h1.more (λb e=>e.elim bh (λe=>a_ e.1))).below hb,λb e=>e.elim (λe=>by have:=h2 b e;omega) (λe=>e.2),λb e=>bh (h3 b e),λb e=>⟨bh e,bh (h2 b e)⟩,λb e1 e2=>a_ ⟨e1,e2⟩,h4.keep (Keep.of_below (S:=λ_=>False) hb) (λ_ _ e=>e) (h2 _ h4.own),h5.trans (hb.mono h5.size),hs,al _⟩
theorem PN.cK(h:PN w1 w g n db nb V bad bf):Below w1.heap.size w1 w:=by
 obtain⟨R,h1,h2,h3,h4,h5⟩:=h
 exact h5
end
end Go.Proofs.ay
namespace Go.Proofs.ay
open ah au aj ah Go.RowKit aB aD ah
variable {y:Sd}
structure KE(g:Gm)(n k:Nat)(V:Nat->List Nat)(of:Bool)(x:Sd):Prop where
 st:DS g x k
 off:x.s.off=of
 fl:x.fails=0
 cut:x.cut<9223372036854775808
 seq:x.seq<=20000*n
 aF:∀ j,x.s.aF j<=2000*n
 see:∀ j,j<g.L->DW.see g x j=V j
def CP(g:Gm)(R:Nat->Prop)(n k:Nat)(w:ae)(db:Nat)(V:Nat->List Nat)(of:Bool)(cut:Nat):Prop:=∃ x,Ky g R w db x/\KE g n k V of x/\x.cut=cut
section
variable {g:Gm} {R R' S:Nat->Prop} {n m k:Nat} {w w':ae} {db:Nat} {V:Nat->List Nat} {of:Bool} {cut:Nat}
theorem CP.keep(h:CP g R n k w db V of cut)(hk:Keep S w w')(hs:∀ b,S b->R b):CP g R n k w' db V of cut:=by
 obtain⟨x,h1,h2⟩:=h
 exact⟨x,h1.keep hk hs,h2⟩
theorem CP.below(h:CP g R n k w db V of cut)(hb:Below w.heap.size w w'):CP g R n k w' db V of cut:=by
 obtain⟨x,h1,h2⟩:=h
 exact⟨x,h1.below hb,h2⟩
theorem CP.more(h:CP g R n k w db V of cut)(hr:∀ b,R' b->R b\/w.heap.size<=b):CP g R' n k w db V of cut:=by
 obtain⟨x,h1,h2⟩:=h
 exact⟨x,h1.more hr,h2⟩
theorem KE.late{x:Sd}(h:KE g n k V of x)(hm:n<=m):KE g m k V of x:=⟨h.st,h.off,h.fl,h.cut,by have:=h.seq;omega,λj=>by have:=h.aF j;omega,h.see⟩
theorem CP.late(h:CP g R n k w db V of cut)(hm:n<=m):CP g R m k w db V of cut:=by
 obtain⟨x,h1,h2,h3⟩:=h
 exact⟨x,h1,h2.late hm,h3⟩
theorem KE.bd{x:Sd}(h:KE g n k V of x)(hn:n<=100000000000000):Bd x 1072 :=
 ⟨h.cut,by rw[h.fl];omega,by have:=h.seq;omega,λj=>by have:=h.aF j;omega⟩
theorem KE.no9{x:Sd}(h:KE g n k V of x)(hm:P_ x y 1072)(hl:DL g y):False:=by
 have h1:=hm.bf
 have h2:=hl.no
 have h3:=h.st.ok
 have h4:=h.fl
 omega
theorem KE.next{x:Sd}{k':Nat}{of':Bool}{V':Nat->List Nat}(h:KE g n k V of x)(hm:P_ x y 1072)(hs:DS g y k')(ho:y.s.off=of')(hv:∀ j,j<g.L->DW.see g y j=V' j):KE g (n+1) k' V' of' y :=
 ⟨hs,ho,by have:=h.fl;have:=hm.fails;omega,by have:=h.cut;have:=hm.cut;omega,by have:=h.seq;have:=hm.seq;omega,λj=>by have:=h.aF j;have:=hm.aF j;omega,hv⟩
def PwL(k cut k':Nat)(V V' W:Nat->List Nat)(c:Nat)(of':Bool)(cut':Nat):Prop:=(c=0/\V'=W/\of'=false/\k'=0/\((cut=0/\cut'=0)\/(1<=cut'/\cut'<cut)))\/(c=7/\V'=V/\of'=true/\k'=k+1/\1<=cut)
theorem KE.change{x:Sd}{l c:Nat}{v:List Nat}(h:KE g n k V of x)(hm:P_ x y 1072)(hq:ChQ g x y k l v c):∃ k' V' of',KE g (n+1) k' V' of' y/\PwL k x.cut k' V V' (upd V l v) c of' y.cut:=by
 rcases hq with ⟨rfl,q2,q3,q4,q5⟩|⟨_,_,q,⟨rfl,q6,q7,q8⟩|⟨rfl,q8,q9⟩⟩
 .refine⟨0,upd V l v,false,h.next hm q2 q3 λj hj=>?_,bh ⟨rfl,rfl,rfl,rfl,?_⟩⟩
  .rw[q5 j hj]
   unfold upd
   split
   .rfl
   .exact h.see j hj
  .have h1:=hm.cz q3
   have h5:=hm.cut
   have h2:=hm.bf
   have h3:=h.fl
   have h4:=hm.bm
   omega
 .exact⟨k+1,V,true,h.next hm q6.ds q6.off λj hj=>(q j hj).trans (h.see j hj),a_ ⟨rfl,rfl,rfl,rfl,q8⟩⟩
 .exact(h.no9 hm q8).elim
theorem lQ{x:Sd}{l:Int}(ho:x.s.off=true):findF g.L x.s.off l=7:=by unfold findF;rw[if_pos ho]
theorem Es(h:CP g R n k w db V true cut)(l:Int)(fa:Option cy)(cap m:Nat)(hm:m<4611686018427387904) :
 aE (PB aa false) 27 #[.pointer (some ⟨db,0,none⟩),.int .i64 l,.slice fa m cap] w λe w'=>e=.returned (b_ 7)/\Below w.heap.size w w':=by
 obtain⟨x,⟨a,rfl,hdk,hod⟩,hc,_⟩:=h
 have e:Qc g x l m=7:=by unfold Qc;rw[lQ hc.off,if_pos (by decide)]
 have:=Gh hdk (by have:=hc.st.dw.y;omega) l fa m cap hm (by rw[e];decide)
 rw[e] at this
 exact this
theorem Hw(h:CP g R n k w db V true cut)(l:Int) :
 aE (PB aa false) 30 #[.pointer (some ⟨db,0,none⟩),.int .i64 l] w λe w'=>e=.returned (b_ 7)/\Below w.heap.size w w':=by
 obtain⟨x,⟨a,rfl,hdk,hod⟩,hc,_⟩:=h
 have e:Ue g x l=7:=by unfold Ue;rw[lQ hc.off,if_pos (by decide)]
 have:=Uf hdk l (by rw[e];decide)
 rw[e] at this
 exact this
theorem Hy(h:CP g R n k w db V true cut)(l:Int) :
 aE (PB aa false) 23 #[.pointer (some ⟨db,0,none⟩),.int .i64 l] w λe w'=>e=.returned (.tuple #[.slice none 0 0,b_ 7])/\w'=w:=by
 obtain⟨x,⟨a,rfl,hdk,hod⟩,hc,_⟩:=h
 have e:=lQ (g:=g) (l:=l) hc.off
 have:=Ku hdk l (by rw[e];decide)
 rw[e] at this
 exact this
theorem Eu(h:CP g R n k w db V true cut) :
 aE (PB aa false) 25 #[.pointer (some ⟨db,0,none⟩)] w λe w'=>e=.returned (b_ 7)/\Below w.heap.size w w':=by
 obtain⟨x,⟨a,rfl,hdk,hod⟩,hc,_⟩:=h
 have e:Yx g x=7:=by unfold Yx;rw[if_pos hc.off]
 have:=Gi hdk (bh (by rw[e];decide))
 rw[e] at this
 exact this
theorem Ta(HL:Lib)(h:CP g R n k w db V false cut)(hn:n<=100000000000000)(hk:k<=2*g.P)(j:Nat)(hj:j<g.L)(fa:Option cy)(cap m:Nat)(data:List Nat)(hA:bn data)(hL:bM w fa data)(hfa:∀ b off,fa=some ⟨b,off,none⟩->R b)(hdl:data.length=m)(hm:m=g.Y-21) :
 aE (PB aa false) 27 #[.pointer (some ⟨db,0,none⟩),.int .i64 (j:Nat),.slice fa m cap] w λe w'=>∃ c k' V' of' cut',e=.returned (b_ c)/\CP g R (n+1) k' w' db V' of' cut'/\Keep (λb=>¬R b) w w'/\PwL k cut k' V V' (upd V j data) c of' cut':=by
 subst hdl
 obtain⟨x,⟨a,rfl,hdk,hod⟩,hc,rfl⟩:=h
 have hds:=hc.st
 have hy:=hds.dw.y
 have hwr:Qc g x (j:Int) data.length=0:=by
  unfold Qc
  rw[wG hc.off]
  have e:rO g (j:Int)=0:=if_neg (by simp;omega)
  have:=hds.ok
  rw[e,if_neg (by decide),if_neg (by omega),if_neg (by omega)]
 have hch:=uF HL.is HL.so HL.se HL.ch hdk k 1072 hds hc.off hk (hc.bd hn) (wE hds hdk.iR) (by have:=hds.spare hdk.iR;omega) 1 j data ⟨bh rfl,λ_=>by omega,(λe=>by cases e),hA,hj⟩ fa cap hL (λb off e hb=>hod b hb (hfa b off e))
 refine(Bg hdk (by omega) fa cap hwr hch).mono ?_
 rintro e w' ⟨y,c,rfl,p1,p2,p3,p4⟩
 obtain⟨k',V',of',q1,q2⟩:=hc.change p3 p4
 exact⟨c,k',V',of',y.cut,rfl,⟨y,⟨a,rfl,p1,hod⟩,q1,rfl⟩,keepR p2 hod,q2⟩
theorem XQ(HL:Lib)(h:CP g R n k w db V false cut)(hn:n<=100000000000000)(hk:k<=2*g.P)(j:Nat)(hj:j<g.L) :
 aE (PB aa false) 30 #[.pointer (some ⟨db,0,none⟩),.int .i64 (j:Nat)] w λe w'=>∃ c k' V' of' cut',e=.returned (b_ c)/\CP g R (n+1) k' w' db V' of' cut'/\Keep (λb=>¬R b) w w'/\PwL k cut k' V V' (upd V j (aq (g.Y-21) 0)) c of' cut':=by
 obtain⟨x,⟨a,rfl,hdk,hod⟩,hc,rfl⟩:=h
 have hds:=hc.st
 have hwr:Ue g x (j:Int)=0:=by
  unfold Ue
  rw[wG hc.off]
  have e:rO g (j:Int)=0:=if_neg (by simp;omega)
  have:=hds.ok
  rw[e,if_neg (by decide),if_neg (by omega)]
 have hch:=uF HL.is HL.so HL.se HL.ch hdk k 1072 hds hc.off hk (hc.bd hn) (wE hds hdk.iR) (by have:=hds.spare hdk.iR;omega) 2 j [] ⟨a_ rfl,(λe=>by cases e),λ_=>rfl,(λx hx=>by cases hx),hj⟩ none 0 (bh rfl) (λb off e=>by cases e)
 refine(Qd hdk hwr hch).mono ?_
 rintro e w' ⟨y,c,rfl,p1,p2,p3,p4⟩
 obtain⟨k',V',of',q1,q2⟩:=hc.change p3 p4
 exact⟨c,k',V',of',y.cut,rfl,⟨y,⟨a,rfl,p1,hod⟩,q1,rfl⟩,keepR p2 hod,q2⟩
theorem Td(HL:Lib)(h:CP g R n k w db V false cut)(hn:n<=100000000000000)(hk:k<=2*g.P) :
 aE (PB aa false) 25 #[.pointer (some ⟨db,0,none⟩)] w λe w'=>∃ c k' of' cut',e=.returned (b_ c)/\CP g R (n+1) k' w' db V of' cut'/\Keep (λb=>¬R b) w w'/\((c=0/\of'=false/\k'<=k)\/(c=7/\of'=true/\k'=k+1/\1<=cut)):=by
 obtain⟨x,⟨a,rfl,hdk,hod⟩,hc,rfl⟩:=h
 have hds:=hc.st
 have hok:=hds.ok
 have hf:Yx g x=0:=by
  unfold Yx
  rw[hc.off,if_neg (by decide),if_neg (by omega)]
 cases hch:x.ch with
 |false =>
  refine(Gi hdk (a_ hch)).mono ?_
  rintro e w' ⟨rfl,hb'⟩
  rw[hf]
  exact⟨0,k,false,x.cut,rfl,⟨x,Ky.below (g:=g) (R:=R) (db:=a.db) ⟨a,rfl,hdk,hod⟩ hb',hc.late (by omega),rfl⟩,Keep.of_below hb',bh ⟨rfl,rfl,al _⟩⟩
 |true =>
  refine(Qe HL.is HL.so HL.se HL.ch hdk k 1072 hds hc.off hk (hc.bd hn) (wE hds hdk.iR) (by have:=hds.spare hdk.iR;omega) hch).mono ?_
  rintro e w' ⟨y,c,rfl,p1,p2,p3,p4,p5⟩
  have hv:∀ j,j<g.L->DW.see g y j=V j:=λj hj=>(p4 j hj).trans (hc.see j hj)
  rcases p5 with ⟨rfl,q2,q3,q4⟩|⟨_,_,⟨rfl,q,_,q1⟩|⟨rfl,q,q9⟩⟩
  .exact⟨0,0,false,y.cut,rfl,⟨y,⟨a,rfl,p1,hod⟩,hc.next p3 q2 q3 hv,rfl⟩,keepR p2 hod,bh ⟨rfl,rfl,cV _⟩⟩
  .exact⟨7,k+1,true,y.cut,rfl,⟨y,⟨a,rfl,p1,hod⟩,hc.next p3 q.ds q.off hv,rfl⟩,keepR p2 hod,a_ ⟨rfl,rfl,rfl,q1⟩⟩
  .exact(hc.no9 p3 q).elim
theorem Oy(HL:Lib)(h:CP g R n k w db V false cut)(hn:n<=100000000000000)(j:Nat)(hj:j<g.L) :
 aE (PB aa false) 23 #[.pointer (some ⟨db,0,none⟩),.int .i64 (j:Nat)] w λe w'=>RdP e w w' (V j):=by
 obtain⟨x,⟨a,rfl,hdk,hod⟩,hc,_⟩:=h
 refine(Gj HL.is hdk hc.st.dw (by have:=hc.seq;omega) j hj hc.off).mono ?_
 rintro e w' hq
 rw[hc.see j hj] at hq
 exact hq
theorem XK(h:CP g R n k w db V of cut) :
 aE (PB aa false) 13 #[.pointer (some ⟨db,0,none⟩)] w λe w'=>e=.returned (.int .i64 ((g.Y-21:Nat):Int))/\w'=w:=by
 obtain⟨x,⟨a,rfl,hdk,hod⟩,hc,_⟩:=h
 exact nU hdk (by have:=hc.st.dw.y;omega)
theorem SY(h:CP g R n k w db V of cut) :
 aE (PB aa false) 16 #[.pointer (some ⟨db,0,none⟩)] w λe w'=>∃ bad:Nat,e=.returned (.tuple #[.int .i64 (bad:Nat),.bool false,.bool of])/\Below w.heap.size w w':=by
 obtain⟨x,⟨a,rfl,hdk,hod⟩,hc,_⟩:=h
 have:=M_ hdk
 rw[hc.off,decide_eq_false (by have:=hc.st.ok;omega)] at this
 exact this.mono λe w' q=>⟨x.bad,q⟩
theorem abS(h:CP g R n k w db V of cut)(c:Int)(hc9:c<9223372036854775808) :
 aE (PB aa false) 29 #[.pointer (some ⟨db,0,none⟩),.int .i64 c] w λe w'=>e=.returned (.tuple #[])/\CP g R n k w' db V of c.toNat/\Keep (λb=>¬R b) w w':=by
 obtain⟨x,⟨a,rfl,hdk,hod⟩,hc,_⟩:=h
 refine(Ur hdk c).mono ?_
 rintro e w' ⟨rfl,h1,h2⟩
 have d:=hc.st
 exact⟨rfl,⟨_,⟨a,rfl,h1,hod⟩,⟨⟨⟨d.dw.dv,d.dw.y,d.dw.y1,d.dw.l⟩,d.fit,d.nb,d.ok,d.room⟩,hc.off,hc.fl,by show c.toNat<_;omega,hc.seq,hc.aF,hc.see⟩,rfl⟩,keepR h2 hod⟩
theorem B_(HL:Lib)(h:CP g R n k w db V of cut)(hn:n<=100000000000000)(hR:∀ b,R b->b<w.heap.size)(hL:1<=g.L) :
 aE (PB aa false) 22 #[.pointer (some ⟨db,0,none⟩)] w λe w'=>e=.returned .nilIface/\CP g R n k w' db V false cut/\Keep (λb=>¬R b) w w':=by
 obtain⟨x,⟨a,rfl,hdk,hod⟩,hc,zU⟩:=h
 have hds:=hc.st
 refine(Gn HL.nw hdk.du hL hds.dw.l x.k.pa x.seq (by have:=hc.seq;omega) hds.dw.dv.di).mono ?_
 rintro e w' ⟨kb,ab,ob,kk,sq,rfl,p1,p2,p3,p4,p5,p6⟩
 obtain⟨q1,q2⟩:=Uj hds p1.ho.inv p2 p3
 have hoc:∀ b,OC g a b->¬R b:=λb hb=>hod b (hb.elim bh (λe=>a_ (bh e)))
 refine⟨rfl,⟨_,⟨{ a with kb:=kb,ab:=ab,ob:=ob },rfl,p1,λb hb=>?_⟩,⟨q1,rfl,hc.fl,hc.cut,by have:=hc.seq;show sq<=_;omega,hc.aF,λj hj=>(q2 j hj).trans (hc.see j hj)⟩,zU⟩,p6.mono hoc⟩
 rcases hb with e|e|e
 .exact hoc b (bh e)
 .exact hoc b (a_ e)
 .intro hr
  have:=p5 b e
  have:=hR b hr
  omega
structure PS(w1 w:ae)(R:Nat->Prop)(g:Gm)(n k db:Nat)(V:Nat->List Nat)(of:Bool)(cut:Nat):Prop where
 cp:CP g R n k w db V of cut
 lt:∀ b,R b->b<w.heap.size
 lo:∀ b,b<w1.heap.size->R b
 cK:Below w1.heap.size w1 w
variable {w1 wr wq w2:ae} {a:Option cy} {cap:Nat} {l:List Nat}
theorem PS.below(h:PS w1 w R g n k db V of cut)(hb:Below w.heap.size w w'):PS w1 w' R g n k db V of cut :=
 ⟨h.cp.below hb,λb e=>cI (h.lt b e) hb.size,h.lo,h.cK.trans (hb.mono h.cK.size)⟩
theorem PS.step{n' k' cut':Nat}{V':Nat->List Nat}{of':Bool}(h:PS w1 w R g n k db V of cut)(hc:CP g R n' k' w' db V' of' cut')(hk:Keep (λb=>¬R b) w w'):PS w1 w' R g n' k' db V' of' cut' :=
 ⟨hc,λb e=>cI (h.lt b e) hk.size,h.lo,h.cK.trans (yX hk h.cK.size h.lo)⟩
end
theorem CO.cp{g:Gm}{R:Nat->Prop}{n:Nat}{w:ae}{db:Nat}{V:Nat->List Nat}(h:CO g R n w db V):CP g R n 0 w db V false 0:=by
 obtain⟨x,h1,h2⟩:=h
 exact⟨x,h1,⟨h2.ok.ds,h2.ok.off,h2.fails,h2.ok.cut,h2.ok.seq,h2.ok.aF,h2.see⟩,h2.cut⟩
end Go.Proofs.ay
namespace Go.Proofs.ay
open ah au aj Go.RowKit aB aD ah
theorem LG(c:Nat)(k:Int)(v:Bool)(w:ae)(hv:decide ((c:Int)=k)=v):aE (PB aa false) 12 #[b_ c,.int .i64 k] w λe w'=>e=.returned (.bool v)/\w'=w:=by
 have HT:Hid (aE (PB aa false) 34 #[b_ c] w λe w'=>e=.returned (.int .i64 (c:Nat))/\w'=w):=by
  by_cases h:c=0
  .subst h;rw[bX];exact AZ w
  .rw[fC h];exact vk c w
 generalize b_ c=ev at *
 go_enter Al.func12,Tryz.ntmps12
 go_wp2_with fail
 refine HT.out.mono ?_
 rintro e w1 ⟨rfl,rfl⟩
 clear HT
 go_wp2
 go_ret
 refine⟨?_,rfl⟩
 rw[<-hv]
 by_cases h:(c:Int)=k<;>simp[h]
section
variable {w1 wr w:ae} {N:Nat} {X:Nat->Prop} {g:Gm} {n db nb:Nat} {Vd Vn:Nat->List Nat} {bad bf:Nat}
end
structure ZB(w wq:ae)(bb k:Nat):Prop where
 keep:Keep (λb=>b=bb) w wq
 cell:∀ j,j<k->∃ x:Int,wq.cell? ⟨bb,j,none⟩=some (.int .u8 x)
 free:∀ j,wq.frozen? ⟨bb,j,none⟩=false
section
variable {w1 wr w:ae} {N:Nat} {X:Nat->Prop} {g:Gm} {n db nb:Nat} {V Vd Vn:Nat->List Nat} {bad bf:Nat}
end
theorem KA.data{w wr:ae}{a:Option cy}{cap i:Nat}{l:List Nat}(h:KA w wr a cap i l)(hi:1<=i):∃ bb,a=some ⟨bb,0,none⟩/\w.heap.size<=bb/\bb<wr.heap.size/\∀ W:ae,W.heap[bb]?=wr.heap[bb]?->ZB W W bb i/\bM W (some ⟨bb,0,none⟩) l:=by
 have hl:=h.len
 rcases h.own.parts with ⟨_,_,e⟩|⟨g,cur,rfl,h1,h2,h3,h4,h5,h6⟩
 .rw[e] at hl;simp at hl;omega
 .have hlies:=h.own.lies.resolve_left (λe=>by rw[e] at hl;simp at hl;omega)
  obtain⟨g',off,e,hc⟩:=hlies
  cases e
  refine⟨g,rfl,h1,aT h2,λW hW=>?_⟩
  have hcell:∀ o,W.cell? ⟨g,o,none⟩=wr.cell? ⟨g,o,none⟩:=λo=>kv hW
  refine⟨⟨Keep.refl _ _,λj hj=>⟨_,(hcell j).trans (by have:=hc j (by omega);rwa [dp] at this)⟩,λj=>by rw[j8 (w:=wr) hW];exact dS h2 j⟩,a_ ⟨g,0,rfl,λj hj=>(hcell _).trans (hc j hj)⟩⟩
structure BN(w wr:ae)(a:Option cy)(cap i m:Nat)(L:List Pg):Prop where
 own:ng wr w.heap.size a cap L
 len:L.length=i
 el:∀ k,k<i->∃ b,gP L k=⟨some ⟨b,0,none⟩,aq m 0,m⟩/\w.heap.size<=b/\Row wr b (aq m 0)
 cK:Below w.heap.size w wr
theorem YE{L:List Pg}{x:Pg}{k:Nat}:gP (L++[x]) k=if k<L.length then gP L k else if k=L.length then x else pg0:=by
 unfold gP
 by_cases h:k<L.length
 .rw[if_pos h,List.getElem?_append_left h]
 .rw[if_neg h,List.getElem?_append_right (by omega)]
  by_cases e:k=L.length
  .rw[if_pos e,e];simp
  .rw[if_neg e,List.getElem?_eq_none (by simp;omega)];rfl
theorem rP{w:ae}{base cap:Nat}{a:Option cy}{L:List Pg}(h:ng w base a cap L){b:Nat}{l:List Nat}(hr:Row w b l):¬blk a b:=by
 rintro ⟨x,rfl,rfl⟩
 rcases h.parts with ⟨e,_⟩|⟨g,cur,e,h1,h2,_⟩
 .cases e
 .cases e
  have e2:some (Obj.cells cur 60 (0,0))=some (Obj.cells (l.map bv).toArray 5 (0,0)):=h2.symm.trans hr
  injection e2 with e2
  injection e2 with _ e3 _
  exact absurd e3 (by decide)
theorem Ib(n m:Nat)(w:ae)(hn:n<=256)(hm:m<=256) :
 aE (PB aa false) 14 #[.int .i64 (n:Nat),.int .i64 (m:Nat)] w λe w'=>∃ a cap L,e=.returned (.slice a n cap)/\BN w w' a cap n m L:=by
 have H0:Hid (BN w w none 0 0 m []):=⟨⟨rfl,bh ⟨rfl,rfl⟩⟩,rfl,(λk hk=>by omega),Below.refl _ _⟩
 have hmk:=ah.iO (zb:=false) m (by omega)
 go_enter Al.func14,Tryz.ntmps14
 go_wp2
 go_loopw [5,6] (λv x wq=>∃ (i:Nat) (a:Option cy) (cap:Nat) (L:List Pg),i<=n/\v=.slice a i cap/\x=.int .i64 i/\Hid (BN w wq a cap i m L)) (λ_ x _=>n-(intOf x).toNat)
 case atStart=>exact⟨0,none,0,[],cV _,rfl,rfl,H0.out⟩
 case round =>
  obtain⟨i,a,cap,L,hi,rfl,rfl,hR⟩:=hrel
  clear H0
  by_cases hlt:i<n
  .obtain⟨L1,hL1⟩:∃ L1,L1=L++[(⟨some ⟨wr.heap.size,0,none⟩,aq m 0,m⟩:Pg)]:=⟨_,rfl⟩
   have IJ:Hid (L.length=i/\L1.length=i+1/\L1=L++[(⟨some ⟨wr.heap.size,0,none⟩,aq m 0,m⟩:Pg)]):=⟨hR.out.len,by rw[hL1,List.length_append,hR.out.len];rfl,hL1⟩
   have HO:Hid (∀ o o2,ng ((wr.alloc o).alloc o2) w.heap.size a cap L/\w.heap.size<=((wr.alloc o).alloc o2).heap.size):=λo o2=>⟨(hR.out.own.below (aC wr o)).below (aC _ o2),cC hR.out.cK.size (cC (aC wr o).size (aC _ o2).size)⟩
   have HX:Hid (Ya ((wr.alloc (.cells (ah.pE m) 5)).alloc (.cells #[.slice (some ⟨wr.heap.size,0,none⟩) m m] 60)) (some ⟨wr.heap.size+1,0,none⟩) [(⟨some ⟨wr.heap.size,0,none⟩,aq m 0,m⟩:Pg)]):=by
    refine a_ ⟨_,0,rfl,λk hk=>?_⟩
    obtain rfl:k=0:=by simpa using hk
    simp[fI,gP]
   clear hL1
   go_wp2_with (at_builtin;refine MF rfl (.tmp 12) (.tmp 15) rfl w.heap.size a cap L i IJ.out.1.symm rfl (HO.out _ _).1 (some ⟨wr.heap.size+1,0,none⟩) 1 [(⟨some ⟨wr.heap.size,0,none⟩,aq m 0,m⟩:Pg)] 1 rfl rfl (λe=>by cases e) HX.out L1 IJ.out.2.2 (by rw[IJ.out.2.1];omega) (HO.out _ _).2 ?_)
   intro a1 c1 w2 hO hK
   have H2:Hid (BN w w2 a1 c1 (i+1) m L1):=by
    have hb2:Below wr.heap.size wr ((wr.alloc (.cells (ah.pE m) 5)).alloc (.cells #[.slice (some ⟨wr.heap.size,0,none⟩) m m] 60)):=(aC wr _).trans ((aC _ _).mono (aC wr _).size)
    have hz:Row ((wr.alloc (.cells (ah.pE m) 5)).alloc (.cells #[.slice (some ⟨wr.heap.size,0,none⟩) m m] 60)) wr.heap.size (aq m 0):=Row.below (heap_alloc_new wr _) (aC _ _)
    have Eh:=(HO.out (.cells (ah.pE m) 5) (.cells #[.slice (some ⟨wr.heap.size,0,none⟩) m m] 60)).1
    refine⟨hO,IJ.out.2.1,λk hk=>?_,(hR.out.cK.trans (hb2.mono hR.out.cK.size)).trans (hK.below (HO.out _ _).2 (λb e=>(Eh.ge e).1))⟩
    rw[IJ.out.2.2,YE,IJ.out.1]
    by_cases e:k<i
    .rw[if_pos e]
     obtain⟨b,q1,q2,q3⟩:=hR.out.el k e
     exact⟨b,q1,q2,(q3.below hb2).keep hK (rP Eh (q3.below hb2))⟩
    .rw[if_neg e,if_pos (by omega)]
     exact⟨_,rfl,hR.out.cK.size,hz.keep hK (rP Eh hz)⟩
   rw[IJ.out.2.1]
   clear HO hO hK hR IJ HX
   go_wp2
   exact⟨⟨i+1,a1,c1,L1,by omega,rfl,by go_num,H2.out⟩,by simp[intOf];omega⟩
  .obtain rfl:i=n:=by omega
   go_wp2
   go_ret
   exact⟨a,cap,L,rfl,hR.out⟩
