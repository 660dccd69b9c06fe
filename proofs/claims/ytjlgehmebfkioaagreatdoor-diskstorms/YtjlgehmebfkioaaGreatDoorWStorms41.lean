/- Part of the proof. -/
import Derived.Test.YtjlgehmebfkioaaGreatDoorWStorms40
import Derived.Test.YtjlgehmebfkioaaGreatDoorZ39
set_option maxRecDepth 100000
open Go.Proofs.Tryz renaming prog->aa
open Go.Proofs.ah.Al (PB)
set_option maxHeartbeats 64000000
set_option linter.unusedVariables false
open Classical renaming byContradiction->cE
open Go renaming Value->ai,World->ae,Addr->cy,Calls->aE
open Go.Act renaming eval->ie
open Go.Frame renaming enter->b9
open Go.Value renaming slice->fY
open List renaming length_append->cm,getElem?_append_right->dE,getElem?_append_left->gd,mem_append->eQ,mem_cons->gf,not_mem_nil->kh,replicate->aq,mem_singleton->ew
open Nat renaming lt_of_lt_of_le->cI,le_refl->al,le_succ->fp,le_trans->cC,zero_le->cV
open Or renaming inr->a_,inl->bh
namespace Go.Proofs.ay
open ah au aj ah Go.RowKit aB aD ah
def fJ(F:Nat->FT):Nat->List ai
 |0=>[]
 |i+1=>fJ F i++[.slice (F i).ka (F i).K.length (F i).kc,.slice (F i).ta (F i).T.length (F i).tc]
theorem qj(F:Nat->FT):∀ i,(fJ F i).length=i*2
 |0=>rfl
 |i+1=>by rw[fJ,cm,qj F i];simp;omega
theorem sU(F:Nat->FT):∀ i j,j<i->(fJ F i)[j*2]?=some (.slice (F j).ka (F j).K.length (F j).kc)/\(fJ F i)[j*2+1]?=some (.slice (F j).ta (F j).T.length (F j).tc)
 |0,j,h=>by omega
 |i+1,j,h=>by
  have hl:=qj F i
  rw[fJ]
  by_cases e:j=i
  .subst e
   rw[dE (by omega),dE (by omega),hl]
   refine⟨by rw[Nat.sub_self];rfl,by rw[show j*2+1-j*2=1 by omega];rfl⟩
  .rw[gd (by omega),gd (by omega)]
   exact sU F i j (by omega)
theorem qL{F G:Nat->FT}:∀ i,(∀ j,j<i->F j=G j)->fJ F i=fJ G i
 |0,_=>rfl
 |i+1,h=>by rw[fJ,fJ,qL i (λj hj=>h j (by omega)),h i (by omega)]
theorem abP:((PB aa false).info? 56).map (λi=>(i.zero,i.size,i.bytes))=some (some (.agg #[.slice none 0 0,.slice none 0 0]),2,48):=by kernel_rfl
theorem ae2:(PB aa false).underlying 54=some (.slice 56):=by kernel_rfl
theorem Ht(F:Nat->FT):∀ i,∀ u∈fJ F i,u.oneCell'=true
 |0,u,h=>by cases h
 |i+1,u,h=>by
  rw[fJ,eQ] at h
  rcases h with h|h
  .exact Ht F i u h
  .simp only[gf,kh,or_false] at h
   rcases h with rfl|rfl<;>rfl
theorem RA.own{w:ae}{base cap:Nat}{a:Option cy}{L:List Pg}(h:ng w base a cap L):RA w a cap L:=by
 rcases h.parts with ⟨rfl,rfl,rfl⟩|⟨g,cur,rfl,h1,h2,h3,h4,h5,h6⟩
 .exact RA.nil w
 .refine⟨h3,a_ ⟨g,0,cur,rfl,h2,by omega,λi hi=>?_⟩⟩
  rcases h.lie with e|⟨b,off,e,hc⟩
  .rw[e] at hi;simp at hi
  .cases e;exact hc i hi
structure LB(w1 w0 w:ae)(g:Gm)(db:Nat)(V:Nat->List Nat)(ow:Nat->Nat)(m i:Nat)(a:Option cy)(cap:Nat)(F:Nat->FT):Prop where
 ps:PS w1 w (λb=>ow b≠0) g 0 0 db V false 0
 own:w.ownsRow w0.heap.size 56 2 (.slice a i cap) i (fJ F i)
 bl:∀ b,blk a b->ow b=2
 one:∀ b,b<w1.heap.size->ow b=1
 rk:∀ j,j<i->RA w (F j).ka (F j).kc (F j).K
 bk:∀ j,j<i->∀ b,blk (F j).ka b->ow b=4+2*j
 z:∀ j,j<i->(F j).ta=none/\(F j).tc=0/\(F j).T=[]/\∃ p,(F j).K=[p]/\p.p=aq m 0/\bM w p.a p.p/\∀ b off,p.a=some ⟨b,off,none⟩->ow b=3
 gt:w0.heap.size<=w.heap.size
section
variable {w1 w0 w w2 w':ae} {g:Gm} {db:Nat} {V:Nat->List Nat} {ow:Nat->Nat} {m i:Nat} {a:Option cy} {cap:Nat} {F:Nat->FT}
theorem Er{x:ae}{base n:Nat}{xs:List ai}(h:x.ownsRow base 56 2 (.slice a n cap) n xs){b:Nat}(hb:blk a b):base<=b/\b<x.heap.size:=by
 obtain⟨y,rfl,rfl⟩:=hb
 rcases h.2 with ⟨e,_⟩|⟨gg,cap',cur,hv,r1,r2,_⟩
 .simp at e
 .simp at hv
  rw[hv.1]
  exact⟨r1,aT r2⟩
theorem Hu{x y:ae}{base n:Nat}{v:ai}{xs:List ai}(h:x.ownsRow base 56 2 v n xs)(hb:Below x.heap.size x y):y.ownsRow base 56 2 v n xs:=by
 refine⟨h.1,?_⟩
 rcases h.2 with h2|⟨g,cap',cur,hv,r1,r2,r3⟩
 .exact bh h2
 .exact a_ ⟨g,cap',cur,hv,r1,by rw[hb.block g (aT r2)];exact r2,r3⟩
theorem LB.app(h:LB w1 w0 w g db V ow m i a cap F){ka:Option cy}{kc aU gg:Nat}{Ls:List Pg}{o:Obj}(hbn:BN w w2 ka kc 1 m Ls)(ho:w'.ownsRow w0.heap.size 56 2 (.slice (some ⟨gg,0,none⟩) (i+1) aU) (i+1) (fJ F i++[.slice ka 1 kc,.slice none 0 0]))(hk:Keep (blk a) (w2.alloc o) w')(hg:blk a gg\/gg=(w2.alloc o).heap.size):∃ dx F',LB w1 w0 w' g db V dx m (i+1) (some ⟨gg,0,none⟩) aU F':=by
 have hL:=hbn.len
 obtain⟨kb,cur,rfl,k1,k2,k3,k4,k5,k6⟩:=hbn.own.parts.resolve_left (λe=>by rw[e.2.2] at hL;simp at hL)
 obtain⟨zb,z1,z2,z3⟩:=hbn.el 0 (by omega)
 have hLs:Ls=[⟨some ⟨zb,0,none⟩,aq m 0,m⟩]:=by
  rcases Ls with _|⟨x,xs⟩
  .simp at hL
  .have:xs=[]:=List.eq_nil_of_length_eq_zero (by simpa using hL)
   subst this
   have:x=⟨some ⟨zb,0,none⟩,aq m 0,m⟩:=by simpa [gP] using z1
   rw[this]
 have XL:zb≠kb:=λe=>by
  subst e
  have:=z3.symm.trans k2
  simp at this
 have hs2:w.heap.size<=w2.heap.size:=hbn.cK.size
 have hsa:(w2.alloc o).heap.size=w2.heap.size+1:=by simp
 have hs':=hk.size
 have hgs:gg<w'.heap.size:=(Er ho ⟨_,rfl,rfl⟩).2
 have hba:∀ b,blk a b->b<w.heap.size:=λb e=>(Er h.own e).2
 have S_:Keep (λb=>ow b=2) w w':=by
  have h1:Keep (λb=>ow b=2) w (w2.alloc o):=Keep.of_below (hbn.cK.alloc hs2 o)
  exact h1.trans (hk.mono (λb e=>h.bl b e))
 have hblk:∀ b,w.heap.size<=b->b<w2.heap.size->w'.heap[b]?=w2.heap[b]?:=λb e1 e2=>(hk.block b (by omega) (λe=>by have:=hba b e;omega)).trans (heap_alloc_old w2 o e2)
 have hzl:zb<w2.heap.size:=aT z3
 have hkl:kb<w2.heap.size:=aT k2
 have hgn:gg≠kb/\gg≠zb:=by
  rcases hg with e|e
  .have:=hba gg e;omega
  .omega
 have hgo:gg<w.heap.size->ow gg=2:=λe=>hg.elim (λe=>h.bl gg e) (λe2=>by omega)
 obtain⟨dx,how⟩:∃ dx:Nat->Nat,dx=λb=>if w.heap.size<=b/\b<w'.heap.size then(if b=kb then 4+2*i else if b=gg then 2 else 3) else ow b:=⟨_,rfl⟩
 have hold:∀ b,b<w.heap.size->dx b=ow b:=λb e=>by rw[how];exact if_neg (by omega)
 have hnew:∀ b,w.heap.size<=b->b<w'.heap.size->dx b=if b=kb then 4+2*i else if b=gg then 2 else 3:=λb e1 e2=>by rw[how];exact if_pos ⟨e1,e2⟩
 have hgg:dx gg=2:=by
  by_cases e:gg<w.heap.size
  .rw[hold gg e];exact hgo e
  .rw[hnew gg (by omega) hgs,if_neg hgn.1,if_pos rfl]
 have hkb:dx kb=4+2*i:=by rw[hnew kb k1 (by omega),if_pos rfl]
 have hzb:dx zb=3:=by rw[hnew zb z2 (by omega),if_neg XL,if_neg (λe=>hgn.2 e.symm)]
 have hnz:∀ b,dx b≠0->ow b≠0\/w.heap.size<=b:=λb e=>by
  by_cases e2:w.heap.size<=b
  .exact a_ e2
  .rw[hold b (by omega)] at e;exact bh e
 have hlt:∀ b,ow b≠0->b<w.heap.size:=h.ps.lt
 have hone:∀ b,b<w1.heap.size->dx b=1:=λb e=>by
  have h1:=h.one b e
  rw[hold b (hlt b (by omega))];exact h1
 have abQ:RA w2 (some ⟨kb,0,none⟩) kc Ls:=RA.own hbn.own
 have hRA:RA w' (some ⟨kb,0,none⟩) kc Ls:=by
  refine⟨abQ.1,?_⟩
  rcases abQ.2 with ⟨e,_⟩|⟨g2,off,ae3,e,q2,q3,q4⟩
  .cases e
  .cases e
   have hb:=hblk kb k1 hkl
   exact a_ ⟨kb,0,ae3,rfl,hb.trans q2,q3,λj hj=>(World.cell?_of_block (w:=w2) hb).trans (q4 j hj)⟩
 refine⟨dx,λj=>if j=i then⟨some ⟨kb,0,none⟩,kc,Ls,none,0,[]⟩ else F j,⟨(h.ps.cp.more hnz).keep S_ (λb e=>by rw[hold b (hlt b (by omega)),e];decide),λb e=>?_,λb e=>by rw[hone b e];decide,h.ps.cK.trans (S_.below h.ps.cK.size (λb e=>cE λhn=>by have:=h.one b (by omega);omega))⟩,?_,λb e=>by rw[ny e];exact hgg,hone,λj hj=>?_,λj hj=>?_,λj hj=>?_,?_⟩
 .rcases hnz b e with e2|e2
  .exact cI (hlt b e2) S_.size
  .refine cE λhn=>?_
   rw[how] at e
   dsimp only at e
   have e3:ow b≠0:=by rw[if_neg (λe4=>hn e4.2)] at e;exact e
   have:=hlt b e3
   have:=S_.size
   omega
 .have e:fJ (λj=>if j=i then(⟨some ⟨kb,0,none⟩,kc,Ls,none,0,[]⟩:FT) else F j) (i+1)=fJ F i++[.slice (some ⟨kb,0,none⟩) 1 kc,.slice none 0 0]:=by
   rw[fJ,qL i (λj hj=>if_neg (by omega)),if_pos rfl]
   rw[hL]
   rfl
  rw[e]
  exact ho
 .by_cases e:j=i
  .rw[if_pos e];exact hRA
  .rw[if_neg e]
   exact(h.rk j (by omega)).keep S_ (λb e1 e2=>by have:=h.bk j (by omega) b e1;omega)
 .by_cases e:j=i
  .rw[if_pos e]
   intro b hb
   rw[ny hb,hkb,e]
  .rw[if_neg e]
   intro b hb
   have h1:=h.bk j (by omega) b hb
   rw[hold b (hlt b (by omega)),h1]
 .by_cases e:j=i
  .rw[if_pos e]
   have hb:=hblk zb z2 hzl
   exact⟨rfl,rfl,rfl,_,hLs,rfl,iq (hb.trans z3),λb off e=>by cases e;exact hzb⟩
  .rw[if_neg e]
   obtain⟨q1,q2,q3,p,q4,q5,q6,q7⟩:=h.z j (by omega)
   exact⟨q1,q2,q3,p,q4,q5,fT S_ q6 (λb off e1 e2=>by have:=q7 b off e1;omega),λb off e1=>by rw[hold b (hlt b (by rw[q7 b off e1];decide))];exact q7 b off e1⟩
 .have:=h.gt;have:=S_.size;omega
theorem LB.fin(h:LB w1 w0 w g db V ow m g.L a cap F)(hL1:1<=g.L)(hL2:g.L<=256)(hm:g.Y-21=m)(hm1:m<=256)(hV:∀ j,j<g.L->V j=aq m 0):∃ lb,a=some ⟨lb,0,none⟩/\SS w1 w g 0 0 db V false 0 ow lb m 1 F/\bW g V F:=by
 have hl:=qj F g.L
 rcases h.own.2 with ⟨e,e2⟩|⟨lb,cap',cur,hv,r1,r2,r3,r4,r5,r6⟩
 .simp at e;omega
 .simp at hv
  obtain⟨rfl,rfl⟩:=hv
  have hc:∀ o v,(fJ F g.L)[o]?=some v->w.cell? ⟨lb,o,none⟩=some v:=λo v hv=>by
   have ho:=(List.getElem?_eq_some_iff.1 hv).1
   rw[hl] at ho
   rw[<-r6,List.getElem?_take,if_pos ho] at hv
   simp only[World.cell?,r2]
   rw[<-Array.getElem?_toList]
   exact hv
  have hz:=h.z
  refine⟨lb,rfl,⟨h.ps,⟨h.bl lb ⟨_,rfl,rfl⟩,h.ps.lt,λo=>dS r2 o,λj hj=>hc _ _ (sU F _ j hj).1,λj hj=>hc _ _ (sU F _ j hj).2,h.rk,λj hj=>?_,h.bk,λj hj b e=>?_,λj hj p hp=>?_⟩,hm,hm1,hL1,hL2,h.one,λj hj=>?_⟩,λj hj=>?_⟩
  .obtain⟨q1,q2,q3,_⟩:=hz j hj
   rw[q1,q2,q3];exact RA.nil w
  .obtain⟨q1,_⟩:=hz j hj
   rw[q1] at e
   obtain⟨x,e,_⟩:=e;cases e
  .obtain⟨q1,q2,q3,p2,q4,q5,q6,q7⟩:=hz j hj
   rw[q3,q4] at hp
   obtain rfl:p=p2:=by simpa using hp
   exact⟨q6,by rw[q5];simp,q7⟩
  .obtain⟨q1,q2,q3,p2,q4,_⟩:=hz j hj
   rw[q3,q4];exact al _
  .obtain⟨q1,q2,q3,p2,q4,q5,_⟩:=hz j hj
   exact bh ⟨q3,p2,by rw[q4];exact ew.2 rfl,by rw[q5,hV j hj]⟩
end
theorem LD{ops:Array Oper}{rest:List Oper}{o:Oper}{act:Act}{Q:Exit->Act->ae->Prop}(hgd:o.guard=none)(s x:Operand)
 (ho:o.op=.call { callee:=.builtin .append,args:=#[s,x],argTypes:=#[54,54] }) {w:ae} {base cap0 i:Nat} {a0:Option cy} {xs:List ai} {v0 v1:ai} {xb:Nat}
 (hs:act.eval s=.slice a0 i cap0) (hx:act.eval x=.slice (some ⟨xb,0,none⟩) 1 1) (h:w.ownsRow base 56 2 (.slice a0 i cap0) i xs) (hxb:w.heap[xb]?=some (.cells #[v0,v1] 56 (0,0))) (h1:v0.oneCell'=true/\v1.oneCell'=true) (hi:i<=1000) (hb:base<=w.heap.size)
 (hc:∀ g aU w',w'.ownsRow base 56 2 (.slice (some ⟨g,0,none⟩) (i+1) aU) (i+1) (xs++[v0,v1])->Keep (blk a0) w w'->(blk a0 g\/g=w.heap.size)->wpList (PB aa false) ops Q rest (act.put o.dst (.slice (some ⟨g,0,none⟩) (i+1) aU)) w') :
 wpList (PB aa false) ops Q (o::rest) act w:=by
 obtain⟨i0,hi0,hz0,hz1,hz2⟩:=info_parts abP
 refine wpList_append_lies w hgd s x 54 ho base 56 i0 _ 2 48 ae2 hi0 hz0 hz1 hz2 rfl (by decide) (.slice a0 i cap0) i xs hs h ⟨xb,0,none⟩ 1 1 [v0,v1] hx rfl (World.news_of_block hxb) (λu hu=>by
  simp only[gf,kh,or_false] at hu
  rcases hu with rfl|rfl
  .exact h1.1
  .exact h1.2) (by decide) (by unfold maxLen;omega) (by omega) hb _ rfl ?_
 intro g aU w' h2 h3 h4 _
 refine hc g aU w' h2 (j5 h3) (h4.imp (λe=>?_) (λe=>e))
 unfold Value.ownBlock at e
 cases a0 with
 |none=>simp at e
 |some y=>exact⟨y,rfl,by simpa using e⟩
theorem nD:b_ 7=.iface 31 (.int .i64 7):=rfl
theorem Ou(tg tq tl tc n:Nat)(hn:n+1=tl)(hc:tl<=tc)(W:ae):(Instr.slice 35 (.slice (some ⟨tg,tq,none⟩) tl tc) (some (.int .i64 (n:Int))) none none).run (PB aa false) W=.ok (.slice (some ⟨tg,tq+n,none⟩) 1 (tc-n)) W:=by
 have hu:(PB aa false).underlying 35=some (.slice ((PB aa false).elem 35)):=by kernel_rfl
 have hs:(sizeOf ((PB aa false).elem 35)).run (PB aa false) W=.ok 1 W:=by kernel_rfl
 have e:=run_slice_l W 35 (some ⟨tg,tq,none⟩) tl tc hu .i64 (n:Int) (by omega) (by omega)
 rw[e,hs]
 have h1:tl-n=1:=by omega
 have h2:¬tc=n:=by omega
 have hadd:(⟨tg,tq,none⟩:cy).add n=⟨tg,tq+n,none⟩:=by unfold Addr.add;split<;>simp_all
 simp[Result.andThen,sliced,h1,h2,hadd]
theorem SS.flush{w1 w:ae}{g:Gm}{n k db lb m c cut:Nat}{V:Nat->List Nat}{of:Bool}{ow:Nat->Nat}{F:Nat->FT}(h:SS w1 w g n k db V of cut ow lb m c F)(hf:bW g V F){i t:Nat}(hi:i<g.L)(ht:(F i).T.length=t+1):∃ tg tq,(F i).ta=some ⟨tg,tq,none⟩/\t+1<=(F i).tc/\∀ w2,Below w.heap.size (w.setCell ⟨lb,i*2,none⟩ (.slice (some ⟨tg,tq+t,none⟩) 1 ((F i).tc-t))) w2->∃ dx F',SS w1 (w2.setCell ⟨lb,i*2+1,none⟩ (.slice none 0 0)) g n k db V of cut dx lb m c F'/\bW g V F'/\∀ j,j≠i->F' j=F j:=by
 obtain⟨tg,tq,e1,e2,dx,e3⟩:=h.fs.flush hi ht
 refine⟨tg,tq,e1,e2,λw2 hb=>?_⟩
 obtain⟨q1,q2⟩:=e3 w2 hb
 refine⟨dx,_,h.law q1 q2 (λj hj=>?_),λj hj=>?_,λj hj=>if_neg hj⟩
 .by_cases e:j=i
  .subst e
   rw[if_pos rfl]
   have:=h.bd j hj
   show 1+0<=c
   omega
  .rw[if_neg e];exact h.bd j hj
 .dsimp only
  by_cases e:j=i
  .subst e
   rw[if_pos rfl]
   refine bh ⟨rfl,_,ew.2 rfl,?_⟩
   rcases hf j hj with ⟨e4,_⟩|⟨n',e4,e5⟩
   .rw[e4] at ht;simp at ht
   .obtain rfl:n'=t:=by omega
    exact e5
  .rw[if_neg e];exact hf j hj
theorem ql(HL:Lib){of:Bool}{w1 w:ae}{g:Gm}{n k db lb m c lc cut:Nat}{V:Nat->List Nat}{ow:Nat->Nat}{F:Nat->FT}(h:SS w1 w g n k db V of cut ow lb m c F)(hf:bW g V F)(hn:n<=100000000000000)(hk:k<=2*g.P)(hcb:(c+2)*24<=140737488355328)(x y z:Int)(hy:-9223372036854775808<=y/\y<=9223372036854775807) :
 aE (PB aa false) 20 #[.pointer (some ⟨db,0,none⟩),.slice (some ⟨lb,0,none⟩) g.L lc,.agg #[.int .i64 x,.int .i64 y,.int .i64 z]] w λe w'=>G_ e w1 w' g n k db of lb m c:=by
 have HS:Hid (∀ W,Below w.heap.size w W->SS w1 W g n k db V of cut ow lb m c F):=λW hW=>h.below hW
 have HF:Hid (bW g V F):=hf
 have WT:Hid (∀ W,aE (PB aa false) 15 #[.int .i64 y,.int .i64 (g.L:Nat)] W λe w'=>(∃ k:Nat,k<g.L/\e=.returned (.int .i64 (k:Nat)))/\w'=W):=λW=>Ov y g.L W h.l1 (by have:=h.l2;omega) hy
 have hl1:(0:Int)<(g.L:Int):=by have:=h.l1;omega
 have hm1:=h.m1
 have hl2:=h.l2
 have hmk:=ah.iO (zb:=false) m (by omega)
 have her:=λW=>LG 7 7 true W (by simp)
 rw[nD] at her
 clear h hf
 go_enter Al.func20,Tryz.ntmps20
 go_wp2_with fail
 refine(jK (HS.out _ (aC w _))).mono ?_
 rintro e w2 ⟨bad,rfl,hb2⟩
 have o0:=hb2.cell (p:=⟨w.heap.size,0,none⟩) (by simp)
 have o1:=hb2.cell (p:=⟨w.heap.size,1,none⟩) (by simp)
 have o2:=hb2.cell (p:=⟨w.heap.size,2,none⟩) (by simp)
 simp at o0 o1 o2
 have hlt2:w.heap.size<w2.heap.size:=cI (by simp) hb2.size
 have HB2:Hid (Below w.heap.size w w2):=(aC w _).trans (hb2.mono (aC w _).size)
 clear hb2
 go_wp2_with fail
 refine(S9 (HS.out _ HB2.out)).mono ?_
 rintro e w3 ⟨rfl,rfl⟩
 go_wp2_with fail
 refine(WT.out _).mono ?_
 rintro e w4 ⟨⟨j,hj,rfl⟩,rfl⟩
 clear WT
 by_cases h4:x=4
 .subst h4
  have hlo:=qK (HS.out w4 HB2.out) (by omega) lc (λi hi=>(HF.out i hi).weak)
  clear o1 o2 HS HF
  go_wp2_with fail
  refine hlo.mono ?_
  rintro e w5 ⟨rfl,ow5,F5,hs5,hf5⟩
  have H5:Hid (SS w1 w5 g n k db V of cut ow5 lb m c F5/\bW g V F5):=⟨hs5,hf5⟩
  have hmt:=B_ HL hs5.ps.cp hn hs5.ps.lt hs5.l1
  clear hlo hs5 hf5 HB2 o0 hlt2
  go_wp2_with fail
  refine hmt.mono ?_
  rintro e w6 ⟨rfl,q1,q2⟩
  have H6:Hid (SS w1 w6 g n k db V false cut ow5 lb m c F5/\bW g V F5):=⟨H5.out.1.disk q1 q2,H5.out.2⟩
  have hst:=jK H6.out.1
  clear hmt q1 q2 H5
  go_wp2_with fail
  refine hst.mono ?_
  rintro e w7 ⟨XM,rfl,Ca⟩
  have HZ:Hid (G_ (.returned (.bool true)) w1 w7 g n k db of lb m c):=jB (H6.out.1.below Ca) (fp _) (fp _) H6.out.2 (a_ (al _))
  clear hst Ca H6
  go_wp2
  go_ret
  exact HZ.out
 have b4:(x==4)=false:=by simpa using h4
 by_cases h5:x=5
 .subst h5
  have HC:Hid (∀ W,Below w4.heap.size w4 W->aE (PB aa false) 29 #[.pointer (some ⟨db,0,none⟩),.int .i64 y] W λe w'=>e=.returned (.tuple #[])/\w'.cell? ⟨w.heap.size,1,none⟩=some (.int .i64 y)/\G_ (.returned (.bool true)) w1 w' g n k db of lb m c):=λW hW=>by
   have hs:=(HS.out w (Below.refl _ _)).made (HB2.out.trans (hW.mono HB2.out.size))
   have hl:w.heap.size<W.heap.size:=cI hlt2 hW.size
   refine(abS hs.ps.cp y (by omega)).mono ?_
   rintro e w' ⟨rfl,q1,q2⟩
   exact⟨rfl,(q2.cell (p:=⟨w.heap.size,1,none⟩) hl (λe=>e (by rw[qJ (al _) hl];decide))).trans ((hW.cell (p:=⟨w.heap.size,1,none⟩) hlt2).trans o1),jB (hs.disk q1 q2) (fp _) (fp _) HF.out (a_ (al _))⟩
  clear o2 HS HF HB2
  go_wp2
  go_region_held3 (λw'=>w'.cell? ⟨w.heap.size,1,none⟩=some (.int .i64 y)) (first|exact hy6|assumption|go_keep) (first|(go_at_call 29;refine(HC.out _ (by first|exact Below.refl _ _|exact(Below.refl _ _).drew)).mono ?_;rintro e w6 ⟨rfl,hy6,hz⟩))
  have HZ:Hid (G_ (.returned (.bool true)) w1 w6 g n k db of lb m c):=hz
  clear hz HC hy6
  go_wp2
  go_ret
  exact HZ.out
 have b5:(x==5)=false:=by simpa using h5
 by_cases h1:x=1
 .subst h1
  cases of with
  |true =>
   go_wp2_with fail
   refine(Aq z m _ (by omega)).mono ?_
   rintro e w5 ⟨ba,wS,bl,rfl,hbk⟩
   have LH:Hid (Below w.heap.size w w5):=(HB2.out.trans ((aC w4 _).mono HB2.out.size)).trans (hbk.cK.mono (cC HB2.out.size (by simp)))
   have hwr:=Es (HS.out w5 LH.out).ps.cp (j:Nat) ba wS m (by omega)
   rw[nD] at hwr
   clear hbk o0 o1 o2 hlt2
   go_wp2_with fail
   refine hwr.mono ?_
   rintro e w6 ⟨rfl,hb6⟩
   have HZ:Hid (G_ (.returned (.bool true)) w1 w6 g n k db true lb m c):=jB (HS.out w6 (LH.out.trans (hb6.mono LH.out.size))) (by omega) (by omega) HF.out (a_ (al _))
   clear hb6 hwr HS HF
   go_wp2_with fail
   refine(her _).mono ?_
   rintro e w7 ⟨rfl,rfl⟩
   clear her
   go_wp2
   go_ret
   exact HZ.out
  |false =>
   go_wp2_with fail
   refine(Aq z m _ (by omega)).mono ?_
   rintro e w5 ⟨ba,wS,bl,rfl,hbk⟩
   have hb5:Below w4.heap.size w4 w5:=(aC w4 _).trans (hbk.cK.mono (by simp))
   have vQ:Hid (SS w1 w5 g n k db V false cut (lab w4 w5 ow) lb m c F):=(HS.out w4 HB2.out).made hb5
   have N9:Hid (bM w5 ba bl/\bl.length=m/\∀ b off,ba=some ⟨b,off,none⟩->lab w4 w5 ow b=3):=⟨hbk.own.lies,hbk.len,λb off e=>by
    have hg:=hbk.own.ge (b:=b) ⟨_,e,rfl⟩
    simp at hg
    exact qJ (by omega) hg.2⟩
   have hwr:=Ta HL vQ.out.ps.cp hn hk j hj ba wS m bl hbk.all N9.out.1 (λb off e=>by rw[N9.out.2.2 b off e];decide) N9.out.2.1 vQ.out.mm.symm
   clear hbk hb5 o0 o1 o2 hlt2 hmk HB2
   go_wp2_with fail
   refine hwr.mono ?_
   rintro e w6 ⟨cc,k',V',of',cut',rfl,q1,q2,q3⟩
   have H6:Hid (SS w1 w6 g (n+1) k' db V' of' cut' (lab w4 w5 ow) lb m c F):=vQ.out.disk q1 q2
   have XO:Hid (PwL k cut k' V V' (upd V j bl) cc of' cut'):=q3
   have HP:Hid (bM w6 ba bl/\bl.length=m/\∀ b off,ba=some ⟨b,off,none⟩->(lab w4 w5 ow) b=3):=⟨fT q2 N9.out.1 (λb off e e2=>e2 (by rw[N9.out.2.2 b off e];decide)),N9.out.2⟩
   obtain⟨ev,hev⟩:∃ ev,b_ cc=ev:=⟨_,rfl⟩
   have Tc:Hid (b_ cc=ev):=hev
   rw[hev]
   obtain⟨tl,htl⟩:∃ tl,(F j).T.length=tl:=⟨_,rfl⟩
   have Ap:Hid ((F j).T.length=tl):=htl
   obtain⟨s1,s2,s3,s4⟩:=H6.out.slot hj
   rw[htl] at s1
   have XP:Hid (RA w6 (F j).ta (F j).tc (F j).T):=s3
   have htc:tl<=c:=by have:=H6.out.bd j hj;omega
   have SV:Hid (fI ⟨ba,bl,wS⟩=.slice ba m wS):=by show fY ba bl.length wS=.slice ba m wS;rw[N9.out.2.1]
   have HSL:Hid (∀ w2 a1 aU L,vK (w6.alloc (.cells #[.slice ba m wS] 60)) w2 (F j).ta a1 aU L->w2.cell? ⟨lb,j*2+1,none⟩=some (.slice (F j).ta tl (F j).tc)/\w2.frozen? ⟨lb,j*2+1,none⟩=false):=λw2 a1 aU L hq=>by
    have:=H6.out.free hj (aC w6 _) hq
    rw[htl] at this
    exact this
   obtain⟨ta,sS⟩:∃ x,(F j).ta=x:=⟨_,rfl⟩
   obtain⟨tc,Ow⟩:∃ x,(F j).tc=x:=⟨_,rfl⟩
   have XI:Hid ((F j).ta=ta):=sS
   rw[sS,Ow] at s1 XP HSL
   have s1':=((aC w6 (.cells #[.slice ba m wS] 60)).cell (p:=⟨lb,j*2+1,none⟩) s4).trans s1
   clear q1 q2 q3 hwr hev htl s2 s3 s4 sS Ow vQ
   go_wp2_with (at_builtin;refine wR (by rfl) (.tmp 65) (.tmp 67) (by rfl) (p:=⟨ba,bl,wS⟩) (xb:=w6.heap.size) (a:=ta) (n:=tl) (cap:=tc) (L:=(F j).T) (by simp[ie]) (by simp[ie]) (XP.out.below (aC w6 _)) Ap.out (heap_alloc_new w6 _) SV.out (by omega) ?_)
   intro a1 aU w7 hq
   obtain⟨v7,f7⟩:=HSL.out w7 a1 aU _ hq
   obtain⟨ow8,F8,hs8,hF8,hK8,hT8⟩:=H6.out.then_ hj (aC w6 _) Ap.out (by rw[XI.out];exact hq) HP.out
   have H8:Hid (SS w1 (w7.setCell ⟨lb,j*2+1,none⟩ (.slice a1 (tl+1) aU)) g (n+1) k' db V' of' cut' ow8 lb m (c+1) F8):=hs8
   have Et:Hid ((∀ i,i≠j->F8 i=F i)/\(F8 j).K=(F j).K/\(F8 j).T=(F j).T++[⟨ba,bl,wS⟩]):=⟨hF8,hK8,hT8⟩
   clear hq hs8 hF8 hK8 hT8 HSL XP SV s1 s1' H6 HP XI
   rcases XO.out with ⟨rfl,rfl,rfl,rfl,_⟩|⟨rfl,rfl,rfl,rfl,_⟩
   .have hev:=Tc.out
    rw[bX] at hev
    subst hev
    have HZ:Hid (G_ (.returned (.bool true)) w1 (w7.setCell ⟨lb,j*2+1,none⟩ (.slice a1 (tl+1) aU)) g n k db false lb m c):=jB H8.out (al _) (al _) (λi hi=>by
     by_cases e:i=j
     .subst e
      rw[upd_same]
      refine a_ ⟨tl,by rw[Et.out.2.2,cm,Ap.out];rfl,?_⟩
      rw[Et.out.2.2]
      unfold gP
      rw[<-Ap.out]
      simp
     .rw[upd_ne _ _ _ _ e,Et.out.1 i e];exact HF.out i hi) (a_ (cV _))
    clear HS HF H8 Et Tc XO
    go_wp2
    go_ret
    exact HZ.out
   .have hev:=Tc.out
    rw[nD] at hev
    subst hev
    have hlo:=qK H8.out (by omega) lc (λi hi=>by
     obtain⟨p,hp,e⟩:=(HF.out i hi).weak
     by_cases e2:i=j
     .subst e2
      exact⟨p,by rw[Et.out.2.1,Et.out.2.2];exact hp.imp id (λe=>eQ.2 (bh e)),e⟩
     .exact⟨p,by rw[Et.out.1 i e2];exact hp,e⟩)
    clear HS HF H8 Et Tc XO
    go_wp2_with fail
    refine hlo.mono ?_
    rintro e w8 ⟨rfl,ow9,F9,Ox,SX⟩
    have H9:Hid (SS w1 w8 g (n+1) (k+1) db V' true cut' ow9 lb m (c+1) F9/\bW g V' F9):=⟨Ox,SX⟩
    have hst:=jK Ox
    clear hlo Ox SX v7 f7
    go_wp2_with fail
    refine hst.mono ?_
    rintro e w9 ⟨XM,rfl,Ca⟩
    have HZ:Hid (G_ (.returned (.bool true)) w1 w9 g n k db false lb m c):=jB (H9.out.1.below Ca) (al _) (al _) H9.out.2 (bh ⟨rfl,rfl,rfl⟩)
    clear hst Ca H9
    go_wp2_with fail
    refine(her _).mono ?_
    rintro e w10 ⟨rfl,rfl⟩
    clear her
    go_wp2
    go_ret
    exact HZ.out
 have b1:(x==1)=false:=by simpa using h1
 by_cases h2:x=2
 .subst h2
  cases of with
  |true =>
   have LH:Hid (Below w.heap.size w (w4.alloc (.cells (ah.pE m) 5))):=HB2.out.trans ((aC w4 _).mono HB2.out.size)
   have hwr:=Hw (HS.out _ LH.out).ps.cp (j:Nat)
   rw[nD] at hwr
   clear o1 o2
   go_wp2_with fail
   refine hwr.mono ?_
   rintro e w6 ⟨rfl,hb6⟩
   have HZ:Hid (G_ (.returned (.bool true)) w1 w6 g n k db true lb m c):=jB (HS.out w6 (LH.out.trans (hb6.mono LH.out.size))) (by omega) (by omega) HF.out (a_ (al _))
   clear hb6 hwr HS HF o0 hlt2
   go_wp2_with fail
   refine(her _).mono ?_
   rintro e w7 ⟨rfl,rfl⟩
   clear her
   go_wp2
   go_ret
   exact HZ.out
  |false =>
   obtain⟨w5,hw5⟩:∃ w5,w5=w4.alloc (.cells (ah.pE m) 5):=⟨_,rfl⟩
   have hb5:Below w4.heap.size w4 w5:=by rw[hw5];exact aC w4 _
   have hz5:Row w5 w4.heap.size (aq m 0):=by rw[hw5];exact heap_alloc_new w4 _
   have vQ:Hid (SS w1 w5 g n k db V false cut (lab w4 w5 ow) lb m c F):=(HS.out w4 HB2.out).made hb5
   have N9:Hid (bM w5 (some ⟨w4.heap.size,0,none⟩) (aq m 0)/\(aq m 0).length=m/\∀ b off,(some ⟨w4.heap.size,0,none⟩:Option cy)=some ⟨b,off,none⟩->lab w4 w5 ow b=3):=⟨iq hz5,List.length_replicate,λb off e=>by
    cases e
    exact qJ (al _) (by rw[hw5];simp)⟩
   have hwr:=XQ HL vQ.out.ps.cp hn hk j hj
   rw[vQ.out.mm] at hwr
   have o0':=(hb5.cell (p:=⟨w.heap.size,0,none⟩) hlt2).trans o0
   subst hw5
   clear hz5 hb5 o1 o2 HB2
   go_wp2_with fail
   refine hwr.mono ?_
   rintro e w6 ⟨cc,k',V',of',cut',rfl,q1,q2,q3⟩
   have H6:Hid (SS w1 w6 g (n+1) k' db V' of' cut' (lab w4 (w4.alloc (.cells (ah.pE m) 5)) ow) lb m c F):=vQ.out.disk q1 q2
   have XO:Hid (PwL k cut k' V V' (upd V j (aq m 0)) cc of' cut'):=q3
   have HP:Hid (bM w6 (some ⟨w4.heap.size,0,none⟩:Option cy) (aq m 0)/\(aq m 0).length=m/\∀ b off,(some ⟨w4.heap.size,0,none⟩:Option cy)=some ⟨b,off,none⟩->(lab w4 (w4.alloc (.cells (ah.pE m) 5)) ow) b=3):=⟨fT q2 N9.out.1 (λb off e e2=>e2 (by rw[N9.out.2.2 b off e];decide)),N9.out.2⟩
   obtain⟨ev,hev⟩:∃ ev,b_ cc=ev:=⟨_,rfl⟩
   have Tc:Hid (b_ cc=ev):=hev
   rw[hev]
   obtain⟨tl,htl⟩:∃ tl,(F j).T.length=tl:=⟨_,rfl⟩
   have Ap:Hid ((F j).T.length=tl):=htl
   obtain⟨s1,s2,s3,s4⟩:=H6.out.slot hj
   rw[htl] at s1
   have XP:Hid (RA w6 (F j).ta (F j).tc (F j).T):=s3
   have htc:tl<=c:=by have:=H6.out.bd j hj;omega
   have SV:Hid (fI ⟨(some ⟨w4.heap.size,0,none⟩:Option cy),(aq m 0),m⟩=.slice (some ⟨w4.heap.size,0,none⟩:Option cy) m m):=by show fY (some ⟨w4.heap.size,0,none⟩:Option cy) (aq m 0).length m=.slice (some ⟨w4.heap.size,0,none⟩:Option cy) m m;rw[N9.out.2.1]
   have HSL:Hid (∀ w2 a1 aU L,vK (w6.alloc (.cells #[.slice (some ⟨w4.heap.size,0,none⟩:Option cy) m m] 60)) w2 (F j).ta a1 aU L->w2.cell? ⟨lb,j*2+1,none⟩=some (.slice (F j).ta tl (F j).tc)/\w2.frozen? ⟨lb,j*2+1,none⟩=false):=λw2 a1 aU L hq=>by
    have:=H6.out.free hj (aC w6 _) hq
    rw[htl] at this
    exact this
   obtain⟨ta,sS⟩:∃ x,(F j).ta=x:=⟨_,rfl⟩
   obtain⟨tc,Ow⟩:∃ x,(F j).tc=x:=⟨_,rfl⟩
   have XI:Hid ((F j).ta=ta):=sS
   rw[sS,Ow] at s1 XP HSL
   have s1':=((aC w6 (.cells #[.slice (some ⟨w4.heap.size,0,none⟩:Option cy) m m] 60)).cell (p:=⟨lb,j*2+1,none⟩) s4).trans s1
   clear q1 q2 q3 hwr hev htl s2 s3 s4 sS Ow vQ
   go_wp2_with (at_builtin;refine wR (by rfl) (.tmp 65) (.tmp 67) (by rfl) (p:=⟨(some ⟨w4.heap.size,0,none⟩:Option cy),(aq m 0),m⟩) (xb:=w6.heap.size) (a:=ta) (n:=tl) (cap:=tc) (L:=(F j).T) (by simp[ie]) (by simp[ie]) (XP.out.below (aC w6 _)) Ap.out (heap_alloc_new w6 _) SV.out (by omega) ?_)
   intro a1 aU w7 hq
   obtain⟨v7,f7⟩:=HSL.out w7 a1 aU _ hq
   obtain⟨ow8,F8,hs8,hF8,hK8,hT8⟩:=H6.out.then_ hj (aC w6 _) Ap.out (by rw[XI.out];exact hq) HP.out
   have H8:Hid (SS w1 (w7.setCell ⟨lb,j*2+1,none⟩ (.slice a1 (tl+1) aU)) g (n+1) k' db V' of' cut' ow8 lb m (c+1) F8):=hs8
   have Et:Hid ((∀ i,i≠j->F8 i=F i)/\(F8 j).K=(F j).K/\(F8 j).T=(F j).T++[⟨(some ⟨w4.heap.size,0,none⟩:Option cy),(aq m 0),m⟩]):=⟨hF8,hK8,hT8⟩
   clear hq hs8 hF8 hK8 hT8 HSL XP SV s1 s1' H6 HP XI
   rcases XO.out with ⟨rfl,rfl,rfl,rfl,_⟩|⟨rfl,rfl,rfl,rfl,_⟩
   .have hev:=Tc.out
    rw[bX] at hev
    subst hev
    have HZ:Hid (G_ (.returned (.bool true)) w1 (w7.setCell ⟨lb,j*2+1,none⟩ (.slice a1 (tl+1) aU)) g n k db false lb m c):=jB H8.out (al _) (al _) (λi hi=>by
     by_cases e:i=j
     .subst e
      rw[upd_same]
      refine a_ ⟨tl,by rw[Et.out.2.2,cm,Ap.out];rfl,?_⟩
      rw[Et.out.2.2]
      unfold gP
      rw[<-Ap.out]
      simp
     .rw[upd_ne _ _ _ _ e,Et.out.1 i e];exact HF.out i hi) (a_ (cV _))
    clear HS HF H8 Et Tc XO
    go_wp2
    go_ret
    exact HZ.out
   .have hev:=Tc.out
    rw[nD] at hev
    subst hev
    have hlo:=qK H8.out (by omega) lc (λi hi=>by
     obtain⟨p,hp,e⟩:=(HF.out i hi).weak
     by_cases e2:i=j
     .subst e2
      exact⟨p,by rw[Et.out.2.1,Et.out.2.2];exact hp.imp id (λe=>eQ.2 (bh e)),e⟩
     .exact⟨p,by rw[Et.out.1 i e2];exact hp,e⟩)
    clear HS HF H8 Et Tc XO
    go_wp2_with fail
    refine hlo.mono ?_
    rintro e w8 ⟨rfl,ow9,F9,Ox,SX⟩
    have H9:Hid (SS w1 w8 g (n+1) (k+1) db V' true cut' ow9 lb m (c+1) F9/\bW g V' F9):=⟨Ox,SX⟩
    have hst:=jK Ox
    clear hlo Ox SX v7 f7
    go_wp2_with fail
    refine hst.mono ?_
    rintro e w9 ⟨XM,rfl,Ca⟩
    have HZ:Hid (G_ (.returned (.bool true)) w1 w9 g n k db false lb m c):=jB (H9.out.1.below Ca) (al _) (al _) H9.out.2 (bh ⟨rfl,rfl,rfl⟩)
    clear hst Ca H9
    go_wp2_with fail
    refine(her _).mono ?_
    rintro e w10 ⟨rfl,rfl⟩
    clear her
    go_wp2
    go_ret
    exact HZ.out
 have b2:(x==2)=false:=by simpa using h2
 by_cases h3:x=3
 .subst h3
  cases of with
  |true =>
   have hwr:=Eu (HS.out w4 HB2.out).ps.cp
   rw[nD] at hwr
   clear o1 o2
   go_wp2_with fail
   refine hwr.mono ?_
   rintro e w6 ⟨rfl,hb6⟩
   have HZ:Hid (G_ (.returned (.bool true)) w1 w6 g n k db true lb m c):=jB (HS.out w6 (HB2.out.trans (hb6.mono HB2.out.size))) (by omega) (by omega) HF.out (a_ (al _))
   clear hb6 hwr HS HF o0 hlt2
   go_wp2_with fail
   refine(her _).mono ?_
   rintro e w7 ⟨rfl,rfl⟩
   clear her
   go_wp2
   go_ret
   exact HZ.out
  |false =>
   have hwr:=Td HL (HS.out w4 HB2.out).ps.cp hn hk
   clear o1 o2
   go_wp2_with fail
   refine hwr.mono ?_
   rintro e w6 ⟨cc,k',of',cut',rfl,q1,q2,q3⟩
   have H6:Hid (SS w1 w6 g (n+1) k' db V of' cut' ow lb m c F):=(HS.out w4 HB2.out).disk q1 q2
   clear q1 q2 hwr HS HB2 o0 hlt2
   rcases q3 with ⟨rfl,rfl,hk'⟩|⟨rfl,rfl,rfl,_⟩
   .rw[bX]
    go_wp2
    go_loopw [15] (λx wq=>∃ (i:Nat),i<=g.L/\x=.int .i64 i/\Hid (∃ dx F',SS w1 wq g (n+1) k' db V false cut' dx lb m c F'/\bW g V F'/\∀ j,i<=j->F' j=F j)) (λx _=>g.L-(intOf x).toNat)
    case atStart=>exact⟨0,cV _,rfl,ow,F,H6.out,HF.out,λj _=>rfl⟩
    case round =>
     obtain⟨i,hi,rfl,hR⟩:=hrel
     clear H6
     by_cases hlt:i<g.L
     .obtain⟨dx,F',h1,h2,h3⟩:=hR.out
      have s1:=h1.fs.c1 i hlt
      have s0:=h1.fs.c0 i hlt
      have f0:=h1.fs.fr (i*2)
      have f1:=h1.fs.fr (i*2+1)
      have htc:(F' i).T.length<=c:=by have:=h1.bd i hlt;omega
      by_cases h0:(F' i).T.length=0
      .have HN:Hid (∃ dx F',SS w1 wr g (n+1) k' db V false cut' dx lb m c F'/\bW g V F'/\∀ j,i+1<=j->F' j=F j):=⟨dx,F',h1,h2,λj hj=>h3 j (by omega)⟩
       rw[h0] at s1
       clear h1 h2 h3 hR s0 f0 f1 htc h0
       go_wp2
       exact⟨⟨i+1,by omega,by go_num,HN.out⟩,by simp[intOf];omega⟩
      .obtain⟨t,ht⟩:∃ t,(F' i).T.length=t+1:=⟨(F' i).T.length-1,by omega⟩
       obtain⟨tg,tq,e1,e2,e3⟩:=h1.flush h2 hlt ht
       obtain⟨tl,htl⟩:∃ tl,t+1=tl:=⟨_,rfl⟩
       rw[ht] at htc
       rw[ht,e1,htl] at s1
       rw[htl] at e2 htc
       have HW:Hid (∀ w2,Below wr.heap.size (wr.setCell ⟨lb,i*2,none⟩ (.slice (some ⟨tg,tq+t,none⟩) 1 ((F' i).tc-t))) w2->∃ dx F',SS w1 (w2.setCell ⟨lb,i*2+1,none⟩ (.slice none 0 0)) g (n+1) k' db V false cut' dx lb m c F'/\bW g V F'/\∀ j,i+1<=j->F' j=F j):=λw2 hb=>by
        obtain⟨o,G,a1,a2,a3⟩:=e3 w2 hb
        exact⟨o,G,a1,a2,λj hj=>(a3 j (by omega)).trans (h3 j (by omega))⟩
       have hsl:=Ou tg tq tl (F' i).tc t htl e2
       have hw:IntKind.i64.wrap ((tl:Int)-1)=(t:Int):=by rw[show (tl:Int)-1=(t:Int) by omega];exact aj.bP (by omega) (by omega)
       have h0':(0:Int)<(tl:Int):=by omega
       generalize (F' i).ka=ka at s0
       generalize (F' i).kc=kc at s0
       generalize (F' i).K.length=kl at s0
       generalize (F' i).tc=tc at *
       have Ap:Hid (t+1=tl/\tl<=tc):=⟨htl,e2⟩
       clear h1 h2 h3 hR e1 e2 e3 htl ht h0
       go_wp2
       go_region
       go_wp2
       exact⟨⟨i+1,by omega,by go_num,HW.out _ ((Below.refl _ _).drew)⟩,by simp[intOf];omega⟩
     .obtain rfl:i=g.L:=by omega
      have HZ:Hid (G_ (.returned (.bool true)) w1 wr g n k db false lb m c):=by
       obtain⟨dx,F',h1,h2,_⟩:=hR.out
       exact jB h1 (al _) (fp _) h2 (a_ hk')
      clear hR HF
      go_wp2
      go_ret
      exact HZ.out
   .have hlo:=qK H6.out (by omega) lc (λi hi=>(HF.out i hi).weak)
    clear HF H6
    rw[nD]
    go_wp2_with fail
    refine hlo.mono ?_
    rintro e w8 ⟨rfl,ow9,F9,Ox,SX⟩
    have H9:Hid (SS w1 w8 g (n+1) (k+1) db V true cut' ow9 lb m c F9/\bW g V F9):=⟨Ox,SX⟩
    have hst:=jK Ox
    clear hlo Ox SX
    go_wp2_with fail
    refine hst.mono ?_
    rintro e w9 ⟨XM,rfl,Ca⟩
    have HZ:Hid (G_ (.returned (.bool true)) w1 w9 g n k db false lb m c):=jB (H9.out.1.below Ca) (al _) (fp _) H9.out.2 (bh ⟨rfl,rfl,rfl⟩)
    clear hst Ca H9
    go_wp2_with fail
    refine(her _).mono ?_
    rintro e w10 ⟨rfl,rfl⟩
    clear her
    go_wp2
    go_ret
    exact HZ.out
 have b3:(x==3)=false:=by simpa using h3
 cases of with
 |true =>
  have hwr:=Hy (HS.out w4 HB2.out).ps.cp (j:Nat)
  rw[nD] at hwr
  clear o1 o2
  go_wp2_with fail
  refine hwr.mono ?_
  rintro e w6 ⟨rfl,rfl⟩
  have HZ:Hid (G_ (.returned (.bool true)) w1 w6 g n k db true lb m c):=jB (HS.out w6 HB2.out) (by omega) (by omega) HF.out (a_ (al _))
  clear hwr HS HF o0 hlt2
  go_wp2_with fail
  refine(her _).mono ?_
  rintro e w7 ⟨rfl,rfl⟩
  clear her
  go_wp2
  go_ret
  exact HZ.out
 |false =>
  have hrd:=Oy HL (HS.out w4 HB2.out).ps.cp hn j hj
  clear o1 o2
  go_wp2_with fail
  refine hrd.mono ?_
  rintro e w5 ⟨gb,rfl,hge,hrow,hb5⟩
  have vQ:Hid (SS w1 w5 g n k db V false cut (lab w4 w5 ow) lb m c F):=(HS.out w4 HB2.out).made hb5
  have hgl:gb<w5.heap.size:=aT hrow
  obtain⟨p,hp,hpv⟩:=(HF.out j hj).weak
  have hvl:(V j).length=m:=by rw[<-hpv];exact(vQ.out.fs.el j hj p hp).2.1
  have hse:=En vQ.out.fs hj (HF.out j hj) (by omega) (by have:=vQ.out.bd j hj;omega) hvl hrow (qJ hge hgl)
  rw[hvl]
  clear hrd hge hrow hb5 hgl hp hpv hvl o0 hlt2
  go_wp2_with fail
  refine hse.mono ?_
  rintro e w6 ⟨rfl,ow6,f6,q1,q2,q3⟩
  have HZ:Hid (G_ (.returned (.bool true)) w1 w6 g n k db false lb m c):=by
   refine jB (vQ.out.law (c':=c) q1 q2 (λi hi=>?_)) (fp _) (fp _) (λi hi=>?_) (a_ (al _))
   .by_cases e:i=j
    .subst e
     rw[if_pos rfl,q3.2.1]
     have:=vQ.out.bd i hi
     have:=q3.2.2
     omega
    .rw[if_neg e];exact vQ.out.bd i hi
   .by_cases e:i=j
    .subst e
     rw[if_pos rfl];exact q3.1
    .rw[if_neg e];exact HF.out i hi
  clear hse q1 q2 q3 vQ HS HF
  go_wp2
  go_ret
  exact HZ.out
theorem LJ(HL:Lib)(g0 g1 g2 g3 lb sp:Int)(a:Option cy)(n cap:Nat)(w:ae)(h:Hz g0 g1 g2 g3 lb sp):aE (PB aa false) 5 #[.agg #[.int .i64 g0,.int .i64 g1,.int .i64 g2,.int .i64 g3],.int .i64 lb,.int .i64 sp,.slice a n cap] w λe w'=>e=.returned (.bool true)/\Below w.heap.size w w':=by
 have HN:Hid (∀ W,aE (PB aa false) 10 #[.agg #[.int .i64 g0,.int .i64 g1,.int .i64 g2,.int .i64 g3],.int .i64 lb,.int .i64 sp] W λe w'=>∃ c:Nat,c≠0/\e=.returned (.tuple #[.pointer none,.iface 31 (.int .i64 (c:Nat))])/\Below W.heap.size W w'):=λW=>H_ W h
 clear h
 go_enter Al.func5,Tryz.ntmps5
 go_wp2_with fail
 refine(Ev HL _).mono ?_
 rintro e w1 ⟨rfl,hb1⟩
 have hg:=λo=>hb1.cell (p:=⟨w.heap.size,o,none⟩) (by simp)
 have k0:=hg 0
 have k1:=hg 1
 have k2:=hg 2
 have k3:=hg 3
 simp at k0 k1 k2 k3
 have HB:Hid (Below w.heap.size w w1):=(aC w _).trans (hb1.mono (aC w _).size)
 clear hb1 hg
 go_wp2_with fail
 refine(HN.out _).mono ?_
 rintro e w2 ⟨c,hc,rfl,hb2⟩
 have HB2:Hid (Below w.heap.size w w2):=HB.out.trans (hb2.mono HB.out.size)
 clear hb2 HB HN
 go_wp2
 go_ret
 exact⟨rfl,HB2.out⟩
theorem WU(HL:Lib){w1 w:ae}{g:Gm}{n k db lb m c cut:Nat}{V:Nat->List Nat}{ow:Nat->Nat}{F:Nat->FT}(h:SS w1 w g n k db V false cut ow lb m c F)(hf:bW g V F)(hn:n<=100000000000000)(hc:c<=5864062014700)(j:Nat)(hj:j<g.L) :
 aE (PB aa false) 23 #[.pointer (some ⟨db,0,none⟩),.int .i64 (j:Nat)] w λe w'=>∃ gb,e=.returned (.tuple #[.slice (some ⟨gb,0,none⟩) m m,.nilIface])/\aE (PB aa false) 24 #[.pointer (some ⟨lb,j*2,none⟩),.slice (some ⟨gb,0,none⟩) m m] w' λe w2=>e=.returned (.bool true)/\∃ dx F',SS w1 w2 g n k db V false cut dx lb m c F'/\bW g V F':=by
 refine(Oy HL h.ps.cp hn j hj).mono ?_
 rintro e w5 ⟨gb,rfl,hge,hrow,hb5⟩
 have vQ:=h.made hb5
 have hgl:gb<w5.heap.size:=aT hrow
 obtain⟨p,hp,hpv⟩:=(hf j hj).weak
 have hvl:(V j).length=m:=by rw[<-hpv];exact(vQ.fs.el j hj p hp).2.1
 refine⟨gb,by rw[hvl],(En vQ.fs hj (hf j hj) (by have:=h.m1;omega) (by have:=vQ.bd j hj;omega) hvl hrow (qJ hge hgl)).mono ?_⟩
 rintro e w6 ⟨rfl,ow6,f6,q1,q2,q3⟩
 refine⟨rfl,ow6,_,vQ.law (c':=c) q1 q2 (λi hi=>?_),λi hi=>?_⟩
 .by_cases e:i=j
  .subst e
   rw[if_pos rfl,q3.2.1]
   have:=vQ.bd i hi
   have:=q3.2.2
   omega
  .rw[if_neg e];exact vQ.bd i hi
 .by_cases e:i=j
  .subst e
   rw[if_pos rfl];exact q3.1
  .rw[if_neg e];exact hf i hi
theorem Ia(HL:Lib)(g:Gm)(a:Option cy)(n cap:Nat)(w:ae)(hG:Geo g.D g.B g.P g.Y)(hck:qM g.D g.B g.P g.Y (g.L:Int) (g.spare:Int)=0)(hS:SL w a n)(hn:n<=5864062014634) :
 aE (PB aa false) 5 #[.agg #[.int .i64 (g.D:Nat),.int .i64 (g.B:Nat),.int .i64 (g.P:Nat),.int .i64 (g.Y:Nat)],.int .i64 (g.L:Nat),.int .i64 (g.spare:Nat),.slice a n cap] w λe w'=>e=.returned (.bool true)/\Below w.heap.size w w':=by
 obtain⟨L,sp,e1,e2,hy24,hL1,hL2,hF⟩:=Cb hG hck
 have hL1':1<=g.L:=by omega
 have hL2':g.L<=256:=by omega
 have hy1:=hG.y1
 have hP1:=hG.p1
 have HN:Hid (∀ W,aE (PB aa false) 10 #[.agg #[.int .i64 (g.D:Nat),.int .i64 (g.B:Nat),.int .i64 (g.P:Nat),.int .i64 (g.Y:Nat)],.int .i64 (g.L:Nat),.int .i64 (g.spare:Nat)] W λe w'=>∃ db,e=.returned (.tuple #[.pointer (some ⟨db,0,none⟩),.nilIface])/\CO g (λb=>b<W.heap.size) 0 w' db (λ_=>aq (g.Y-21) 0)/\Below W.heap.size W w'):=λW=>WV HL _ W hG hck (λb hb=>hb)
 have HS:Hid (∀ W,Below w.heap.size w W->SL W a n):=λW hW=>hS.below hW
 obtain⟨m,hm⟩:∃ m,g.Y-21=m:=⟨_,rfl⟩
 have hm1:m<=256:=by omega
 have HM:Hid (g.Y-21=m):=hm
 have HG:Hid (1<=g.L/\g.L<=256):=⟨hL1',hL2'⟩
 clear hG hck hS e1 e2 hF hy24 hL1 hL2 hm hy1
 go_enter Al.func5,Tryz.ntmps5
 go_wp2_with fail
 refine(Ev HL _).mono ?_
 rintro e w1 ⟨rfl,hb1⟩
 have hg:=λo=>hb1.cell (p:=⟨w.heap.size,o,none⟩) (by simp)
 have k0:=hg 0
 have k1:=hg 1
 have k2:=hg 2
 have k3:=hg 3
 simp at k0 k1 k2 k3
 have hlt1:w.heap.size<w1.heap.size:=cI (by simp) hb1.size
 have HB:Hid (Below w.heap.size w w1/\w.heap.size<=w1.heap.size):=⟨(aC w _).trans (hb1.mono (aC w _).size),Nat.le_of_lt hlt1⟩
 have HP:Hid (∀ W,Below w1.heap.size w1 W->W.cell? ⟨w.heap.size,2,none⟩=some (.int .i64 (g.P:Nat))):=λW hW=>(hW.cell (p:=⟨w.heap.size,2,none⟩) hlt1).trans k2
 clear hb1 hg hlt1
 go_wp2_with fail
 refine(HN.out _).mono ?_
 rintro e w2 ⟨db,rfl,hco,hb2⟩
 have hsz:=Oz hco
 rw[HM.out] at hsz
 have H2:Hid (LB w1 w2 w2 g db (λ_=>aq m 0) (λb=>if b<w1.heap.size then 1 else 0) m 0 none 0 (λ_=>⟨none,0,[],none,0,[]⟩)):=by
  have hR:∀ b,(λb=>if b<w1.heap.size then 1 else 0) b≠0↔b<w1.heap.size:=λb=>by
   dsimp only
   by_cases e:b<w1.heap.size
   .rw[if_pos e];simp[e]
   .rw[if_neg e];simp[e]
  have hcp:=hco.cp
  rw[HM.out] at hcp
  exact⟨⟨hcp.more (λb e=>bh ((hR b).1 e)),λb e=>cI ((hR b).1 e) hb2.size,λb e=>(hR b).2 e,hb2⟩,⟨rfl,bh ⟨rfl,rfl⟩⟩,(λb e=>by obtain⟨x,e,_⟩:=e;cases e),λb e=>if_pos e,λj hj=>by omega,λj hj=>by omega,λj hj=>by omega,al _⟩
 clear hco hb2 HN k0 k1 k2 k3
 go_wp2_with fail
 refine hsz.mono ?_
 rintro e w0 ⟨rfl,rfl⟩
 clear hsz
 go_wp2
 go_loopw [13,14] (λv x wq=>∃ (i:Nat) (fa:Option cy) (fc:Nat),i<=g.L/\v=.slice fa i fc/\x=.int .i64 i/\Hid (∃ ow F,LB w1 w0 wq g db (λ_=>aq m 0) ow m i fa fc F)) (λ_ x _=>g.L-(intOf x).toNat)
 case atStart=>exact⟨0,none,0,cV _,rfl,rfl,_,_,H2.out⟩
 case round =>
  obtain⟨i,fa,fc,hi,rfl,rfl,hR⟩:=hrel
  clear H2
  by_cases hlt:i<g.L
  .obtain⟨ow,F,hlb⟩:=hR.out
   have HLB:Hid (LB w1 w0 wr g db (λ_=>aq m 0) ow m i fa fc F):=hlb
   clear hlb hR
   go_wp2_with fail
   refine(Ib 1 m _ (by omega) hm1).mono ?_
   rintro e w3 ⟨ka,kc,Ls,rfl,hbn⟩
   have HBN:Hid (BN wr w3 ka kc 1 m Ls):=hbn
   clear hbn
   go_wp2_with (at_builtin;refine LD (by rfl) (.tmp 50) (.tmp 54) (by rfl) (xb:=w3.heap.size) (base:=w0.heap.size) (i:=i) (a0:=fa) (cap0:=fc) (xs:=fJ F i) (v0:=.slice ka 1 kc) (v1:=.slice none 0 0) (by simp[ie]) (by simp[ie]) (Hu HLB.out.own (HBN.out.cK.alloc HBN.out.cK.size _)) (heap_alloc_new w3 _) ⟨rfl,rfl⟩ (by omega) (cC HLB.out.gt (cC HBN.out.cK.size (by simp))) ?_)
   intro gg aU w4 ho hk hgx
   have H4:Hid (∃ ow F,LB w1 w0 w4 g db (λ_=>aq m 0) ow m (i+1) (some ⟨gg,0,none⟩) aU F):=HLB.out.app HBN.out ho hk (hgx.imp id (λe=>by simpa using e))
   clear ho hk hgx HLB HBN
   go_wp2
   exact⟨⟨i+1,some ⟨gg,0,none⟩,aU,by omega,rfl,by go_num,H4.out⟩,by simp[intOf];omega⟩
  .obtain rfl:i=g.L:=by omega
   obtain⟨lb,rfl,HSS⟩:∃ lb,fa=some ⟨lb,0,none⟩/\Hid (∃ k V cut ow F,k<=0/\SS w1 wr g 0 k db V false cut ow lb m (0+1) F/\bW g V F):=by
    obtain⟨ow,F,hlb⟩:=hR.out
    obtain⟨lb,e,h1,h2⟩:=hlb.fin HG.out.1 HG.out.2 HM.out hm1 (λj hj=>rfl)
    exact⟨lb,e,0,_,0,ow,F,al _,h1,h2⟩
   clear hR hlt
   go_wp2
   go_loopw [15,16,17] (λx v j wq=>∃ (ls t:Nat) (of:Bool),t<=n/\ls<=g.P/\x=.int .i64 ls/\v=.bool of/\j=.int .i64 t/\Hid (∃ k V cut ow F,k<=ls/\SS w1 wq g t k db V of cut ow lb m (t+1) F/\bW g V F)) (λ_ _ j _=>n-(intOf j).toNat)
   case atStart=>exact⟨0,0,false,cV _,cV _,rfl,rfl,rfl,HSS.out⟩
   case round =>
    obtain⟨ls,t,of,ht,hls,rfl,rfl,rfl,hR⟩:=hrel
    clear HSS
    by_cases hlt:t<n
    .obtain⟨k,V,cut,ow,F,hk,hss,hfit⟩:=hR.out
     obtain⟨sg,so,ha,hsc⟩:=(HS.out wr (HB.out.1.trans (hss.ps.cK.mono HB.out.2))).resolve_left (by omega)
     subst ha
     obtain⟨x,y,z,c0,c1,c2,hyb⟩:=hsc t hlt
     have HA:Hid (∀ o,SS w1 (wr.alloc o) g t k db V of cut ow lb m (t+1) F):=λo=>hss.below (aC wr o)
     have HF:Hid (bW g V F/\k<=ls):=⟨hfit,hk⟩
     have hcP:=λo=>HP.out (wr.alloc o) (HA.out o).ps.cK
     clear hsc hss hfit hR hk
     by_cases hx6:x=6
     .subst hx6
      have HN:Hid (∀ o,∃ k V cut ow F,k<=ls/\SS w1 (wr.alloc o) g (t+1) k db V of cut ow lb m (t+1+1) F/\bW g V F):=λo=>⟨k,V,cut,ow,F,HF.out.2,(HA.out o).late (by omega) (by omega),HF.out.1⟩
      clear HA HF hcP
      go_wp2
      exact⟨⟨ls,t+1,of,by omega,hls,rfl,rfl,by go_num,HN.out _⟩,by simp[intOf];omega⟩
     .have ahX:(x==6)=false:=by simpa using hx6
      by_cases hx4:x=4
      .subst hx4
       cases of with
       |true =>
        have Ew:=ql HL (lc:=fc) (HA.out (.cells #[.int .i64 4,.int .i64 y,.int .i64 z] 38)) HF.out.1 (by omega) (by have:=HF.out.2;omega) (by omega) 4 y z hyb
        have hcP:=hcP (.cells #[.int .i64 4,.int .i64 y,.int .i64 z] 38)
        go_wp2_with fail
        refine Ew.mono ?_
        rintro e w5 ⟨rfl,k',V',of',cut',dx,F',q1,q2,q3⟩
        have H5:Hid (SS w1 w5 g (t+1) k' db V' of' cut' dx lb m (t+1+1) F'/\bW g V' F'):=⟨q1,q2⟩
        have hst:=jK q1
        have HK:Hid ((true=false/\of'=true/\k'=k+1)\/k'<=k):=q3
        clear Ew q1 q2 q3 c0 c1 c2 HA hcP
        go_wp2_with fail
        refine hst.mono ?_
        rintro e w6 ⟨bad,rfl,hb6⟩
        have H6:Hid (SS w1 w6 g (t+1) k' db V' of' cut' dx lb m (t+1+1) F'/\bW g V' F'):=⟨H5.out.1.below hb6,H5.out.2⟩
        have ab0:=HP.out w6 H6.out.1.ps.cK
        clear hst hb6 H5
        cases of' with
        |false =>
         go_wp2
         exact⟨⟨ls,t+1,false,by omega,by omega,rfl,rfl,by go_num,k',V',cut',dx,F',by have:=HK.out.resolve_left (λe=>by have:=e.2.1;simp at this);have:=HF.out.2;omega,H6.out⟩,by simp[intOf];omega⟩
        |true =>
         go_wp2
         exact⟨⟨ls,t+1,true,by omega,by omega,rfl,rfl,by go_num,k',V',cut',dx,F',by have:=HK.out.resolve_left (λe=>by have:=e.1;simp at this);have:=HF.out.2;omega,H6.out⟩,by simp[intOf];omega⟩
       |false =>
        by_cases hq1:ls+1<=g.P
        .have Ew:=ql HL (lc:=fc) (HA.out (.cells #[.int .i64 4,.int .i64 y,.int .i64 z] 38)) HF.out.1 (by omega) (by have:=HF.out.2;omega) (by omega) 4 y z hyb
         have hcP:=hcP (.cells #[.int .i64 4,.int .i64 y,.int .i64 z] 38)
         go_wp2_with fail
         refine Ew.mono ?_
         rintro e w5 ⟨rfl,k',V',of',cut',dx,F',q1,q2,q3⟩
         have H5:Hid (SS w1 w5 g (t+1) k' db V' of' cut' dx lb m (t+1+1) F'/\bW g V' F'):=⟨q1,q2⟩
         have hst:=jK q1
         have HK:Hid ((false=false/\of'=true/\k'=k+1)\/k'<=k):=q3
         clear Ew q1 q2 q3 c0 c1 c2 HA hcP
         go_wp2_with fail
         refine hst.mono ?_
         rintro e w6 ⟨bad,rfl,hb6⟩
         have H6:Hid (SS w1 w6 g (t+1) k' db V' of' cut' dx lb m (t+1+1) F'/\bW g V' F'):=⟨H5.out.1.below hb6,H5.out.2⟩
         have ab0:=HP.out w6 H6.out.1.ps.cK
         clear hst hb6 H5
         cases of' with
         |false =>
          go_wp2
          exact⟨⟨ls+1,t+1,false,by omega,by omega,by go_num,rfl,by go_num,k',V',cut',dx,F',by have:=HK.out.resolve_left (λe=>by have:=e.2.1;simp at this);have:=HF.out.2;omega,H6.out⟩,by simp[intOf];omega⟩
         |true =>
          by_cases hq:ls+1+1<=g.P
          .go_wp2
           exact⟨⟨ls+1+1,t+1,true,by omega,by omega,by go_num,rfl,by go_num,k',V',cut',dx,F',by have:=HK.out;have:=HF.out.2;omega,H6.out⟩,by simp[intOf];omega⟩
          .have HE:Hid (Below w.heap.size w w6):=HB.out.1.trans (H6.out.1.ps.cK.mono HB.out.2)
           clear H6
           go_wp2
           go_ret
           exact⟨rfl,HE.out⟩
        .have HE:Hid (∀ o,Below w.heap.size w (wr.alloc o)):=λo=>HB.out.1.trans ((HA.out o).ps.cK.mono HB.out.2)
         have hcP:=hcP (.cells #[.int .i64 4,.int .i64 y,.int .i64 z] 38)
         clear HA HF
         go_wp2
         go_ret
         exact⟨rfl,HE.out _⟩
      .have ahY:(x==4)=false:=by simpa using hx4
       have Ew:=ql HL (lc:=fc) (HA.out (.cells #[.int .i64 x,.int .i64 y,.int .i64 z] 38)) HF.out.1 (by omega) (by have:=HF.out.2;omega) (by omega) x y z hyb
       have hcP:=hcP (.cells #[.int .i64 x,.int .i64 y,.int .i64 z] 38)
       go_wp2_with fail
       refine Ew.mono ?_
       rintro e w5 ⟨rfl,k',V',of',cut',dx,F',q1,q2,q3⟩
       have H5:Hid (SS w1 w5 g (t+1) k' db V' of' cut' dx lb m (t+1+1) F'/\bW g V' F'):=⟨q1,q2⟩
       have hst:=jK q1
       have HK:Hid ((of=false/\of'=true/\k'=k+1)\/k'<=k):=q3
       clear Ew q1 q2 q3 c0 c1 c2 HA hcP
       go_wp2_with fail
       refine hst.mono ?_
       rintro e w6 ⟨bad,rfl,hb6⟩
       have H6:Hid (SS w1 w6 g (t+1) k' db V' of' cut' dx lb m (t+1+1) F'/\bW g V' F'):=⟨H5.out.1.below hb6,H5.out.2⟩
       have ab0:=HP.out w6 H6.out.1.ps.cK
       clear hst hb6 H5
       cases of' with
       |false =>
        go_wp2
        exact⟨⟨ls,t+1,false,by omega,by omega,rfl,rfl,by go_num,k',V',cut',dx,F',by have:=HK.out.resolve_left (λe=>by have:=e.2.1;simp at this);have:=HF.out.2;omega,H6.out⟩,by simp[intOf];omega⟩
       |true =>
        cases of with
        |true =>
         go_wp2
         exact⟨⟨ls,t+1,true,by omega,by omega,rfl,rfl,by go_num,k',V',cut',dx,F',by have:=HK.out.resolve_left (λe=>by have:=e.1;simp at this);have:=HF.out.2;omega,H6.out⟩,by simp[intOf];omega⟩
        |false =>
         by_cases hq:ls+1<=g.P
         .go_wp2
          exact⟨⟨ls+1,t+1,true,by omega,by omega,by go_num,rfl,by go_num,k',V',cut',dx,F',by have:=HK.out;have:=HF.out.2;omega,H6.out⟩,by simp[intOf];omega⟩
         .have HE:Hid (Below w.heap.size w w6):=HB.out.1.trans (H6.out.1.ps.cK.mono HB.out.2)
          clear H6
          go_wp2
          go_ret
          exact⟨rfl,HE.out⟩
    .obtain rfl:t=n:=by omega
     obtain⟨k,V,cut,ow,F,hk,hss,hfit⟩:=hR.out
     have hlo:=qK hss (by omega) fc (λi hi=>(hfit i hi).weak)
     clear hR hss hfit hk
     go_wp2_with fail
     refine hlo.mono ?_
     rintro e w5 ⟨rfl,ow5,F5,hs5,hf5⟩
     have H5:Hid (SS w1 w5 g t k db V of cut ow5 lb m (t+1) F5/\bW g V F5):=⟨hs5,hf5⟩
     have hmt:=B_ HL hs5.ps.cp (by omega) hs5.ps.lt hs5.l1
     clear hlo hs5 hf5
     go_wp2_with fail
     refine hmt.mono ?_
     rintro e w6 ⟨rfl,q1,q2⟩
     have H6:Hid (∃ ow F,SS w1 w6 g t k db V false cut ow lb m (t+1) F/\bW g V F):=⟨_,_,H5.out.1.disk q1 q2,H5.out.2⟩
     clear hmt q1 q2 H5
     go_wp2
     go_loopw [23] (λx wq=>∃ (i:Nat),i<=g.L/\x=.int .i64 i/\Hid (∃ ow F,SS w1 wq g t k db V false cut ow lb m (t+1) F/\bW g V F)) (λx _=>g.L-(intOf x).toNat)
     case atStart=>exact⟨0,cV _,rfl,H6.out⟩
     case round =>
      obtain⟨i,hi,rfl,hR⟩:=hrel
      clear H6
      obtain⟨ow,F,hss,hfit⟩:=hR.out
      by_cases hlt:i<g.L
      .have hrd:=WU HL hss hfit (by omega) (by omega) i hlt
       clear hR hss hfit
       go_wp2_with fail
       refine hrd.mono ?_
       rintro e w7 ⟨gb,rfl,hse⟩
       clear hrd
       go_wp2_with fail
       refine hse.mono ?_
       rintro e w8 ⟨rfl,h8⟩
       have H8:Hid (∃ ow F,SS w1 w8 g t k db V false cut ow lb m (t+1) F/\bW g V F):=h8
       clear hse h8
       go_wp2
       exact⟨⟨i+1,by omega,by go_num,H8.out⟩,by simp[intOf];omega⟩
      .have hmt:=B_ HL hss.ps.cp (by omega) hss.ps.lt hss.l1
       have H7:Hid (SS w1 wr g t k db V false cut ow lb m (t+1) F/\bW g V F):=⟨hss,hfit⟩
       clear hR hss hfit
       go_wp2_with fail
       refine hmt.mono ?_
       rintro e w9 ⟨rfl,q1,q2⟩
       have H9:Hid (∃ ow F,SS w1 w9 g t k db V false cut ow lb m (t+1) F/\bW g V F):=⟨_,_,H7.out.1.disk q1 q2,H7.out.2⟩
       clear hmt q1 q2 H7
       go_wp2
       go_loopw [27] (λx wq=>∃ (i:Nat),i<=g.L/\x=.int .i64 i/\Hid (∃ ow F,SS w1 wq g t k db V false cut ow lb m (t+1) F/\bW g V F)) (λx _=>g.L-(intOf x).toNat)
       case atStart=>exact⟨0,cV _,rfl,H9.out⟩
       case round =>
        obtain⟨i2,hi2,rfl,hR⟩:=hrel
        clear H9
        obtain⟨ow,F,hss,hfit⟩:=hR.out
        by_cases hlt2:i2<g.L
        .have hrd:=WU HL hss hfit (by omega) (by omega) i2 hlt2
         clear hR hss hfit
         go_wp2_with fail
         refine hrd.mono ?_
         rintro e w7 ⟨gb,rfl,hse⟩
         clear hrd
         go_wp2_with fail
         refine hse.mono ?_
         rintro e w8 ⟨rfl,h8⟩
         have H8:Hid (∃ ow F,SS w1 w8 g t k db V false cut ow lb m (t+1) F/\bW g V F):=h8
         clear hse h8
         go_wp2
         exact⟨⟨i2+1,by omega,by go_num,H8.out⟩,by simp[intOf];omega⟩
        .have HE:Hid (Below w.heap.size w wr):=HB.out.1.trans (hss.ps.cK.mono HB.out.2)
         clear hR hss hfit
         go_wp2
         go_ret
         exact⟨rfl,HE.out⟩
theorem Ic(HL:Lib)(g0 g1 g2 g3 lb sp:Int)(a:Option cy)(n cap:Nat)(w:ae)(hS:SL w a n)(hn:n<=5864062014634):aE (PB aa false) 5 #[.agg #[.int .i64 g0,.int .i64 g1,.int .i64 g2,.int .i64 g3],.int .i64 lb,.int .i64 sp,.slice a n cap] w λe w'=>e=.returned (.bool true)/\Below w.heap.size w w':=by
 rcases Te g0 g1 g2 g3 lb sp with h|⟨g,rfl,rfl,rfl,rfl,rfl,rfl,hG,hc⟩
 .exact LJ HL g0 g1 g2 g3 lb sp a n cap w h
 .exact Ia HL g a n cap w hG hc hS hn
end Go.Proofs.ay
namespace Go.Proofs.YtjlgehmebfkioaaGreatDoor
open Go Go.Conc Go.RowKit
theorem Hr{W:ae}{pa:Option cy}{len cap:Nat}{z:Nat->Int}{g0 g1 g2 g3 lb sp:Int}(hs:W.ShapedOpen aa)(hE:W.cell? ⟨0,0,none⟩=some (.iface 160 (.agg #[.pointer (some ⟨1,28,none⟩)])))(hle:len<=cap)(hN:NIn W pa (cap*3) z)(hn:len<=5864062014634) :
 ∃ N last o w' t',runNT aa (N+1) (solo (G (b9 aa 5 #[.agg #[.int .i64 g0,.int .i64 g1,.int .i64 g2,.int .i64 g3],.int .i64 lb,.int .i64 sp,.slice pa len cap] .normal) []) W) #[]=(.ended o w',t')/\runN aa N (solo (G (b9 aa 5 #[.agg #[.int .i64 g0,.int .i64 g1,.int .i64 g2,.int .i64 g3],.int .i64 lb,.int .i64 sp,.slice pa len cap] .normal) []) W)=.next last/\step aa last=.ended o w' /\
   Go.Conc.Good aa (λv w'=>v=.bool true/\Below W.heap.size W w') last o w' t':=by
 obtain⟨C,hC⟩:∃ C,C=[mD W pa (cap*3)]:=⟨_,rfl⟩
 have hC0:C[0]?=some (mD W pa (cap*3)):=by rw[hC];rfl
 obtain⟨hg,hG⟩:=Ey hs hE
 obtain⟨fns,Tf⟩:∃ fns,fns=jT aa.funcs (Cc W C) (OB W C) (ab1 W C):=⟨_,rfl⟩
 have hlo:fns.lo=Cc W C:=by rw[Tf];rfl
 have hpt:fns.pt=OB W C:=by rw[Tf];rfl
 have ab2:∀ (k:Nat) (d:Cp),C[k]?=some d->XR W C fns (PB aa false).globals.size d:=XT hN hG hC
 have hwr:WR (PB aa false) fns (SF W C) (ghZ W C) (Tg W C) W:=ab3 W C hlo hpt (λ_=>⟨by rw[hC];exact al _,Ti⟩) hg ab2
 have hargs:aW fns (SF W C) #[.agg #[.int .i64 g0,.int .i64 g1,.int .i64 g2,.int .i64 g3],.int .i64 lb,.int .i64 sp,.slice (gpa W.heap.size pa cap) len cap] #[.agg #[.int .i64 g0,.int .i64 g1,.int .i64 g2,.int .i64 g3],.int .i64 lb,.int .i64 sp,.slice pa len cap]:=by
  refine⟨rfl,λi h _=>?_⟩
  simp only[List.size_toArray,List.length_cons,List.length_nil] at h
  match i,h with
  |0,_=>exact XU _ _ _ _
  |1,_=>exact aG rfl
  |2,_=>exact aG rfl
  |3,_=>exact LK hlo hN hC0 hle
 have hgs:∀ g,fns.gl g=true->SF W C g g/\fns.pt g=true:=λg hg=>by rw[Tf] at hg;cases hg
 have pI:=ou hargs hgs hwr
 have hk0:K0 0 W.heap[(0:Nat)]? (SF W C) (λ_=>False) W:=OE (Nat.lt_of_le_of_lt (cV _) hg) λk d hd e=>by have:=(ab2 k d hd _ e).1;omega
 subst Tf
 obtain⟨N,last,o,w',t',r1,r2,r3,r4⟩:=LM (P:=(PB aa false)) (LP:=(jT aa.funcs (Cc W C) (OB W C) (ab1 W C)).own (PB aa false)) (Q:=λv _=>v=.bool true) (f:=5) (r:=8) (LU _ _ _ _) (mE _ _ _) wU (OG _ _ _) (vR _ _ _) (XV _ _ _ _ (XW hE)) (by kernel_rfl) ah.Al.func5 Tryz.results5 (by kernel_rfl) rfl rfl rfl hargs hwr hgs pI hk0 (λt d=>(ay.Ic ay.lib g0 g1 g2 g3 lb sp _ len cap _ (OH hN hC0 hle t d) hn).mono λe w' h=>⟨_,h.1,rfl⟩)
 refine⟨N,last,o,w',t',r1,r2,r3,r4.mono λv h=>⟨?_,OI ⟨h.2.1,λb hb=>h.2.2.1 b hb λa x=>Ez W C x,h.2.2.2⟩⟩⟩
 obtain⟨E1,v0,eX,rfl,hv,_⟩:=h.1
 exact mF.1 hv
