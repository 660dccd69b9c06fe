/- Part of the proof. -/
import Derived.Test.YtjlgehmebfkioaaGreatDoorZ15
import Derived.ArgAppend
set_option maxRecDepth 100000
open Go.Proofs.Tryz renaming prog->aa
open Go.Proofs.ah.Al (PB)
set_option maxHeartbeats 12800000
set_option linter.unusedVariables false
open Array renaming getElem?_eq_getElem->cR
open Classical renaming byContradiction->cE,not_not->dq
open Go renaming World->ae,Addr->cy,Operand->da,Value->ai,Calls->aE
open Go.Act renaming eval->ie
open Go.Addr renaming block->np
open Go.Oper renaming wp->oT
open Go.World renaming cell?->ck,cell?_setCell_same->cM,frozen?_setCell->cS,block_lt_of_cell?->bu
open List renaming length_append->cm,mem_append->eQ,mem_singleton->ew,getElem?_eq_getElem->ax,getElem_mem->mL
open Nat renaming le_refl->al,le_trans->cC,lt_of_lt_of_le->cI,zero_le->cV
open Or renaming inl->bh,inr->a_
namespace Go.Proofs.ay
open ah au aj ah Go.RowKit aB aD ah
variable {act:Act} {Q:Exit->Act->ae->Prop} {xb:Nat} {o:Oper} {p:Pg}
def RA(w:ae)(a:Option cy)(cap:Nat)(L:List Pg):Prop :=
 L.length<=cap/\((a=none/\cap=0)\/∃ g off cur,a=some ⟨g,off,none⟩/\w.heap[g]?=some (.cells cur 60 (0,0))/\off+cap<=cur.size/\∀ i,i<L.length->w.cell? ⟨g,off+i,none⟩=some (fI (gP L i)))
section
variable {w w':ae} {a:Option cy} {cap:Nat} {L:List Pg} {S:Nat->Prop}
theorem RA.nil(w:ae):RA w none 0 []:=⟨al _,bh ⟨rfl,rfl⟩⟩
theorem RA.lt(h:RA w a cap L){b:Nat}(hb:blk a b):b<w.heap.size:=by
 obtain⟨x,rfl,rfl⟩:=hb
 rcases h.2 with ⟨e,_⟩|⟨g,off,cur,e,h2,_⟩
 .cases e
 .cases e;exact aT h2
theorem RA.keep(h:RA w a cap L)(hk:Keep S w w')(hs:∀ b,blk a b->¬S b):RA w' a cap L:=by
 refine⟨h.1,?_⟩
 rcases h.2 with h2|⟨g,off,cur,e,h2,h3,h4⟩
 .exact bh h2
 .have hn:=hs g ⟨_,e,rfl⟩
  exact a_ ⟨g,off,cur,e,(hk.block g (aT h2) hn).trans h2,h3,λi hi=>(hk.cell (p:=⟨g,off+i,none⟩) (aT h2) hn).trans (h4 i hi)⟩
theorem RA.at(h:RA w a cap L){i:Nat}(hi:i<L.length):∃ g off,a=some ⟨g,off,none⟩/\w.cell? ⟨g,off+i,none⟩=some (fI (gP L i)):=by
 rcases h.2 with ⟨_,e⟩|⟨g,off,cur,e,h2,h3,h4⟩
 .have:=h.1;omega
 .exact⟨g,off,e,h4 i hi⟩
theorem RA.last(h:RA w a cap L){n:Nat}(hn:L.length=n+1):∃ g off,a=some ⟨g,off,none⟩/\n+1<=cap/\RA w (some ⟨g,off+n,none⟩) (cap-n) [gP L n]:=by
 have h0:=h.1
 rcases h.2 with ⟨_,e⟩|⟨g,off,cur,e,h2,h3,h4⟩
 .omega
 .refine⟨g,off,e,by omega,by simp;omega,a_ ⟨g,off+n,cur,rfl,h2,by omega,λi hi=>?_⟩⟩
  obtain rfl:i=0:=by simpa using hi
  exact h4 n (by omega)
theorem RA.one(w:ae)(p:Pg):RA (w.alloc (.cells #[fI p] 60)) (some ⟨w.heap.size,0,none⟩) 1 [p] :=
 ⟨al _,a_ ⟨w.heap.size,0,#[fI p],rfl,heap_alloc_new w _,al _,λi hi=>by
  obtain rfl:i=0:=by simpa using hi
  simp[gP]⟩⟩
theorem RA.below(h:RA w a cap L)(hb:Below w.heap.size w w'):RA w' a cap L:=h.keep (S:=λ_=>False) (Keep.of_below hb) (λ_ _ e=>e)
structure vK(w w':ae)(a0 a1:Option cy)(aU:Nat)(L:List Pg):Prop where
 ra:RA w' a1 aU L
 bl:∀ b,blk a1 b->blk a0 b\/w.heap.size<=b
 kp:Keep (blk a0) w w'
theorem SN{n:Nat}(ty:TypeId)(h:RA w a cap L)(hn:L.length=n)(hx:w.cell? ⟨xb,0,none⟩=some (fI p))(hb:(n+1)*24<=140737488355328) :
 ∃ a1 aU w',(Builtin.append_ #[35,35] ty #[.slice a n cap,.slice (some ⟨xb,0,none⟩) 1 1]).run (PB aa false) w=.ok (.slice a1 (n+1) aU) w'/\vK w w' a a1 aU (L++[p]):=by
 obtain⟨i0,hi,hz0,hz1,hz2⟩:=info_parts infoP
 subst hn
 have hu:(PB aa false).underlying 35=some (.slice 60):=by kernel_rfl
 have hnews:∀ j u,[fI p][j]?=some u->w.cell? ((⟨xb,0,none⟩:cy).add j)=some u:=λj u hj=>by
  have h1:=(List.getElem?_eq_some_iff.1 hj).1
  obtain rfl:j=0:=by simpa using h1
  simp at hj
  subst hj
  simpa [Addr.add] using hx
 have grown:∀ v' w',w'.ownsRow w.heap.size 60 1 v' (L.length+1) (L.map fI++[fI p])->w.grownBy w' none->∃ a1 aU,v'=.slice a1 (L.length+1) aU/\vK w w' a a1 aU (L++[p]):=by
  intro v' w' r1 r2
  have hv:∃ a1 aU,v'=.slice a1 (L++[p]).length aU:=by
   rcases r1.2 with ⟨e,e2⟩|⟨g,cap',cur,e,_⟩
   .omega
   .exact⟨_,cap',by rw[e,cm];rfl⟩
  obtain⟨a1,aU,rfl⟩:=hv
  have hP:ng w' w.heap.size a1 aU (L++[p]):=by
   unfold ng
   rw[List.map_append,cm]
   rw[cm] at r1
   exact r1
  refine⟨a1,aU,by rw[cm];rfl,?_,λb hb=>a_ (hP.ge hb).1,⟨r2.os,r2.tape,r2.output,r2.size,λk hk _=>r2.block k hk (λe=>by cases e)⟩⟩
  rcases hP.parts with ⟨_,_,e⟩|⟨g,cur,rfl,h1,h2,h3,h4,h5,h6⟩
  .simp at e
  .refine⟨h3,a_ ⟨g,0,cur,rfl,h2,by omega,λi hi=>?_⟩⟩
   rcases hP.lie with e|⟨b,off,e,hc⟩
   .simp at e
   .cases e;exact hc i hi
 rcases h.2 with ⟨rfl,rfl⟩|⟨g,off,cur,rfl,h2,h3,h4⟩
 .have hl0:L=[]:=List.eq_nil_of_length_eq_zero (by have:=h.1;omega)
  subst hl0
  obtain⟨v',w',hr,r1,r2,_⟩:=run_append_own (P:=(PB aa false)) w w.heap.size 35 ty 60 i0 (.slice none 0 0) 1 24 hu hi hz0 hz1 hz2 rfl (by decide) (.slice none 0 0) 0 [] (World.ownsRow_nil w _ _ 1) ⟨xb,0,none⟩ 1 1 [fI p] rfl hnews (λu hu=>by simp at hu;subst hu;rfl) (by unfold maxLen;omega) (by omega) (al _)
  obtain⟨a1,aU,rfl,q⟩:=grown v' w' r1 r2
  exact⟨a1,aU,w',hr,q⟩
 .by_cases hg:L.length+1<=cap
  .have hin:off+L.length<cur.size:=by omega
   have hrun:=run_append_room_cells (P:=(PB aa false)) w 35 ty 60 i0 hu hi g off L.length cap ⟨xb,0,none⟩ 1 1 [fI p] (by rw[hz1];rfl) hnews (λu hu=>by simp at hu;subst hu;rfl) hg (λj hj=>by
    obtain rfl:j=0:=by simpa using hj
    simp only[ck,h2,hz1]
    rw[cR (by omega)]
    rfl) (λj hj=>by simp[World.frozen?,h2])
   rw[hz1,Nat.mul_one] at hrun
   refine⟨some ⟨g,off,none⟩,cap,_,hrun,⟨by rw[cm];exact hg,a_ ⟨g,off,cur.set! (off+L.length) (fI p),rfl,?_,by simp;omega,λi hi=>?_⟩⟩,λb hb=>bh hb,?_⟩
   .simp[World.setCells,World.setCell,Array.getElem?_modify,h2]
   .show (w.setCell ⟨g,off+L.length,none⟩ (fI p)).cell? _=_
    rw[cm] at hi
    have hi':i<L.length+1:=hi
    by_cases e:i=L.length
    .subst e
     rw[cM _ _ _ (by simp only[ck,h2];rw[cR hin];rfl)]
     simp[gP]
    .rw[far _ (λe2=>e (by omega)),h4 i (by omega)]
     unfold gP
     rw[List.getElem?_append_left (by omega)]
   .exact((Keep.refl (λb=>b=g) w).set1 (off+L.length) (fI p)).mono (λb e=>⟨_,rfl,e.symm⟩)
  .obtain⟨v',w',hr,r1,r2⟩:=run_append_arg_grows (P:=(PB aa false)) w 35 ty 60 i0 (.slice none 0 0) 1 24 hu hi hz0 hz1 hz2 rfl (by decide) ⟨g,off,none⟩ L.length cap (L.map fI) (by simp) (WQ h4) ⟨xb,0,none⟩ 1 1 [fI p] rfl hnews (by omega) (by unfold maxLen;omega) hb
   obtain⟨a1,aU,rfl,q⟩:=grown v' w' r1 r2
   exact⟨a1,aU,w',hr,q⟩
theorem Om{K:Act->ae->Prop}{Q:Exit->Act->ae->Prop}(s x:da)(ho:o.op=.call { callee:=.builtin .append,args:=#[s,x],argTypes:=#[35,35] }){n:Nat}(hs:act.eval s=.slice a n cap)(hx:act.eval x=.slice (some ⟨xb,0,none⟩) 1 1)(h:RA w a cap L)(hn:L.length=n){v:ai}(hxb:w.heap[xb]?=some (.cells #[v] 60 (0,0)))(hv:fI p=v)(hb:(n+1)*24<=140737488355328)
 (hK:∀ a1 aU w',vK w w' a a1 aU (L++[p])->K (act.put o.dst (.slice a1 (n+1) aU)) w'):o.wp (PB aa false) act w K Q:=by
 obtain⟨a1,aU,w',hr,q⟩:=SN (p:=p) (xb:=xb) o.type h hn (by rw[hv];simp only[ck,hxb];rfl) hb
 unfold oT execOp
 simp only[ho,resolve,invoke,builtin,Sem.run_bind,Sem.run_pure,Result.andThen_ok,List.map_toArray,List.map_cons,List.map_nil,hs,hx,hr]
 exact hK a1 aU w' q
theorem wR{ops:Array Oper}{rest:List Oper}{Q:Exit->Act->ae->Prop}(hgd:o.guard=none)(s x:da)(ho:o.op=.call { callee:=.builtin .append,args:=#[s,x],argTypes:=#[35,35] }){n:Nat}(hs:act.eval s=.slice a n cap)(hx:act.eval x=.slice (some ⟨xb,0,none⟩) 1 1)(h:RA w a cap L)(hn:L.length=n){v:ai}(hxb:w.heap[xb]?=some (.cells #[v] 60 (0,0)))(hv:fI p=v)(hb:(n+1)*24<=140737488355328)
 (hK:∀ a1 aU w',vK w w' a a1 aU (L++[p])->wpList (PB aa false) ops Q rest (act.put o.dst (.slice a1 (n+1) aU)) w'):wpList (PB aa false) ops Q (o::rest) act w :=
 wpList_plain hgd λ_ hK2=>Om s x ho hs hx h hn hxb hv hb λa1 aU w' q=>hK2 _ _ (hK a1 aU w' q)
theorem Oo{ops:Array Oper}{K:Act->ae->Prop}{Q:Exit->Act->ae->Prop}{E:Prop}(hgd:o.guard=none)(s x:da)(ho:o.op=.call { callee:=.builtin .append,args:=#[s,x],argTypes:=#[35,35] }){n:Nat}(hs:act.eval s=.slice a n cap)(hx:act.eval x=.slice (some ⟨xb,0,none⟩) 1 1)(h:RA w a cap L)(hn:L.length=n){v:ai}(hxb:w.heap[xb]?=some (.cells #[v] 60 (0,0)))(hv:fI p=v)(hb:(n+1)*24<=140737488355328)
 (hK:∀ a1 aU w',vK w w' a a1 aU (L++[p])->K (act.put o.dst (.slice a1 (n+1) aU)) w'):if Region.wanted o (yielded ops act.tmps)=true then oT (PB aa false) o act w K Q else E:=by
 have hw:Region.wanted o (yielded ops act.tmps)=true:=by simp[Region.wanted,hgd]
 rw[if_pos hw]
 exact Om s x ho hs hx h hn hxb hv hb hK
end
end Go.Proofs.ay
namespace Go.Proofs.ay
open au aj ah Go.RowKit aB aD ah
variable {aU j:Nat} {a1:Option cy} {w1:ae}
structure FT where
 ka:Option cy
 kc:Nat
 K:List Pg
 ta:Option cy
 tc:Nat
 T:List Pg
structure FS(w:ae)(ow:Nat->Nat)(lb m L:Nat)(F:Nat->FT):Prop where
 own:ow lb=2
 lt:∀ b,ow b≠0->b<w.heap.size
 fr:∀ o,w.frozen? ⟨lb,o,none⟩=false
 c0:∀ j,j<L->w.cell? ⟨lb,j*2,none⟩=some (.slice (F j).ka (F j).K.length (F j).kc)
 c1:∀ j,j<L->w.cell? ⟨lb,j*2+1,none⟩=some (.slice (F j).ta (F j).T.length (F j).tc)
 rk:∀ j,j<L->RA w (F j).ka (F j).kc (F j).K
 rt:∀ j,j<L->RA w (F j).ta (F j).tc (F j).T
 bk:∀ j,j<L->∀ b,blk (F j).ka b->ow b=4+2*j
 bt:∀ j,j<L->∀ b,blk (F j).ta b->ow b=5+2*j
 el:∀ j,j<L->∀ p,p∈(F j).K\/p∈(F j).T->bM w p.a p.p/\p.p.length=m/\∀ b off,p.a=some ⟨b,off,none⟩->ow b=3
structure dZ(w w':ae)(ow dx:Nat->Nat):Prop where
 kp:Keep (λb=>2<=ow b) w w'
 up:∀ b,dx b≠0->ow b≠0\/w.heap.size<=b
 on:∀ b,ow b≠0->dx b≠0
 one:∀ b,ow b=1->dx b=1
section
variable {w w' w2:ae} {ow dx ow2:Nat->Nat} {lb m L:Nat} {F:Nat->FT} {S:Nat->Prop}
theorem dZ.refl(w:ae)(ow:Nat->Nat):dZ w w ow ow:=⟨Keep.refl _ _,λb h=>bh h,λb h=>h,λb h=>h⟩
theorem dZ.trans(h:dZ w w' ow dx)(k:dZ w' w2 dx ow2):dZ w w2 ow ow2 :=
 ⟨h.kp.aeU k.kp (λi hi e=>cE λhn=>by
  have h0:=h.up i (by omega)
  have h1:ow i=1:=by omega
  have:=h.one i h1
  omega),
  λb e=>(k.up b e).elim (λe2=>h.up b e2) (λe2=>a_ (cC h.kp.size e2)),λb e=>k.on b (h.on b e),λb e=>k.one b (h.one b e)⟩
theorem dZ.below(hb:Below w.heap.size w w'):dZ w w' ow ow:=⟨Keep.of_below hb,λb h=>bh h,λb h=>h,λb h=>h⟩
theorem FS.keep(h:FS w ow lb m L F)(hk:Keep S w w')(hs:∀ b,S b->ow b=0):FS w' ow lb m L F:=by
 have hl:lb<w.heap.size:=h.lt lb (by rw[h.own];decide)
 have hn:¬S lb:=λe=>by have:=hs _ e;have:=h.own;omega
 refine⟨h.own,λb e=>cI (h.lt b e) hk.size,λo=>by rw[hk.frozen (p:=⟨lb,o,none⟩) hl hn];exact h.fr o,λj hj=>(hk.cell (p:=⟨lb,j*2,none⟩) hl hn).trans (h.c0 j hj),λj hj=>(hk.cell (p:=⟨lb,j*2+1,none⟩) hl hn).trans (h.c1 j hj),λj hj=>(h.rk j hj).keep hk (λb e e2=>by have:=h.bk j hj b e;have:=hs b e2;omega),λj hj=>(h.rt j hj).keep hk (λb e e2=>by have:=h.bt j hj b e;have:=hs b e2;omega),h.bk,h.bt,λj hj p hp=>?_⟩
 obtain⟨q1,q2,q3⟩:=h.el j hj p hp
 exact⟨fT hk q1 (λb off e e2=>by have:=q3 b off e;have:=hs b e2;omega),q2,q3⟩
theorem FS.below(h:FS w ow lb m L F)(hb:Below w.heap.size w w'):FS w' ow lb m L F:=h.keep (S:=λ_=>False) (Keep.of_below hb) (λ_ e=>e.elim)
theorem FS.upd(h:FS w ow lb m L F)(hj:j<L)(f:FT)(hk:Keep (λb=>b=lb\/ow b=4+2*j\/ow b=5+2*j) w w')(c0:w'.cell? ⟨lb,j*2,none⟩=some (.slice f.ka f.K.length f.kc))(c1:w'.cell? ⟨lb,j*2+1,none⟩=some (.slice f.ta f.T.length f.tc))(co:∀ o,o≠j*2->o≠j*2+1->w'.cell? ⟨lb,o,none⟩=w.cell? ⟨lb,o,none⟩)(fr:∀ o,w'.frozen? ⟨lb,o,none⟩=false)
 (rk:RA w' f.ka f.kc f.K) (rt:RA w' f.ta f.tc f.T) (ho:∀ b,ow b≠0->ow b≠4+2*j->ow b≠5+2*j->dx b=ow b) (hlt:∀ b,dx b≠0->b<w'.heap.size) (bk:∀ b,blk f.ka b->dx b=4+2*j) (bt:∀ b,blk f.ta b->dx b=5+2*j) (el:∀ p,p∈f.K\/p∈f.T->bM w' p.a p.p/\p.p.length=m/\∀ b off,p.a=some ⟨b,off,none⟩->dx b=3):FS w' dx lb m L (λi=>if i=j then f else F i):=by
 have hlb:=h.own
 have hne:∀ i,i≠j->(if i=j then f else F i)=F i:=λi e=>if_neg e
 have heq:(if j=j then f else F j)=f:=if_pos rfl
 refine⟨by rw[ho lb (by omega) (by omega) (by omega)];exact hlb,hlt,fr,λi hi=>?_,λi hi=>?_,λi hi=>?_,λi hi=>?_,λi hi=>?_,λi hi=>?_,λi hi=>?_⟩
 .by_cases e:i=j
  .rw[e,heq];exact c0
  .rw[hne i e,co _ (by omega) (by omega)];exact h.c0 i hi
 .by_cases e:i=j
  .rw[e,heq];exact c1
  .rw[hne i e,co _ (by omega) (by omega)];exact h.c1 i hi
 .by_cases e:i=j
  .rw[e,heq];exact rk
  .rw[hne i e]
   exact(h.rk i hi).keep hk (λb e1 e2=>by
    have h1:=h.bk i hi b e1
    rcases e2 with rfl|e2
    .omega
    .omega)
 .by_cases e:i=j
  .rw[e,heq];exact rt
  .rw[hne i e]
   exact(h.rt i hi).keep hk (λb e1 e2=>by
    have h1:=h.bt i hi b e1
    rcases e2 with rfl|e2
    .omega
    .omega)
 .by_cases e:i=j
  .rw[e,heq];exact bk
  .rw[hne i e]
   intro b hb
   have h1:=h.bk i hi b hb
   rw[ho b (by omega) (by omega) (by omega)];exact h1
 .by_cases e:i=j
  .rw[e,heq];exact bt
  .rw[hne i e]
   intro b hb
   have h1:=h.bt i hi b hb
   rw[ho b (by omega) (by omega) (by omega)];exact h1
 .by_cases e:i=j
  .rw[e,heq];exact el
  .rw[hne i e]
   intro p hp
   obtain⟨q1,q2,q3⟩:=h.el i hi p hp
   refine⟨fT hk q1 (λb off e1 e2=>?_),q2,λb off e1=>?_⟩
   .have h1:=q3 b off e1
    rcases e2 with rfl|e2
    .omega
    .omega
   .have h1:=q3 b off e1
    rw[ho b (by omega) (by omega) (by omega)];exact h1
def lG(w:ae)(ow:Nat->Nat)(a:Option cy)(t:Nat)(b:Nat):Nat:=if w.heap.size<=b/\a.map np=some b then t else ow b
theorem JX{a:Option cy}{b:Nat}:a.map np=some b↔blk a b:=by
 unfold blk
 cases a with
 |none=>simp
 |some x=>simp
structure XF(w w2:ae)(ow:Nat->Nat)(a1:Option cy)(t:Nat):Prop where
 kp:Keep (λb=>ow b=t) w w2
 bl:∀ b,blk a1 b->ow b=t\/w.heap.size<=b
 eq:∀ b,blk a1 b->lG w ow a1 t b=t
 lt:∀ b,lG w ow a1 t b≠0->b<w2.heap.size
 old:∀ b,ow b≠0->lG w ow a1 t b=ow b
 up:∀ b,lG w ow a1 t b≠0->ow b≠0\/w.heap.size<=b
theorem FS.newR(h:FS w ow lb m L F)(hb1:Below w.heap.size w w1){a0:Option cy}{t:Nat}{K:List Pg}(hq:vK w1 w2 a0 a1 aU K)(h0:∀ b,blk a0 b->ow b=t):XF w w2 ow a1 t:=by
 have hk:Keep (λb=>ow b=t) w w2:=(Keep.of_below hb1).trans (hq.kp.mono' (λb _ e=>h0 b e))
 have hbl:∀ b,blk a1 b->ow b=t\/w.heap.size<=b:=λb e=>(hq.bl b e).elim (λe=>bh (h0 b e)) (λe=>a_ (cC hb1.size e))
 refine⟨hk,hbl,λb e=>?_,λb e=>?_,λb e=>?_,λb e=>?_⟩
 .unfold lG
  by_cases hs:w.heap.size<=b
  .rw[if_pos ⟨hs,JX.2 e⟩]
  .rw[if_neg (λe2=>hs e2.1)]
   exact(hbl b e).resolve_right hs
 .unfold lG at e
  by_cases hs:w.heap.size<=b/\a1.map np=some b
  .exact hq.ra.lt (JX.1 hs.2)
  .rw[if_neg hs] at e
   exact cI (h.lt b e) hk.size
 .have:=h.lt b e
  unfold lG
  rw[if_neg (λe2=>by omega)]
 .unfold lG at e
  by_cases hs:w.heap.size<=b/\a1.map np=some b
  .exact a_ hs.1
  .rw[if_neg hs] at e
   exact bh e
theorem XF.step{t c:Nat}{v:ai}(hr:XF w w2 ow a1 t)(ht:2<=t)(hlb:ow lb=2):dZ w (w2.setCell ⟨lb,c,none⟩ v) ow (lG w ow a1 t) :=
 ⟨(hr.kp.mono (λb e=>by omega)).trans (((Keep.refl (λb=>b=lb) _).set1 _ _).mono (λb e=>by rw[e,hlb];exact al _)),hr.up,λb e=>by rw[hr.old b e];exact e,λb e=>by rw[hr.old b (by omega)];exact e⟩
theorem FS.kept(h:FS w ow lb m L F)(hj:j<L)(hb1:Below w.heap.size w w1){a0:Option cy}{n:Nat}{K:List Pg}(hq:vK w1 w2 a0 a1 aU K)(h0:∀ b,blk a0 b->ow b=4+2*j)(hn:K.length=n)(hK:∀ p,p∈K->(p∈(F j).K\/p∈(F j).T)\/(bM w p.a p.p/\p.p.length=m/\∀ b off,p.a=some ⟨b,off,none⟩->ow b=3)) :
 FS (w2.setCell ⟨lb,j*2,none⟩ (.slice a1 n aU)) (lG w ow a1 (4+2*j)) lb m L (λi=>if i=j then⟨a1,aU,K,(F j).ta,(F j).tc,(F j).T⟩ else F i)/\dZ w (w2.setCell ⟨lb,j*2,none⟩ (.slice a1 n aU)) ow (lG w ow a1 (4+2*j)):=by
 subst hn
 have hl:lb<w.heap.size:=h.lt lb (by rw[h.own];decide)
 have hr:=h.newR hb1 hq h0
 have hk3:Keep (λb=>b=lb) w2 (w2.setCell ⟨lb,j*2,none⟩ (.slice a1 K.length aU)):=(Keep.refl _ w2).set1 _ _
 have hk4:Keep (λb=>b=lb\/ow b=4+2*j) w (w2.setCell ⟨lb,j*2,none⟩ (.slice a1 K.length aU)):=(hr.kp.mono (λb e=>a_ e)).trans (hk3.mono (λb e=>bh e))
 have hnl:¬ow lb=4+2*j:=by rw[h.own];omega
 have hcl:∀ o,w2.cell? ⟨lb,o,none⟩=w.cell? ⟨lb,o,none⟩:=λo=>hr.kp.cell (p:=⟨lb,o,none⟩) hl hnl
 have XG:∀ b,blk a1 b->b≠lb:=λb e e2=>by
  subst e2
  rcases hr.bl b e with e3|e3
  .exact hnl e3
  .omega
 refine⟨h.upd hj _ (hk4.mono (λb e=>e.elim bh (λe=>a_ (bh e)))) ?_ ?_ (λo h1 h2=>?_) (λo=>?_) (hq.ra.keep hk3 XG) ((h.rt j hj).keep hk4 (λb e e2=>?_)) (λb e _ _=>hr.old b e) (λb e=>?_) hr.eq (λb e=>?_) (λp hp=>?_),hr.step (by omega) h.own⟩
 .exact cM _ _ _ (by rw[hcl,h.c0 j hj])
 .rw[far _ (by omega),hcl];exact h.c1 j hj
 .rw[far _ (λe=>h1 e.2.symm),hcl]
 .rw[cS,hr.kp.frozen (p:=⟨lb,o,none⟩) hl hnl];exact h.fr o
 .have h1:=h.bt j hj b e
  rcases e2 with rfl|e2
  .rw[h.own] at h1;omega
  .omega
 .show b<(w2.setCell _ _).heap.size
  simpa using hr.lt b e
 .rw[hr.old b (by have:=h.bt j hj b e;omega)];exact h.bt j hj b e
 .obtain⟨q1,q2,q3⟩:bM w p.a p.p/\p.p.length=m/\∀ b off,p.a=some ⟨b,off,none⟩->ow b=3:=by
   rcases hp with hp|hp
   .exact(hK p hp).elim (λe=>h.el j hj p e) (λe=>e)
   .exact h.el j hj p (a_ hp)
  refine⟨fT hk4 q1 (λb off e e2=>?_),q2,λb off e=>by rw[hr.old b (by rw[q3 b off e];decide)];exact q3 b off e⟩
  have h1:=q3 b off e
  rcases e2 with rfl|e2
  .rw[h.own] at h1;omega
  .omega
theorem FS.then_(h:FS w ow lb m L F)(hj:j<L)(hb1:Below w.heap.size w w1){n:Nat}{p:Pg}(hq:vK w1 w2 (F j).ta a1 aU ((F j).T++[p]))(hn:((F j).T++[p]).length=n)(hp:bM w p.a p.p/\p.p.length=m/\∀ b off,p.a=some ⟨b,off,none⟩->ow b=3) :
 FS (w2.setCell ⟨lb,j*2+1,none⟩ (.slice a1 n aU)) (lG w ow a1 (5+2*j)) lb m L (λi=>if i=j then⟨(F j).ka,(F j).kc,(F j).K,a1,aU,(F j).T++[p]⟩ else F i)/\dZ w (w2.setCell ⟨lb,j*2+1,none⟩ (.slice a1 n aU)) ow (lG w ow a1 (5+2*j)):=by
 subst hn
 have hl:lb<w.heap.size:=h.lt lb (by rw[h.own];decide)
 have hr:=h.newR hb1 hq (h.bt j hj)
 have hk3:Keep (λb=>b=lb) w2 (w2.setCell ⟨lb,j*2+1,none⟩ (.slice a1 ((F j).T++[p]).length aU)):=(Keep.refl _ w2).set1 _ _
 have hk4:Keep (λb=>b=lb\/ow b=5+2*j) w (w2.setCell ⟨lb,j*2+1,none⟩ (.slice a1 ((F j).T++[p]).length aU)):=(hr.kp.mono (λb e=>a_ e)).trans (hk3.mono (λb e=>bh e))
 have hnl:¬ow lb=5+2*j:=by rw[h.own];omega
 have hcl:∀ o,w2.cell? ⟨lb,o,none⟩=w.cell? ⟨lb,o,none⟩:=λo=>hr.kp.cell (p:=⟨lb,o,none⟩) hl hnl
 have XG:∀ b,blk a1 b->b≠lb:=λb e e2=>by
  subst e2
  rcases hr.bl b e with e3|e3
  .exact hnl e3
  .omega
 refine⟨h.upd hj _ (hk4.mono (λb e=>e.elim bh (λe=>a_ (a_ e)))) ?_ ?_ (λo h1 h2=>?_) (λo=>?_) ((h.rk j hj).keep hk4 (λb e e2=>?_)) (hq.ra.keep hk3 XG) (λb e _ _=>hr.old b e) (λb e=>?_) (λb e=>?_) hr.eq (λq hp2=>?_),hr.step (by omega) h.own⟩
 .rw[far _ (by omega),hcl];exact h.c0 j hj
 .exact cM _ _ _ (by rw[hcl,h.c1 j hj])
 .rw[far _ (λe=>h2 e.2.symm),hcl]
 .rw[cS,hr.kp.frozen (p:=⟨lb,o,none⟩) hl hnl];exact h.fr o
 .have h1:=h.bk j hj b e
  rcases e2 with rfl|e2
  .rw[h.own] at h1;omega
  .omega
 .show b<(w2.setCell _ _).heap.size
  simpa using hr.lt b e
 .rw[hr.old b (by have:=h.bk j hj b e;omega)];exact h.bk j hj b e
 .obtain⟨q1,q2,q3⟩:bM w q.a q.p/\q.p.length=m/\∀ b off,q.a=some ⟨b,off,none⟩->ow b=3:=by
   rcases hp2 with hp2|hp2
   .exact h.el j hj q (bh hp2)
   .rcases eQ.1 hp2 with e|e
    .exact h.el j hj q (a_ e)
    .rw[ew.1 e];exact hp
  refine⟨fT hk4 q1 (λb off e e2=>?_),q2,λb off e=>by rw[hr.old b (by rw[q3 b off e];decide)];exact q3 b off e⟩
  have h1:=q3 b off e
  rcases e2 with rfl|e2
  .rw[h.own] at h1;omega
  .omega
theorem FS.clear(h:FS w ow lb m L F)(hj:j<L):FS (w.setCell ⟨lb,j*2+1,none⟩ (.slice none 0 0)) ow lb m L (λi=>if i=j then⟨(F j).ka,(F j).kc,(F j).K,none,0,[]⟩ else F i)/\dZ w (w.setCell ⟨lb,j*2+1,none⟩ (.slice none 0 0)) ow ow:=by
 have hk3:Keep (λb=>b=lb) w (w.setCell ⟨lb,j*2+1,none⟩ (.slice none 0 0)):=(Keep.refl _ w).set1 _ _
 refine⟨h.upd hj _ (hk3.mono (λb e=>bh e)) ?_ ?_ (λo h1 h2=>?_) (λo=>?_) ((h.rk j hj).keep hk3 (λb e e2=>?_)) (RA.nil _) (λb _ _ _=>rfl) (λb e=>?_) (h.bk j hj) (λb e=>?_) (λq hq=>?_),⟨hk3.mono (λb e=>by rw[e,h.own];exact al _),λb e=>bh e,λb e=>e,λb e=>e⟩⟩
 .rw[far _ (by omega)];exact h.c0 j hj
 .exact cM _ _ _ (by rw[h.c1 j hj])
 .rw[far _ (λe=>h2 e.2.symm)]
 .rw[cS];exact h.fr o
 .have h1:=h.bk j hj b e
  subst e2
  rw[h.own] at h1;omega
 .simpa using h.lt b e
 .obtain⟨x,e,_⟩:=e;cases e
 .obtain⟨q1,q2,q3⟩:=h.el j hj q (hq.elim bh (λe=>by cases e))
  refine⟨fT hk3 q1 (λb off e e2=>?_),q2,q3⟩
  have h1:=q3 b off e
  subst e2
  rw[h.own] at h1;omega
theorem FS.flush(h:FS w ow lb m L F){n:Nat}(hj:j<L)(hn:(F j).T.length=n+1):∃ g off,(F j).ta=some ⟨g,off,none⟩/\n+1<=(F j).tc/\∃ dx,∀ w2,Below w.heap.size (w.setCell ⟨lb,j*2,none⟩ (.slice (some ⟨g,off+n,none⟩) 1 ((F j).tc-n))) w2->FS (w2.setCell ⟨lb,j*2+1,none⟩ (.slice none 0 0)) dx lb m L (λi=>if i=j then⟨some ⟨g,off+n,none⟩,(F j).tc-n,[gP (F j).T n],none,0,[]⟩ else F i)/\dZ w (w2.setCell ⟨lb,j*2+1,none⟩ (.slice none 0 0)) ow dx:=by
 have hl:lb<w.heap.size:=h.lt lb (by rw[h.own];decide)
 obtain⟨g,off,e,hc,hra⟩:=(h.rt j hj).last hn
 have hg:ow g=5+2*j:=h.bt j hj g ⟨_,e,rfl⟩
 refine⟨g,off,e,hc,λb=>if ow b=5+2*j then 4+2*j else ow b,λw2 hb2=>?_⟩
 have hk1:Keep (λb=>b=lb) w (w.setCell ⟨lb,j*2,none⟩ (.slice (some ⟨g,off+n,none⟩) 1 ((F j).tc-n))):=(Keep.refl _ w).set1 _ _
 have hb2':Below (w.setCell ⟨lb,j*2,none⟩ (.slice (some ⟨g,off+n,none⟩) 1 ((F j).tc-n))).heap.size (w.setCell ⟨lb,j*2,none⟩ (.slice (some ⟨g,off+n,none⟩) 1 ((F j).tc-n))) w2:=by simpa using hb2
 have hk2:Keep (λb=>b=lb) w w2:=hk1.trans (Keep.of_below hb2')
 have hk3:Keep (λb=>b=lb) w (w2.setCell ⟨lb,j*2+1,none⟩ (.slice none 0 0)):=hk2.trans ((Keep.refl _ w2).set1 _ _)
 have LA:lb<(w.setCell ⟨lb,j*2,none⟩ (.slice (some ⟨g,off+n,none⟩) 1 ((F j).tc-n))).heap.size:=by simpa using hl
 have hcl:∀ o,w2.cell? ⟨lb,o,none⟩=(w.setCell ⟨lb,j*2,none⟩ (.slice (some ⟨g,off+n,none⟩) 1 ((F j).tc-n))).cell? ⟨lb,o,none⟩:=λo=>hb2'.cell (p:=⟨lb,o,none⟩) LA
 have hfr:∀ o,w2.frozen? ⟨lb,o,none⟩=w.frozen? ⟨lb,o,none⟩:=λo=>by rw[hb2'.frozen (p:=⟨lb,o,none⟩) LA,cS]
 refine⟨h.upd hj _ (hk3.mono (λb e=>bh e)) ?_ ?_ (λo h1 h2=>?_) (λo=>?_) (hra.keep hk3 (λb e e2=>?_)) (RA.nil _) (λb _ _ h3=>if_neg h3) (λb e=>?_) (λb e=>?_) (λb e=>?_) (λq hq=>?_),⟨hk3.mono (λb e=>by rw[e,h.own];exact al _),λb e=>?_,λb e=>?_,λb e=>?_⟩⟩
 .rw[far _ (by omega),hcl]
  exact cM _ _ _ (by rw[h.c0 j hj])
 .exact cM _ _ _ (by rw[hcl,far _ (by omega),h.c1 j hj])
 .rw[far _ (λe=>h2 e.2.symm),hcl,far _ (λe=>h1 e.2.symm)]
 .rw[cS,hfr];exact h.fr o
 .have e4:=ny e
  subst e4
  subst e2
  rw[h.own] at hg;omega
 .have h1:ow b≠0:=λe2=>by rw[e2,if_neg (by omega)] at e;exact e rfl
  exact cI (h.lt b h1) hk3.size
 .rw[ny e,hg,if_pos rfl]
 .obtain⟨x,e,_⟩:=e;cases e
 .have hq1:q=gP (F j).T n:=by simpa using hq
  have hmem:q∈(F j).T:=by
   rw[hq1]
   unfold gP
   rw[ax (by omega)]
   exact mL _
  obtain⟨q1,q2,q3⟩:=h.el j hj q (a_ hmem)
  refine⟨fT hk3 q1 (λb off e e2=>?_),q2,λb off e=>by rw[q3 b off e,if_neg (by omega)]⟩
  have h1:=q3 b off e
  subst e2
  rw[h.own] at h1;omega
 .refine bh (λe2=>?_)
  rw[e2,if_neg (by omega)] at e
  exact e rfl
 .split
  .omega
  .exact e
 .rw[e,if_neg (by omega)]
end
end Go.Proofs.ay
namespace Go.Proofs.ay
open ah au aj ah Go.RowKit aB aD ah
variable {L:List Pg}
theorem qh{i:Nat}(h:i<L.length):gP L i∈L:=by
 unfold gP
 rw[ax h]
 exact mL _
theorem XH{p:Pg}(h:p∈L):∃ i,i<L.length/\gP L i=p:=by
 obtain⟨i,hi,e⟩:=List.getElem_of_mem h
 exact⟨i,hi,by unfold gP;rw[ax hi];exact e⟩
theorem Ao{w:ae}{a:Option cy}{cap n m:Nat}(h:RA w a cap L)(hn:L.length=n)(hel:∀ p,p∈L->bM w p.a p.p/\p.p.length=m)(xa:Option cy)(xc:Nat)(xl:List Nat)(hx:bM w xa xl)(hxl:xl.length=m)(hm:m<=1000)(hn2:n<=140737488355328) :
 aE (PB aa false) 37 #[.slice a n cap,.slice xa m xc] w λe w'=>∃ b:Bool,e=.returned (.bool b)/\(b=true↔∃ p,p∈L/\p.p=xl)/\Below w.heap.size w w':=by
 have HA:Hid (∀ i,i<n->∃ g off,a=some ⟨g,off,none⟩/\w.cell? ⟨g,off+i,none⟩=some (.slice (gP L i).a m (gP L i).c)):=λi hi=>by
  obtain⟨g,off,e,hc⟩:=h.at (i:=i) (by omega)
  have hl:=(hel _ (qh (L:=L) (i:=i) (by omega))).2
  refine⟨g,off,e,?_⟩
  rw[hc]
  unfold fI
  rw[hl]
 have HB:Hid (∀ i W,i<n->Below w.heap.size w W->aE (PB aa false) 28 #[.slice (gP L i).a m (gP L i).c,.slice xa m xc] W λe w'=>e=.returned (.bool (decide ((gP L i).p=xl)))/\Below W.heap.size W w'):=λi W hi hW=>by
  obtain⟨q1,q2⟩:=hel _ (qh (L:=L) (i:=i) (by omega))
  have:=sQ (gP L i).a xa (gP L i).p xl (gP L i).c xc W (by omega) (by omega) (q1.below hW) (hx.below hW)
  rw[q2,hxl] at this
  exact this
 have HM:Hid (∀ p,p∈L->∃ i,i<n/\gP L i=p):=λp hp=>by rw[<-hn];exact XH hp
 have HN:Hid (∀ i,i<n->gP L i∈L):=λi hi=>qh (by omega)
 clear h hel hx hxl hn
 go_enter Al.func37,Tryz.ntmps37
 go_wp2
 go_loopw [5] (λx wq=>∃ (i:Nat),i<=n/\x=.int .i64 i/\Hid (Below w.heap.size w wq/\∀ k,k<i->(gP L k).p≠xl)) (λx _=>n-(intOf x).toNat)
 case atStart=>exact⟨0,cV _,rfl,Below.refl _ _,λk hk=>by omega⟩
 case round =>
  obtain⟨i,hi,rfl,hR⟩:=hrel
  by_cases hlt:i<n
  .obtain⟨g,off,rfl,hc⟩:=HA.out i hlt
   have hc2:=(hR.out.1.cell (p:=⟨g,off+i,none⟩) (bu w _ hc)).trans hc
   have hby:=HB.out i wr hlt hR.out.1
   have HI:Hid ((gP L i)∈L):=HN.out i hlt
   obtain⟨b,hb⟩:∃ b,decide ((gP L i).p=xl)=b:=⟨_,rfl⟩
   have HD:Hid (decide ((gP L i).p=xl)=b):=hb
   rw[hb] at hby
   clear hb hc HB HA
   generalize (gP L i).a=ea at *
   generalize (gP L i).c=ec at *
   go_wp2_with fail
   refine hby.mono ?_
   rintro e w2 ⟨rfl,hb2⟩
   have H2:Hid (Below w.heap.size w w2):=hR.out.1.trans (hb2.mono hR.out.1.size)
   clear hby hb2 hc2
   cases b with
   |true =>
    clear HM
    go_wp2
    go_ret
    exact⟨true,rfl,⟨λ_=>⟨_,HI.out,of_decide_eq_true HD.out⟩,λ_=>rfl⟩,H2.out⟩
   |false =>
    clear HM
    go_wp2
    refine⟨⟨i+1,by omega,by go_num,H2.out,λk hk=>?_⟩,by simp[intOf];omega⟩
    by_cases e:k=i
    .subst e;exact of_decide_eq_false HD.out
    .exact hR.out.2 k (by omega)
  .obtain rfl:i=n:=by omega
   have HE:Hid (Below w.heap.size w wr/\∀ p,p∈L->p.p≠xl):=⟨hR.out.1,λp hp=>by
    obtain⟨k,hk,rfl⟩:=HM.out p hp
    exact hR.out.2 k hk⟩
   clear hR HM HA HB
   go_wp2
   go_ret
   exact⟨false,rfl,⟨(λe=>by cases e),λ⟨p,hp,e⟩=>absurd e (HE.out.2 p hp)⟩,HE.out.1⟩
def Fits(f:FT)(v:List Nat):Prop:=(f.T=[]/\∃ p,p∈f.K/\p.p=v)\/∃ n,f.T.length=n+1/\(gP f.T n).p=v
def JY(f f':FT)(v:List Nat):Prop:=Fits f' v/\f'.T=f.T/\f'.K.length<=f.K.length
theorem En{w:ae}{ow:Nat->Nat}{lb m L j gb:Nat}{F:Nat->FT}{v:List Nat}(h:FS w ow lb m L F)(hj:j<L)(hv:Fits (F j) v)(hm:m<=1000)(hc:((F j).K.length+(F j).T.length)<=140737488355328)(hvl:v.length=m)(hr:Row w gb v)(hg:ow gb=3) :
 aE (PB aa false) 24 #[.pointer (some ⟨lb,j*2,none⟩),.slice (some ⟨gb,0,none⟩) m m] w λe w'=>e=.returned (.bool true)/\∃ dx f',FS w' dx lb m L (λi=>if i=j then f' else F i)/\dZ w w' ow dx/\JY (F j) f' v:=by
 have c0:=h.c0 j hj
 have c1:=h.c1 j hj
 have f0:=h.fr (j*2)
 have hel:=h.el j hj
 have hFj:(λi=>if i=j then F j else F i)=F:=by funext i;split<;>simp_all
 rcases hv with ⟨hT,p,hp,hpv⟩|⟨n,hn,hpv⟩
 .have hrk:=h.rk j hj
  have hA:=Ao hrk rfl (λp hp=>⟨(hel p (bh hp)).1,(hel p (bh hp)).2.1⟩) (some ⟨gb,0,none⟩) m v (iq hr) hvl hm (by omega)
  have HP:Hid (∃ p,p∈(F j).K/\p.p=v):=⟨p,hp,hpv⟩
  have Oq:Hid (1<=(F j).K.length):=by
   rcases hk:(F j).K with _|⟨x,xs⟩
   .rw[hk] at hp;cases hp
   .exact(by simp:1<=(x::xs).length)
  have HF:Hid (FS w ow lb m L F):=h
  have HV:Hid (v.length=m/\Row w gb v/\(F j).T=[]):=⟨hvl,hr,hT⟩
  rw[hT] at c1
  have c1':w.cell? ⟨lb,j*2+1,none⟩=some (.slice (F j).ta 0 (F j).tc):=c1
  clear h c1 hel hFj hrk hp hpv hT hr hvl hc
  have HFJ:Hid (∀ f,f=F j->f.ta=(F j).ta/\f.tc=(F j).tc):=λf e=>by rw[e];exact⟨rfl,rfl⟩
  obtain⟨ka,hka⟩:∃ x,(F j).ka=x:=⟨_,rfl⟩
  obtain⟨kl,hkl⟩:∃ x,(F j).K.length=x:=⟨_,rfl⟩
  obtain⟨kc,hkc⟩:∃ x,(F j).kc=x:=⟨_,rfl⟩
  rw[hka,hkl,hkc] at hA c0
  have hlb:Hid (lb<w.heap.size):=HF.out.lt lb (by rw[HF.out.own];decide)
  clear hka hkl hkc HFJ
  generalize (F j).ta=ta at c1'
  generalize (F j).tc=tc at c1'
  go_enter Al.func24,Tryz.ntmps24
  go_wp2_with fail
  refine hA.mono ?_
  rintro e w2 ⟨b,rfl,hb,hb2⟩
  obtain rfl:b=true:=hb.2 HP.out
  have c0':=(hb2.cell (p:=⟨lb,j*2,none⟩) hlb.out).trans c0
  have f0':=(hb2.frozen (p:=⟨lb,j*2,none⟩) hlb.out).trans f0
  have HN:Hid (∃ dx f',FS ((w2.alloc (.cells #[.slice (some ⟨gb,0,none⟩) m m] 60)).setCell ⟨lb,j*2,none⟩ (.slice (some ⟨w2.heap.size,0,none⟩) 1 1)) dx lb m L (λi=>if i=j then f' else F i)/\dZ w ((w2.alloc (.cells #[.slice (some ⟨gb,0,none⟩) m m] 60)).setCell ⟨lb,j*2,none⟩ (.slice (some ⟨w2.heap.size,0,none⟩) 1 1)) ow dx/\JY (F j) f' v):=by
   have hpv:fI ⟨some ⟨gb,0,none⟩,v,m⟩=.slice (some ⟨gb,0,none⟩) m m:=by unfold fI;rw[HV.out.1]
   have hone:=RA.one w2 ⟨some ⟨gb,0,none⟩,v,m⟩
   rw[hpv] at hone
   obtain⟨q1,q2⟩:=HF.out.kept hj hb2 (a0:=none) (K:=[⟨some ⟨gb,0,none⟩,v,m⟩]) (n:=1) ⟨hone,λb e=>a_ (by rw[ny e];exact al _),Keep.of_below (aC w2 _)⟩ (λb e=>by obtain⟨x,e,_⟩:=e;cases e) rfl (λp hp=>a_ (by
    rw[ew.1 hp]
    exact⟨iq HV.out.2.1,HV.out.1,λb off e=>by cases e;exact hg⟩))
   exact⟨_,_,q1,q2,bh ⟨HV.out.2.2,_,ew.2 rfl,rfl⟩,rfl,Oq.out⟩
  have LA:lb<w2.heap.size:=cI hlb.out hb2.size
  have ahP:=((aC w2 (.cells #[.slice (some ⟨gb,0,none⟩) m m] 60)).cell (p:=⟨lb,j*2,none⟩) LA).trans c0'
  have ahQ:=((aC w2 (.cells #[.slice (some ⟨gb,0,none⟩) m m] 60)).frozen (p:=⟨lb,j*2,none⟩) LA).trans f0'
  clear hA hb hb2 HF c0 f0 c1' c0' f0' LA
  go_wp2
  go_ret
  exact⟨rfl,HN.out⟩
 .obtain⟨g,off,e,hc1⟩:=(h.rt j hj).at (i:=n) (by omega)
  obtain⟨q1,q2,_⟩:=hel _ (a_ (qh (L:=(F j).T) (i:=n) (by omega)))
  have hc1':w.cell? ⟨g,off+n,none⟩=some (.slice (gP (F j).T n).a m (gP (F j).T n).c):=by
   rw[hc1];unfold fI;rw[q2]
  have HB:Hid (∀ W,Below w.heap.size w W->aE (PB aa false) 28 #[.slice (gP (F j).T n).a m (gP (F j).T n).c,.slice (some ⟨gb,0,none⟩) m m] W λe w'=>e=.returned (.bool true)/\Below w.heap.size w w'):=λW hW=>by
   have:=sQ (gP (F j).T n).a (some ⟨gb,0,none⟩) (gP (F j).T n).p v (gP (F j).T n).c m W (by omega) (by omega) (q1.below hW) ((iq hr).below hW)
   rw[q2,hvl,decide_eq_true hpv] at this
   exact this.mono λe w' q=>⟨q.1,hW.trans (q.2.mono hW.size)⟩
  have HD:Hid (∀ W,Below w.heap.size w W->W.cell? ⟨lb,j*2+1,none⟩=some (.slice (F j).ta (F j).T.length (F j).tc)/\W.cell? ⟨g,off+n,none⟩=some (.slice (gP (F j).T n).a m (gP (F j).T n).c)):=λW hW=>⟨(hW.cell (p:=⟨lb,j*2+1,none⟩) (bu w _ c1)).trans c1,(hW.cell (p:=⟨g,off+n,none⟩) (bu w _ hc1')).trans hc1'⟩
  have HF:Hid (∀ w',Below w.heap.size w w'->∃ dx f',FS w' dx lb m L (λi=>if i=j then f' else F i)/\dZ w w' ow dx/\JY (F j) f' v):=λw' hb=>⟨ow,F j,by rw[hFj];exact h.below hb,dZ.below hb,a_ ⟨n,hn,hpv⟩,rfl,al _⟩
  rw[e,hn] at c1 HD
  have e1:IntKind.i64.wrap (((n+1:Nat):Int)-1)=(n:Int):=by rw[show ((n+1:Nat):Int)-1=(n:Int) by omega];exact aj.bP (by omega) (by omega)
  have e2:(0:Int)<((n+1:Nat):Int):=by omega
  have e3:n<n+1:=Nat.lt_succ_self _
  clear h hel hFj hc1 hpv hr q1 q2 c0 f0 e hn hc hvl hg
  obtain⟨tl,htl⟩:∃ tl,n+1=tl:=⟨_,rfl⟩
  rw[htl] at c1 e1 e2 e3 HD
  clear htl
  generalize (gP (F j).T n).a=ea at *
  generalize (gP (F j).T n).c=ec at *
  generalize (F j).tc=tc at *
  go_enter Al.func24,Tryz.ntmps24
  go_wp2
  go_region_held3 (λw'=>w'.cell? ⟨lb,j*2+1,none⟩=some (.slice (some ⟨g,off,none⟩) tl tc)/\w'.cell? ⟨g,off+n,none⟩=some (.slice ea m ec)) (first|exact HD.out _ hb|assumption|(refine⟨?_,?_⟩<;>assumption)|go_keep) (first|(go_at_call 28;refine(HB.out _ (by first|exact Below.refl _ _|exact(Below.refl _ _).drew)).mono ?_;rintro e w2 ⟨rfl,hb⟩))
  have HZ:Hid (∃ dx f',FS w2 dx lb m L (λi=>if i=j then f' else F i)/\dZ w w2 ow dx/\JY (F j) f' v):=HF.out w2 hb
  clear hb HB HF HD
  go_wp2
  go_ret
  exact⟨rfl,HZ.out⟩
def BZ(f f':FT):Prop:=f'.T=[]/\f'.K.length<=f.K.length+f.T.length/\∀ p,p∈f.K\/p∈f.T->∃ q,q∈f'.K/\q.p=p.p
def LoO(w wq:ae)(ow:Nat->Nat)(lb m L:Nat)(F:Nat->FT)(i:Nat):Prop:=∃ dx F',FS wq dx lb m L F'/\dZ w wq ow dx/\(∀ j,j<i->j<L->BZ (F j) (F' j))/\∀ j,i<=j->F' j=F j
structure LoK(f f':FT)(k:Nat):Prop where
 ta:f'.ta=f.ta
 tc:f'.tc=f.tc
 t:f'.T=f.T
 le:f'.K.length<=f.K.length+k
 mem:∀ p,p∈f.K\/p∈f.T.take k->∃ q,q∈f'.K/\q.p=p.p
def Eo(w wq:ae)(ow:Nat->Nat)(lb m L:Nat)(F:Nat->FT)(i k:Nat):Prop:=∃ dx F',FS wq dx lb m L F'/\dZ w wq ow dx/\(∀ j,j<i->j<L->BZ (F j) (F' j))/\(∀ j,i<j->F' j=F j)/\LoK (F i) (F' i) k
section
variable {w wq w2:ae} {ow:Nat->Nat} {lb m L i k:Nat} {F:Nat->FT}
theorem LoO.start(h:LoO w wq ow lb m L F i):Eo w wq ow lb m L F i 0:=by
 obtain⟨dx,F',h1,h2,h3,h4⟩:=h
 refine⟨dx,F',h1,h2,h3,λj hj=>h4 j (by omega),?_⟩
 rw[h4 i (al _)]
 exact⟨rfl,rfl,rfl,al _,λp hp=>⟨p,hp.elim (λe=>e) (λe=>by simp at e),rfl⟩⟩
theorem Eo.below(h:Eo w wq ow lb m L F i k)(hb:Below wq.heap.size wq w2):Eo w w2 ow lb m L F i k:=by
 obtain⟨dx,F',h1,h2,h3⟩:=h
 exact⟨dx,F',h1.below hb,h2.trans (dZ.below hb),h3⟩
theorem Ep{l:List Pg}{p:Pg}(hk:k<l.length)(h:p∈l.take (k+1)):p∈l.take k\/p=gP l k:=by
 rw[List.take_add_one,eQ] at h
 refine h.imp id (λe=>?_)
 rw[ax hk] at e
 unfold gP
 rw[ax hk]
 simpa using e
theorem Eo.put{dx ow2:Nat->Nat}{F':Nat->FT}{a1:Option cy}{aU:Nat}(hi:i<L)(h2:dZ w wq ow dx)(h3:∀ j,j<i->j<L->BZ (F j) (F' j))(h4:∀ j,i<j->F' j=F j)(h5:LoK (F i) (F' i) k)(hk:k<(F i).T.length)(q1:FS w2 ow2 lb m L (λj=>if j=i then⟨a1,aU,(F' i).K++[gP (F i).T k],(F' i).ta,(F' i).tc,(F' i).T⟩ else F' j))(q2:dZ wq w2 dx ow2):Eo w w2 ow lb m L F i (k+1):=by
 refine⟨ow2,_,q1,h2.trans q2,λj hj hjL=>?_,λj hj=>?_,?_⟩
 .rw[if_neg (by omega)];exact h3 j hj hjL
 .rw[if_neg (by omega)];exact h4 j hj
 .rw[if_pos rfl]
  refine⟨h5.ta,h5.tc,h5.t,by have:=h5.le;simp;omega,λp hp=>?_⟩
  rcases hp with hp|hp
  .obtain⟨q,e1,e2⟩:=h5.mem p (bh hp)
   exact⟨q,eQ.2 (bh e1),e2⟩
  .rcases Ep hk hp with e|rfl
   .obtain⟨q,e1,e2⟩:=h5.mem p (a_ e)
    exact⟨q,eQ.2 (bh e1),e2⟩
   .exact⟨_,eQ.2 (a_ (ew.2 rfl)),rfl⟩
theorem Eo.skip{dx:Nat->Nat}{F':Nat->FT}(h1:FS wq dx lb m L F')(h2:dZ w wq ow dx)(h3:∀ j,j<i->j<L->BZ (F j) (F' j))(h4:∀ j,i<j->F' j=F j)(h5:LoK (F i) (F' i) k)(hk:k<(F i).T.length)(hm:∃ q,q∈(F' i).K/\q.p=(gP (F i).T k).p):Eo w wq ow lb m L F i (k+1):=by
 refine⟨dx,F',h1,h2,h3,h4,h5.ta,h5.tc,h5.t,by have:=h5.le;omega,λp hp=>?_⟩
 rcases hp with hp|hp
 .exact h5.mem p (bh hp)
 .rcases Ep hk hp with e|rfl
  .exact h5.mem p (a_ e)
  .exact hm
theorem Eo.end(h:Eo w wq ow lb m L F i k)(hi:i<L)(hk:(F i).T.length<=k)(hk2:k<=(F i).T.length):LoO w (wq.setCell ⟨lb,i*2+1,none⟩ (.slice none 0 0)) ow lb m L F (i+1):=by
 obtain⟨dx,F',h1,h2,h3,h4,h5⟩:=h
 obtain⟨q1,q2⟩:=h1.clear hi
 refine⟨dx,_,q1,h2.trans q2,λj hj hjL=>?_,λj hj=>?_⟩
 .by_cases e:j=i
  .subst e
   rw[if_pos rfl]
   exact⟨rfl,by have:=h5.le;show (F' j).K.length<=_;omega,λp hp=>h5.mem p (hp.imp id (λe=>by rw[List.take_of_length_le hk];exact e))⟩
  .rw[if_neg e];exact h3 j (by omega) hjL
 .rw[if_neg (by omega)];exact h4 j (by omega)
end
theorem Ot{w:ae}{ow:Nat->Nat}{lb m L lc c:Nat}{F:Nat->FT}(h:FS w ow lb m L F)(hL:L<=256)(hm:m<=1000)(hc:∀ j,j<L->(F j).K.length+(F j).T.length<=c)(hcb:(c+1)*24<=140737488355328) :
 aE (PB aa false) 21 #[.slice (some ⟨lb,0,none⟩) L lc] w λe w'=>e=.returned (.tuple #[])/\∃ dx F',FS w' dx lb m L F'/\dZ w w' ow dx/\∀ j,j<L->BZ (F j) (F' j):=by
 have H0:Hid (LoO w w ow lb m L F 0):=⟨ow,F,h,dZ.refl _ _,λj hj=>by omega,λj _=>rfl⟩
 have HC:Hid (∀ j,j<L->(F j).K.length+(F j).T.length<=c):=hc
 clear h hc
 go_enter Al.func21,Tryz.ntmps21
 go_wp2
 go_loopw [2] (λx wq=>∃ (i:Nat),i<=L/\x=.int .i64 i/\Hid (LoO w wq ow lb m L F i)) (λx _=>L-(intOf x).toNat)
 case atStart=>exact⟨0,cV _,rfl,H0.out⟩
 case round =>
  obtain⟨i,hi,rfl,hR⟩:=hrel
  clear H0
  by_cases hlt:i<L
  .have H1:Hid (Eo w wr ow lb m L F i 0):=hR.out.start
   obtain⟨wo,rfl⟩:∃ wo,wo=wr:=⟨_,rfl⟩
   obtain⟨tl,htl⟩:∃ tl,(F i).T.length=tl:=⟨_,rfl⟩
   have Ap:Hid ((F i).T.length=tl/\tl<=c):=⟨htl,by have:=HC.out i hlt;omega⟩
   have HT:Hid (∀ W k,Eo w W ow lb m L F i k->W.cell? ⟨lb,i*2+1,none⟩=some (.slice (F i).ta tl (F i).tc)/\W.frozen? ⟨lb,i*2+1,none⟩=false):=λW k hW=>by
    obtain⟨dx,F',h1,h2,h3,h4,h5⟩:=hW
    have:=h1.c1 i hlt
    rw[h5.ta,h5.tc,h5.t,htl] at this
    exact⟨this,h1.fr _⟩
   have abM:=(HT.out wo 0 H1.out).1
   have ahR:tl<=140737488355328:=by have:=Ap.out.2;omega
   clear hR htl
   obtain⟨ta,sS⟩:∃ ta,(F i).ta=ta:=⟨_,rfl⟩
   have XI:Hid ((F i).ta=ta):=sS
   rw[sS] at HT abM
   clear sS
   go_wp2
   go_loopw [3] (λx wq=>∃ (k:Nat),k<=tl/\x=.int .i64 k/\Hid (Eo w wq ow lb m L F i k)) (λx _=>tl-(intOf x).toNat)
   case atStart=>exact⟨0,cV _,rfl,H1.out⟩
   case round =>
    obtain⟨k,hk,rfl,hR⟩:=hrel
    clear H1 abM
    have hct:=(HT.out wr k hR.out).1
    have hft:=(HT.out wr k hR.out).2
    by_cases hlk:k<tl
    .obtain⟨dx,F',h1,h2,h3,h4,h5⟩:=hR.out
     have hrt:=h1.rt i hlt
     rw[h5.ta,h5.tc,h5.t,XI.out] at hrt
     obtain⟨tg,tq,e,hce⟩:=hrt.at (i:=k) (by rw[Ap.out.1];exact hlk)
     subst e
     obtain⟨e1,e2,e3⟩:=h1.el i hlt (gP (F i).T k) (a_ (by rw[h5.t];exact qh (by rw[Ap.out.1];exact hlk)))
     have hpv:fI (gP (F i).T k)=.slice (gP (F i).T k).a m (gP (F i).T k).c:=by unfold fI;rw[e2]
     rw[hpv] at hce
     have hck:=h1.c0 i hlt
     have hfk:=h1.fr (i*2)
     have hrk:=h1.rk i hlt
     obtain⟨kl,hkl⟩:∃ kl,(F' i).K.length=kl:=⟨_,rfl⟩
     have ahS:kl<=c:=by have:=h5.le;have:=HC.out i hlt;have:=Ap.out.1;omega
     have HA:Hid (∀ W,Below wr.heap.size wr W->aE (PB aa false) 37 #[.slice (F' i).ka kl (F' i).kc,.slice (gP (F i).T k).a m (gP (F i).T k).c] W λe w'=>∃ b:Bool,e=.returned (.bool b)/\(b=true↔∃ p,p∈(F' i).K/\p.p=(gP (F i).T k).p)/\Below wr.heap.size wr w'):=λW hW=>by
      refine(Ao (hrk.below hW) hkl (λp hp=>⟨(h1.el i hlt p (bh hp)).1.below hW,(h1.el i hlt p (bh hp)).2.1⟩) (gP (F i).T k).a (gP (F i).T k).c (gP (F i).T k).p (e1.below hW) e2 hm (by omega)).mono ?_
      rintro e w' ⟨b,q1,q2,q3⟩
      exact⟨b,q1,q2,hW.trans (q3.mono hW.size)⟩
     rw[hkl] at hck
     have HX:Hid (FS wr dx lb m L F'/\dZ w wr ow dx/\(∀ j,j<i->j<L->BZ (F j) (F' j))/\(∀ j,i<j->F' j=F j)/\LoK (F i) (F' i) k/\RA wr (F' i).ka (F' i).kc (F' i).K/\(F' i).K.length=kl):=⟨h1,h2,h3,h4,h5,hrk,hkl⟩
     have SV:Hid (fI (gP (F i).T k)=.slice (gP (F i).T k).a m (gP (F i).T k).c):=hpv
     have HD:Hid (∀ W,Below wr.heap.size wr W->W.cell? ⟨lb,i*2,none⟩=some (.slice (F' i).ka kl (F' i).kc)/\W.cell? ⟨lb,i*2+1,none⟩=some (.slice (some ⟨tg,tq,none⟩) tl (F i).tc)/\W.cell? ⟨tg,tq+k,none⟩=some (.slice (gP (F i).T k).a m (gP (F i).T k).c)):=λW hW=>⟨(hW.cell (p:=⟨lb,i*2,none⟩) (bu _ _ hck)).trans hck,(hW.cell (p:=⟨lb,i*2+1,none⟩) (bu _ _ hct)).trans hct,(hW.cell (p:=⟨tg,tq+k,none⟩) (bu _ _ hce)).trans hce⟩
     have XJ:lb<wr.heap.size:=bu _ _ hck
     clear h1 h2 h3 h4 h5 hrt e1 e2 e3 hrk hkl hpv hR
     have HKA:Hid (∀ b,blk (F' i).ka b->dx b=4+2*i):=HX.out.1.bk i hlt
     obtain⟨pt,hpt⟩:∃ pt,pt=gP (F i).T k:=⟨_,rfl⟩
     rw[<-hpt] at HA SV HD hce
     have HPT:Hid (pt=gP (F i).T k):=hpt
     clear hpt
     generalize pt.a=ea at *
     generalize pt.c=ec at *
     generalize (F' i).ka=ka at *
     generalize (F' i).kc=kc at *
     generalize (F i).tc=tc at *
     go_wp2
     go_region_held3 (λw'=>w'.cell? ⟨lb,i*2,none⟩=some (.slice ka kl kc)/\w'.cell? ⟨lb,i*2+1,none⟩=some (.slice (some ⟨tg,tq,none⟩) tl tc)/\w'.cell? ⟨tg,tq+k,none⟩=some (.slice ea m ec)) (first|exact HD.out _ hb|assumption|(refine⟨?_,?_,?_⟩<;>assumption)|go_keep) (first|(go_at_call 37;refine(HA.out _ (by first|exact Below.refl _ _|exact(Below.refl _ _).drew)).mono ?_;rintro e w2 ⟨b,rfl,hbb,hb⟩))
     obtain⟨LC,abN,abO⟩:=HD.out w2 hb
     have ahT:=(hb.frozen (p:=⟨lb,i*2,none⟩) XJ).trans hfk
     have HB2:Hid (Below wr.heap.size wr w2):=hb
     cases b with
     |true =>
      have HN:Hid (Eo w w2 ow lb m L F i (k+1)):=by
       obtain⟨h1,h2,h3,h4,h5,_⟩:=HX.out
       exact(Eo.skip h1 h2 h3 h4 h5 (by rw[Ap.out.1];exact hlk) (by rw[<-HPT.out];exact hbb.1 rfl)).below HB2.out
      clear hb hbb HX HA HD hck hct hce LC abN abO HKA SV
      go_wp2
      exact⟨⟨k+1,by omega,by go_num,HN.out⟩,by simp[intOf];omega⟩
     |false =>
      have HBW:Hid (∀ W,Keep (λ_=>False) w2 W->Below wr.heap.size wr W):=λW hk=>HB2.out.trans (hk.below HB2.out.size (λ_ e=>e.elim))
      have ae0:=((aC w2 (.cells #[.slice ea m ec] 60)).cell (p:=⟨lb,i*2,none⟩) (bu _ _ LC)).trans LC
      clear hb hbb HA HD hck hct hce
      go_upto_region 8 with fail
      go_region_law ((refine Oo (by rfl) (.tmp 43) (.tmp 52) (by rfl) (p:=pt) (xb:=w2.heap.size) (a:=ka) (n:=kl) (cap:=kc) (L:=(F' i).K) (by simp[ie]) (by simp[ie]) (HX.out.2.2.2.2.2.1.below (HBW.out _ (((Keep.refl _ w2).alloc _).drew))) HX.out.2.2.2.2.2.2 (heap_alloc_new w2 _) SV.out (by omega) ?_;intro a1 aU w9 hq;have hr9:=HX.out.1.newR (HBW.out _ (((Keep.refl _ w2).alloc _).drew)) hq HKA.out;have hnl:¬dx lb=4+2*i:=(by rw[HX.out.1.own];omega);have hv9:=(hr9.kp.cell (p:=⟨lb,i*2,none⟩) XJ hnl).trans (HX.out.1.c0 i hlt);have SX:=(hr9.kp.frozen (p:=⟨lb,i*2,none⟩) XJ hnl).trans hfk;have HG9:Hid (Eo w (w9.setCell ⟨lb,i*2,none⟩ (.slice a1 (kl+1) aU)) ow lb m L F i (k+1)):=(by
       obtain⟨h1,h2,h3,h4,h5,_⟩:=HX.out
       obtain⟨q1,q2⟩:=h1.kept hlt (HBW.out _ (((Keep.refl _ w2).alloc _).drew)) hq HKA.out (n:=kl+1) (by rw[cm,HX.out.2.2.2.2.2.2];rfl) (λp hp=>(eQ.1 hp).elim (λe=>bh (bh e)) (λe=>bh (a_ (by rw[ew.1 e,HPT.out,h5.t];exact qh (by rw[Ap.out.1];exact hlk)))))
       rw[HPT.out] at q1
       exact Eo.put hlt h2 h3 h4 h5 (by rw[Ap.out.1];exact hlk) q1 q2);clear hq hr9))
      all_goals
       clear LC abN abO ae0
       go_wp2
       exact⟨⟨k+1,by omega,by go_num,HG9.out⟩,by simp[intOf];omega⟩
    .obtain rfl:k=tl:=by omega
     have HN:Hid (LoO w (wr.setCell ⟨lb,i*2+1,none⟩ (.slice none 0 0)) ow lb m L F (i+1)):=hR.out.end hlt (by rw[Ap.out.1];exact al _) (by rw[Ap.out.1];exact al _)
     clear hR
     go_wp2
     exact⟨⟨i+1,by omega,by go_num,HN.out⟩,by simp[intOf];omega⟩
  .obtain rfl:i=L:=by omega
   have HE:Hid (∃ dx F',FS wr dx lb m i F'/\dZ w wr ow dx/\∀ j,j<i->BZ (F j) (F' j)):=by
    obtain⟨dx,F',h1,h2,h3,h4⟩:=hR.out
    exact⟨dx,F',h1,h2,λj hj=>h3 j hj hj⟩
   clear hR
   go_wp2
   go_end0
   exact⟨rfl,HE.out⟩
variable {c' j n':Nat}
structure SS(w1 w:ae)(g:Gm)(n k db:Nat)(V:Nat->List Nat)(of:Bool)(cut:Nat)(ow:Nat->Nat)(lb m c:Nat)(F:Nat->FT):Prop where
 ps:PS w1 w (λb=>ow b≠0) g n k db V of cut
 fs:FS w ow lb m g.L F
 mm:g.Y-21=m
 m1:m<=256
 l1:1<=g.L
 l2:g.L<=256
 one:∀ b,b<w1.heap.size->ow b=1
 bd:∀ j,j<g.L->(F j).K.length+(F j).T.length<=c
def lab(w w2:ae)(ow:Nat->Nat)(b:Nat):Nat:=if w.heap.size<=b/\b<w2.heap.size then 3 else ow b
section
variable {w1 w w' w2:ae} {g:Gm} {n k db:Nat} {V:Nat->List Nat} {of:Bool} {cut:Nat} {ow dx:Nat->Nat} {lb m c:Nat} {F F':Nat->FT}
theorem SS.below(h:SS w1 w g n k db V of cut ow lb m c F)(hb:Below w.heap.size w w'):SS w1 w' g n k db V of cut ow lb m c F :=
 ⟨h.ps.below hb,h.fs.below hb,h.mm,h.m1,h.l1,h.l2,h.one,h.bd⟩
theorem SS.late(h:SS w1 w g n k db V of cut ow lb m c F)(hn:n<=n')(hc:c<=c'):SS w1 w g n' k db V of cut ow lb m c' F :=
 ⟨⟨h.ps.cp.late hn,h.ps.lt,h.ps.lo,h.ps.cK⟩,h.fs,h.mm,h.m1,h.l1,h.l2,h.one,λj hj=>cC (h.bd j hj) hc⟩
theorem SS.disk{k' cut':Nat}{V':Nat->List Nat}{of':Bool}(h:SS w1 w g n k db V of cut ow lb m c F)(hc:CP g (λb=>ow b≠0) n' k' w' db V' of' cut')(hk:Keep (λb=>¬ow b≠0) w w'):SS w1 w' g n' k' db V' of' cut' ow lb m c F :=
 ⟨h.ps.step hc hk,h.fs.keep hk (λb e=>dq.1 e),h.mm,h.m1,h.l1,h.l2,h.one,h.bd⟩
theorem SS.law(h:SS w1 w g n k db V of cut ow lb m c F)(hf:FS w' dx lb m g.L F')(hs:dZ w w' ow dx)(hb:∀ j,j<g.L->(F' j).K.length+(F' j).T.length<=c'):SS w1 w' g n k db V of cut dx lb m c' F':=by
 have ho:∀ b,b<w1.heap.size->dx b=1:=λb e=>hs.one b (h.one b e)
 refine⟨⟨(h.ps.cp.more hs.up).keep hs.kp (λb e=>hs.on b (by omega)),hf.lt,λb e=>by rw[ho b e];decide,h.ps.cK.trans (hs.kp.below h.ps.cK.size (λb e=>cE λhn=>by have:=h.one b (by omega);omega))⟩,hf,h.mm,h.m1,h.l1,h.l2,ho,hb⟩
theorem JZ(h:FS w ow lb m g.L F){b:Nat}(hb:ow b≠0):lab w w2 ow b=ow b:=by
 have:=h.lt b hb
 unfold lab
 rw[if_neg (by omega)]
theorem qJ{b:Nat}(h1:w.heap.size<=b)(h2:b<w2.heap.size):lab w w2 ow b=3:=if_pos ⟨h1,h2⟩
theorem SS.made(h:SS w1 w g n k db V of cut ow lb m c F)(hb:Below w.heap.size w w2):SS w1 w2 g n k db V of cut (lab w w2 ow) lb m c F:=by
 have f:=h.fs.below hb
 have ho:∀ b t,t≠0->ow b=t->lab w w2 ow b=t:=λb t ht e=>by rw[JZ h.fs (by rw[e];exact ht),e]
 refine h.law ⟨ho _ _ (by decide) f.own,λb e=>?_,f.fr,f.c0,f.c1,f.rk,f.rt,λj hj b e=>ho _ _ (by omega) (f.bk j hj b e),λj hj b e=>ho _ _ (by omega) (f.bt j hj b e),λj hj p hp=>?_⟩ ⟨Keep.of_below hb,λb e=>?_,λb e=>by rw[JZ h.fs e];exact e,λb e=>ho b 1 (by decide) e⟩ h.bd
 .unfold lab at e
  split at e
  .rename_i h1;exact h1.2
  .exact f.lt b e
 .obtain⟨q1,q2,q3⟩:=f.el j hj p hp
  exact⟨q1,q2,λb off e=>ho _ _ (by decide) (q3 b off e)⟩
 .unfold lab at e
  split at e
  .rename_i h1;exact a_ h1.1
  .exact bh e
def bW(g:Gm)(V:Nat->List Nat)(F:Nat->FT):Prop:=∀ j,j<g.L->Fits (F j) (V j)
theorem Fits.weak{f:FT}{v:List Nat}(h:Fits f v):∃ p,(p∈f.K\/p∈f.T)/\p.p=v:=by
 rcases h with ⟨_,p,hp,e⟩|⟨n,hn,e⟩
 .exact⟨p,bh hp,e⟩
 .exact⟨_,a_ (qh (by omega)),e⟩
theorem BZ.fits{f f':FT}{v:List Nat}(h:BZ f f')(hw:∃ p,(p∈f.K\/p∈f.T)/\p.p=v):Fits f' v:=by
 obtain⟨p,hp,e⟩:=hw
 obtain⟨q,q1,q2⟩:=h.2.2 p hp
 exact bh ⟨h.1,q,q1,q2.trans e⟩
def G_(e:Ending)(w1 w':ae)(g:Gm)(n k db:Nat)(of:Bool)(lb m c:Nat):Prop:=e=.returned (.bool true)/\∃ k' V' of' cut' dx F',SS w1 w' g (n+1) k' db V' of' cut' dx lb m (c+1) F'/\bW g V' F'/\((of=false/\of'=true/\k'=k+1)\/k'<=k)
theorem jB{k' cut':Nat}{V':Nat->List Nat}{of':Bool}(h:SS w1 w' g n' k' db V' of' cut' dx lb m c' F')(hn:n'<=n+1)(hc:c'<=c+1)(hf:bW g V' F')(hk:(of=false/\of'=true/\k'=k+1)\/k'<=k):G_ (.returned (.bool true)) w1 w' g n k db of lb m c:=⟨rfl,k',V',of',cut',dx,F',h.late hn hc,hf,hk⟩
theorem qK(h:SS w1 w g n k db V of cut ow lb m c F)(hcb:(c+1)*24<=140737488355328)(lc:Nat)(hw:∀ j,j<g.L->∃ p,(p∈(F j).K\/p∈(F j).T)/\p.p=V j):aE (PB aa false) 21 #[.slice (some ⟨lb,0,none⟩) g.L lc] w λe w'=>e=.returned (.tuple #[])/\∃ dx F',SS w1 w' g n k db V of cut dx lb m c F'/\bW g V F':=by
 refine(Ot h.fs h.l2 (by have:=h.m1;omega) h.bd hcb).mono ?_
 rintro e w' ⟨rfl,dx,F',q1,q2,q3⟩
 exact⟨rfl,dx,F',h.law q1 q2 (λj hj=>by obtain⟨a1,a2,_⟩:=q3 j hj;have:=h.bd j hj;rw[a1];simp;omega),λj hj=>(q3 j hj).fits (hw j hj)⟩
theorem jK(h:SS w1 w g n k db V of cut ow lb m c F):aE (PB aa false) 16 #[.pointer (some ⟨db,0,none⟩)] w λe w'=>∃ bad:Nat,e=.returned (.tuple #[.int .i64 (bad:Nat),.bool false,.bool of])/\Below w.heap.size w w':=SY h.ps.cp
theorem S9(h:SS w1 w g n k db V of cut ow lb m c F):aE (PB aa false) 13 #[.pointer (some ⟨db,0,none⟩)] w λe w'=>e=.returned (.int .i64 (m:Nat))/\w'=w:=by
 have:=XK h.ps.cp
 rw[h.mm] at this
 exact this
theorem SS.then_(h:SS w1 w g n k db V of cut ow lb m c F)(hj:j<g.L){W w2:ae}(hb:Below w.heap.size w W){a1:Option cy}{aU tl:Nat}{p:Pg}(htl:(F j).T.length=tl)(hq:vK W w2 (F j).ta a1 aU ((F j).T++[p]))(hp:bM w p.a p.p/\p.p.length=m/\∀ b off,p.a=some ⟨b,off,none⟩->ow b=3):∃ dx F',SS w1 (w2.setCell ⟨lb,j*2+1,none⟩ (.slice a1 (tl+1) aU)) g n k db V of cut dx lb m (c+1) F'/\(∀ i,i≠j->F' i=F i)/\(F' j).K=(F j).K/\(F' j).T=(F j).T++[p]:=by
 obtain⟨q1,q2⟩:=h.fs.then_ hj hb hq (n:=tl+1) (by rw[cm,htl];rfl) hp
 refine⟨_,_,h.law q1 q2 (λi hi=>?_),λi e=>if_neg e,by rw[if_pos rfl],by rw[if_pos rfl]⟩
 by_cases e:i=j
 .subst e
  rw[if_pos rfl]
  have:=h.bd i hi
  simp only[cm,List.length_cons,List.length_nil]
  omega
 .rw[if_neg e]
  have:=h.bd i hi
  omega
theorem SS.slot(h:SS w1 w g n k db V of cut ow lb m c F)(hj:j<g.L):w.cell? ⟨lb,j*2+1,none⟩=some (.slice (F j).ta (F j).T.length (F j).tc)/\w.frozen? ⟨lb,j*2+1,none⟩=false/\RA w (F j).ta (F j).tc (F j).T/\lb<w.heap.size :=
 ⟨h.fs.c1 j hj,h.fs.fr _,h.fs.rt j hj,h.fs.lt lb (by rw[h.fs.own];decide)⟩
theorem SS.free(h:SS w1 w g n k db V of cut ow lb m c F)(hj:j<g.L){W w2:ae}(hb:Below w.heap.size w W){a1:Option cy}{aU:Nat}{L:List Pg}(hq:vK W w2 (F j).ta a1 aU L):w2.cell? ⟨lb,j*2+1,none⟩=some (.slice (F j).ta (F j).T.length (F j).tc)/\w2.frozen? ⟨lb,j*2+1,none⟩=false:=by
 have hr:=h.fs.newR hb hq (h.fs.bt j hj)
 have hl:lb<w.heap.size:=h.fs.lt lb (by rw[h.fs.own];decide)
 have hnl:¬ow lb=5+2*j:=by rw[h.fs.own];omega
 exact⟨(hr.kp.cell (p:=⟨lb,j*2+1,none⟩) hl hnl).trans (h.fs.c1 j hj),(hr.kp.frozen (p:=⟨lb,j*2+1,none⟩) hl hnl).trans (h.fs.fr _)⟩
end
