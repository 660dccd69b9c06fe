/- Part of the proof. -/
import Derived.Test.YtjlgehmebfkioaaGreatDoorZ28
open Go.Proofs.Tryz renaming prog->aa
open Array renaming getElem?_setIfInBounds_ne->az,getElem?_setIfInBounds_self_of_lt->cL,getElem?_push->cX
open Go renaming World->ae,Value->ai
open Go.World renaming cell?->ck,setChan->fL
open Nat renaming mul_comm->fR,le_refl->al,lt_of_lt_of_le->cI
namespace Go.Proofs.YtjlgehmebfkioaaGreatDoor
open Go Go.Conc
variable {o:Nat}
section
variable {w:ae} {b:Nat} {cells:Array ai} {e:TypeId}
theorem set1(h:w.heap[b]?=some (.cells cells e))(ho:o<cells.size)(v:ai) :
 (w.cell? ⟨b,o,none⟩).isSome=true/\w.frozen? ⟨b,o,none⟩=false/\(w.setCell ⟨b,o,none⟩ v).heap[b]?=some (.cells (cells.setIfInBounds o v) e):=by
 have hs:=heap_setCell (w:=w) (a:=⟨b,o,none⟩) (v:=v) h rfl b
 rw[if_pos rfl] at hs
 exact⟨by simp[ck,h,ho],by simp[World.frozen?,h],hs⟩
def mZ(w:ae)(b o:Nat)(v0 v1 v2 v3 v4:ai):ae:=((((w.setCell ⟨b,o,none⟩ v0).setCell ⟨b,o+1,none⟩ v1).setCell ⟨b,o+2,none⟩ v2).setCell ⟨b,o+3,none⟩ v3).setCell ⟨b,o+4,none⟩ v4
def BF(cells:Array ai)(o:Nat)(v0 v1 v2 v3 v4:ai):Array ai:=((((cells.setIfInBounds o v0).setIfInBounds (o+1) v1).setIfInBounds (o+2) v2).setIfInBounds (o+3) v3).setIfInBounds (o+4) v4
theorem NH(o:Nat)(v0 v1 v2 v3 v4:ai):(BF cells o v0 v1 v2 v3 v4).size=cells.size:=by simp[BF]
theorem RN(o k:Nat)(v0 v1 v2 v3 v4:ai)(ho:o+5<=cells.size):(BF cells o v0 v1 v2 v3 v4)[k]?=if k=o then some v0 else if k=o+1 then some v1 else if k=o+2 then some v2 else if k=o+3 then some v3 else if k=o+4 then some v4 else cells[k]?:=by
 unfold BF
 simp only[Array.getElem?_setIfInBounds,Array.size_setIfInBounds]
 repeat' split
 all_goals first|rfl|omega
theorem Lg(h:w.heap[b]?=some (.cells cells e))(ho:o+5<=cells.size)(v0 v1 v2 v3 v4:ai) :
 fq [{ k:=1,ad:=⟨b,o,none⟩,v:=v0 },{ k:=1,ad:=⟨b,o+1,none⟩,v:=v1 },{ k:=1,ad:=⟨b,o+2,none⟩,v:=v2 },{ k:=1,ad:=⟨b,o+3,none⟩,v:=v3 },{ k:=1,ad:=⟨b,o+4,none⟩,v:=v4 }] w (mZ w b o v0 v1 v2 v3 v4) /\
 (mZ w b o v0 v1 v2 v3 v4).heap[b]?=some (.cells (BF cells o v0 v1 v2 v3 v4) e)/\(∀ b',b'≠b->(mZ w b o v0 v1 v2 v3 v4).heap[b']?=w.heap[b']?)/\(mZ w b o v0 v1 v2 v3 v4).heap.size=w.heap.size:=by
 have a0:=set1 h (o:=o) (by omega) v0
 have a1:=set1 a0.2.2 (o:=o+1) (by simp;omega) v1
 have a2:=set1 a1.2.2 (o:=o+2) (by simp;omega) v2
 have a3:=set1 a2.2.2 (o:=o+3) (by simp;omega) v3
 have a4:=set1 a3.2.2 (o:=o+4) (by simp;omega) v4
 refine⟨show fq _ _ _ from⟨a0.1,a0.2.1,a1.1,a1.2.1,a2.1,a2.2.1,a3.1,a3.2.1,a4.1,a4.2.1,rfl⟩,a4.2.2,λb' hb=>?_,by simp only[mZ,cu]⟩
 unfold mZ
 rw[aZ _ _ _ hb,aZ _ _ _ hb,aZ _ _ _ hb,aZ _ _ _ hb,aZ _ _ _ hb]
theorem BG(w:ae)(b o:Nat)(v0 v1 v2 v3 v4:ai):(mZ w b o v0 v1 v2 v3 v4).tape=w.tape/\(mZ w b o v0 v1 v2 v3 v4).os=w.os/\(mZ w b o v0 v1 v2 v3 v4).output=w.output:=by
 unfold mZ
 refine⟨?_,?_,?_⟩
 .rw[(aside_setCell _ _ _).tape,(aside_setCell _ _ _).tape,(aside_setCell _ _ _).tape,(aside_setCell _ _ _).tape,(aside_setCell _ _ _).tape]
 .rw[(aside_setCell _ _ _).os,(aside_setCell _ _ _).os,(aside_setCell _ _ _).os,(aside_setCell _ _ _).os,(aside_setCell _ _ _).os]
 .rw[(aside_setCell _ _ _).output,(aside_setCell _ _ _).output,(aside_setCell _ _ _).output,(aside_setCell _ _ _).output,(aside_setCell _ _ _).output]
end
theorem jo{S:Nat->Prop}{B b:Nat}{wr:Bool}(hS:¬S b)(hb:b<B):EvL (eP S) B ⟨.cell ⟨b,o,none⟩,wr,false⟩/\∀ a,MemAct.ofEvent ⟨.cell ⟨b,o,none⟩,wr,false⟩≠.mark (.release a):=by
 have h:EvC (λ_=>False) (λx=>x=b) ⟨.cell ⟨b,o,none⟩,wr,false⟩:=.inl ⟨b,rfl,rfl,.inl rfl⟩
 exact⟨Le h (λ_ e=>e▸⟨hb,hS⟩) λ_ e=>e.elim,λa=>Dy h a⟩
theorem JA{P:Program}{t:TypeId}{inf:TypeInfo}(h:P.underlying t=some (.slice (P.elem t)))(hi:P.info? (P.elem t)=some inf)(h5:inf.size=5)(br i n:Nat)(hin:i<n)(w:ae) :
 (Instr.indexAt t (.slice (some ⟨br,0,none⟩) n n) (.int .i64 (i:Nat))).runT P w #[]=(.ok (.pointer (some ⟨br,5*i,none⟩)) w,#[]):=by
 have hlt:(0:Int)<=(i:Int)/\(i:Int)<(n:Int):=⟨by omega,by omega⟩
 rw[Sem.runT_eq,run_indexAt_slice w t _ n n .i64 _ h,events_indexAt_slice t _ n n .i64 _ h hlt,if_pos hlt]
 simp[sizeOf,typeInfo,hi,h5,Addr.add,fR]
 exact λh=>h.symm
structure LI(y:Lk)(br:Nat)(dn rest:List Nat)(w1 w:ae):Prop where
 ch:∃ a r tm,w.heap[y.bc]?=some (.chan y.len (rest.map y.sight).toArray true a r tm)
 row:∃ cells,w.heap[br]?=some (.cells cells 151)/\cells.size=5*y.len/\∀ i∈dn,cells[5*i]?=some (.int .i64 (y.st i:Nat))/\cells[5*i+1]?=some (.int .i64 (y.lb i:Nat))/\cells[5*i+2]?=some (.int .i64 (i:Nat))/\cells[5*i+3]?=some (.int .i64 (y.sq i:Nat))/\cells[5*i+4]?=some (.int .i64 (y.kd i:Nat))
 keep:∀ b,b<br->b≠y.bc->w.heap[b]?=w1.heap[b]?
 size:br<w.heap.size
 rest:w.tape=w1.tape/\w.os=w1.os/\w.output=w1.output
section
variable {y:Lk} {S:Nat->Prop} {B0 br:Nat} {dn rest:List Nat} {w1 w:ae}
theorem NI{i:Nat}(hi:i<y.len)(hbc:y.bc<br)(hS:∀ b,br<=b->¬S b)(t:Nat->ai)(h:LI y br dn (i::rest) w1 w) :
 ∃ t' w',Bs aa S B0 (kZ aa y (sV y br t)) w (kZ aa y (sV y br t')) w'/\LI y br (i::dn) rest w1 w':=by
 obtain⟨⟨a,r,tm,hch⟩,⟨cells,hrow,hcs,hdn⟩,keep,hsz,hrest⟩:=h
 obtain⟨w2,hw2⟩:∃ w2,w2=w.setChan y.bc y.len (rest.map y.sight).toArray true a (r+1) tm:=⟨_,rfl⟩
 have b1:Bs aa S B0 (kZ aa y (sV y br t)) w _ w2:=hw2▸VW (Lf y br t) hch
 have k2:∀ b,b≠y.bc->w2.heap[b]?=w.heap[b]?:=λb hb=>by rw[hw2];simp[fL,az (Ne.symm hb)]
 have s2:w2.heap.size=w.heap.size:=by rw[hw2];simp[fL]
 have c2:w2.heap[y.bc]?=some (.chan y.len (rest.map y.sight).toArray true a (r+1) tm):=by
  rw[hw2];simp only[fL]
  rw[cL (Array.getElem?_eq_some_iff.1 hch).1]
 obtain⟨bx,hbx⟩:∃ bx,bx=w2.heap.size:=⟨_,rfl⟩
 obtain⟨w3,hw3⟩:∃ w3:ae,w3={ w2 with heap:=w2.heap.push (.cells #[.int .i64 0,.int .i64 0,.int .i64 0,.int .i64 0,.int .i64 0] 151) }:=⟨_,rfl⟩
 have b3:Bs aa S B0 (rA aa y br t i) w2 (rB aa y br t i bx) w3:=bR (ZP y br t i bx) (show fq _ _ _ from⟨hbx.symm,hw3⟩) (λe he=>by simp at he) (by rw[hw3];simp)
 have k3:∀ b,b<bx->w3.heap[b]?=w2.heap[b]?:=λb hb=>by
  rw[hw3];simp only[cX];rw[if_neg (by omega)]
 have s3:w3.heap.size=bx+1:=by rw[hw3,hbx];simp
 have x3:w3.heap[bx]?=some (.cells #[.int .i64 0,.int .i64 0,.int .i64 0,.int .i64 0,.int .i64 0] 151):=by rw[hw3,hbx];simp
 obtain⟨o4,x4,k4,s4⟩:=Lg x3 (o:=0) (by simp) (.int .i64 (y.st i:Nat)) (.int .i64 (y.lb i:Nat)) (.int .i64 (i:Nat)) (.int .i64 (y.sq i:Nat)) (.int .i64 (y.kd i:Nat))
 obtain⟨w4,hw4⟩:∃ w4,w4=mZ w3 bx 0 (.int .i64 (y.st i:Nat)) (.int .i64 (y.lb i:Nat)) (.int .i64 (i:Nat)) (.int .i64 (y.sq i:Nat)) (.int .i64 (y.kd i:Nat)):=⟨_,rfl⟩
 rw[<-hw4] at o4 x4 k4 s4
 have agj:br<bx:=by omega
 have hSx:¬S bx:=hS bx (by omega)
 have hSr:¬S br:=hS br (al _)
 have ex:∀ o wr,EvL (eP S) w4.heap.size ⟨.cell ⟨bx,o,none⟩,wr,false⟩/\∀ a,MemAct.ofEvent ⟨.cell ⟨bx,o,none⟩,wr,false⟩≠.mark (.release a):=λo wr=>jo hSx (by omega)
 have b4:Bs aa S B0 (rB aa y br t i bx) w3 _ w4:=bR (ZQ y br t i bx) o4 (λe he=>by
  have:e=⟨.cell ⟨bx,0,none⟩,true,false⟩\/e=⟨.cell ⟨bx,1,none⟩,true,false⟩\/e=⟨.cell ⟨bx,2,none⟩,true,false⟩\/e=⟨.cell ⟨bx,3,none⟩,true,false⟩\/e=⟨.cell ⟨bx,4,none⟩,true,false⟩:=by simpa using he
  rcases this with rfl|rfl|rfl|rfl|rfl<;>exact ex _ _) (by omega)
 have hc4:∀ o,w4.cell? ⟨bx,o,none⟩=(BF #[.int .i64 0,.int .i64 0,.int .i64 0,.int .i64 0,.int .i64 0] 0 (.int .i64 (y.st i:Nat)) (.int .i64 (y.lb i:Nat)) (.int .i64 (i:Nat)) (.int .i64 (y.sq i:Nat)) (.int .i64 (y.kd i:Nat)))[o]?:=λo=>by simp[ck,x4]
 have b5:Bs aa S B0 (rC aa y br t i bx) w4 (rD aa y br t i bx) w4:=bR (ZT y br t i bx) (show fq _ _ _ from⟨(hc4 2).trans rfl,rfl⟩) (λe he=>by
  have:e=⟨.cell ⟨bx,2,none⟩,false,false⟩:=by simpa using he
  exact this▸ex _ _) (al _)
 have b6:Bs aa S B0 (rD aa y br t i bx) w4 (rE aa y br t i bx) w4:=bR (ZU y br t i bx) (show fq _ _ _ from⟨(hc4 0).trans rfl,(hc4 1).trans rfl,(hc4 2).trans rfl,(hc4 3).trans rfl,(hc4 4).trans rfl,rfl⟩) (λe he=>by
  have:e=⟨.cell ⟨bx,0,none⟩,false,false⟩\/e=⟨.cell ⟨bx,1,none⟩,false,false⟩\/e=⟨.cell ⟨bx,2,none⟩,false,false⟩\/e=⟨.cell ⟨bx,3,none⟩,false,false⟩\/e=⟨.cell ⟨bx,4,none⟩,false,false⟩:=by simpa using he
  rcases this with rfl|rfl|rfl|rfl|rfl<;>exact ex _ _) (al _)
 have b7:Bs aa S B0 (rE aa y br t i bx) w4 (rF aa y br t i bx) w4:=zM (adZ y br t i bx) (es:=#[]) (λd=>⟨d,by
  rw[jR,Sem.runT_bind',JA (inf:=((aa).info? (aa.elem 147)).getD default) (by kernel_rfl) (by kernel_rfl) (by kernel_rfl) br i y.len hi (w4.at d)]
  rfl⟩) rfl (λe he=>by simp at he) (al _)
 have r4:w4.heap[br]?=some (.cells cells 151):=by rw[k4 br (by omega),k3 br agj,k2 br (by omega),hrow]
 obtain⟨o8,x8,k8,s8⟩:=Lg r4 (o:=5*i) (by omega) (.int .i64 (y.st i:Nat)) (.int .i64 (y.lb i:Nat)) (.int .i64 (i:Nat)) (.int .i64 (y.sq i:Nat)) (.int .i64 (y.kd i:Nat))
 obtain⟨w8,hw8⟩:∃ w8,w8=mZ w4 br (5*i) (.int .i64 (y.st i:Nat)) (.int .i64 (y.lb i:Nat)) (.int .i64 (i:Nat)) (.int .i64 (y.sq i:Nat)) (.int .i64 (y.kd i:Nat)):=⟨_,rfl⟩
 rw[<-hw8] at o8 x8 k8 s8
 have er:∀ o wr,EvL (eP S) w8.heap.size ⟨.cell ⟨br,o,none⟩,wr,false⟩/\∀ a,MemAct.ofEvent ⟨.cell ⟨br,o,none⟩,wr,false⟩≠.mark (.release a):=λo wr=>jo hSr (by omega)
 have b8:Bs aa S B0 (rF aa y br t i bx) w4 _ w8:=bR (ZV y br t i bx) o8 (λe he=>by
  have:e=⟨.cell ⟨br,5*i,none⟩,true,false⟩\/e=⟨.cell ⟨br,5*i+1,none⟩,true,false⟩\/e=⟨.cell ⟨br,5*i+2,none⟩,true,false⟩\/e=⟨.cell ⟨br,5*i+3,none⟩,true,false⟩\/e=⟨.cell ⟨br,5*i+4,none⟩,true,false⟩:=by simpa using he
  rcases this with rfl|rfl|rfl|rfl|rfl<;>exact er _ _) (by omega)
 obtain⟨t',ht'⟩:=(ad1 y br t i bx).form
 have hG:=V_ y br t i bx
 rw[ht'] at hG
 have bA:=bE (w:=w2) (S:=S) (B0:=B0) 9 (ZO y br t i)
 have bC:=bE (w:=w4) (S:=S) (B0:=B0) 5 (ZR y br t i bx)
 have bG:=bE (w:=w8) (S:=S) (B0:=B0) 5 (ZW y br t i bx)
 refine⟨t',w8,hG▸(b1.trans (bA.trans (b3.trans (b4.trans (bC.trans (b5.trans (b6.trans (b7.trans (b8.trans bG))))))))),?_⟩
 have m4:=BG w3 bx 0 (.int .i64 (y.st i:Nat)) (.int .i64 (y.lb i:Nat)) (.int .i64 (i:Nat)) (.int .i64 (y.sq i:Nat)) (.int .i64 (y.kd i:Nat))
 have m8:=BG w4 br (5*i) (.int .i64 (y.st i:Nat)) (.int .i64 (y.lb i:Nat)) (.int .i64 (i:Nat)) (.int .i64 (y.sq i:Nat)) (.int .i64 (y.kd i:Nat))
 rw[<-hw4] at m4
 rw[<-hw8] at m8
 have q2:w2.tape=w.tape/\w2.os=w.os/\w2.output=w.output:=by rw[hw2];exact⟨rfl,rfl,rfl⟩
 have q3:w3.tape=w2.tape/\w3.os=w2.os/\w3.output=w2.output:=by rw[hw3];exact⟨rfl,rfl,rfl⟩
 have kk:∀ b,b<bx->b≠br->b≠y.bc->w8.heap[b]?=w.heap[b]?:=λb h1 h2 h3=>by rw[k8 b h2,k4 b (by omega),k3 b h1,k2 b h3]
 refine⟨⟨a,r+1,tm,?_⟩,⟨_,x8,by rw[NH];exact hcs,λj hj=>?_⟩,λb h1 h2=>?_,by omega,?_⟩
 .rw[k8 _ (by omega),k4 _ (by omega),k3 _ (by omega)]
  exact c2
 .have g:=λk=>RN (cells:=cells) (5*i) k (.int .i64 (y.st i:Nat)) (.int .i64 (y.lb i:Nat)) (.int .i64 (i:Nat)) (.int .i64 (y.sq i:Nat)) (.int .i64 (y.kd i:Nat)) (by omega)
  by_cases hij:j=i
  .subst hij
   refine⟨?_,?_,?_,?_,?_⟩
   .rw[g,if_pos rfl]
   .rw[g,if_neg (by omega),if_pos rfl]
   .rw[g,if_neg (by omega),if_neg (by omega),if_pos rfl]
   .rw[g,if_neg (by omega),if_neg (by omega),if_neg (by omega),if_pos rfl]
   .rw[g,if_neg (by omega),if_neg (by omega),if_neg (by omega),if_neg (by omega),if_pos rfl]
  .have hd:=hdn j ((List.mem_cons.1 hj).resolve_left hij)
   refine⟨?_,?_,?_,?_,?_⟩
   .rw[g,if_neg (by omega),if_neg (by omega),if_neg (by omega),if_neg (by omega),if_neg (by omega)];exact hd.1
   .rw[g,if_neg (by omega),if_neg (by omega),if_neg (by omega),if_neg (by omega),if_neg (by omega)];exact hd.2.1
   .rw[g,if_neg (by omega),if_neg (by omega),if_neg (by omega),if_neg (by omega),if_neg (by omega)];exact hd.2.2.1
   .rw[g,if_neg (by omega),if_neg (by omega),if_neg (by omega),if_neg (by omega),if_neg (by omega)];exact hd.2.2.2.1
   .rw[g,if_neg (by omega),if_neg (by omega),if_neg (by omega),if_neg (by omega),if_neg (by omega)];exact hd.2.2.2.2
 .rw[kk b (by omega) (by omega) h2]
  exact keep b h1 h2
 .exact⟨m8.1.trans (m4.1.trans (q3.1.trans (q2.1.trans hrest.1))),m8.2.1.trans (m4.2.1.trans (q3.2.1.trans (q2.2.1.trans hrest.2.1))),m8.2.2.trans (m4.2.2.trans (q3.2.2.trans (q2.2.2.trans hrest.2.2)))⟩
theorem zN(hbc:y.bc<br)(hS:∀ b,br<=b->¬S b):∀ (rest dn:List Nat) (w:ae) (t:Nat->ai),(∀ i∈rest,i<y.len)->LI y br dn rest w1 w ->
 ∃ t' w',Bs aa S B0 (kZ aa y (sV y br t)) w (rZ aa y br t') w'/\LI y br (rest.reverse++dn) [] w1 w'
 | [],dn,w,t,_,h=>by
   obtain⟨a,r,tm,hch⟩:=h.ch
   have b1:Bs aa S B0 (kZ aa y (sV y br t)) w _ w:=GL (Lf y br t) hch
   exact⟨t,w,b1.trans (bE 12 (ZX y br t)),h⟩
 |i::rest,dn,w,t,hr,h=>by
  obtain⟨t1,w',b1,h1⟩:=NI (B0:=B0) (hr i List.mem_cons_self) hbc hS t h
  obtain⟨t2,w'',b2,h2⟩:=zN hbc hS rest (i::dn) w' t1 (λj hj=>hr j (List.mem_cons_of_mem _ hj)) h1
  exact⟨t2,w'',b1.trans b2,by simpa using h2⟩
theorem RO{n:Nat}(ok:y.Ok aa){bl:List Nat}{a r:Nat}{tm:Bool}(hp:bl.Perm (List.range y.len))(hch:w.heap[y.bc]?=some (.chan y.len (bl.map y.sight).toArray false a r tm))(hw:Kw y w)(hbc:y.bc<w.heap.size)(hF:∀ b,y.Fz b->¬S b)(hS:∀ b,S b->b<w.heap.size)(t:Nat->ai) :
 ∃ t' w',Bs aa S B0 (K_ aa 74 9 (sT y n t) y.cs) w (rZ aa y w.heap.size t') w'/\LI y w.heap.size (bl.reverse) [] w w':=by
 have hb8:=(hw.fz _ ok.f8).trans ok.b8
 have hb2:=(hw.fz _ ok.f2).trans ok.b2
 have hn8:y.b8≠y.bc:=(ok.fl _ ok.f8).2.2.2
 have hn2:y.b2≠y.bc:=(ok.fl _ ok.f2).2.2.2
 have l8:y.b8<w.heap.size:=cI (ok.fl _ ok.f8).1 hw.size
 have l2:y.b2<w.heap.size:=cI (ok.fl _ ok.f2).1 hw.size
 obtain⟨w1,hw1⟩:∃ w1:ae,w1={ w with heap:=w.heap.setIfInBounds y.bc (.chan y.len (bl.map y.sight).toArray true a r tm) }:=⟨_,rfl⟩
 have k1:∀ b,b≠y.bc->w1.heap[b]?=w.heap[b]?:=λb hb=>by rw[hw1];simp[az (Ne.symm hb)]
 have s1:w1.heap.size=w.heap.size:=by rw[hw1];simp
 have c1:w1.heap[y.bc]?=some (.chan y.len (bl.map y.sight).toArray true a r tm):=by
  rw[hw1];exact cL hbc
 have ev:∀ {B b o:Nat},y.Fz b->b<B->∀ e∈(#[⟨.cell ⟨b,o,none⟩,false,false⟩]:Array Event),EvL (eP S) B e/\∀ a,MemAct.ofEvent e≠.mark (.release a):=λhf hb e he=>by
  have:e=_:=Array.mem_singleton.1 he
  exact this▸jo (hF _ hf) hb
 have b0:Bs aa S B0 (lT0 aa y n t) w (lT1 aa y n t) w:=bR (V3 y n t) (show fq _ _ _ from⟨by simp[ck,hb8],rfl⟩) (ev ok.f8 l8) (al _)
 have b1:Bs aa S B0 (lT1 aa y n t) w _ w1:=hw1▸RH (ZL y n t) hch
 have b2:Bs aa S B0 (lT2 aa y n t) w1 _ w1:=bR (V5 y n t) (show fq _ _ _ from⟨by simp[ck,k1 _ hn2,hb2],rfl⟩) (ev ok.f2 (by omega)) (al _)
 obtain⟨w2,hw2⟩:∃ w2:ae,w2={ w1 with heap:=w1.heap.push (.cells (madeCells (lF).cells (y.len*5)) 151) }:=⟨_,rfl⟩
 have h5:((aa.info? 151).getD default).size=5:=by kernel_rfl
 have b3:Bs aa S B0 (lT3 aa y n t) w1 (go1 aa (lT3 aa y n t) (.value (.slice (some ⟨w1.heap.size,0,none⟩) y.len y.len))) w2:=by
  have:=VU (S:=S) (B0:=B0) (w:=w1) (e:=151) (i:=(aa.info? 151).getD default) (z:=lF) (ZM y n t) (by kernel_rfl) (by kernel_rfl) (by kernel_rfl) ok.most (Nat.le_of_ble_eq_true (by kernel_rfl))
  rw[h5,<-hw2] at this
  exact this
 rw[s1] at b3
 have k2:∀ b,b<w.heap.size->w2.heap[b]?=w1.heap[b]?:=λb hb=>by
  rw[hw2];simp only[cX];rw[if_neg (by omega)]
 have s2:w2.heap.size=w.heap.size+1:=by rw[hw2];simp[s1]
 have x2:w2.heap[w.heap.size]?=some (.cells (madeCells (lF).cells (y.len*5)) 151):=by rw[hw2,<-s1];simp
 have b4:Bs aa S B0 (lT4 aa y n t w.heap.size) w2 _ w2:=bR (V8 y n t _) (show fq _ _ _ from⟨by simp[ck,k2 _ l8,k1 _ hn8,hb8],rfl⟩) (ev ok.f8 (by omega)) (al _)
 obtain⟨t1,ht1⟩:=(ZN y n t w.heap.size).form
 have hH:=RL y n t w.heap.size
 rw[ht1] at hH
 have p0:=bE (w:=w) (S:=S) (B0:=B0) 2 (VY y n t)
 have p2:=bE (w:=w1) (S:=S) (B0:=B0) 3 (V4 y n t)
 have p3:=bE (w:=w1) (S:=S) (B0:=B0) 1 (V6 y n t)
 have p4:=bE (w:=w2) (S:=S) (B0:=B0) 5 (V7 y n t w.heap.size)
 have p5:=bE (w:=w2) (S:=S) (B0:=B0) 5 (V9 y n t w.heap.size)
 have hli:LI y w.heap.size [] bl w w2:=⟨⟨a,r,tm,by rw[k2 _ hbc];exact c1⟩,⟨_,x2,by rw[size_madeCells,fR],λi hi=>by simp at hi⟩,λb h1 h2=>by rw[k2 b h1,k1 b h2],by omega,by rw[hw2,hw1];exact⟨rfl,rfl,rfl⟩⟩
 obtain⟨t2,w',b6,hl⟩:=zN (S:=S) (B0:=B0) hbc (λb hb hs=>by have:=hS b hs;omega) bl [] w2 t1 (λi hi=>List.mem_range.1 (hp.mem_iff.1 hi)) hli
 rw[List.append_nil] at hl
 refine⟨t2,w',?_,hl⟩
 have b5:Bs aa S B0 (go1 aa (lT4 aa y n t w.heap.size) (.value (.chan (some y.bc)))) w2 (kZ aa y (sV y w.heap.size t1)) w2:=hH▸p5
 exact p0.trans (b0.trans (b1.trans (p2.trans (b2.trans (p3.trans (b3.trans (p4.trans (b4.trans (b5.trans b6)))))))))
end
