/- Part of the proof. -/
import Derived.Test.YthbndfpeffcigaaGreatDoorZ33
open Go.Proofs.Tryz (prog)
namespace Go.Proofs.YthbndfpeffcigaaGreatDoor
open Go Go.Conc
variable {o:Nat}
section
variable {w:World} {b:Nat} {cells:Array Value} {e:TypeId}
theorem set1(h:w.heap[b]?=some (.cells cells e))(ho:o<cells.size)(v:Value) :
 (w.cell? ⟨b,o,none⟩).isSome=true/\w.frozen? ⟨b,o,none⟩=false/\(w.setCell ⟨b,o,none⟩ v).heap[b]?=some (.cells (cells.setIfInBounds o v) e):=by
 have hs:=heap_setCell (w:=w) (a:=⟨b,o,none⟩) (v:=v) h rfl b
 rw[if_pos rfl] at hs
 exact⟨by simp[World.cell?,h,ho],by simp[World.frozen?,h],hs⟩
def mP(w:World)(b o:Nat)(v0 v1 v2 v3 v4:Value):World:=((((w.setCell ⟨b,o,none⟩ v0).setCell ⟨b,o+1,none⟩ v1).setCell ⟨b,o+2,none⟩ v2).setCell ⟨b,o+3,none⟩ v3).setCell ⟨b,o+4,none⟩ v4
def Af(cells:Array Value)(o:Nat)(v0 v1 v2 v3 v4:Value):Array Value:=((((cells.setIfInBounds o v0).setIfInBounds (o+1) v1).setIfInBounds (o+2) v2).setIfInBounds (o+3) v3).setIfInBounds (o+4) v4
theorem Md(o:Nat)(v0 v1 v2 v3 v4:Value):(Af cells o v0 v1 v2 v3 v4).size=cells.size:=by simp[Af]
theorem QV(o k:Nat)(v0 v1 v2 v3 v4:Value)(ho:o+5<=cells.size):(Af cells o v0 v1 v2 v3 v4)[k]?=if k=o then some v0 else if k=o+1 then some v1 else if k=o+2 then some v2 else if k=o+3 then some v3 else if k=o+4 then some v4 else cells[k]?:=by
 unfold Af
 simp only[Array.getElem?_setIfInBounds,Array.size_setIfInBounds]
 repeat' split
 all_goals first|rfl|omega
theorem J4(h:w.heap[b]?=some (.cells cells e))(ho:o+5<=cells.size)(v0 v1 v2 v3 v4:Value) :
 eG [{ k:=1,ad:=⟨b,o,none⟩,v:=v0 },{ k:=1,ad:=⟨b,o+1,none⟩,v:=v1 },{ k:=1,ad:=⟨b,o+2,none⟩,v:=v2 },{ k:=1,ad:=⟨b,o+3,none⟩,v:=v3 },{ k:=1,ad:=⟨b,o+4,none⟩,v:=v4 }] w (mP w b o v0 v1 v2 v3 v4) /\
 (mP w b o v0 v1 v2 v3 v4).heap[b]?=some (.cells (Af cells o v0 v1 v2 v3 v4) e)/\(∀ b',b'≠b->(mP w b o v0 v1 v2 v3 v4).heap[b']?=w.heap[b']?)/\(mP w b o v0 v1 v2 v3 v4).heap.size=w.heap.size:=by
 have a0:=set1 h (o:=o) (by omega) v0
 have a1:=set1 a0.2.2 (o:=o+1) (by simp;omega) v1
 have a2:=set1 a1.2.2 (o:=o+2) (by simp;omega) v2
 have a3:=set1 a2.2.2 (o:=o+3) (by simp;omega) v3
 have a4:=set1 a3.2.2 (o:=o+4) (by simp;omega) v4
 refine⟨show eG _ _ _ from⟨a0.1,a0.2.1,a1.1,a1.2.1,a2.1,a2.2.1,a3.1,a3.2.1,a4.1,a4.2.1,rfl⟩,a4.2.2,λb' hb=>?_,by simp only[mP,bX]⟩
 unfold mP
 rw[aX _ _ _ hb,aX _ _ _ hb,aX _ _ _ hb,aX _ _ _ hb,aX _ _ _ hb]
theorem Ag(w:World)(b o:Nat)(v0 v1 v2 v3 v4:Value):(mP w b o v0 v1 v2 v3 v4).tape=w.tape/\(mP w b o v0 v1 v2 v3 v4).os=w.os/\(mP w b o v0 v1 v2 v3 v4).output=w.output:=by
 unfold mP
 refine⟨?_,?_,?_⟩
 .rw[(aside_setCell _ _ _).tape,(aside_setCell _ _ _).tape,(aside_setCell _ _ _).tape,(aside_setCell _ _ _).tape,(aside_setCell _ _ _).tape]
 .rw[(aside_setCell _ _ _).os,(aside_setCell _ _ _).os,(aside_setCell _ _ _).os,(aside_setCell _ _ _).os,(aside_setCell _ _ _).os]
 .rw[(aside_setCell _ _ _).output,(aside_setCell _ _ _).output,(aside_setCell _ _ _).output,(aside_setCell _ _ _).output,(aside_setCell _ _ _).output]
end
theorem iV{S:Nat->Prop}{B b:Nat}{wr:Bool}(hS:¬S b)(hb:b<B):EvL (dX S) B ⟨.cell ⟨b,o,none⟩,wr,false⟩/\∀ a,MemAct.ofEvent ⟨.cell ⟨b,o,none⟩,wr,false⟩≠.mark (.release a):=by
 have h:EvC (λ_=>False) (λx=>x=b) ⟨.cell ⟨b,o,none⟩,wr,false⟩:=.inl ⟨b,rfl,rfl,.inl rfl⟩
 exact⟨J2 h (λ_ e=>e▸⟨hb,hS⟩) λ_ e=>e.elim,λa=>BZ h a⟩
theorem H9{P:Program}{t:TypeId}{inf:TypeInfo}(h:P.underlying t=some (.slice (P.elem t)))(hi:P.info? (P.elem t)=some inf)(h5:inf.size=5)(br i n:Nat)(hin:i<n)(w:World) :
 (Instr.indexAt t (.slice (some ⟨br,0,none⟩) n n) (.int .i64 (i:Nat))).runT P w #[]=(.ok (.pointer (some ⟨br,5*i,none⟩)) w,#[]):=by
 have hlt:(0:Int)<=(i:Int)/\(i:Int)<(n:Int):=⟨by omega,by omega⟩
 rw[Sem.runT_eq,run_indexAt_slice w t _ n n .i64 _ h,events_indexAt_slice t _ n n .i64 _ h hlt,if_pos hlt]
 simp[sizeOf,typeInfo,hi,h5,Addr.add,Nat.mul_comm]
 exact λh=>h.symm
structure LI(y:Lk)(br:Nat)(dn rest:List Nat)(w1 w:World):Prop where
 ch:∃ a r tm,w.heap[y.bc]?=some (.chan y.len (rest.map y.sight).toArray true a r tm)
 row:∃ cells,w.heap[br]?=some (.cells cells 226)/\cells.size=5*y.len/\∀ i∈dn,cells[5*i]?=some (.int .i64 (y.st i:Nat))/\cells[5*i+1]?=some (.int .i64 (y.lb i:Nat))/\cells[5*i+2]?=some (.int .i64 (i:Nat))/\cells[5*i+3]?=some (.int .i64 (y.sq i:Nat))/\cells[5*i+4]?=some (.int .i64 (y.kd i:Nat))
 keep:∀ b,b<br->b≠y.bc->w.heap[b]?=w1.heap[b]?
 size:br<w.heap.size
 rest:w.tape=w1.tape/\w.os=w1.os/\w.output=w1.output
section
variable {y:Lk} {S:Nat->Prop} {B0 br:Nat} {dn rest:List Nat} {w1 w:World}
theorem Me{i:Nat}(hi:i<y.len)(hbc:y.bc<br)(hS:∀ b,br<=b->¬S b)(t:Nat->Value)(h:LI y br dn (i::rest) w1 w) :
 ∃ t' w',Bs prog S B0 (kN prog y (sV y br t)) w (kN prog y (sV y br t')) w'/\LI y br (i::dn) rest w1 w':=by
 obtain⟨⟨a,r,tm,hch⟩,⟨cells,hrow,hcs,hdn⟩,keep,hsz,hrest⟩:=h
 obtain⟨w2,hw2⟩:∃ w2,w2=w.setChan y.bc y.len (rest.map y.sight).toArray true a (r+1) tm:=⟨_,rfl⟩
 have b1:Bs prog S B0 (kN prog y (sV y br t)) w _ w2:=hw2▸Vh (J3 y br t) hch
 have k2:∀ b,b≠y.bc->w2.heap[b]?=w.heap[b]?:=λb hb=>by rw[hw2];simp[World.setChan,Array.getElem?_setIfInBounds_ne (Ne.symm hb)]
 have s2:w2.heap.size=w.heap.size:=by rw[hw2];simp[World.setChan]
 have c2:w2.heap[y.bc]?=some (.chan y.len (rest.map y.sight).toArray true a (r+1) tm):=by
  rw[hw2];simp only[World.setChan]
  rw[Array.getElem?_setIfInBounds_self_of_lt (Array.getElem?_eq_some_iff.1 hch).1]
 obtain⟨bx,hbx⟩:∃ bx,bx=w2.heap.size:=⟨_,rfl⟩
 obtain⟨w3,hw3⟩:∃ w3:World,w3={ w2 with heap:=w2.heap.push (.cells #[.int .i64 0,.int .i64 0,.int .i64 0,.int .i64 0,.int .i64 0] 226) }:=⟨_,rfl⟩
 have b3:Bs prog S B0 (rA prog y br t i) w2 (rB prog y br t i bx) w3:=bO (Zd y br t i bx) (show eG _ _ _ from⟨hbx.symm,hw3⟩) (λe he=>by simp at he) (by rw[hw3];simp)
 have k3:∀ b,b<bx->w3.heap[b]?=w2.heap[b]?:=λb hb=>by
  rw[hw3];simp only[Array.getElem?_push];rw[if_neg (by omega)]
 have s3:w3.heap.size=bx+1:=by rw[hw3,hbx];simp
 have x3:w3.heap[bx]?=some (.cells #[.int .i64 0,.int .i64 0,.int .i64 0,.int .i64 0,.int .i64 0] 226):=by rw[hw3,hbx];simp
 obtain⟨o4,x4,k4,s4⟩:=J4 x3 (o:=0) (by simp) (.int .i64 (y.st i:Nat)) (.int .i64 (y.lb i:Nat)) (.int .i64 (i:Nat)) (.int .i64 (y.sq i:Nat)) (.int .i64 (y.kd i:Nat))
 obtain⟨w4,hw4⟩:∃ w4,w4=mP w3 bx 0 (.int .i64 (y.st i:Nat)) (.int .i64 (y.lb i:Nat)) (.int .i64 (i:Nat)) (.int .i64 (y.sq i:Nat)) (.int .i64 (y.kd i:Nat)):=⟨_,rfl⟩
 rw[<-hw4] at o4 x4 k4 s4
 have afM:br<bx:=by omega
 have hSx:¬S bx:=hS bx (by omega)
 have hSr:¬S br:=hS br (Nat.le_refl _)
 have ex:∀ o wr,EvL (dX S) w4.heap.size ⟨.cell ⟨bx,o,none⟩,wr,false⟩/\∀ a,MemAct.ofEvent ⟨.cell ⟨bx,o,none⟩,wr,false⟩≠.mark (.release a):=λo wr=>iV hSx (by omega)
 have b4:Bs prog S B0 (rB prog y br t i bx) w3 _ w4:=bO (Ze y br t i bx) o4 (λe he=>by
  have:e=⟨.cell ⟨bx,0,none⟩,true,false⟩\/e=⟨.cell ⟨bx,1,none⟩,true,false⟩\/e=⟨.cell ⟨bx,2,none⟩,true,false⟩\/e=⟨.cell ⟨bx,3,none⟩,true,false⟩\/e=⟨.cell ⟨bx,4,none⟩,true,false⟩:=by simpa using he
  rcases this with rfl|rfl|rfl|rfl|rfl<;>exact ex _ _) (by omega)
 have hc4:∀ o,w4.cell? ⟨bx,o,none⟩=(Af #[.int .i64 0,.int .i64 0,.int .i64 0,.int .i64 0,.int .i64 0] 0 (.int .i64 (y.st i:Nat)) (.int .i64 (y.lb i:Nat)) (.int .i64 (i:Nat)) (.int .i64 (y.sq i:Nat)) (.int .i64 (y.kd i:Nat)))[o]?:=λo=>by simp[World.cell?,x4]
 have b5:Bs prog S B0 (rC prog y br t i bx) w4 (rD prog y br t i bx) w4:=bO (Zg y br t i bx) (show eG _ _ _ from⟨(hc4 2).trans rfl,rfl⟩) (λe he=>by
  have:e=⟨.cell ⟨bx,2,none⟩,false,false⟩:=by simpa using he
  exact this▸ex _ _) (Nat.le_refl _)
 have b6:Bs prog S B0 (rD prog y br t i bx) w4 (rE prog y br t i bx) w4:=bO (Zh y br t i bx) (show eG _ _ _ from⟨(hc4 0).trans rfl,(hc4 1).trans rfl,(hc4 2).trans rfl,(hc4 3).trans rfl,(hc4 4).trans rfl,rfl⟩) (λe he=>by
  have:e=⟨.cell ⟨bx,0,none⟩,false,false⟩\/e=⟨.cell ⟨bx,1,none⟩,false,false⟩\/e=⟨.cell ⟨bx,2,none⟩,false,false⟩\/e=⟨.cell ⟨bx,3,none⟩,false,false⟩\/e=⟨.cell ⟨bx,4,none⟩,false,false⟩:=by simpa using he
  rcases this with rfl|rfl|rfl|rfl|rfl<;>exact ex _ _) (Nat.le_refl _)
 have b7:Bs prog S B0 (rE prog y br t i bx) w4 (rF prog y br t i bx) w4:=x9 (adv y br t i bx) (es:=#[]) (λd=>⟨d,by
  rw[jD,Sem.runT_bind',H9 (inf:=((prog).info? (prog.elem 222)).getD default) (by kernel_rfl) (by kernel_rfl) (by kernel_rfl) br i y.len hi (w4.at d)]
  rfl⟩) rfl (λe he=>by simp at he) (Nat.le_refl _)
 have r4:w4.heap[br]?=some (.cells cells 226):=by rw[k4 br (by omega),k3 br afM,k2 br (by omega),hrow]
 obtain⟨o8,x8,k8,s8⟩:=J4 r4 (o:=5*i) (by omega) (.int .i64 (y.st i:Nat)) (.int .i64 (y.lb i:Nat)) (.int .i64 (i:Nat)) (.int .i64 (y.sq i:Nat)) (.int .i64 (y.kd i:Nat))
 obtain⟨w8,hw8⟩:∃ w8,w8=mP w4 br (5*i) (.int .i64 (y.st i:Nat)) (.int .i64 (y.lb i:Nat)) (.int .i64 (i:Nat)) (.int .i64 (y.sq i:Nat)) (.int .i64 (y.kd i:Nat)):=⟨_,rfl⟩
 rw[<-hw8] at o8 x8 k8 s8
 have er:∀ o wr,EvL (dX S) w8.heap.size ⟨.cell ⟨br,o,none⟩,wr,false⟩/\∀ a,MemAct.ofEvent ⟨.cell ⟨br,o,none⟩,wr,false⟩≠.mark (.release a):=λo wr=>iV hSr (by omega)
 have b8:Bs prog S B0 (rF prog y br t i bx) w4 _ w8:=bO (Zi y br t i bx) o8 (λe he=>by
  have:e=⟨.cell ⟨br,5*i,none⟩,true,false⟩\/e=⟨.cell ⟨br,5*i+1,none⟩,true,false⟩\/e=⟨.cell ⟨br,5*i+2,none⟩,true,false⟩\/e=⟨.cell ⟨br,5*i+3,none⟩,true,false⟩\/e=⟨.cell ⟨br,5*i+4,none⟩,true,false⟩:=by simpa using he
  rcases this with rfl|rfl|rfl|rfl|rfl<;>exact er _ _) (by omega)
 obtain⟨t',ht'⟩:=(adw y br t i bx).form
 have hG:=Vr y br t i bx
 rw[ht'] at hG
 have bA:=aZ (w:=w2) (S:=S) (B0:=B0) 9 (Zc y br t i)
 have bC:=aZ (w:=w4) (S:=S) (B0:=B0) 5 (Zf y br t i bx)
 have bG:=aZ (w:=w8) (S:=S) (B0:=B0) 5 (Zj y br t i bx)
 refine⟨t',w8,hG▸(b1.trans (bA.trans (b3.trans (b4.trans (bC.trans (b5.trans (b6.trans (b7.trans (b8.trans bG))))))))),?_⟩
 have m4:=Ag w3 bx 0 (.int .i64 (y.st i:Nat)) (.int .i64 (y.lb i:Nat)) (.int .i64 (i:Nat)) (.int .i64 (y.sq i:Nat)) (.int .i64 (y.kd i:Nat))
 have m8:=Ag w4 br (5*i) (.int .i64 (y.st i:Nat)) (.int .i64 (y.lb i:Nat)) (.int .i64 (i:Nat)) (.int .i64 (y.sq i:Nat)) (.int .i64 (y.kd i:Nat))
 rw[<-hw4] at m4
 rw[<-hw8] at m8
 have q2:w2.tape=w.tape/\w2.os=w.os/\w2.output=w.output:=by rw[hw2];exact⟨rfl,rfl,rfl⟩
 have q3:w3.tape=w2.tape/\w3.os=w2.os/\w3.output=w2.output:=by rw[hw3];exact⟨rfl,rfl,rfl⟩
 have kk:∀ b,b<bx->b≠br->b≠y.bc->w8.heap[b]?=w.heap[b]?:=λb h1 h2 h3=>by rw[k8 b h2,k4 b (by omega),k3 b h1,k2 b h3]
 refine⟨⟨a,r+1,tm,?_⟩,⟨_,x8,by rw[Md];exact hcs,λj hj=>?_⟩,λb h1 h2=>?_,by omega,?_⟩
 .rw[k8 _ (by omega),k4 _ (by omega),k3 _ (by omega)]
  exact c2
 .have g:=λk=>QV (cells:=cells) (5*i) k (.int .i64 (y.st i:Nat)) (.int .i64 (y.lb i:Nat)) (.int .i64 (i:Nat)) (.int .i64 (y.sq i:Nat)) (.int .i64 (y.kd i:Nat)) (by omega)
  by_cases hij:j=i
  .subst hij
   refine⟨?_,?_,?_,?_,?_⟩
   .rw[g,if_pos rfl]
   .rw[g,if_neg (by omega),if_pos rfl]
   .rw[g,if_neg (by omega),if_neg (by omega),if_pos rfl]
   .rw[g,if_neg (by omega),if_neg (by omega),if_neg (by omega),if_pos rfl]
   .rw[g,if_neg (by omega),if_neg (by omega),if_neg (by omega),if_neg (by omega),if_pos rfl]
  .have hd:=hdn j ((List.mem_cons.1 hj).resolve_left hij)
   refine⟨?_,?_,?_,?_,?_⟩
   .rw[g,if_neg (by omega),if_neg (by omega),if_neg (by omega),if_neg (by omega),if_neg (by omega)];exact hd.1
   .rw[g,if_neg (by omega),if_neg (by omega),if_neg (by omega),if_neg (by omega),if_neg (by omega)];exact hd.2.1
   .rw[g,if_neg (by omega),if_neg (by omega),if_neg (by omega),if_neg (by omega),if_neg (by omega)];exact hd.2.2.1
   .rw[g,if_neg (by omega),if_neg (by omega),if_neg (by omega),if_neg (by omega),if_neg (by omega)];exact hd.2.2.2.1
   .rw[g,if_neg (by omega),if_neg (by omega),if_neg (by omega),if_neg (by omega),if_neg (by omega)];exact hd.2.2.2.2
 .rw[kk b (by omega) (by omega) h2]
  exact keep b h1 h2
 .exact⟨m8.1.trans (m4.1.trans (q3.1.trans (q2.1.trans hrest.1))),m8.2.1.trans (m4.2.1.trans (q3.2.1.trans (q2.2.1.trans hrest.2.1))),m8.2.2.trans (m4.2.2.trans (q3.2.2.trans (q2.2.2.trans hrest.2.2)))⟩
theorem yc(hbc:y.bc<br)(hS:∀ b,br<=b->¬S b):∀ (rest dn:List Nat) (w:World) (t:Nat->Value),(∀ i∈rest,i<y.len)->LI y br dn rest w1 w ->
 ∃ t' w',Bs prog S B0 (kN prog y (sV y br t)) w (rZ prog y br t') w'/\LI y br (rest.reverse++dn) [] w1 w'
 | [],dn,w,t,_,h=>by
   obtain⟨a,r,tm,hch⟩:=h.ch
   have b1:Bs prog S B0 (kN prog y (sV y br t)) w _ w:=EL (J3 y br t) hch
   exact⟨t,w,b1.trans (aZ 12 (Zk y br t)),h⟩
 |i::rest,dn,w,t,hr,h=>by
  obtain⟨t1,w',b1,h1⟩:=Me (B0:=B0) (hr i List.mem_cons_self) hbc hS t h
  obtain⟨t2,w'',b2,h2⟩:=yc hbc hS rest (i::dn) w' t1 (λj hj=>hr j (List.mem_cons_of_mem _ hj)) h1
  exact⟨t2,w'',b1.trans b2,by simpa using h2⟩
theorem QW{n:Nat}(ok:y.Ok prog){bl:List Nat}{a r:Nat}{tm:Bool}(hp:bl.Perm (List.range y.len))(hch:w.heap[y.bc]?=some (.chan y.len (bl.map y.sight).toArray false a r tm))(hw:Kw y w)(hbc:y.bc<w.heap.size)(hF:∀ b,y.Fz b->¬S b)(hS:∀ b,S b->b<w.heap.size)(t:Nat->Value) :
 ∃ t' w',Bs prog S B0 (JV prog 108 9 (sT y n t) y.cs) w (rZ prog y w.heap.size t') w'/\LI y w.heap.size (bl.reverse) [] w w':=by
 have hb8:=(hw.fz _ ok.f8).trans ok.b8
 have hb2:=(hw.fz _ ok.f2).trans ok.b2
 have hn8:y.b8≠y.bc:=(ok.fl _ ok.f8).2.2.2
 have hn2:y.b2≠y.bc:=(ok.fl _ ok.f2).2.2.2
 have l8:y.b8<w.heap.size:=Nat.lt_of_lt_of_le (ok.fl _ ok.f8).1 hw.size
 have l2:y.b2<w.heap.size:=Nat.lt_of_lt_of_le (ok.fl _ ok.f2).1 hw.size
 obtain⟨w1,hw1⟩:∃ w1:World,w1={ w with heap:=w.heap.setIfInBounds y.bc (.chan y.len (bl.map y.sight).toArray true a r tm) }:=⟨_,rfl⟩
 have k1:∀ b,b≠y.bc->w1.heap[b]?=w.heap[b]?:=λb hb=>by rw[hw1];simp[Array.getElem?_setIfInBounds_ne (Ne.symm hb)]
 have s1:w1.heap.size=w.heap.size:=by rw[hw1];simp
 have c1:w1.heap[y.bc]?=some (.chan y.len (bl.map y.sight).toArray true a r tm):=by
  rw[hw1];exact Array.getElem?_setIfInBounds_self_of_lt hbc
 have ev:∀ {B b o:Nat},y.Fz b->b<B->∀ e∈(#[⟨.cell ⟨b,o,none⟩,false,false⟩]:Array Event),EvL (dX S) B e/\∀ a,MemAct.ofEvent e≠.mark (.release a):=λhf hb e he=>by
  have:e=_:=Array.mem_singleton.1 he
  exact this▸iV (hF _ hf) hb
 have b0:Bs prog S B0 (lT0 prog y n t) w (lT1 prog y n t) w:=bO (Vk y n t) (show eG _ _ _ from⟨by simp[World.cell?,hb8],rfl⟩) (ev ok.f8 l8) (Nat.le_refl _)
 have b1:Bs prog S B0 (lT1 prog y n t) w _ w1:=hw1▸QO (Y_ y n t) hch
 have b2:Bs prog S B0 (lT2 prog y n t) w1 _ w1:=bO (Vm y n t) (show eG _ _ _ from⟨by simp[World.cell?,k1 _ hn2,hb2],rfl⟩) (ev ok.f2 (by omega)) (Nat.le_refl _)
 obtain⟨w2,hw2⟩:∃ w2:World,w2={ w1 with heap:=w1.heap.push (.cells (madeCells (kV).cells (y.len*5)) 226) }:=⟨_,rfl⟩
 have h5:((prog.info? 226).getD default).size=5:=by kernel_rfl
 have b3:Bs prog S B0 (lT3 prog y n t) w1 (go1 prog (lT3 prog y n t) (.value (.slice (some ⟨w1.heap.size,0,none⟩) y.len y.len))) w2:=by
  have:=Vg (S:=S) (B0:=B0) (w:=w1) (e:=226) (i:=(prog.info? 226).getD default) (z:=kV) (Za y n t) (by kernel_rfl) (by kernel_rfl) (by kernel_rfl) ok.most (Nat.le_of_ble_eq_true (by kernel_rfl))
  rw[h5,<-hw2] at this
  exact this
 rw[s1] at b3
 have k2:∀ b,b<w.heap.size->w2.heap[b]?=w1.heap[b]?:=λb hb=>by
  rw[hw2];simp only[Array.getElem?_push];rw[if_neg (by omega)]
 have s2:w2.heap.size=w.heap.size+1:=by rw[hw2];simp[s1]
 have x2:w2.heap[w.heap.size]?=some (.cells (madeCells (kV).cells (y.len*5)) 226):=by rw[hw2,<-s1];simp
 have b4:Bs prog S B0 (lT4 prog y n t w.heap.size) w2 _ w2:=bO (Vp y n t _) (show eG _ _ _ from⟨by simp[World.cell?,k2 _ l8,k1 _ hn8,hb8],rfl⟩) (ev ok.f8 (by omega)) (Nat.le_refl _)
 obtain⟨t1,ht1⟩:=(Zb y n t w.heap.size).form
 have hH:=QU y n t w.heap.size
 rw[ht1] at hH
 have p0:=aZ (w:=w) (S:=S) (B0:=B0) 2 (Vj y n t)
 have p2:=aZ (w:=w1) (S:=S) (B0:=B0) 3 (Vl y n t)
 have p3:=aZ (w:=w1) (S:=S) (B0:=B0) 1 (Vn y n t)
 have p4:=aZ (w:=w2) (S:=S) (B0:=B0) 5 (Vo y n t w.heap.size)
 have p5:=aZ (w:=w2) (S:=S) (B0:=B0) 5 (Vq y n t w.heap.size)
 have hli:LI y w.heap.size [] bl w w2:=⟨⟨a,r,tm,by rw[k2 _ hbc];exact c1⟩,⟨_,x2,by rw[size_madeCells,Nat.mul_comm],λi hi=>by simp at hi⟩,λb h1 h2=>by rw[k2 b h1,k1 b h2],by omega,by rw[hw2,hw1];exact⟨rfl,rfl,rfl⟩⟩
 obtain⟨t2,w',b6,hl⟩:=yc (S:=S) (B0:=B0) hbc (λb hb hs=>by have:=hS b hs;omega) bl [] w2 t1 (λi hi=>List.mem_range.1 (hp.mem_iff.1 hi)) hli
 rw[List.append_nil] at hl
 refine⟨t2,w',?_,hl⟩
 have b5:Bs prog S B0 (go1 prog (lT4 prog y n t w.heap.size) (.value (.chan (some y.bc)))) w2 (kN prog y (sV y w.heap.size t1)) w2:=hH▸p5
 exact p0.trans (b0.trans (b1.trans (p2.trans (b2.trans (p3.trans (b3.trans (p4.trans (b4.trans (b5.trans b6)))))))))
end
