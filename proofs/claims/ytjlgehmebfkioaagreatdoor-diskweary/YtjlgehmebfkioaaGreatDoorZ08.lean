/- Part of the proof. -/
import Derived.Test.YtjlgehmebfkioaaGreatDoorZ07
open Go.Proofs.Tryz (prog)
open Go.Proofs.ah.Al (PB)
set_option maxHeartbeats 1600000
set_option linter.unusedVariables false
namespace Go.Proofs.aB
open ah ay aj Go.RowKit
variable {B D P Y bb cb gb m:Nat} {pb:Nat->Nat} {w:World}
def blank(L:Nat):St:={ off:=false,bytes:=λ_=>List.replicate L 255,next:=λ_=>0,aF:=λ_=>0,bad:=λ_=>false }
theorem XB:((PB prog false).info? 97).map (λi=>(i.zero,i.size,i.bytes))=some (some (.agg #[.slice none 0 0,.int .i64 0,.int .i64 0,.bool false]),4,48):=by kernel_rfl
def Gu(n:Nat):Array Value:=madeCells #[.slice none 0 0,.int .i64 0,.int .i64 0,.bool false] (n*4)
theorem Cv(n i:Nat)(h:i<n*4):(Gu n)[i]?=some (#[Value.slice none 0 0,.int .i64 0,.int .i64 0,.bool false][i%4]!):=by
 unfold Gu madeCells
 rw[Array.getElem?_map,Array.getElem?_eq_getElem (by simpa using h)]
 simp
theorem qU(n k:Nat)(h:k<n):(Gu n)[k*4]?=some (.slice none 0 0)/\(Gu n)[k*4+1]?=some (.int .i64 0)/\(Gu n)[k*4+2]?=some (.int .i64 0)/\(Gu n)[k*4+3]?=some (.bool false):=by
 refine⟨?_,?_,?_,?_⟩
 .rw[Cv _ _ (by omega),show k*4%4=0 by omega];rfl
 .rw[Cv _ _ (by omega),show (k*4+1)%4=1 by omega];rfl
 .rw[Cv _ _ (by omega),show (k*4+2)%4=2 by omega];rfl
 .rw[Cv _ _ (by omega),show (k*4+3)%4=3 by omega];rfl
theorem Mg(n:Nat)(hn:n<=64)(w:World):(Instr.makeSlice 77 (.int .i64 (n:Int)) (.int .i64 (n:Int))).run (PB prog false) w=.ok (.slice (some ⟨w.heap.size,0,none⟩) n n) (w.alloc (.cells (Gu n) 97)):=by
 obtain⟨i0,hi,hz0,hz1,hz2⟩:=info_parts XB
 have h:=run_make (P:=(PB prog false)) w 77 97 i0 (.agg #[.slice none 0 0,.int .i64 0,.int .i64 0,.bool false]) Al.underlying77 hi hz0 .i64 .i64 n n (by omega) (by omega) (by rw[hz2];omega) (by omega)
 rw[h,hz1,Int.toNat_natCast]
 rfl
structure PH(D B n P Y:Nat)(w:World)(gb cb bb:Nat)(pb:Nat->Nat)(m:Nat):Prop where
 g2:w.cell? ⟨gb,2,none⟩=some (.int .i64 (P:Int))
 g3:w.cell? ⟨gb,3,none⟩=some (.int .i64 (Y:Int))
 c0:w.cell? ⟨cb,0,none⟩=some (.bool false)
 c1:w.cell? ⟨cb,1,none⟩=some (.int .i64 (D:Int))
 c2:w.cell? ⟨cb,2,none⟩=some (.int .i64 (B:Int))
 c3:w.cell? ⟨cb,3,none⟩=some (.int .i64 (P:Int))
 c4:w.cell? ⟨cb,4,none⟩=some (.int .i64 (Y:Int))
 c5:w.cell? ⟨cb,5,none⟩=some (.slice (some ⟨bb,0,none⟩) n n)
 fc:∀ o,w.frozen? ⟨cb,o,none⟩=false
 fb:∀ o,w.frozen? ⟨bb,o,none⟩=false
 r0:∀ k,k<m->w.cell? ⟨bb,k*4,none⟩=some (.slice (some ⟨pb k,0,none⟩) (P*Y) (P*Y))
 rz:∀ k,m<=k->k<n->w.cell? ⟨bb,k*4,none⟩=some (.slice none 0 0)
 r1:∀ k,k<n->w.cell? ⟨bb,k*4+1,none⟩=some (.int .i64 0)/\w.cell? ⟨bb,k*4+2,none⟩=some (.int .i64 0)/\w.cell? ⟨bb,k*4+3,none⟩=some (.bool false)
 hp:∀ k,k<m->w.heap[pb k]?=some (.cells ((List.replicate (P*Y) 255).map bv).toArray 5 (0,0))
 n0:cb≠bb/\gb≠bb
 n1:∀ k,k<m->pb k≠cb/\pb k≠bb
 n2:∀ i k,i<m->k<m->pb i=pb k->i=k
theorem PH.lt{n:Nat}(h:PH D B n P Y w gb cb bb pb m):gb<w.heap.size/\cb<w.heap.size/\(∀ k,k<m->pb k<w.heap.size) :=
 ⟨World.block_lt_of_cell? w _ h.g2,World.block_lt_of_cell? w _ h.c5,λk hk=>aU (h.hp k hk)⟩
theorem PH.step{n:Nat}{w3:World}(h:PH D B n P Y w gb cb bb pb m)(hm:m<n)(hk:Keep (λb=>b=bb\/b=w.heap.size) w w3)(hbb:bb<w.heap.size)
 (hc:∀ o,o≠m*4->w3.cell? ⟨bb,o,none⟩=w.cell? ⟨bb,o,none⟩) (hc0:w3.cell? ⟨bb,m*4,none⟩=some (.slice (some ⟨w.heap.size,0,none⟩) (P*Y) (P*Y))) (hf:∀ o,w3.frozen? ⟨bb,o,none⟩=false)
 (hr:w3.heap[w.heap.size]?=some (.cells ((List.replicate (P*Y) 255).map bv).toArray 5 (0,0))):PH D B n P Y w3 gb cb bb (upd pb m w.heap.size) (m+1):=by
 obtain⟨l1,l2,l3⟩:=h.lt
 have hg:∀ o,w3.cell? ⟨gb,o,none⟩=w.cell? ⟨gb,o,none⟩:=λo=>hk.cell l1 (λe=>e.elim (λe=>h.n0.2 e) (λe=>Nat.ne_of_lt l1 e))
 have hcb:∀ o,w3.cell? ⟨cb,o,none⟩=w.cell? ⟨cb,o,none⟩:=λo=>hk.cell l2 (λe=>e.elim (λe=>h.n0.1 e) (λe=>Nat.ne_of_lt l2 e))
 exact {
  g2:=by rw[hg];exact h.g2
  g3:=by rw[hg];exact h.g3
  c0:=by rw[hcb];exact h.c0
  c1:=by rw[hcb];exact h.c1
  c2:=by rw[hcb];exact h.c2
  c3:=by rw[hcb];exact h.c3
  c4:=by rw[hcb];exact h.c4
  c5:=by rw[hcb];exact h.c5
  fc:=λo=>by rw[hk.frozen l2 (λe=>e.elim (λe=>h.n0.1 e) (λe=>Nat.ne_of_lt l2 e))];exact h.fc o
  fb:=hf
  r0:=λk hk'=>by
   by_cases e:k=m
   .subst e;rw[upd_same];exact hc0
   .rw[upd_ne _ _ _ _ e,hc _ (by omega)];exact h.r0 k (by omega)
  rz:=λk h1 h2=>by rw[hc _ (by omega)];exact h.rz k (by omega) h2
  r1:=λk hk'=>⟨by rw[hc _ (by omega)];exact(h.r1 k hk').1,by rw[hc _ (by omega)];exact(h.r1 k hk').2.1,by rw[hc _ (by omega)];exact(h.r1 k hk').2.2⟩
  hp:=λk hk'=>by
   by_cases e:k=m
   .subst e;rw[upd_same];exact hr
   .have hl:=l3 k (by omega)
    rw[upd_ne _ _ _ _ e,hk.block _ hl (λe'=>e'.elim (λe'=>(h.n1 k (by omega)).2 e') (λe'=>Nat.ne_of_lt hl e'))];exact h.hp k (by omega)
  n0:=h.n0
  n1:=λk hk'=>by
   by_cases e:k=m
   .subst e;rw[upd_same];exact⟨λe=>by omega,λe=>by omega⟩
   .rw[upd_ne _ _ _ _ e];exact h.n1 k (by omega)
  n2:=λi k hi hk' e=>by
   by_cases e1:i=m
   .by_cases e2:k=m
    .omega
    .rw[e1,upd_same,upd_ne _ _ _ _ e2] at e
     have:=l3 k (by omega)
     omega
   .by_cases e2:k=m
    .rw[e2,upd_same,upd_ne _ _ _ _ e1] at e
     have:=l3 i (by omega)
     omega
    .rw[upd_ne _ _ _ _ e1,upd_ne _ _ _ _ e2] at e
     exact h.n2 i k (by omega) (by omega) e }
theorem PH.done(h:PH D B (D*B) P Y w gb cb bb pb (D*B)):CH D B P Y w cb bb pb (blank (P*Y)) :=
 { c0:=h.c0
   c1:=h.c1
   c2:=h.c2
   c3:=h.c3
   c4:=h.c4
   c5:=h.c5
   fc:=h.fc
   fb:=h.fb
   r0:=h.r0
   r1:=λk hk=>(h.r1 k hk).1
   r2:=λk hk=>(h.r1 k hk).2.1
   r3:=λk hk=>(h.r1 k hk).2.2
   hp:=h.hp
   hl:=λk hk=>List.length_replicate
   n0:=h.n0.1
   n1:=h.n1
   n2:=h.n2
   hn:=λk=>Nat.zero_le _
   ha:=λk hk=>JI _ _ (by omega) }
theorem PH.first{w1:World}(hw:w.heap.size<w1.heap.size)(g2:w1.cell? ⟨w.heap.size,2,none⟩=some (.int .i64 (P:Int)))(g3:w1.cell? ⟨w.heap.size,3,none⟩=some (.int .i64 (Y:Int)))(n:Nat)(hn:D*B=n) :
 PH D B n P Y ((w1.alloc (.cells (Gu n) 97)).alloc (.cells #[.bool false,.int .i64 (D:Int),.int .i64 (B:Int),.int .i64 (P:Int),.int .i64 (Y:Int),.slice (some ⟨w1.heap.size,0,none⟩) n n] 79)).drew w.heap.size (w1.heap.size+1) w1.heap.size (λ_=>0) 0:=by
 generalize hA:((w1.alloc (.cells (Gu n) 97)).alloc (.cells #[.bool false,.int .i64 (D:Int),.int .i64 (B:Int),.int .i64 (P:Int),.int .i64 (Y:Int),.slice (some ⟨w1.heap.size,0,none⟩) n n] 79)).drew=W
 have hb:Below w1.heap.size w1 W:=by rw[<-hA];exact((((Below.refl _ _).alloc (Nat.le_refl _) _).alloc (by simp) _).drew)
 have hs:(w1.alloc (.cells (Gu n) 97)).heap.size=w1.heap.size+1:=by simp
 have OE:W.heap[w1.heap.size]?=some (.cells (Gu n) 97 (0,0)):=by
  rw[<-hA]
  show ((w1.alloc (.cells (Gu n) 97)).alloc _).heap[w1.heap.size]?=_
  rw[Below.heap_alloc _ _ _ (by rw[hs];omega)]
  exact heap_alloc_new w1 _
 have JJ:W.heap[w1.heap.size+1]?=some (.cells #[.bool false,.int .i64 (D:Int),.int .i64 (B:Int),.int .i64 (P:Int),.int .i64 (Y:Int),.slice (some ⟨w1.heap.size,0,none⟩) n n] 79 (0,0)):=by
  rw[<-hA,<-hs]
  exact heap_alloc_new (w1.alloc (.cells (Gu n) 97)) _
 have cc:∀ o v,(Gu n)[o]?=some v->W.cell? ⟨w1.heap.size,o,none⟩=some v:=λo v h=>by simp[World.cell?,OE,h]
 exact {
  g2:=by rw[hb.cell (p:=⟨w.heap.size,2,none⟩) hw];exact g2
  g3:=by rw[hb.cell (p:=⟨w.heap.size,3,none⟩) hw];exact g3
  c0:=by simp[World.cell?,JJ]
  c1:=by simp[World.cell?,JJ]
  c2:=by simp[World.cell?,JJ]
  c3:=by simp[World.cell?,JJ]
  c4:=by simp[World.cell?,JJ]
  c5:=by simp[World.cell?,JJ]
  fc:=λo=>dJ JJ o
  fb:=λo=>dJ OE o
  r0:=λk hk=>by omega
  rz:=λk _ hk=>cc _ _ (qU n k hk).1
  r1:=λk hk=>⟨cc _ _ (qU n k hk).2.1,cc _ _ (qU n k hk).2.2.1,cc _ _ (qU n k hk).2.2.2⟩
  hp:=λk hk=>by omega
  n0:=⟨by omega,by omega⟩
  n1:=λk hk=>by omega
  n2:=λi k hi=>by omega }
theorem SN{wr:World}{L:Nat}(hbb:bb<wr.heap.size)(rz:wr.cell? ⟨bb,m*4,none⟩=some (.slice none 0 0))(W4:World)
 (hW:((wr.setCell ⟨bb,m*4,none⟩ (.slice (some ⟨wr.heap.size,0,none⟩) L L)).alloc (.cells (qK L) 5)).drew=W4) :
 Keep (λb=>b=bb\/b=wr.heap.size) wr W4/\(∀ o,o≠m*4->W4.cell? ⟨bb,o,none⟩=wr.cell? ⟨bb,o,none⟩)/\W4.cell? ⟨bb,m*4,none⟩=some (.slice (some ⟨wr.heap.size,0,none⟩) L L)/\(∀ o,W4.frozen? ⟨bb,o,none⟩=wr.frozen? ⟨bb,o,none⟩) /\
  W4.heap[wr.heap.size]?=some (.cells ((List.replicate L 0).map bv).toArray 5 (0,0)):=by
 have hs:(wr.setCell ⟨bb,m*4,none⟩ (.slice (some ⟨wr.heap.size,0,none⟩) L L)).heap.size=wr.heap.size:=by simp
 have hb:Below wr.heap.size (wr.setCell ⟨bb,m*4,none⟩ (.slice (some ⟨wr.heap.size,0,none⟩) L L)) W4:=by
  rw[<-hW];exact((Below.refl _ _).alloc (by rw[hs];exact Nat.le_refl _) _).drew
 refine⟨((Keep.refl _ _).set (Or.inl rfl) _).trans (Keep.of_below (by rw[hs];exact hb)),λo ho=>?_,?_,λo=>?_,?_⟩
 .rw[hb.cell (p:=⟨bb,o,none⟩) hbb,far _ (λe=>ho e.2.symm)]
 .rw[hb.cell (p:=⟨bb,m*4,none⟩) hbb];exact World.cell?_setCell_same _ _ _ rz
 .rw[hb.frozen (p:=⟨bb,o,none⟩) hbb,World.frozen?_setCell]
 .rw[<-hW]
  have:=heap_alloc_new (wr.setCell ⟨bb,m*4,none⟩ (.slice (some ⟨wr.heap.size,0,none⟩) L L)) (.cells (qK L) 5)
  rw[hs] at this
  exact this
theorem vO(w:World)(hG:Geo D B P Y) :
 Calls (PB prog false) 31 #[.agg #[.int .i64 D,.int .i64 B,.int .i64 P,.int .i64 Y]] w λe w'=>∃ cb bb pb,e=.returned (.tuple #[.pointer (some ⟨cb,0,none⟩),.nilIface])/\CH D B P Y w' cb bb pb (blank (P*Y))/\(∀ b,Mine (D*B) cb bb pb b->w.heap.size<=b)/\Below w.heap.size w w':=by
 have d1:=hG.d1
 have b1:=hG.b1
 have p1:=hG.p1
 have y1:=hG.y1
 have hn:=hG.n
 have hl:=hG.l
 have HGI:Hid (zN D B P Y):=by
  show zN _ _ _ _
  have:=hG.d0;have:=hG.b0;have:=hG.p0;have:=hG.y0;have:=hG.y8
  exact⟨by omega,by omega,by omega,by omega,by omega⟩
 obtain⟨n,HN⟩:∃ n,Hid (D*B=n):=⟨_,rfl⟩
 obtain⟨L,HL⟩:∃ L,Hid (P*Y=L):=⟨_,rfl⟩
 have hm1:(D:Int)*(B:Int)=(n:Int):=by
  have:(D:Int)*(B:Int)=((D*B:Nat):Int):=by simp
  rw[this,HN.out]
 have hm2:(P:Int)*(Y:Int)=(L:Int):=by
  have:(P:Int)*(Y:Int)=((P*Y:Nat):Int):=by simp
  rw[this,HL.out]
 rw[HN.out] at hn
 rw[HL.out] at hl
 have hwn:IntKind.i64.wrap (n:Int)=(n:Int):=by rw[IntKind.wrap_i64];omega
 have hwl:IntKind.i64.wrap (L:Int)=(L:Int):=by rw[IntKind.wrap_i64];omega
 have mk1:=λwz=>Mg n (by omega) wz
 have mk2:=λwz=>jv L (by omega) wz
 clear hG
 go_enter Al.func31,Tryz.ntmps31
 go_wp2_with fail
 refine(Mf D B P Y _ HGI.out).mono ?_
 rintro e w1 ⟨rfl,hb1⟩
 have hg:=λo=>hb1.cell (p:=⟨w.heap.size,o,none⟩) (by simp)
 have g0:=hg 0
 have g1:=hg 1
 have g2:=hg 2
 have g3:=hg 3
 simp at g0 g1 g2 g3
 have hB:Below w.heap.size w w1:=((Below.refl _ _).alloc (Nat.le_refl _) _).trans (hb1.mono (by simp))
 have hlt:w.heap.size<w1.heap.size:=by have:=hb1.size;simp at this;omega
 clear hb1 hg HGI
 go_wp2
 go_region
 have HP:=PH.first (D:=D) (B:=B) hlt g2 g3 n HN.out
 have HB2:Below w.heap.size w ((w1.alloc (.cells (Gu n) 97)).alloc (.cells #[.bool false,.int .i64 (D:Int),.int .i64 (B:Int),.int .i64 (P:Int),.int .i64 (Y:Int),.slice (some ⟨w1.heap.size,0,none⟩) n n] 79)).drew:=((hB.alloc hB.size _).alloc (by simp;omega) _).drew
 generalize ((w1.alloc (.cells (Gu n) 97)).alloc (.cells #[.bool false,.int .i64 (D:Int),.int .i64 (B:Int),.int .i64 (P:Int),.int .i64 (Y:Int),.slice (some ⟨w1.heap.size,0,none⟩) n n] 79)).drew=W2 at HP HB2 ⊢
 have hN1:w.heap.size<=w1.heap.size:=by omega
 clear mk1 g0 g1 g2 g3 hB
 generalize w1.heap.size=bb at HP hlt hN1 ⊢
 have c5:=HP.c5
 have HP0:Hid (PH D B n P Y W2 w.heap.size (bb+1) bb (λ_=>0) 0):=HP
 clear HP
 go_wp2
 go_loopw [24] (λj wr=>∃ (m:Nat) (pb:Nat->Nat),m<=n/\j=.int .i64 m/\Hid (PH D B n P Y wr w.heap.size (bb+1) bb pb m/\(∀ k,k<m->w.heap.size<=pb k)/\Below w.heap.size w wr)) (λj _=>n-(intOf j).toNat)
 case atStart=>exact⟨0,_,by omega,rfl,HP0.out,(λk hk=>by omega),HB2⟩
 case round =>
  obtain⟨m,pb,hm,rfl,hr⟩:=hrel
  clear c5 HP0 HB2
  by_cases hlt2:m<n
  .have c5:=hr.out.1.c5
   have g2:=hr.out.1.g2
   have g3:=hr.out.1.g3
   have rz:=hr.out.1.rz m (Nat.le_refl _) hlt2
   have fb:=hr.out.1.fb (m*4)
   have hbb:bb<wr.heap.size:=World.block_lt_of_cell? wr _ rz
   have hcb:bb+1<wr.heap.size:=World.block_lt_of_cell? wr _ c5
   go_wp2
   go_region
   generalize hW:((wr.setCell ⟨bb,m*4,none⟩ (.slice (some ⟨wr.heap.size,0,none⟩) L L)).alloc (.cells (qK L) 5)).drew=W4
   obtain⟨q1,q2,q3,q4,q5⟩:=SN hbb rz W4 hW
   have hne:bb≠wr.heap.size:=Nat.ne_of_lt hbb
   have c5b:W4.cell? ⟨bb+1,5,none⟩=some (.slice (some ⟨bb,0,none⟩) n n):=by
    rw[q1.cell (p:=⟨bb+1,5,none⟩) hcb (λe=>e.elim (λe=>by have e:bb+1=bb:=e;omega) (λe=>by have e:bb+1=wr.heap.size:=e;omega))];exact c5
   have OG:=E_ bb (m*4) wr.heap.size 255 (List.replicate L 0) W4 (by rw[List.length_replicate];omega) hne (by rw[List.length_replicate];exact q3) q5
   rw[List.length_replicate] at OG
   have HQ:Hid (Keep (λb=>b=bb\/b=wr.heap.size) wr W4/\(∀ o,o≠m*4->W4.cell? ⟨bb,o,none⟩=wr.cell? ⟨bb,o,none⟩)/\W4.cell? ⟨bb,m*4,none⟩=some (.slice (some ⟨wr.heap.size,0,none⟩) L L)/\(∀ o,W4.frozen? ⟨bb,o,none⟩=wr.frozen? ⟨bb,o,none⟩)):=⟨q1,q2,q3,q4⟩
   clear hW q1 q2 q3 q4 q5 c5 g2 g3 rz fb
   go_wp2_with fail
   refine OG.mono ?_
   rintro e w5 ⟨rfl,h5,hk5⟩
   have HR:Hid (PH D B n P Y w5 w.heap.size (bb+1) bb (upd pb m wr.heap.size) (m+1)/\(∀ k,k<m+1->w.heap.size<=upd pb m wr.heap.size k)/\Below w.heap.size w w5):=by
    obtain⟨q1,q2,q3,q4⟩:=HQ.out
    have hs4:wr.heap.size<=W4.heap.size:=q1.size
    have XC:bb<W4.heap.size:=by omega
    have hk:Keep (λb=>b=bb\/b=wr.heap.size) wr w5:=q1.trans (hk5.mono λb hb=>Or.inr hb)
    have hle:=hr.out.2.2.size
    refine⟨hr.out.1.step hlt2 hk hbb (λo ho=>?_) ?_ (λo=>?_) (by rw[HL.out];exact h5),λk hk'=>?_,hr.out.2.2.trans (hk.below hle (λb hb=>hb.elim (λe=>by omega) (λe=>by omega)))⟩
    .rw[hk5.cell (p:=⟨bb,o,none⟩) XC hne];exact q2 o ho
    .rw[hk5.cell (p:=⟨bb,m*4,none⟩) XC hne,HL.out];exact q3
    .rw[hk5.frozen (p:=⟨bb,o,none⟩) XC hne,q4 o];exact hr.out.1.fb o
    .by_cases e:k=m
     .rw[e,upd_same];exact hle
     .rw[upd_ne _ _ _ _ e];exact hr.out.2.1 k (by omega)
   clear h5 hk5 HQ OG
   go_wp2
   go_roundw
   case rel=>exact⟨m+1,_,by omega,by go_num,HR.out⟩
   case measure=>simp[intOf];omega
  .obtain rfl:m=n:=by omega
   have HF:Hid (CH D B P Y wr (bb+1) bb pb (blank (P*Y))):=by
    have h:=hr.out.1
    rw[<-HN.out] at h
    exact h.done
   go_wp2
   go_ret2
   refine⟨_,_,pb,rfl,HF.out,?_,hr.out.2.2⟩
   rintro b (rfl|rfl|⟨k,hk,rfl⟩)
   .omega
   .omega
   .rw[HN.out] at hk;exact hr.out.2.1 k hk
variable {B D P Y bb cb:Nat} {pb:Nat->Nat} {s:St}
def lH(s:St)(k page Y:Nat)(xs:List Nat):St:={ s with bytes:=upd s.bytes k (splice (s.bytes k) (page*Y) xs),next:=upd s.next k (page+1) }
theorem qj{l xs:List Nat}(h:aW l)(hx:aW xs)(off:Nat):aW (splice l off xs):=by
 intro x hm
 unfold splice at hm
 rw[List.mem_append,List.mem_append] at hm
 rcases hm with hm|hm|hm
 .exact h x (List.mem_of_mem_take hm)
 .exact hx x hm
 .exact h x (List.mem_of_mem_drop hm)
theorem Cw(d b page ab ao cap:Nat)(bs:List Nat)(w:World)(hG:Geo D B P Y)(h:CH D B P Y w cb bb pb s)(ho:s.off=false)
 (hd:d<D) (hb:b<B) (hp:page<P) (hl:bs.length=Y) (hA:aW bs) (hc:Y<=cap) (hL:∀ i,i<bs.length->w.cell? ⟨ab,ao+i,none⟩=some (.int .u8 ((bs[i]?.getD 0:Nat):Int)))
 (hbad:s.bad (d*B+b)=false) (hnx:s.next (d*B+b)=page) :
 Calls (PB prog false) 66 #[.pointer (some ⟨cb,0,none⟩),.int .i64 d,.int .i64 b,.int .i64 page,.slice (some ⟨ab,ao,none⟩) Y cap,.int .i64 0] w λe w' =>
  e=.returned .nilIface/\CH D B P Y w' cb bb pb (lH s (d*B+b) page Y bs)/\Keep (Mine (D*B) cb bb pb) w w':=by
 have hlt:d*B+b<D*B:=by
  have:(d+1)*B<=D*B:=Nat.mul_le_mul_right B hd
  rw[Nat.add_mul,Nat.one_mul] at this
  omega
 have HF:=cu d b w hG h ho hd hb
 have y1:=hG.y1
 have y0:=hG.y0
 have p1:=hG.p1
 have Xy:=hG.l
 have Xz:page*Y+Y<=P*Y:=by
  have:(page+1)*Y<=P*Y:=Nat.mul_le_mul_right Y hp
  rw[Nat.add_mul,Nat.one_mul] at this
  exact this
 obtain⟨X,HX⟩:∃ X,Hid (page*Y=X):=⟨_,rfl⟩
 obtain⟨L,rY⟩:∃ L,Hid (P*Y=L):=⟨_,rfl⟩
 have hmul:(page:Int)*(Y:Int)=(X:Int):=by
  have:(page:Int)*(Y:Int)=((page*Y:Nat):Int):=by simp
  rw[this,HX.out]
 rw[HX.out,rY.out] at Xz
 rw[rY.out] at Xy
 have hne:¬L=X:=by omega
 have hwr:IntKind.i64.wrap (X:Int)=(X:Int):=by rw[IntKind.wrap_i64];omega
 have hx0:(0:Int)<=(X:Int):=by omega
 have hx1:(X:Int)<=(L:Int):=by omega
 have hx2:(X:Int)<(L:Int):=by omega
 have hpg:(page:Int)<=16:=by omega
 have e1:qg (page:Int) 0 ((P:Int)-1)=true:=dM (by omega)
 have e2:qh 0=true:=gN (by omega)
 have HC:Hid (CH D B P Y w cb bb pb s):=h
 have HG:Hid (Geo D B P Y):=hG
 have HK:Hid (d*B+b<D*B):=hlt
 have HP1:Hid (page+1<=P):=hp
 have HB:Hid (s.bad (d*B+b)=false/\s.next (d*B+b)=page):=⟨hbad,hnx⟩
 have HL:Hid (bs.length=Y/\aW bs/\∀ i,i<bs.length->w.cell? ⟨ab,ao+i,none⟩=some (.int .u8 ((bs[i]?.getD 0:Nat):Int))):=⟨hl,hA,hL⟩
 clear h hG ho hlt hd hb hbad hnx hL hl hA hp
 generalize d*B+b=k at *
 go_enter Al.func66,Tryz.ntmps66
 go_wp2_with fail
 refine HF.mono ?_
 rintro e w1 ⟨rfl,hb1⟩
 clear HF
 have h1:=HC.out.below HG.out.n.1 hb1
 have c4:=h1.c4
 have r0:=h1.r0 k HK.out
 rw[rY.out] at r0
 have r1:=h1.r1 k HK.out
 have r3:=h1.r3 k HK.out
 have f1:=h1.fb (k*4+1)
 rw[HB.out.1] at r3
 rw[HB.out.2] at r1
 have H1:Hid (CH D B P Y w1 cb bb pb s):=h1
 clear h1
 go_wp2_with (first|(go_at_call 100;refine(dS _ _ HG.out H1.out).mono ?_;rintro e w' ⟨rfl,rfl⟩)|(go_at_call 101;refine(cB _ _).mono ?_;rintro e w' ⟨rfl,rfl⟩))
 have HP:Hid (w'.heap[pb k]?=some (.cells ((s.bytes k).map bv).toArray 5 (0,0))/\(s.bytes k).length=L):=⟨H1.out.hp k HK.out,by rw[H1.out.hl k HK.out,rY.out]⟩
 have HS:Hid (bs.length=Nat.min Y (L-X)/\(∀ i,i<bs.length->w'.cell? ⟨ab,ao+i,none⟩=some (.int .u8 ((bs[i]?.getD 0:Nat):Int)))/\X+bs.length<=(s.bytes k).length):=by
  refine⟨?_,λi hi=>?_,?_⟩
  .rw[HL.out.1];exact(Nat.min_eq_left (by omega)).symm
  .rw[hb1.cell (p:=⟨ab,ao+i,none⟩) (World.block_lt_of_cell? w _ (HL.out.2.2 i hi))];exact HL.out.2.2 i hi
  .rw[HL.out.1,HP.out.2];omega
 go_region_law (refine jS (by rfl) (.tmp 74) (.tmp 75) (by rfl) (pb k) X (L-X) (L-X) ab ao Y cap (by rfl) (by rfl) (s.bytes k) bs HP.out.1 HS.out.1 HS.out.2.1 HS.out.2.2 ?_;intro w3 hg3 hk3)
 all_goals
  have h3:=CH.setBytes (H1.out.below HG.out.n.1 ((Below.refl _ _).drew)) HG.out.n.1 k HK.out (splice (s.bytes k) X bs) (by rw[length_splice _ _ _ HS.out.2.2,HP.out.2,rY.out]) (qj (H1.out.ha k HK.out) HL.out.2.1 X) hk3 hg3.out
  have H3:Hid (CH D B P Y w3 cb bb pb { s with bytes:=upd s.bytes k (splice (s.bytes k) X bs) }):=h3
  have K3:Hid (Keep (Mine (D*B) cb bb pb) w w3):=((Keep.of_below hb1).trans (Keep.of_below ((Below.refl _ _).drew))).trans (hk3.mono λq hq=>Or.inr (Or.inr ⟨k,HK.out,hq⟩))
  clear h3 hk3 hg3
  have r1:=H3.out.r1 k HK.out
  have f1:=H3.out.fb (k*4+1)
  simp only[HB.out.2] at r1
  have H4:Hid (CH D B P Y (w3.setCell ⟨bb,k*4+1,none⟩ (.int .i64 ((page+1:Nat):Int))) cb bb pb { s with bytes:=upd s.bytes k (splice (s.bytes k) X bs),next:=upd s.next k (page+1) }):=H3.out.qQ k (page+1) HK.out HP1.out
  have hcast:((page+1:Nat):Int)=(page:Int)+1:=by omega
  rw[hcast] at H4
  clear hcast H1 HP HS
  go_wp2_with fail
  refine(Wm _ _).mono ?_
  rintro e w5 ⟨rfl,rfl⟩
  go_wp2
  go_ret
  refine⟨rfl,?_,K3.out.trans ((Keep.refl _ _).set (Or.inr (Or.inl rfl)) _)⟩
  unfold lH
  rw[HX.out]
  exact H4.out
theorem Cy(d b page ab ao cap:Nat)(bs:List Nat)(w:World)(hG:Geo D B P Y)(h:CH D B P Y w cb bb pb s)(ho:s.off=false)
 (hd:d<D) (hb:b<B) (hp:page<P) (hl:bs.length=Y) (hA:aW bs) (hc:Y<=cap) (hL:∀ i,i<bs.length->w.cell? ⟨ab,ao+i,none⟩=some (.int .u8 ((bs[i]?.getD 0:Nat):Int)))
 (hbad:s.bad (d*B+b)=false) (hnx:s.next (d*B+b)=page) :
 Calls (PB prog false) 66 #[.pointer (some ⟨cb,0,none⟩),.int .i64 d,.int .i64 b,.int .i64 page,.slice (some ⟨ab,ao,none⟩) Y cap,.int .i64 1] w λe w' =>
  e=.returned (.iface 31 (.int .i64 6))/\CH D B P Y w' cb bb pb (lH s (d*B+b) page Y (bs.take (Y/2)))/\Keep (Mine (D*B) cb bb pb) w w':=by
 have hlt:d*B+b<D*B:=by
  have:(d+1)*B<=D*B:=Nat.mul_le_mul_right B hd
  rw[Nat.add_mul,Nat.one_mul] at this
  omega
 have HF:=cu d b w hG h ho hd hb
 have y1:=hG.y1
 have y0:=hG.y0
 have p1:=hG.p1
 have Xy:=hG.l
 have Xz:page*Y+Y<=P*Y:=by
  have:(page+1)*Y<=P*Y:=Nat.mul_le_mul_right Y hp
  rw[Nat.add_mul,Nat.one_mul] at this
  exact this
 obtain⟨X,HX⟩:∃ X,Hid (page*Y=X):=⟨_,rfl⟩
 obtain⟨L,rY⟩:∃ L,Hid (P*Y=L):=⟨_,rfl⟩
 have hmul:(page:Int)*(Y:Int)=(X:Int):=by
  have:(page:Int)*(Y:Int)=((page*Y:Nat):Int):=by simp
  rw[this,HX.out]
 rw[HX.out,rY.out] at Xz
 rw[rY.out] at Xy
 have hne:¬L=X:=by omega
 have hwr:IntKind.i64.wrap (X:Int)=(X:Int):=by rw[IntKind.wrap_i64];omega
 have hx0:(0:Int)<=(X:Int):=by omega
 have hx1:(X:Int)<=(L:Int):=by omega
 have hx2:(X:Int)<(L:Int):=by omega
 have hpg:(page:Int)<=16:=by omega
 have e1:qg (page:Int) 0 ((P:Int)-1)=true:=dM (by omega)
 have e2:qh 1=true:=gN (by omega)
 have HC:Hid (CH D B P Y w cb bb pb s):=h
 have HG:Hid (Geo D B P Y):=hG
 have HK:Hid (d*B+b<D*B):=hlt
 have HP1:Hid (page+1<=P):=hp
 have HB:Hid (s.bad (d*B+b)=false/\s.next (d*B+b)=page):=⟨hbad,hnx⟩
 obtain⟨xs,Me⟩:∃ xs,Hid (bs.take (Y/2)=xs):=⟨_,rfl⟩
 obtain⟨M,HM⟩:∃ M,Hid (Y/2=M):=⟨_,rfl⟩
 have hM:M<=Y:=by rw[<-HM.out];omega
 have hM2:(M:Int)<=(cap:Int):=by omega
 have hdiv:(Y:Int)/2=(M:Int):=by rw[<-HM.out];omega
 have HL:Hid (xs.length=M/\aW xs/\∀ i,i<xs.length->w.cell? ⟨ab,ao+i,none⟩=some (.int .u8 ((xs[i]?.getD 0:Nat):Int))):=by
  have e:xs.length=M:=by rw[<-Me.out,<-HM.out,List.length_take];omega
  refine⟨e,by rw[<-Me.out];exact hA.take _,λi hi=>?_⟩
  rw[hL i (by omega),<-Me.out,List.getElem?_take,if_pos (by rw[HM.out];omega)]
 rw[Me.out]
 clear h hG ho hlt hd hb hbad hnx hL hl hA hp
 generalize d*B+b=k at *
 go_enter Al.func66,Tryz.ntmps66
 go_wp2_with fail
 refine HF.mono ?_
 rintro e w1 ⟨rfl,hb1⟩
 clear HF
 have h1:=HC.out.below HG.out.n.1 hb1
 have c4:=h1.c4
 have r0:=h1.r0 k HK.out
 rw[rY.out] at r0
 have r1:=h1.r1 k HK.out
 have r3:=h1.r3 k HK.out
 have f1:=h1.fb (k*4+1)
 rw[HB.out.1] at r3
 rw[HB.out.2] at r1
 have H1:Hid (CH D B P Y w1 cb bb pb s):=h1
 clear h1
 go_wp2_with (first|(go_at_call 100;refine(dS _ _ HG.out H1.out).mono ?_;rintro e w' ⟨rfl,rfl⟩)|(go_at_call 101;refine(cB _ _).mono ?_;rintro e w' ⟨rfl,rfl⟩))
 have HP:Hid (w'.heap[pb k]?=some (.cells ((s.bytes k).map bv).toArray 5 (0,0))/\(s.bytes k).length=L):=⟨H1.out.hp k HK.out,by rw[H1.out.hl k HK.out,rY.out]⟩
 have HS:Hid (xs.length=Nat.min M (L-X)/\(∀ i,i<xs.length->w'.cell? ⟨ab,ao+i,none⟩=some (.int .u8 ((xs[i]?.getD 0:Nat):Int)))/\X+xs.length<=(s.bytes k).length):=by
  refine⟨?_,λi hi=>?_,?_⟩
  .rw[HL.out.1];exact(Nat.min_eq_left (by omega)).symm
  .rw[hb1.cell (p:=⟨ab,ao+i,none⟩) (World.block_lt_of_cell? w _ (HL.out.2.2 i hi))];exact HL.out.2.2 i hi
  .rw[HL.out.1,HP.out.2];omega
 go_region_law (refine jS (by rfl) (.tmp 74) (.tmp 75) (by rfl) (pb k) X (L-X) (L-X) ab ao M cap (by rfl) (by rfl) (s.bytes k) xs HP.out.1 HS.out.1 HS.out.2.1 HS.out.2.2 ?_;intro w3 hg3 hk3)
 all_goals
  have h3:=CH.setBytes (H1.out.below HG.out.n.1 ((Below.refl _ _).drew)) HG.out.n.1 k HK.out (splice (s.bytes k) X xs) (by rw[length_splice _ _ _ HS.out.2.2,HP.out.2,rY.out]) (qj (H1.out.ha k HK.out) HL.out.2.1 X) hk3 hg3.out
  have H3:Hid (CH D B P Y w3 cb bb pb { s with bytes:=upd s.bytes k (splice (s.bytes k) X xs) }):=h3
  have K3:Hid (Keep (Mine (D*B) cb bb pb) w w3):=((Keep.of_below hb1).trans (Keep.of_below ((Below.refl _ _).drew))).trans (hk3.mono λq hq=>Or.inr (Or.inr ⟨k,HK.out,hq⟩))
  clear h3 hk3 hg3
  have r1:=H3.out.r1 k HK.out
  have f1:=H3.out.fb (k*4+1)
  simp only[HB.out.2] at r1
  have H4:Hid (CH D B P Y (w3.setCell ⟨bb,k*4+1,none⟩ (.int .i64 ((page+1:Nat):Int))) cb bb pb { s with bytes:=upd s.bytes k (splice (s.bytes k) X xs),next:=upd s.next k (page+1) }):=H3.out.qQ k (page+1) HK.out HP1.out
  have hcast:((page+1:Nat):Int)=(page:Int)+1:=by omega
  rw[hcast] at H4
  clear hcast H1 HP HS
  go_wp2_with fail
  refine(Wn _ _).mono ?_
  rintro e w5 ⟨rfl,rfl⟩
  go_wp2
  go_ret
  refine⟨rfl,?_,K3.out.trans ((Keep.refl _ _).set (Or.inr (Or.inl rfl)) _)⟩
  unfold lH
  rw[HX.out]
  exact H4.out
theorem Cz(d b page ab ao cap:Nat)(bs:List Nat)(w:World)(hG:Geo D B P Y)(h:CH D B P Y w cb bb pb s)(ho:s.off=false)
 (hd:d<D) (hb:b<B) (hp:page<P) (hl:bs.length=Y) (hA:aW bs) (hc:Y<=cap) (hL:∀ i,i<bs.length->w.cell? ⟨ab,ao+i,none⟩=some (.int .u8 ((bs[i]?.getD 0:Nat):Int)))
 (hbad:s.bad (d*B+b)=false) (hnx:s.next (d*B+b)=page) :
 Calls (PB prog false) 66 #[.pointer (some ⟨cb,0,none⟩),.int .i64 d,.int .i64 b,.int .i64 page,.slice (some ⟨ab,ao,none⟩) Y cap,.int .i64 2] w λe w' =>
  e=.returned (.iface 31 (.int .i64 7))/\CH D B P Y w' cb bb pb { lH s (d*B+b) page Y (bs.take (Y/2)) with off:=true }/\Keep (Mine (D*B) cb bb pb) w w':=by
 have hlt:d*B+b<D*B:=by
  have:(d+1)*B<=D*B:=Nat.mul_le_mul_right B hd
  rw[Nat.add_mul,Nat.one_mul] at this
  omega
 have HF:=cu d b w hG h ho hd hb
 have y1:=hG.y1
 have y0:=hG.y0
 have p1:=hG.p1
 have Xy:=hG.l
 have Xz:page*Y+Y<=P*Y:=by
  have:(page+1)*Y<=P*Y:=Nat.mul_le_mul_right Y hp
  rw[Nat.add_mul,Nat.one_mul] at this
  exact this
 obtain⟨X,HX⟩:∃ X,Hid (page*Y=X):=⟨_,rfl⟩
 obtain⟨L,rY⟩:∃ L,Hid (P*Y=L):=⟨_,rfl⟩
 have hmul:(page:Int)*(Y:Int)=(X:Int):=by
  have:(page:Int)*(Y:Int)=((page*Y:Nat):Int):=by simp
  rw[this,HX.out]
 rw[HX.out,rY.out] at Xz
 rw[rY.out] at Xy
 have hne:¬L=X:=by omega
 have hwr:IntKind.i64.wrap (X:Int)=(X:Int):=by rw[IntKind.wrap_i64];omega
 have hx0:(0:Int)<=(X:Int):=by omega
 have hx1:(X:Int)<=(L:Int):=by omega
 have hx2:(X:Int)<(L:Int):=by omega
 have hpg:(page:Int)<=16:=by omega
 have e1:qg (page:Int) 0 ((P:Int)-1)=true:=dM (by omega)
 have e2:qh 2=true:=gN (by omega)
 have HC:Hid (CH D B P Y w cb bb pb s):=h
 have HG:Hid (Geo D B P Y):=hG
 have HK:Hid (d*B+b<D*B):=hlt
 have HP1:Hid (page+1<=P):=hp
 have HB:Hid (s.bad (d*B+b)=false/\s.next (d*B+b)=page):=⟨hbad,hnx⟩
 obtain⟨xs,Me⟩:∃ xs,Hid (bs.take (Y/2)=xs):=⟨_,rfl⟩
 obtain⟨M,HM⟩:∃ M,Hid (Y/2=M):=⟨_,rfl⟩
 have hM:M<=Y:=by rw[<-HM.out];omega
 have hM2:(M:Int)<=(cap:Int):=by omega
 have hdiv:(Y:Int)/2=(M:Int):=by rw[<-HM.out];omega
 have HL:Hid (xs.length=M/\aW xs/\∀ i,i<xs.length->w.cell? ⟨ab,ao+i,none⟩=some (.int .u8 ((xs[i]?.getD 0:Nat):Int))):=by
  have e:xs.length=M:=by rw[<-Me.out,<-HM.out,List.length_take];omega
  refine⟨e,by rw[<-Me.out];exact hA.take _,λi hi=>?_⟩
  rw[hL i (by omega),<-Me.out,List.getElem?_take,if_pos (by rw[HM.out];omega)]
 rw[Me.out]
 clear h hG ho hlt hd hb hbad hnx hL hl hA hp
 generalize d*B+b=k at *
 go_enter Al.func66,Tryz.ntmps66
 go_wp2_with fail
 refine HF.mono ?_
 rintro e w1 ⟨rfl,hb1⟩
 clear HF
 have h1:=HC.out.below HG.out.n.1 hb1
 have c4:=h1.c4
 have r0:=h1.r0 k HK.out
 rw[rY.out] at r0
 have r1:=h1.r1 k HK.out
 have r3:=h1.r3 k HK.out
 have f1:=h1.fb (k*4+1)
 rw[HB.out.1] at r3
 rw[HB.out.2] at r1
 have H1:Hid (CH D B P Y w1 cb bb pb s):=h1
 clear h1
 go_wp2_with (first|(go_at_call 100;refine(dS _ _ HG.out H1.out).mono ?_;rintro e w' ⟨rfl,rfl⟩)|(go_at_call 101;refine(cB _ _).mono ?_;rintro e w' ⟨rfl,rfl⟩))
 have HP:Hid (w'.heap[pb k]?=some (.cells ((s.bytes k).map bv).toArray 5 (0,0))/\(s.bytes k).length=L):=⟨H1.out.hp k HK.out,by rw[H1.out.hl k HK.out,rY.out]⟩
 have HS:Hid (xs.length=Nat.min M (L-X)/\(∀ i,i<xs.length->w'.cell? ⟨ab,ao+i,none⟩=some (.int .u8 ((xs[i]?.getD 0:Nat):Int)))/\X+xs.length<=(s.bytes k).length):=by
  refine⟨?_,λi hi=>?_,?_⟩
  .rw[HL.out.1];exact(Nat.min_eq_left (by omega)).symm
  .rw[hb1.cell (p:=⟨ab,ao+i,none⟩) (World.block_lt_of_cell? w _ (HL.out.2.2 i hi))];exact HL.out.2.2 i hi
  .rw[HL.out.1,HP.out.2];omega
 go_region_law (refine jS (by rfl) (.tmp 74) (.tmp 75) (by rfl) (pb k) X (L-X) (L-X) ab ao M cap (by rfl) (by rfl) (s.bytes k) xs HP.out.1 HS.out.1 HS.out.2.1 HS.out.2.2 ?_;intro w3 hg3 hk3)
 all_goals
  have h3:=CH.setBytes (H1.out.below HG.out.n.1 ((Below.refl _ _).drew)) HG.out.n.1 k HK.out (splice (s.bytes k) X xs) (by rw[length_splice _ _ _ HS.out.2.2,HP.out.2,rY.out]) (qj (H1.out.ha k HK.out) HL.out.2.1 X) hk3 hg3.out
  have H3:Hid (CH D B P Y w3 cb bb pb { s with bytes:=upd s.bytes k (splice (s.bytes k) X xs) }):=h3
  have K3:Hid (Keep (Mine (D*B) cb bb pb) w w3):=((Keep.of_below hb1).trans (Keep.of_below ((Below.refl _ _).drew))).trans (hk3.mono λq hq=>Or.inr (Or.inr ⟨k,HK.out,hq⟩))
  clear h3 hk3 hg3
  have r1:=H3.out.r1 k HK.out
  have f1:=H3.out.fb (k*4+1)
  simp only[HB.out.2] at r1
  have H4:Hid (CH D B P Y (w3.setCell ⟨bb,k*4+1,none⟩ (.int .i64 ((page+1:Nat):Int))) cb bb pb { s with bytes:=upd s.bytes k (splice (s.bytes k) X xs),next:=upd s.next k (page+1) }):=H3.out.qQ k (page+1) HK.out HP1.out
  have hcast:((page+1:Nat):Int)=(page:Int)+1:=by omega
  rw[hcast] at H4
  clear hcast H1 HP HS
  go_wp2_with fail
  refine(Wo _ H4.out).mono ?_
  rintro e w5 ⟨rfl,h5,hk5⟩
  have H5:Hid (CH D B P Y w5 cb bb pb { s with off:=true,bytes:=upd s.bytes k (splice (s.bytes k) X xs),next:=upd s.next k (page+1) }):=h5
  clear h5
  go_wp2
  go_ret
  refine⟨rfl,?_,(K3.out.trans ((Keep.refl _ _).set (Or.inr (Or.inl rfl)) _)).trans hk5⟩
  unfold lH
  rw[HX.out]
  exact H5.out
def AA(D B P Y:Nat)(s:St)(die block page:Int)(bs:List Nat)(f:Int):Nat × St :=
 if s.off=true then(7,s)
 else if ¬(0<=die/\die<D/\0<=block/\block<B) then(1,s)
 else if ¬(0<=page/\page<P)\/¬(0<=f/\f<=2) then(1,s)
 else if bs.length≠Y then(2,s)
 else if s.bad (jT B die block)=true then(6,s)
 else if page≠(s.next (jT B die block):Int) then(5,s)
 else if f=0 then(0,lH s (jT B die block) page.toNat Y bs)
 else if f=1 then(6,lH s (jT B die block) page.toNat Y (bs.take (Y/2)))
 else(7,{ lH s (jT B die block) page.toNat Y (bs.take (Y/2)) with off:=true })
def xS(D B P Y:Nat)(s:St)(die block f:Int):Nat × St :=
 if s.off=true then(7,s)
 else if ¬(0<=die/\die<D/\0<=block/\block<B) then(1,s)
 else if ¬(0<=f/\f<=2) then(1,s)
 else if s.bad (jT B die block)=true then(6,s)
 else if f=0 then(0,{ s with bytes:=upd s.bytes (jT B die block) (List.replicate (P*Y) 255),next:=upd s.next (jT B die block) 0,aF:=upd s.aF (jT B die block) (s.aF (jT B die block)+1) })
 else if f=1 then(6,{ s with bad:=upd s.bad (jT B die block) true })
 else(7,{ s with off:=true,bytes:=upd s.bytes (jT B die block) (List.replicate (P*Y) 0),next:=upd s.next (jT B die block) P,aF:=upd s.aF (jT B die block) (s.aF (jT B die block)+1) })
theorem Fh{D B P Y cb bb:Nat}{pb:Nat->Nat}{s:St}(die block page f:Int)(a:Option Addr)(bs:List Nat)(cap:Nat)(w:World)(hG:Geo D B P Y)(h:CH D B P Y w cb bb pb s)(hA:aW bs)(hc:bs.length<=cap)(hL:bN w a bs) :
 Calls (PB prog false) 66 #[.pointer (some ⟨cb,0,none⟩),.int .i64 die,.int .i64 block,.int .i64 page,.slice a bs.length cap,.int .i64 f] w λe w' =>
  e=.returned (cK (AA D B P Y s die block page bs f).1)/\CH D B P Y w' cb bb pb (AA D B P Y s die block page bs f).2/\Keep (Mine (D*B) cb bb pb) w w':=by
 unfold AA
 by_cases ho:s.off=true
 .rw[if_pos ho]
  exact(Fb die block page f a bs.length cap w hG h ho).mono λe w' ⟨h1,h2⟩=>⟨h1,h2▸h,h2▸Keep.refl _ _⟩
 rw[if_neg ho]
 have ho':s.off=false:=by simpa using ho
 by_cases hh:¬(0<=die/\die<D/\0<=block/\block<B)
 .rw[if_pos hh]
  exact(Ct die block page f a bs.length cap w hG h ho' hh).mono λe w' ⟨h1,h2⟩=>⟨h1,h2▸h,h2▸Keep.refl _ _⟩
 replace hh:=Classical.not_not.1 hh
 rw[if_neg (λe=>e hh)]
 have hb:∀ {w':World},Below w.heap.size w w'->CH D B P Y w' cb bb pb s/\Keep (Mine (D*B) cb bb pb) w w':=λhb=>⟨h.below hG.n.1 hb,Keep.of_below hb⟩
 by_cases hp:¬(0<=page/\page<P)
 .rw[if_pos (Or.inl hp)]
  exact(Cu die block page f a bs.length cap w hG h ho' hh hp).mono λe w' ⟨h1,h2⟩=>⟨h1,hb h2⟩
 replace hp:=Classical.not_not.1 hp
 by_cases hf:¬(0<=f/\f<=2)
 .rw[if_pos (Or.inr hf)]
  exact(zK die block page f a bs.length cap w hG h ho' hh hp hf).mono λe w' ⟨h1,h2⟩=>⟨h1,hb h2⟩
 replace hf:=Classical.not_not.1 hf
 rw[if_neg (λe=>e.elim (λe=>e hp) (λe=>e hf))]
 by_cases hn:¬(bs.length=Y)
 .rw[if_pos hn]
  exact(zL die block page f a bs.length cap w hG h ho' hh hp hf hn).mono λe w' ⟨h1,h2⟩=>⟨h1,hb h2⟩
 replace hn:=Classical.not_not.1 hn
 rw[if_neg (λe=>e hn)]
 by_cases hbd:s.bad (jT B die block)=true
 .rw[if_pos hbd]
  exact(Fe die block page f a bs.length cap w hG h ho' hh hp hf hn hbd).mono λe w' ⟨h1,h2⟩=>⟨h1,hb h2⟩
 rw[if_neg hbd]
 have CF:s.bad (jT B die block)=false:=by simpa using hbd
 by_cases hx:¬(page=(s.next (jT B die block):Int))
 .rw[if_pos hx]
  exact(zM die block page f a bs.length cap w hG h ho' hh hp hf hn CF hx).mono λe w' ⟨h1,h2⟩=>⟨h1,hb h2⟩
 replace hx:=Classical.not_not.1 hx
 rw[if_neg (λe=>e hx)]
 have hy0:=hG.y0
 rcases hL with hL|⟨ab,ao,rfl,hL⟩
 .rw[hL] at hn;simp at hn;omega
 have hh':Here D B die block:=hh
 obtain⟨d,b,rfl,rfl,hd,hb',hk,hlt⟩:=hh'.nat
 rw[hk] at hx CF ⊢
 obtain⟨p,rfl⟩:∃ p:Nat,page=p:=⟨page.toNat,by omega⟩
 have hp':p<P:=by omega
 have hx':s.next (d*B+b)=p:=by omega
 rw[show (p:Int).toNat=p from rfl]
 have hc':Y<=cap:=by omega
 by_cases f0:f=0
 .subst f0
  rw[if_pos rfl,hn]
  exact Cw d b p ab ao cap bs w hG h ho' hd hb' hp' hn hA hc' hL CF hx'
 rw[if_neg f0]
 by_cases f1:f=1
 .subst f1
  rw[if_pos rfl,hn]
  exact Cy d b p ab ao cap bs w hG h ho' hd hb' hp' hn hA hc' hL CF hx'
 rw[if_neg f1]
 obtain rfl:f=2:=by omega
 rw[hn]
 exact Cz d b p ab ao cap bs w hG h ho' hd hb' hp' hn hA hc' hL CF hx'
theorem Mh{D B P Y cb bb:Nat}{pb:Nat->Nat}{s:St}(die block f:Int)(w:World)(hG:Geo D B P Y)(h:CH D B P Y w cb bb pb s)(hwr:∀ k,s.aF k<4611686018427387904) :
 Calls (PB prog false) 125 #[.pointer (some ⟨cb,0,none⟩),.int .i64 die,.int .i64 block,.int .i64 f] w λe w' =>
  e=.returned (cK (xS D B P Y s die block f).1)/\CH D B P Y w' cb bb pb (xS D B P Y s die block f).2/\Keep (Mine (D*B) cb bb pb) w w':=by
 unfold xS
 by_cases ho:s.off=true
 .rw[if_pos ho]
  exact(Ma die block f w hG h ho).mono λe w' ⟨h1,h2⟩=>⟨h1,h2▸h,h2▸Keep.refl _ _⟩
 rw[if_neg ho]
 have ho':s.off=false:=by simpa using ho
 by_cases hh:¬(0<=die/\die<D/\0<=block/\block<B)
 .rw[if_pos hh]
  exact(Hy die block f w hG h ho' hh).mono λe w' ⟨h1,h2⟩=>⟨h1,h2▸h,h2▸Keep.refl _ _⟩
 replace hh:=Classical.not_not.1 hh
 rw[if_neg (λe=>e hh)]
 have hb:∀ {w':World},Below w.heap.size w w'->CH D B P Y w' cb bb pb s/\Keep (Mine (D*B) cb bb pb) w w':=λhb=>⟨h.below hG.n.1 hb,Keep.of_below hb⟩
 by_cases hf:¬(0<=f/\f<=2)
 .rw[if_pos hf]
  exact(Fg die block f w hG h ho' hh hf).mono λe w' ⟨h1,h2⟩=>⟨h1,hb h2⟩
 replace hf:=Classical.not_not.1 hf
 rw[if_neg (λe=>e hf)]
 by_cases hbd:s.bad (jT B die block)=true
 .rw[if_pos hbd]
  exact(Mc die block f w hG h ho' hh hf hbd).mono λe w' ⟨h1,h2⟩=>⟨h1,hb h2⟩
 rw[if_neg hbd]
 have CF:s.bad (jT B die block)=false:=by simpa using hbd
 by_cases f0:f=0
 .subst f0
  rw[if_pos rfl]
  exact Hz die block w hG h ho' hh CF (hwr _)
 rw[if_neg f0]
 by_cases f1:f=1
 .subst f1
  rw[if_pos rfl]
  exact Ia die block w hG h ho' hh CF (hwr _)
 rw[if_neg f1]
 obtain rfl:f=2:=by omega
 exact H_ die block w hG h ho' hh CF (hwr _)
