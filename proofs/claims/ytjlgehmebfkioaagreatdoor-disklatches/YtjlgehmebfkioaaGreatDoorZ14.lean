/- Part of the proof. -/
import Derived.Test.YtjlgehmebfkioaaGreatDoorZ13
set_option maxRecDepth 100000
open Go.Proofs.Tryz (prog)
open Go.Proofs.ah.Al (PB)
set_option maxHeartbeats 12800000
set_option linter.unusedVariables false
namespace Go.Proofs.aA
open au aj Go.RowKit aB aD ah
structure NL(w:World)(S:Nat->Prop)(nb L m:Nat)(V:Nat->List Nat):Prop where
 row:∀ j,j<L->∃ a c,w.cell? ⟨nb,j,none⟩=some (.slice a m c)/\bL w a (V j)/\∀ b off,a=some ⟨b,off,none⟩->S b/\b≠nb
 len:∀ j,j<L->(V j).length=m
 fr:∀ j,w.frozen? ⟨nb,j,none⟩=false
 own:S nb
section
variable {w w' w1 wr:World} {S S' T R:Nat->Prop} {nb L m:Nat} {V:Nat->List Nat}
theorem AZ(hk:Keep T w w'){b:Nat}(h:¬T b){o:Nat}{v:Value}(hv:w.cell? ⟨b,o,none⟩=some v):w'.cell? ⟨b,o,none⟩=some v:=(World.cell?_of_block (w:=w) (hk.block b (World.block_lt_of_cell? w _ hv) h)).trans hv
theorem oL(hk:Keep T w w'){a:Option Addr}{l:List Nat}(h:bL w a l)(hT:∀ b off,a=some ⟨b,off,none⟩->¬T b):bL w' a l:=by
 rcases h with h|⟨b,off,e,h⟩
 .exact Or.inl h
 .exact Or.inr ⟨b,off,e,λi hi=>AZ hk (hT b off e) (h i hi)⟩
theorem NL.keep(h:NL w S nb L m V)(hk:Keep T w w')(hT:∀ b,S b->¬T b)(hlt:nb<w.heap.size):NL w' S nb L m V:=by
 refine⟨λj hj=>?_,h.len,λj=>?_,h.own⟩
 .obtain⟨a,c,h1,h2,h3⟩:=h.row j hj
  exact⟨a,c,AZ hk (hT _ h.own) h1,oL hk h2 (λb off e=>hT b (h3 b off e).1),h3⟩
 .rw[World.frozen?_of_block (w:=w) (hk.block nb hlt (hT _ h.own))]
  exact h.fr j
theorem NL.more(h:NL w S nb L m V)(hs:∀ b,S b->S' b):NL w S' nb L m V :=
 ⟨λj hj=>by obtain⟨a,c,h1,h2,h3⟩:=h.row j hj;exact⟨a,c,h1,h2,λb off e=>⟨hs b (h3 b off e).1,(h3 b off e).2⟩⟩,h.len,h.fr,hs _ h.own⟩
variable {g:Gm} {n db:Nat} {bad bf N:Nat}
def PN(w1 w:World)(g:Gm)(n db nb:Nat)(V:Nat->List Nat)(bad bf:Nat):Prop :=
 ∃ R:Nat->Prop,CL g R n w db V bad bf/\(∀ b,R b->b<w.heap.size)/\(∀ b,b<w1.heap.size->R b)/\NL w R nb g.L (g.Y-21) V/\Below w1.heap.size w1 w
def PX(w1 wr w:World)(N:Nat)(X:Nat->Prop)(g:Gm)(n db nb:Nat)(Vd Vn:Nat->List Nat)(bad bf:Nat):Prop :=
 ∃ R S:Nat->Prop,CL g R n w db Vd bad bf/\(∀ b,R b->b<w.heap.size)/\(∀ b,b<w1.heap.size->R b)/\(∀ b,S b->R b/\(b<wr.heap.size\/X b))/\(∀ b,wr.heap.size<=b->b<N->R b)/\NL w S nb g.L (g.Y-21) Vn/\Below w1.heap.size w1 w/\wr.heap.size<=w.heap.size/\N<=w.heap.size
variable {X:Nat->Prop} {Vd Vn:Nat->List Nat}
theorem PN.begin(h:PN w1 wr g n db nb V bad bf)(hb:Below wr.heap.size wr w):PX w1 wr w w.heap.size (λ_=>False) g n db nb V V bad bf:=by
 obtain⟨R,h1,h2,h3,h4,h5⟩:=h
 have hs:=hb.size
 refine⟨λb=>R b\/(wr.heap.size<=b/\b<w.heap.size),R,(h1.more (λb e=>e.elim Or.inl (λe=>Or.inr e.1))).below hb,λb e=>e.elim (λe=>by have:=h2 b e;omega) (λe=>e.2),λb e=>Or.inl (h3 b e),λb e=>⟨Or.inl e,Or.inl (h2 b e)⟩,λb e1 e2=>Or.inr ⟨e1,e2⟩,h4.keep (Keep.of_below (S:=λ_=>False) hb) (λ_ _ e=>e) (h2 _ h4.own),h5.trans (hb.mono h5.size),hs,Nat.le_refl _⟩
theorem PN.late{k:Nat}(h:PN w1 w g n db nb V bad bf)(hk:n<=k):PN w1 w g k db nb V bad bf:=by
 obtain⟨R,h1,h2⟩:=h
 exact⟨R,h1.late hk,h2⟩
theorem PN.below(h:PN w1 w g n db nb V bad bf)(hb:Below w.heap.size w w'):PN w1 w' g n db nb V bad bf:=by
 obtain⟨R,h1,h2,h3,h4,h5⟩:=h
 exact⟨R,h1.below hb,λb e=>Nat.lt_of_lt_of_le (h2 b e) hb.size,h3,h4.keep (Keep.of_below (S:=λ_=>False) hb) (λ_ _ e=>e) (h2 _ h4.own),h5.trans (hb.mono h5.size)⟩
theorem PN.dx(h:PN w1 w g n db nb V bad bf):Below w1.heap.size w1 w:=by
 obtain⟨R,h1,h2,h3,h4,h5⟩:=h
 exact h5
theorem PX.below(h:PX w1 wr w N X g n db nb Vd Vn bad bf)(hb:Below w.heap.size w w'):PX w1 wr w' N X g n db nb Vd Vn bad bf:=by
 obtain⟨R,S,h1,h2,h3,h4,h5,h6,h7,h8,h9⟩:=h
 have hs:=hb.size
 exact⟨R,S,h1.below hb,λb e=>Nat.lt_of_lt_of_le (h2 b e) hs,h3,h4,h5,h6.keep (Keep.of_below (S:=λ_=>False) hb) (λ_ _ e=>e) (h2 _ (h4 _ h6.own).1),h7.trans (hb.mono h7.size),by omega,by omega⟩
theorem PX.more{M:Nat}(h:PX w1 wr w N X g n db nb Vd Vn bad bf)(hM:w.heap.size<=M)(hb:Below w.heap.size w w')(hM2:M<w'.heap.size):∃ R S:Nat->Prop,(CL g R n w' db Vd bad bf/\(∀ b,R b->b<w'.heap.size)/\(∀ b,b<w1.heap.size->R b)/\(∀ b,S b->R b/\(b<wr.heap.size\/X b))/\(∀ b,wr.heap.size<=b->b<N->R b)/\NL w' S nb g.L (g.Y-21) Vn/\Below w1.heap.size w1 w'/\wr.heap.size<=w'.heap.size/\N<=w'.heap.size)/\R M/\(∀ b,S b->b<w.heap.size):=by
 obtain⟨R,S,h1,h2,h3,h4,h5,h6,h7,h8,h9⟩:=h
 have hs:=hb.size
 refine⟨λb=>R b\/b=M,S,⟨(h1.more (λb e=>e.elim Or.inl (λe=>Or.inr (by omega)))).below hb,λb e=>e.elim (λe=>by have:=h2 b e;omega) (λe=>by omega),λb e=>Or.inl (h3 b e),λb e=>⟨Or.inl (h4 b e).1,(h4 b e).2⟩,λb e1 e2=>Or.inl (h5 b e1 e2),h6.keep (Keep.of_below (S:=λ_=>False) hb) (λ_ _ e=>e) (h2 _ (h4 _ h6.own).1),h7.trans (hb.mono h7.size),by omega,by omega⟩,Or.inr rfl,λb e=>h2 b (h4 b e).1⟩
def IL(wr:World)(N:Nat)(w w':World):Prop:=∀ b,wr.heap.size<=b->b<N->b<w.heap.size->w'.heap[b]?=w.heap[b]?
theorem IL.cell(h:IL wr N w w'){b o:Nat}{v:Value}(h1:wr.heap.size<=b)(h2:b<N)(hv:w.cell? ⟨b,o,none⟩=some v):w'.cell? ⟨b,o,none⟩=some v:=(World.cell?_of_block (h b h1 h2 (World.block_lt_of_cell? w _ hv))).trans hv
theorem PX.fin(h:PX w1 wr w N X g n db nb V V bad bf):PN w1 w g n db nb V bad bf:=by
 obtain⟨R,S,h1,h2,h3,h4,h5,h6,h7,h8,h9⟩:=h
 exact⟨R,h1,h2,h3,h6.more (λb e=>(h4 b e).1),h7⟩
theorem PX.turn{bb:Nat}(h:PX w1 wr w N X g n db nb V V bad bf)(hb1:wr.heap.size<=bb)(hb2:bb<N)(hX:¬X bb)(PE:w1.heap.size<=wr.heap.size)(hk:Keep (λb=>b=bb) w w'):PN w1 w' g n db nb V bad bf:=by
 obtain⟨R,S,h1,h2,h3,h4,h5,h6,h7,h8,h9⟩:=h
 have hs:=hk.size
 have hsb:∀ b,S b->¬b=bb:=λb e e2=>by
  subst e2
  rcases (h4 b e).2 with h|h
  .omega
  .exact hX h
 refine⟨R,h1.keep hk (λb e=>by rw[e];exact h5 bb hb1 hb2),λb e=>Nat.lt_of_lt_of_le (h2 b e) hs,h3,(h6.keep hk hsb (h2 _ (h4 _ h6.own).1)).more (λb e=>(h4 b e).1),h7.trans (hk.below h7.size (λb e=>by omega))⟩
end
end Go.Proofs.aA
namespace Go.Proofs.aA
open ah au aj Go.RowKit aB aD ah
theorem cO(c:Nat)(k:Int)(v:Bool)(w:World)(hv:decide ((c:Int)=k)=v):Calls (PB prog false) 12 #[bU c,.int .i64 k] w λe w'=>e=.returned (.bool v)/\w'=w:=by
 have HT:Hid (Calls (PB prog false) 34 #[bU c] w λe w'=>e=.returned (.int .i64 (c:Nat))/\w'=w):=by
  by_cases h:c=0
  .subst h;rw[bW];exact AA w
  .rw[fu h];exact uX c w
 generalize bU c=ev at *
 go_enter Al.func12,Tryz.ntmps12
 go_wp2_with fail
 refine HT.out.mono ?_
 rintro e w1 ⟨rfl,rfl⟩
 clear HT
 go_wp2
 go_ret
 refine⟨?_,rfl⟩
 rw[<-hv]
 by_cases h:(c:Int)=k<;>simp[h]
theorem J9:bU 1=.iface 31 (.int .i64 1):=rfl
theorem WG:bU 2=.iface 31 (.int .i64 2):=rfl
theorem A8:bU 9=.iface 31 (.int .i64 9):=rfl
def Lt(g:Gm)(bad:Nat):Bool:=decide (g.spare<bad)
def NJ(e:Ending)(w1 w':World)(g:Gm)(n db nb bad bf:Nat):Prop:=e=.returned (.bool true)/\∃ V' bad',PN w1 w' g (n+1) db nb V' bad' bf/\bad<=bad'/\(g.spare<bad->bad'=bad)
theorem GU{w1 w':World}{g:Gm}{n db nb bad bf bad':Nat}{V':Nat->List Nat}(h:PN w1 w' g (n+1) db nb V' bad' bf)(h1:bad<=bad')(h2:g.spare<bad->bad'=bad):NJ (.returned (.bool true)) w1 w' g n db nb bad bf:=⟨rfl,V',bad',h,h1,h2⟩
section
variable {w1 wr w:World} {N:Nat} {X:Nat->Prop} {g:Gm} {n db nb:Nat} {Vd Vn:Nat->List Nat} {bad bf:Nat}
theorem mK(h:PX w1 wr w N X g n db nb Vd Vn bad bf):Calls (PB prog false) 13 #[.pointer (some ⟨db,0,none⟩)] w λe w'=>e=.returned (.int .i64 ((g.Y-21:Nat):Int))/\w'=w:=by
 obtain⟨R,S,h1,_⟩:=h
 exact X5 h1
theorem fI(h:PX w1 wr w N X g n db nb Vd Vn bad bf):Calls (PB prog false) 16 #[.pointer (some ⟨db,0,none⟩)] w λe w'=>e=.returned (.tuple #[.int .i64 (bad:Nat),.bool (Lt g bad),.bool false])/\PX w1 wr w' N X g n db nb Vd Vn bad bf/\Below w.heap.size w w':=by
 obtain⟨R,S,h1,h2⟩:=h
 exact(TM h1).mono λe w' q=>⟨q.1,PX.below ⟨R,S,h1,h2⟩ q.2,q.2⟩
theorem Ed(HL:Lib)(h:PX w1 wr w N X g n db nb Vd Vn bad bf)(hn:n<=100000000000000):Calls (PB prog false) 25 #[.pointer (some ⟨db,0,none⟩)] w λe w'=>∃ c V' bad',e=.returned (bU c)/\PX w1 wr w' N X g (n+1) db nb V' Vn bad' bf/\IL wr N w w'/\ChL g bad bad' Vd V' Vd c:=by
 have h0:=h
 obtain⟨R,S,h1,h2,h3,h4,h5,h6⟩:=h
 refine(TK HL h1 hn).mono ?_
 rintro e w' ⟨c,V',bad',rfl,q1,q2,q3⟩
 have hs:=q2.size
 obtain⟨h6,h7,h8,h9⟩:=h6
 exact⟨c,V',bad',rfl,⟨R,S,q1,λb e=>Nat.lt_of_lt_of_le (h2 b e) hs,h3,h4,h5,h6.keep q2 (λb e e2=>e2 (h4 b e).1) (h2 _ (h4 _ h6.own).1),h7.trans (lD q2 h7.size h3),by omega,by omega⟩,λb e1 e2 e3=>q2.block b e3 (λe=>e (h5 b e1 e2)),q3⟩
theorem J_(HL:Lib)(h:PX w1 wr w N X g n db nb Vd Vn bad bf)(hn:n<=100000000000000)(l:Int):Calls (PB prog false) 30 #[.pointer (some ⟨db,0,none⟩),.int .i64 l] w λe w'=>∃ c V' bad',e=.returned (bU c)/\PX w1 wr w' N X g (n+1) db nb V' Vn bad' bf/\IL wr N w w'/\AnL g bad bad' Vd V' (upd Vd l.toNat (List.replicate (g.Y-21) 0)) (fM g l) c:=by
 obtain⟨R,S,h1,h2,h3,h4,h5,h6,h7,h8,h9⟩:=h
 refine(X3 HL h1 hn l).mono ?_
 rintro e w' ⟨c,V',bad',rfl,q1,q2,q3⟩
 have hs:=q2.size
 exact⟨c,V',bad',rfl,⟨R,S,q1,λb e=>Nat.lt_of_lt_of_le (h2 b e) hs,h3,h4,h5,h6.keep q2 (λb e e2=>e2 (h4 b e).1) (h2 _ (h4 _ h6.own).1),h7.trans (lD q2 h7.size h3),by omega,by omega⟩,λb e1 e2 e3=>q2.block b e3 (λe=>e (h5 b e1 e2)),q3⟩
theorem PK(HL:Lib)(h:PX w1 wr w N X g n db nb Vd Vn bad bf)(hn:n<=100000000000000)(l:Int)(fb cap m:Nat)(data:List Nat)(hA:aZ data)(hL:bL w (some ⟨fb,0,none⟩) data)(hf1:wr.heap.size<=fb)(hf2:fb<N)(hdl:data.length=m)(hm:m<=1000000):Calls (PB prog false) 27 #[.pointer (some ⟨db,0,none⟩),.int .i64 l,.slice (some ⟨fb,0,none⟩) m cap] w λe w'=>∃ c V' bad',e=.returned (bU c)/\PX w1 wr w' N X g (n+1) db nb V' Vn bad' bf/\IL wr N w w'/\AnL g bad bad' Vd V' (upd Vd l.toNat data) (fK g l m) c:=by
 obtain⟨R,S,h1,h2,h3,h4,h5,h6,h7,h8,h9⟩:=h
 refine(TJ HL h1 hn l (some ⟨fb,0,none⟩) cap m data hA hL (λb off e=>by cases e;exact h5 fb hf1 hf2) hdl hm).mono ?_
 rintro e w' ⟨c,V',bad',rfl,q1,q2,q3⟩
 have hs:=q2.size
 exact⟨c,V',bad',rfl,⟨R,S,q1,λb e=>Nat.lt_of_lt_of_le (h2 b e) hs,h3,h4,h5,h6.keep q2 (λb e e2=>e2 (h4 b e).1) (h2 _ (h4 _ h6.own).1),h7.trans (lD q2 h7.size h3),by omega,by omega⟩,λb e1 e2 e3=>q2.block b e3 (λe=>e (h5 b e1 e2)),q3⟩
end
theorem F5(HL:Lib){w1 w:World}{g:Gm}{n db nb cap:Nat}{V:Nat->List Nat}{bad bf:Nat}(h:PN w1 w g n db nb V bad bf)(hn:n<=100000000000000)(l s:Int)(hY:g.Y<=277) :
 Calls (PB prog false) 18 #[.pointer (some ⟨db,0,none⟩),.slice (some ⟨nb,0,none⟩) g.L cap,.agg #[.int .i64 3,.int .i64 l,.int .i64 s],.bool (Lt g bad)] w λe w'=>NJ e w1 w' g n db nb bad bf:=by
 have HP:Hid (∀ o,PX w1 w (w.alloc o) (w.alloc o).heap.size (λ_=>False) g n db nb V V bad bf):=λo=>h.begin (aC w o)
 have HZ:Hid (∀ o:Obj,w.heap.size<(w.alloc o).heap.size):=λo=>by simp
 obtain⟨m,hm⟩:∃ m,g.Y-21=m:=⟨_,rfl⟩
 have HS:Hid (∀ o,Calls (PB prog false) 13 #[.pointer (some ⟨db,0,none⟩)] (w.alloc o) λe w'=>e=.returned (.int .i64 (m:Nat))/\w'=w.alloc o):=λo=>by rw[<-hm];exact mK (HP.out o)
 have HF:Hid (∀ o,Calls (PB prog false) 25 #[.pointer (some ⟨db,0,none⟩)] (w.alloc o) λe w'=>∃ c V' bad',e=.returned (bU c)/\PX w1 w w' (w.alloc o).heap.size (λ_=>False) g (n+1) db nb V' V bad' bf/\IL w (w.alloc o).heap.size (w.alloc o) w'/\ChL g bad bad' V V' V c):=λo=>Ed HL (HP.out o) hn
 clear h hY hm
 by_cases hb:g.spare<bad
 .have hlt:Lt g bad=true:=decide_eq_true hb
  rw[hlt]
  go_enter Al.func18,Tryz.ntmps18
  go_wp2_with fail
  refine(HS.out _).mono ?_
  rintro e wa ⟨rfl,rfl⟩
  clear HS
  go_wp2_with fail
  refine(HF.out _).mono ?_
  rintro e wb ⟨c,V',bad',rfl,q1,q2,q3⟩
  rcases q3 with ⟨_,rfl,rfl,rfl⟩|⟨e1,_⟩
  .have HE:=λW=>cO 9 9 true W (by simp)
   have HT:=fI q1
   rw[hlt] at HT
   clear HF HP q1 q2 hlt HZ
   go_wp2_with fail
   refine(HE _).mono ?_
   rintro e wc ⟨rfl,rfl⟩
   go_wp2_with fail
   refine HT.mono ?_
   rintro e wd ⟨rfl,q1,-⟩
   have HQ:Hid (PN w1 wd g (n+1) db nb V' bad' bf):=q1.fin
   clear HT q1
   go_wp2
   go_ret
   exact GU HQ.out (Nat.le_refl _) (λ_=>rfl)
  .exact absurd hb e1
 .have hlt:Lt g bad=false:=decide_eq_false hb
  rw[hlt]
  go_enter Al.func18,Tryz.ntmps18
  go_wp2_with fail
  refine(HS.out _).mono ?_
  rintro e wa ⟨rfl,rfl⟩
  clear HS
  go_wp2_with fail
  refine(HF.out _).mono ?_
  rintro e wb ⟨c,V',bad',rfl,q1,q2,q3⟩
  rcases q3 with ⟨e1,_⟩|⟨_,hle,⟨rfl,rfl,hb2⟩|⟨rfl,rfl,hb2⟩⟩
  .exact absurd e1 hb
  .have HE:=λW=>cO 0 0 true W (by simp)
   have HT:=fI q1
   rw[show Lt g bad'=false from decide_eq_false hb2] at HT
   clear HF HP q1 q2 hlt HZ
   go_wp2_with fail
   refine(HE _).mono ?_
   rintro e wc ⟨rfl,rfl⟩
   go_wp2_with fail
   refine HT.mono ?_
   rintro e wd ⟨rfl,q1,-⟩
   have HQ:Hid (PN w1 wd g (n+1) db nb V' bad' bf):=q1.fin
   clear HT q1
   go_wp2
   go_ret
   exact GU HQ.out hle (λe=>absurd e hb)
  .have HE:=λW=>cO 9 0 false W (by simp)
   have HE2:=λW=>cO 9 9 true W (by simp)
   have HT:=fI q1
   rw[show Lt g bad'=true from decide_eq_true hb2] at HT
   clear HF HP q1 q2 hlt HZ
   go_wp2_with fail
   refine(HE _).mono ?_
   rintro e wc ⟨rfl,rfl⟩
   go_wp2_with fail
   refine HT.mono ?_
   rintro e wd ⟨rfl,q1,-⟩
   have HQ:Hid (PN w1 wd g (n+1) db nb V' bad' bf):=q1.fin
   clear HT q1
   go_wp2_with fail
   refine(HE2 _).mono ?_
   rintro e we ⟨rfl,rfl⟩
   go_wp2
   go_ret
   exact GU HQ.out hle (λe=>absurd e hb)
structure ZB(w wq:World)(bb k:Nat):Prop where
 keep:Keep (λb=>b=bb) w wq
 cell:∀ j,j<k->∃ x:Int,wq.cell? ⟨bb,j,none⟩=some (.int .u8 x)
 free:∀ j,wq.frozen? ⟨bb,j,none⟩=false
theorem ZB.set{w wq:World}{bb k:Nat}(h:ZB w wq bb k)(i:Nat)(x:Int):ZB w (wq.setCell ⟨bb,i,none⟩ (.int .u8 x)) bb k:=by
 refine⟨h.keep.trans ((Keep.refl _ _).set1 _ _),λj hj=>?_,λj=>?_⟩
 .obtain⟨y,hy⟩:=h.cell j hj
  by_cases e:j=i
  .subst e
   exact⟨x,World.cell?_setCell_same _ _ _ hy⟩
  .exact⟨y,(World.cell?_setCell_other _ _ _ _ (λe2=>e (by cases e2;rfl))).trans hy⟩
 .have:=h.free j
  simpa using this
theorem X6{w:World}{gb:Nat}{l:List Nat}(h:Row w gb l):ZB w w gb l.length :=
 ⟨Keep.refl _ _,λj hj=>⟨_,ig h j hj⟩,λj=>dK h j⟩
section
variable {w1 wr w:World} {N:Nat} {X:Nat->Prop} {g:Gm} {n db nb:Nat} {V Vd Vn:Nat->List Nat} {bad bf:Nat}
theorem Db(HL:Lib)(h:PX w1 wr w N X g n db nb Vd Vn bad bf)(hn:n<=100000000000000)(l:Int):Calls (PB prog false) 23 #[.pointer (some ⟨db,0,none⟩),.int .i64 l] w λe w'=>((fM g l≠0/\e=.returned (.tuple #[.slice none 0 0,bU (fM g l)])/\w'=w)\/(∃ j:Nat,l=j/\j<g.L/\RdP e w w' (Vd j))):=by
 obtain⟨R,S,h1,_⟩:=h
 exact X4 HL h1 hn l
theorem Dc(h:PX w1 wr w N X g n db nb Vd Vn bad bf){j:Nat}(hj:j<g.L):(∃ a c,w.cell? ⟨nb,j,none⟩=some (.slice a (g.Y-21) c)/\bL w a (Vn j))/\(Vn j).length=g.Y-21:=by
 obtain⟨R,S,_,_,_,_,_,h6,_⟩:=h
 obtain⟨a,c,q1,q2,_⟩:=h6.row j hj
 exact⟨⟨a,c,q1,q2⟩,h6.len j hj⟩
theorem PX.TN{w' w2:World}{M:Nat}(h:PX w1 wr w N X g n db nb V V bad bf)(hM:w.heap.size<=M)(hb:Below w.heap.size w w2)(hM2:M<w2.heap.size)(PE:w1.heap.size<=wr.heap.size)(hk:Keep (λb=>b=M) w2 w'):PN w1 w' g n db nb V bad bf:=by
 have hww:wr.heap.size<=w.heap.size:=by obtain⟨_,_,_,_,_,_,_,_,_,h8,_⟩:=h;exact h8
 obtain⟨R,S,⟨q1,q2,q3,q4,q5,q6,q7,q8,q9⟩,qM,qS⟩:=h.more hM hb hM2
 have hs:=hk.size
 exact⟨R,q1.keep hk (λb e=>by rw[e];exact qM),λb e=>Nat.lt_of_lt_of_le (q2 b e) hs,q3,(q6.keep hk (λb e e2=>by have:=qS b e;omega) (q2 _ (q4 _ q6.own).1)).more (λb e=>(q4 b e).1),q7.trans (hk.below q7.size (λb e=>by omega))⟩
theorem PN.szr(h:PN w1 w g n db nb V bad bf):w1.heap.size<=w.heap.size:=h.dx.size
end
theorem zX(HL:Lib){w1 w:World}{g:Gm}{n db nb cap:Nat}{V:Nat->List Nat}{bad bf:Nat}(h:PN w1 w g n db nb V bad bf)(hn:n<=100000000000000)(k l s:Int)(hk1:¬k=1)(hk2:¬k=2)(hk3:¬k=3)(hr:¬(0<=l/\l<(g.L:Int)))(lt:Bool) :
 Calls (PB prog false) 18 #[.pointer (some ⟨db,0,none⟩),.slice (some ⟨nb,0,none⟩) g.L cap,.agg #[.int .i64 k,.int .i64 l,.int .i64 s],.bool lt] w λe w'=>NJ e w1 w' g n db nb bad bf:=by
 have HP:Hid (∀ o,PX w1 w (w.alloc o) (w.alloc o).heap.size (λ_=>False) g n db nb V V bad bf):=λo=>h.begin (aC w o)
 obtain⟨m,hm⟩:∃ m,g.Y-21=m:=⟨_,rfl⟩
 have HS:Hid (∀ o,Calls (PB prog false) 13 #[.pointer (some ⟨db,0,none⟩)] (w.alloc o) λe w'=>e=.returned (.int .i64 (m:Nat))/\w'=w.alloc o):=λo=>by rw[<-hm];exact mK (HP.out o)
 have ht:fM g l=1:=if_pos hr
 have HR:Hid (∀ o,Calls (PB prog false) 23 #[.pointer (some ⟨db,0,none⟩),.int .i64 l] (w.alloc o) λe w'=>e=.returned (.tuple #[.slice none 0 0,bU 1])/\w'=w.alloc o):=λo=>(Db HL (HP.out o) hn l).mono λe w' q=>by
  rw[ht] at q
  rcases q with ⟨_,q⟩|⟨j,rfl,hj,_⟩
  .exact q
  .exact absurd ⟨by omega,by omega⟩ hr
 have HE:=λW=>cO 1 1 true W (by simp)
 have HQ:Hid (∀ o,PN w1 (w.alloc o) g (n+1) db nb V bad bf):=λo=>(HP.out o).fin.late (by omega)
 clear h hm ht HP
 by_cases h0:l<0
 .clear hr
  go_enter Al.func18,Tryz.ntmps18
  go_wp2_with fail
  refine(HS.out _).mono ?_
  rintro e wa ⟨rfl,rfl⟩
  go_wp2_with fail
  refine(HR.out _).mono ?_
  rintro e wb ⟨rfl,rfl⟩
  go_wp2_with fail
  refine(HE _).mono ?_
  rintro e wc ⟨rfl,rfl⟩
  go_wp2
  go_ret
  exact GU (HQ.out _) (Nat.le_refl _) (λ_=>rfl)
 .have h1:(g.L:Int)<=l:=by omega
  clear hr
  go_enter Al.func18,Tryz.ntmps18
  go_wp2_with fail
  refine(HS.out _).mono ?_
  rintro e wa ⟨rfl,rfl⟩
  go_wp2_with fail
  refine(HR.out _).mono ?_
  rintro e wb ⟨rfl,rfl⟩
  go_wp2_with fail
  refine(HE _).mono ?_
  rintro e wc ⟨rfl,rfl⟩
  go_wp2
  go_ret
  exact GU (HQ.out _) (Nat.le_refl _) (λ_=>rfl)
theorem yE(HL:Lib){w1 w:World}{g:Gm}{n db nb cap:Nat}{V:Nat->List Nat}{bad bf:Nat}(h:PN w1 w g n db nb V bad bf)(hn:n<=100000000000000)(k s:Int)(j:Nat)(hk1:¬k=1)(hk2:¬k=2)(hk3:¬k=3)(hj:j<g.L)(hL:g.L<=256)(hY:g.Y<=277)(lt:Bool) :
 Calls (PB prog false) 18 #[.pointer (some ⟨db,0,none⟩),.slice (some ⟨nb,0,none⟩) g.L cap,.agg #[.int .i64 k,.int .i64 (j:Nat),.int .i64 s],.bool lt] w λe w'=>NJ e w1 w' g n db nb bad bf:=by
 have hw1:=h.szr
 have HP:Hid (∀ o,PX w1 w (w.alloc o) (w.alloc o).heap.size (λ_=>False) g n db nb V V bad bf):=λo=>h.begin (aC w o)
 have HW:Hid (w1.heap.size<=w.heap.size):=hw1
 obtain⟨m,hm⟩:∃ m,g.Y-21=m:=⟨_,rfl⟩
 have HS:Hid (∀ o,Calls (PB prog false) 13 #[.pointer (some ⟨db,0,none⟩)] (w.alloc o) λe w'=>e=.returned (.int .i64 (m:Nat))/\w'=w.alloc o):=λo=>by rw[<-hm];exact mK (HP.out o)
 have ht:fM g (j:Int)=0:=if_neg (by simp;omega)
 have HV:Hid ((V j).length=m):=by rw[<-hm];exact(Dc (HP.out (.cells #[] 0)) hj).2
 have HR:Hid (∀ o,Calls (PB prog false) 23 #[.pointer (some ⟨db,0,none⟩),.int .i64 (j:Nat)] (w.alloc o) λe w'=>∃ gb,e=.returned (.tuple #[.slice (some ⟨gb,0,none⟩) m m,.nilIface])/\(w.alloc o).heap.size<=gb/\Row w' gb (V j)/\Below (w.alloc o).heap.size (w.alloc o) w'):=λo=>(Db HL (HP.out o) hn j).mono λe w' q=>by
  rcases q with ⟨q,_⟩|⟨i,hi,_,gb,q1,q2,q3,q4⟩
  .exact absurd ht q
  .obtain rfl:j=i:=by omega
   rw[HV.out] at q1
   exact⟨gb,q1,q2,q3,q4⟩
 have HN:Hid (∀ o w',Below (w.alloc o).heap.size (w.alloc o) w'->∃ a c,w'.cell? ⟨nb,j,none⟩=some (.slice a m c)/\bL w' a (V j)):=λo w' hb=>by
  rw[<-hm];exact(Dc ((HP.out o).below hb) hj).1
 have HE:=λW=>cO 0 0 true W (by simp)
 have hm2:m<=256:=by omega
 have HZ:Hid (∀ o:Obj,w.heap.size<(w.alloc o).heap.size):=λo=>by simp
 have h0:¬((j:Int)<0):=by omega
 have h1:¬((g.L:Int)<=(j:Int)):=by omega
 clear h hm ht hY hw1
 go_enter Al.func18,Tryz.ntmps18
 go_wp2_with fail
 refine(HS.out _).mono ?_
 rintro e wa ⟨rfl,rfl⟩
 go_wp2_with fail
 refine(HR.out _).mono ?_
 rintro e wb ⟨gb,rfl,hge,hrow,hb⟩
 obtain⟨na,nc,hcell,hlies⟩:=HN.out _ wb hb
 have hob:=hb.cell (p:=⟨w.heap.size,1,none⟩) (HZ.out _)
 simp at hob
 have hby:=sQ (some ⟨gb,0,none⟩) na (V j) (V j) m nc wb (by rw[HV.out];omega) (by rw[HV.out];omega) (iU hrow) hlies
 rw[decide_eq_true rfl,HV.out] at hby
 have HG:Hid (gb<wb.heap.size):=aV hrow
 have HK:Hid ((∀ w2 w',Below wb.heap.size wb w2->Keep (λb=>b=gb) w2 w'->PN w1 w' g (n+1) db nb V bad bf)/\∀ w2,Below wb.heap.size wb w2->ZB w2 w2 gb m):=⟨λw2 w' h2 hk=>(PX.TN (HP.out _) (M:=gb) hge (hb.trans (h2.mono hb.size)) (Nat.lt_of_lt_of_le HG.out h2.size) HW.out hk).late (by omega),λw2 h2=>by rw[<-HV.out];exact X6 (hrow.below h2)⟩
 clear HR HN hb hrow HP HS hlies hge HZ
 go_wp2_with fail
 refine(HE _).mono ?_
 rintro e wc ⟨rfl,rfl⟩
 go_wp2_with fail
 refine hby.mono ?_
 rintro e wd ⟨rfl,hbd⟩
 have HD:Hid (Below wc.heap.size wc wd/\ZB wd wd gb m):=⟨hbd,HK.out.2 wd hbd⟩
 clear hby hbd hcell hob
 go_wp2
 go_loopw [34] (λx wq=>∃ (i:Nat),i<=m/\x=.int .i64 i/\Hid (ZB wd wq gb m)) (λx _=>m-(intOf x).toNat)
 case atStart=>exact⟨0,Nat.zero_le _,rfl,HD.out.2⟩
 case round =>
  obtain⟨i,hi,rfl,hR⟩:=hrel
  by_cases hlt:i<m
  .obtain⟨x,hx⟩:=hR.out.cell i hlt
   have hf:=hR.out.free i
   have HT:Hid (∀ y,ZB wd (wr.setCell ⟨gb,i,none⟩ (.int .u8 y)) gb m):=λy=>hR.out.set i y
   clear hR
   go_wp2
   exact⟨⟨i+1,by omega,by go_num,HT.out _⟩,by simp[intOf];omega⟩
  .obtain rfl:i=m:=by omega
   have HF:Hid (PN w1 wr g (n+1) db nb V bad bf):=HK.out.1 wd wr HD.out.1 hR.out.keep
   clear hR HK HD
   go_wp2
   go_ret
   exact GU HF.out (Nat.le_refl _) (λ_=>rfl)
theorem PX.PL{w1 wr w w2 w':World}{N:Nat}{g:Gm}{n db nb bad bf:Nat}{V:Nat->List Nat}{j c ab off:Nat}{l:List Nat}(h:PX w1 wr w N (λ_=>False) g n db nb (upd V j l) V bad bf)(hj:j<g.L)(hl:l.length=g.Y-21)(hb:Below w.heap.size w w2)(hM:w.heap.size<=ab)(hM2:ab<w2.heap.size)(hk:Keep (λb=>b=nb) w2 w')(hc:w'.cell? ⟨nb,j,none⟩=some (.slice (some ⟨ab,off,none⟩) (g.Y-21) c))(ho:∀ i,i≠j->w'.cell? ⟨nb,i,none⟩=w2.cell? ⟨nb,i,none⟩)(hf:∀ i,w'.frozen? ⟨nb,i,none⟩=w2.frozen? ⟨nb,i,none⟩)(hL:bL w2 (some ⟨ab,off,none⟩) l)(PE:w1.heap.size<=nb):PX w1 wr w' N (λb=>b=ab) g n db nb (upd V j l) (upd V j l) bad bf:=by
 obtain⟨R,S,⟨h1,h2,h3,h4,h5,h6,h7,h8,h9⟩,qM,qS⟩:=h.more hM hb hM2
 have hs:=hk.size
 have hnb:=qS _ h6.own
 have hne:ab≠nb:=by omega
 refine⟨R,λb=>S b\/b=ab,h1.keep hk (λb e=>by rw[e];exact(h4 _ h6.own).1),λb e=>Nat.lt_of_lt_of_le (h2 b e) hs,h3,λb e=>e.elim (λe=>⟨(h4 b e).1,Or.inl ((h4 b e).2.resolve_right (λe=>e))⟩) (λe=>by rw[e];exact⟨qM,Or.inr rfl⟩),h5,⟨λi hi=>?_,λi hi=>?_,λi=>(hf i).trans (h6.fr i),Or.inl h6.own⟩,h7.trans (hk.below h7.size (λb e=>by omega)),by omega,by omega⟩
 .by_cases e:i=j
  .subst e
   refine⟨_,c,hc,?_,λb off e=>by cases e;exact⟨Or.inr rfl,hne⟩⟩
   rw[upd_same]
   exact oL hk hL (λb off e=>by cases e;exact hne)
  .obtain⟨a,c2,q1,q2,q3⟩:=h6.row i hi
   refine⟨a,c2,(ho i e).trans q1,?_,λb off e=>⟨Or.inl (q3 b off e).1,(q3 b off e).2⟩⟩
   rw[upd_ne _ _ _ _ e]
   exact oL hk q2 (λb off e=>(q3 b off e).2)
 .by_cases e:i=j
  .subst e;rw[upd_same];exact hl
  .rw[upd_ne _ _ _ _ e];exact h6.len i hi
theorem Df{w1 wr w:World}{N:Nat}{X:Nat->Prop}{g:Gm}{n db nb bad bf:Nat}{Vd Vn:Nat->List Nat}(h:PX w1 wr w N X g n db nb Vd Vn bad bf){j:Nat}(hj:j<g.L):(∃ v,w.cell? ⟨nb,j,none⟩=some v)/\w.frozen? ⟨nb,j,none⟩=false/\nb<w.heap.size:=by
 obtain⟨R,S,_,h2,_,h4,_,h6,_⟩:=h
 obtain⟨a,c,q1,q2,_⟩:=h6.row j hj
 exact⟨⟨_,q1⟩,h6.fr j,h2 _ (h4 _ h6.own).1⟩
theorem MF(m:Nat):(List.replicate m 0).length=m:=List.length_replicate
theorem PX.trimmed{w1 wr w:World}{N:Nat}{g:Gm}{n db nb bad bf:Nat}{V:Nat->List Nat}{j m:Nat}(hm:g.Y-21=m)(h:PX w1 wr w N (λ_=>False) g n db nb (upd V j (List.replicate (g.Y-21) 0)) V bad bf)(hj:j<g.L)(PE:w1.heap.size<=nb)(q:Nat):PN w1 (((w.alloc (.cells (ah.nM m) 5)).drewN q).setCell ⟨nb,j,none⟩ (.slice (some ⟨w.heap.size,0,none⟩) m m)) g n db nb (upd V j (List.replicate (g.Y-21) 0)) bad bf:=by
 obtain⟨⟨v,hv⟩,hf,hnb⟩:=Df h hj
 subst hm
 have hb:Below w.heap.size w ((w.alloc (.cells (ah.nM (g.Y-21)) 5)).drewN q):=below_drewN (aC w _) q
 have hz:Row (w.alloc (.cells (ah.nM (g.Y-21)) 5)) w.heap.size (List.replicate (g.Y-21) 0):=heap_alloc_new w _
 have hv2:((w.alloc (.cells (ah.nM (g.Y-21)) 5)).drewN q).cell? ⟨nb,j,none⟩=some v:=(hb.cell (p:=⟨nb,j,none⟩) hnb).trans hv
 refine(PX.PL h hj (MF _) hb (Nat.le_refl _) (by simp) ((Keep.refl _ _).set1 _ _) (World.cell?_setCell_same _ _ _ hv2) (λi hi=>World.cell?_setCell_other _ _ _ _ (λe=>hi (by cases e;rfl))) (λi=>by simp) (iU (hz.below (below_drewN (Below.refl _ _) q))) PE).fin
theorem MG{w:World}{b o q:Nat}{v:Value}{x:Obj}(h:b<w.heap.size):((w.alloc x).drewN q).setCell ⟨b,o,none⟩ v=((w.setCell ⟨b,o,none⟩ v).alloc x).drewN q:=by
 have e:((w.alloc x).drewN q).setCell ⟨b,o,none⟩ v=((w.alloc x).setCell ⟨b,o,none⟩ v).drewN q:=rfl
 rw[e,World.setCell_alloc_past _ _ _ _ h]
theorem zY(HL:Lib){w1 w:World}{g:Gm}{n db nb cap:Nat}{V:Nat->List Nat}{bad bf:Nat}(h:PN w1 w g n db nb V bad bf)(hn:n<=100000000000000)(l s:Int)(hr:¬(0<=l/\l<(g.L:Int))) :
 Calls (PB prog false) 18 #[.pointer (some ⟨db,0,none⟩),.slice (some ⟨nb,0,none⟩) g.L cap,.agg #[.int .i64 2,.int .i64 l,.int .i64 s],.bool (Lt g bad)] w λe w'=>NJ e w1 w' g n db nb bad bf:=by
 have HP:Hid (∀ o,PX w1 w (w.alloc o) (w.alloc o).heap.size (λ_=>False) g n db nb V V bad bf):=λo=>h.begin (aC w o)
 obtain⟨m,hm⟩:∃ m,g.Y-21=m:=⟨_,rfl⟩
 have HS:Hid (∀ o,Calls (PB prog false) 13 #[.pointer (some ⟨db,0,none⟩)] (w.alloc o) λe w'=>e=.returned (.int .i64 (m:Nat))/\w'=w.alloc o):=λo=>by rw[<-hm];exact mK (HP.out o)
 have ht:fM g l=1:=if_pos hr
 have HR:Hid (∀ o,Calls (PB prog false) 30 #[.pointer (some ⟨db,0,none⟩),.int .i64 l] (w.alloc o) λe w'=>e=.returned (.iface 31 (.int .i64 1))/\PX w1 w w' (w.alloc o).heap.size (λ_=>False) g (n+1) db nb V V bad bf):=λo=>(J_ HL (HP.out o) hn l).mono λe w' ⟨c,V',bad',q0,q1,q2,q3⟩=>by
  rw[ht] at q3
  rcases q3 with ⟨_,rfl,rfl,rfl⟩|⟨q,_⟩
  .exact⟨q0,q1⟩
  .cases q
 have HE:=λW=>cO 1 1 true W (by simp)
 rw[J9] at HE
 clear h hm ht HP
 have hc:l<0\/(¬l<0/\(g.L:Int)<=l):=by omega
 clear hr
 have HT:=λW (hW:PX w1 w W (w.alloc (.cells #[.int .i64 2,.int .i64 l,.int .i64 s] 38)).heap.size (λ_=>False) g (n+1) db nb V V bad bf)=>fI hW
 generalize Lt g bad=lt at *
 rcases hc with h0|⟨h0,h1⟩<;>cases lt
 all_goals
  go_enter Al.func18,Tryz.ntmps18
  go_wp2_with fail
  refine(HS.out _).mono ?_
  rintro e wa ⟨rfl,rfl⟩
  go_wp2_with fail
  refine(HR.out _).mono ?_
  rintro e wb ⟨rfl,hpx⟩
  have HT2:=HT wb hpx
  clear HT hpx HR HS
  go_wp2_with fail
  refine(HE _).mono ?_
  rintro e wc ⟨rfl,rfl⟩
  go_wp2_with fail
  refine HT2.mono ?_
  rintro e wd ⟨rfl,q1,-⟩
  have HQ:Hid (PN w1 wd g (n+1) db nb V bad bf):=q1.fin
  clear HT2 q1
  go_wp2
  go_ret
  exact GU HQ.out (Nat.le_refl _) (λ_=>rfl)
theorem yH(HL:Lib){w1 w:World}{g:Gm}{n db nb cap:Nat}{V:Nat->List Nat}{bad bf:Nat}(h:PN w1 w g n db nb V bad bf)(hn:n<=100000000000000)(s:Int)(j:Nat)(hj:j<g.L)(hL:g.L<=256)(hY:g.Y<=277)(PE:w1.heap.size<=nb) :
 Calls (PB prog false) 18 #[.pointer (some ⟨db,0,none⟩),.slice (some ⟨nb,0,none⟩) g.L cap,.agg #[.int .i64 2,.int .i64 (j:Nat),.int .i64 s],.bool (Lt g bad)] w λe w'=>NJ e w1 w' g n db nb bad bf:=by
 have HP:Hid (∀ o,PX w1 w (w.alloc o) (w.alloc o).heap.size (λ_=>False) g n db nb V V bad bf):=λo=>h.begin (aC w o)
 obtain⟨m,hm⟩:∃ m,g.Y-21=m:=⟨_,rfl⟩
 have HS:Hid (∀ o,Calls (PB prog false) 13 #[.pointer (some ⟨db,0,none⟩)] (w.alloc o) λe w'=>e=.returned (.int .i64 (m:Nat))/\w'=w.alloc o):=λo=>by rw[<-hm];exact mK (HP.out o)
 have ht:fM g (j:Int)=0:=if_neg (by simp;omega)
 have HR:Hid (∀ o,Calls (PB prog false) 30 #[.pointer (some ⟨db,0,none⟩),.int .i64 (j:Nat)] (w.alloc o) λe w'=>∃ c V' bad',e=.returned (bU c)/\PX w1 w w' (w.alloc o).heap.size (λ_=>False) g (n+1) db nb V' V bad' bf/\IL w (w.alloc o).heap.size (w.alloc o) w'/\ChL g bad bad' V V' (upd V j (List.replicate (g.Y-21) 0)) c):=λo=>(J_ HL (HP.out o) hn j).mono λe w' ⟨c,V',bad',q0,q1,q2,q3⟩=>by
  rw[ht,Int.toNat_natCast] at q3
  exact⟨c,V',bad',q0,q1,q2,(q3.resolve_left (λe=>e.1 rfl)).2⟩
 have hmk:=ah.iM (zb:=false) m (by omega)
 have HM:Hid (g.Y-21=m):=hm
 have hm2:m<=256:=by omega
 have HZ:Hid (∀ o:Obj,w.heap.size<(w.alloc o).heap.size):=λo=>by simp
 have h0:¬((j:Int)<0):=by omega
 have h1:¬((g.L:Int)<=(j:Int)):=by omega
 clear h hm ht hY HP
 by_cases hb:g.spare<bad
 .have hlt:Lt g bad=true:=decide_eq_true hb
  rw[hlt]
  have HE:=λW=>cO 9 9 true W (by simp)
  rw[A8] at HE
  go_enter Al.func18,Tryz.ntmps18
  go_wp2_with fail
  refine(HS.out _).mono ?_
  rintro e wa ⟨rfl,rfl⟩
  go_wp2_with fail
  refine(HR.out _).mono ?_
  rintro e wb ⟨c,V',bad',rfl,q1,q2,q3⟩
  rcases q3 with ⟨_,rfl,rfl,rfl⟩|⟨e1,_⟩
  .have HT:=fI q1
   rw[hlt] at HT
   rw[A8]
   clear HR q1 q2 hlt HS
   go_wp2_with fail
   refine(HE _).mono ?_
   rintro e wc ⟨rfl,rfl⟩
   go_wp2_with fail
   refine HT.mono ?_
   rintro e wd ⟨rfl,q1,-⟩
   have HQ:Hid (PN w1 wd g (n+1) db nb V' bad' bf):=q1.fin
   clear HT q1
   go_wp2
   go_ret
   exact GU HQ.out (Nat.le_refl _) (λ_=>rfl)
  .exact absurd hb e1
 .have hlt:Lt g bad=false:=decide_eq_false hb
  rw[hlt]
  go_enter Al.func18,Tryz.ntmps18
  go_wp2_with fail
  refine(HS.out _).mono ?_
  rintro e wa ⟨rfl,rfl⟩
  go_wp2_with fail
  refine(HR.out _).mono ?_
  rintro e wb ⟨c,V',bad',rfl,q1,q2,q3⟩
  rcases q3 with ⟨e1,_⟩|⟨_,hle,⟨rfl,rfl,hb2⟩|⟨rfl,rfl,hb2⟩⟩
  .exact absurd e1 hb
  .have HE:=λW=>cO 0 0 true W (by simp)
   rw[bW] at HE ⊢
   have HT:=fI q1
   rw[show Lt g bad'=false from decide_eq_false hb2] at HT
   have hob:=q2.cell (b:=w.heap.size) (o:=1) (Nat.le_refl _) (HZ.out _) (v:=.int .i64 (j:Nat)) (by simp)
   clear HR q1 q2 hlt HS
   go_wp2_with fail
   refine(HE _).mono ?_
   rintro e wc ⟨rfl,rfl⟩
   go_wp2_with fail
   refine HT.mono ?_
   rintro e wd ⟨rfl,q1,q4⟩
   have aeW:=(q4.cell (p:=⟨w.heap.size,1,none⟩) (World.block_lt_of_cell? _ _ hob)).trans hob
   obtain⟨⟨v,hv⟩,hf,hnb⟩:=Df q1 hj
   have ahw:w.heap.size<wd.heap.size:=World.block_lt_of_cell? _ _ aeW
   have HQ:Hid (∀ q,PN w1 (((wd.alloc (.cells (ah.nM m) 5)).drewN q).setCell ⟨nb,j,none⟩ (.slice (some ⟨wd.heap.size,0,none⟩) m m)) g (n+1) db nb (upd V j (List.replicate (g.Y-21) 0)) bad' bf):=λq=>q1.trimmed HM.out hj PE q
   have HR2:Hid (∀ q,PN w1 (((wd.setCell ⟨nb,j,none⟩ (.slice (some ⟨wd.heap.size,0,none⟩) m m)).alloc (.cells (ah.nM m) 5)).drewN q) g (n+1) db nb (upd V j (List.replicate (g.Y-21) 0)) bad' bf):=λq=>by
    have:=HQ.out q
    rw[MG hnb] at this
    exact this
   clear HT q1 q4 hob HE HQ
   go_wp2
   go_region
   all_goals
    go_wp2
    go_ret
    exact GU (HR2.out _) hle (λe=>absurd e hb)
  .have HE:=λW=>cO 9 0 false W (by simp)
   have HE2:=λW=>cO 9 9 true W (by simp)
   rw[A8] at HE HE2 ⊢
   have HT:=fI q1
   rw[show Lt g bad'=true from decide_eq_true hb2] at HT
   clear HR q1 q2 hlt HS
   go_wp2_with fail
   refine(HE _).mono ?_
   rintro e wc ⟨rfl,rfl⟩
   go_wp2_with fail
   refine HT.mono ?_
   rintro e wd ⟨rfl,q1,-⟩
   have HQ:Hid (PN w1 wd g (n+1) db nb V' bad' bf):=q1.fin
   clear HT q1
   go_wp2_with fail
   refine(HE2 _).mono ?_
   rintro e we ⟨rfl,rfl⟩
   go_wp2
   go_ret
   exact GU HQ.out hle (λe=>absurd e hb)
theorem IK.data{w wr:World}{a:Option Addr}{cap i:Nat}{l:List Nat}(h:IK w wr a cap i l)(hi:1<=i):∃ bb,a=some ⟨bb,0,none⟩/\w.heap.size<=bb/\bb<wr.heap.size/\∀ W:World,W.heap[bb]?=wr.heap[bb]?->ZB W W bb i/\bL W (some ⟨bb,0,none⟩) l:=by
 have hl:=h.len
 rcases h.own.parts with ⟨_,_,e⟩|⟨g,cur,rfl,h1,h2,h3,h4,h5,h6⟩
 .rw[e] at hl;simp at hl;omega
 .have hlies:=h.own.lies.resolve_left (λe=>by rw[e] at hl;simp at hl;omega)
  obtain⟨g',off,e,hc⟩:=hlies
  cases e
  refine⟨g,rfl,h1,aV h2,λW hW=>?_⟩
  have hcell:∀ o,W.cell? ⟨g,o,none⟩=wr.cell? ⟨g,o,none⟩:=λo=>World.cell?_of_block hW
  refine⟨⟨Keep.refl _ _,λj hj=>⟨_,(hcell j).trans (by have:=hc j (by omega);rwa [Nat.zero_add] at this)⟩,λj=>by rw[World.frozen?_of_block (w:=wr) hW];exact dK h2 j⟩,Or.inr ⟨g,0,rfl,λj hj=>(hcell _).trans (hc j hj)⟩⟩
def WrL(w1 w w5:World)(g:Gm)(n db nb:Nat)(V:Nat->List Nat)(bad bf:Nat)(l:Int)(bb R6:Nat)(data:List Nat)(e:Ending)(wb:World):Prop:=∃ c V' bad',e=.returned (bU c)/\PX w1 w wb w5.heap.size (λ_=>False) g (n+1) db nb V' V bad' bf/\wb.heap[bb]?=w5.heap[bb]?/\(∀ o,wb.cell? ⟨w.heap.size,o,none⟩=w5.cell? ⟨w.heap.size,o,none⟩)/\bb<wb.heap.size/\w.heap.size<wb.heap.size/\AnL g bad bad' V V' (upd V l.toNat data) (fK g l R6) c
theorem lV(HL:Lib){w1 w w5:World}{g:Gm}{n db nb:Nat}{V:Nat->List Nat}{bad bf:Nat}(h:PN w1 w g n db nb V bad bf)(hn:n<=100000000000000){o:Obj}{ba:Option Addr}{Dg R6:Nat}{bl:List Nat}(hb:IK (w.alloc o) w5 ba Dg R6 bl)(h1:1<=R6)(h2:R6<=1000)(l:Int):∃ bb,ba=some ⟨bb,0,none⟩/\w.heap.size<bb/\bb<w5.heap.size/\(∀ W:World,W.heap[bb]?=w5.heap[bb]?->ZB W W bb R6/\bL W (some ⟨bb,0,none⟩) bl)/\bl.length=R6 /\
 Calls (PB prog false) 27 #[.pointer (some ⟨db,0,none⟩),.int .i64 l,.slice (some ⟨bb,0,none⟩) R6 Dg] w5 λe wb=>WrL w1 w w5 g n db nb V bad bf l bb R6 bl e wb:=by
 obtain⟨bb,rfl,q1,q2,q3⟩:=hb.data h1
 have hbw:Below w.heap.size w w5:=(aC w o).trans (hb.dx.mono (aC w o).size)
 have hpx:=h.begin hbw
 have hoz:(w.alloc o).heap.size=w.heap.size+1:=by simp
 have ho5:w.heap.size<w5.heap.size:=Nat.lt_of_lt_of_le (by rw[hoz];omega) hb.dx.size
 refine⟨bb,rfl,by omega,q2,q3,hb.len,?_⟩
 refine(PK HL hpx hn l bb Dg R6 bl hb.all (q3 w5 rfl).2 (by omega) q2 hb.len (by omega)).mono ?_
 rintro e wb ⟨c,V',bad',rfl,p1,p2,p3⟩
 have hs:w5.heap.size<=wb.heap.size:=by obtain⟨_,_,_,_,_,_,_,_,_,_,h9⟩:=p1;exact h9
 exact⟨c,V',bad',rfl,p1,p2 bb (by omega) q2 q2,λo=>World.cell?_of_block (p2 w.heap.size (Nat.le_refl _) ho5 ho5),by omega,by omega,p3⟩
theorem X7{w1 wr w:World}{N:Nat}{g:Gm}{n db nb bad bf:Nat}{Vd Vn:Nat->List Nat}(h:PX w1 wr w N (λ_=>False) g n db nb Vd Vn bad bf):nb<wr.heap.size:=by
 obtain⟨R,S,_,_,_,h4,_,h6,_⟩:=h
 exact(h4 _ h6.own).2.resolve_right (λe=>e)
theorem PO{ops:Array Oper}{o:Oper}{a:Act}{W:World}{K:Act->World->Prop}{Q:Exit->Act->World->Prop}{E:Prop}(hgd:o.guard=none)(s x:Operand)
 (ho:o.op=.call { callee:=.builtin .append,args:=#[s,x],argTypes:=#[60,60] }) (eb:Nat) (hs:a.eval s=.slice (some ⟨eb,0,none⟩) 0 0) (he:W.heap[eb]?=some (.cells #[] 5 (0,0)))
 (bb c m:Nat) (zs:List Nat) (hx:a.eval x=.slice (some ⟨bb,0,none⟩) m c) (hL:bL W (some ⟨bb,0,none⟩) zs) (hm:zs.length=m) (hb:m<=1048576) (h1:1<=m)
 (h:∀ ab fq w',bL w' (some ⟨ab,0,none⟩) zs->eb<=ab->ab<w'.heap.size->Keep (λb=>b=eb) W w'->K (a.put o.dst (.slice (some ⟨ab,0,none⟩) m fq)) w') :
 if Region.wanted o (yielded ops a.tmps)=true then Oper.wp (PB prog false) o a W K Q else E:=by
 obtain⟨i0,hi,hz0,hz1,hz2⟩:=info_parts (ah.info5 (zb:=false))
 have hown:W.ownsRow eb 5 1 (.slice (some ⟨eb,0,none⟩) 0 0) 0 []:=⟨rfl,Or.inr ⟨eb,0,#[],rfl,Nat.le_refl _,he,Nat.le_refl _,Nat.zero_le _,rfl,rfl⟩⟩
 subst hm
 refine step_append_lies W hgd s x 60 ho eb 5 i0 (.int .u8 0) 1 1 Al.underlying60 hi hz0 hz1 hz2 rfl (by decide) (.slice (some ⟨eb,0,none⟩) 0 0) 0 [] hs hown ⟨bb,0,none⟩ zs.length c (zs.map bv) hx (by simp) ?_ (Oq zs) (by omega) (by unfold maxLen;omega) (by omega) (Nat.le_of_lt (aV he)) W.heap.size rfl ?_
 .rcases hL with h|⟨b,off,e,hc⟩
  .subst h
   intro j u hj
   simp at hj
  .cases e
   exact JL hc
 .intro g fq w' q1 q2 q3 q4
  rw[Nat.zero_add,List.nil_append] at q1
  rw[Nat.zero_add]
  have hA:eZ w' eb (some ⟨g,0,none⟩) fq zs:=q1
  have hge:=(hA.ge (b:=g) ⟨_,rfl,rfl⟩).1
  exact h g fq w' hA.lies hge q4 ((jZ q2).mono λb e=>Oh e)
theorem jP(HL:Lib){w1 w:World}{g:Gm}{n db nb cap:Nat}{V:Nat->List Nat}{bad bf:Nat}(h:PN w1 w g n db nb V bad bf)(hn:n<=100000000000000)(hY0:24<=g.Y)(hY:g.Y<=277)(l s:Int)(long:Bool)(hs:if long then s.tmod 17=16 else ¬s.tmod 17=16)(hr:¬(0<=l/\l<(g.L:Int))\/(0<=l/\l<(g.L:Int)/\long=true))(hL:g.L<=256) :
 Calls (PB prog false) 18 #[.pointer (some ⟨db,0,none⟩),.slice (some ⟨nb,0,none⟩) g.L cap,.agg #[.int .i64 1,.int .i64 l,.int .i64 s],.bool (Lt g bad)] w λe w'=>NJ e w1 w' g n db nb bad bf:=by
 have hw1:=h.szr
 have HW:Hid (w1.heap.size<=w.heap.size):=hw1
 obtain⟨m,hm⟩:∃ m,g.Y-21=m:=⟨_,rfl⟩
 have HS:Hid (∀ o,Calls (PB prog false) 13 #[.pointer (some ⟨db,0,none⟩)] (w.alloc o) λe w'=>e=.returned (.int .i64 (m:Nat))/\w'=w.alloc o):=λo=>by rw[<-hm];exact mK (h.begin (aC w o))
 have hm1:3<=m:=by omega
 have hm2:m<=256:=by omega
 have HM:Hid (g.Y-21=m):=hm
 have HN:Hid (PN w1 w g n db nb V bad bf):=h
 clear h hw1 hm hY hY0
 have hc:(l<0\/(¬l<0/\(g.L:Int)<=l))\/(¬l<0/\¬(g.L:Int)<=l/\long=true):=by
  rcases hr with hr|⟨h1,h2,h3⟩
  .exact Or.inl (by omega)
  .exact Or.inr ⟨by omega,by omega,h3⟩
 have HT:=λN W (hW:PX w1 w W N (λ_=>False) g (n+1) db nb V V bad bf)=>fI hW
 clear hr
 generalize Lt g bad=lt at *
 have HE1:=λW=>cO 1 1 true W (by simp)
 rw[J9] at HE1
 have HE2:=λW=>cO 2 2 true W (by simp)
 rw[WG] at HE2
 cases long
 .have hs0:¬s.tmod 17=16:=hs
  have hs1:(s.tmod 17==16)=false:=by simpa using hs0
  clear hs
  rcases hc with (h0|⟨h0,h1⟩)|⟨_,_,e⟩
  rotate_left 2
  .cases e
  all_goals
   cases lt
   all_goals
    go_enter Al.func18,Tryz.ntmps18
    go_wp2_with fail
    refine(HS.out _).mono ?_
    rintro e wa ⟨rfl,rfl⟩
    go_wp2_with fail
    refine(lU s (m) _ (by omega)).mono ?_
    rintro e w5 ⟨ba,Dg,bl,rfl,hbk⟩
    obtain⟨bb,rfl,qZ,ru,hbd,hbl,hwr⟩:=lV HL HN.out hn hbk (by omega) (by omega) l
    have o1:=hbk.dx.cell (p:=⟨w.heap.size,1,none⟩) (by simp)
    simp at o1
    have qD:Hid ((∀ W:World,W.heap[bb]?=w5.heap[bb]?->ZB W W bb (m)/\bL W (some ⟨bb,0,none⟩) bl)/\w.heap.size<bb/\bl.length=m/\bb<w5.heap.size):=⟨hbd,qZ,hbl,ru⟩
    clear hbk qZ ru hbd hbl
    go_wp2_with fail
    refine hwr.mono ?_
    rintro e wb ⟨c,V',bad',rfl,q1,q2,q3,q4,q5,q6⟩
    obtain⟨rfl,rfl,rfl,-⟩:c=1/\V'=V/\bad'=bad/\True:=by
     have hk:fK g l (m)=1:=if_pos (by omega)
     rw[hk] at q6
     rcases q6 with ⟨_,e1,e2,e3⟩|⟨e,_⟩
     .exact⟨e1,e2,e3,trivial⟩
     .cases e
    rw[J9]
    have HT2:=HT _ wb q1
    have HK:Hid (wb.heap[bb]?=w5.heap[bb]?/\bb<wb.heap.size):=⟨q2,q4⟩
    clear HT q1 q2 q3 q4 q5 q6 hwr o1
    go_wp2_with fail
    refine(HE1 _).mono ?_
    rintro e wc ⟨rfl,rfl⟩
    go_wp2_with fail
    refine HT2.mono ?_
    rintro e wz ⟨rfl,q1,q2⟩
    have F6:Hid (ZB wz wz bb (m)):=(qD.out.1 wz ((q2.block bb HK.out.2).trans HK.out.1)).1
    have F7:Hid (∀ W,Keep (λb=>b=bb) wz W->PN w1 W g (n+1) db nb V' bad' bf):=λW hk=>q1.turn (Nat.le_of_lt qD.out.2.1) qD.out.2.2.2 (λe=>e) HW.out hk
    clear HT2 q1 q2 HK
    go_wp2
    go_loopw [19] (λx wq=>∃ (i:Nat),i<=m/\x=.int .i64 i/\Hid (ZB wz wq bb (m))) (λx _=>m-(intOf x).toNat)
    case atStart=>exact⟨0,Nat.zero_le _,rfl,F6.out⟩
    case round =>
     obtain⟨i,hi,rfl,hR⟩:=hrel
     by_cases hlt:i<m
     .obtain⟨x,hx⟩:=hR.out.cell i hlt
      have hf:=hR.out.free i
      have PS:Hid (∀ y,ZB wz (wr.setCell ⟨bb,i,none⟩ (.int .u8 y)) bb (m)):=λy=>hR.out.set i y
      clear hR
      go_wp2
      exact⟨⟨i+1,by omega,by go_num,PS.out _⟩,by simp[intOf];omega⟩
     .have PU:Hid (PN w1 wr g (n+1) db nb V' bad' bf):=F7.out wr hR.out.keep
      clear hR F7 F6
      go_wp2
      go_ret
      exact GU PU.out (Nat.le_refl _) (λ_=>rfl)
 .have hs0:s.tmod 17=16:=hs
  have hs1:(s.tmod 17==16)=true:=by simpa using hs0
  clear hs
  rcases hc with (h0|⟨h0,h1⟩)|⟨h0,h1,_⟩
  rotate_left 2
  .cases lt
   all_goals
    go_enter Al.func18,Tryz.ntmps18
    go_wp2_with fail
    refine(HS.out _).mono ?_
    rintro e wa ⟨rfl,rfl⟩
    go_wp2_with fail
    refine(lU s (m+1) _ (by omega)).mono ?_
    rintro e w5 ⟨ba,Dg,bl,rfl,hbk⟩
    obtain⟨bb,rfl,qZ,ru,hbd,hbl,hwr⟩:=lV HL HN.out hn hbk (by omega) (by omega) l
    have o1:=hbk.dx.cell (p:=⟨w.heap.size,1,none⟩) (by simp)
    simp at o1
    have qD:Hid ((∀ W:World,W.heap[bb]?=w5.heap[bb]?->ZB W W bb (m+1)/\bL W (some ⟨bb,0,none⟩) bl)/\w.heap.size<bb/\bl.length=m+1/\bb<w5.heap.size):=⟨hbd,qZ,hbl,ru⟩
    clear hbk qZ ru hbd hbl
    go_wp2_with fail
    refine hwr.mono ?_
    rintro e wb ⟨c,V',bad',rfl,q1,q2,q3,q4,q5,q6⟩
    obtain⟨rfl,rfl,rfl,-⟩:c=2/\V'=V/\bad'=bad/\True:=by
     have hk:fK g l (m+1)=2:=by unfold fK;rw[if_neg (by omega),if_pos (by have:=HM.out;omega)]
     rw[hk] at q6
     rcases q6 with ⟨_,e1,e2,e3⟩|⟨e,_⟩
     .exact⟨e1,e2,e3,trivial⟩
     .cases e
    rw[WG]
    have HT2:=HT _ wb q1
    have HK:Hid (wb.heap[bb]?=w5.heap[bb]?/\bb<wb.heap.size):=⟨q2,q4⟩
    clear HT q1 q2 q3 q4 q5 q6 hwr o1
    go_wp2_with fail
    refine(HE2 _).mono ?_
    rintro e wc ⟨rfl,rfl⟩
    go_wp2_with fail
    refine HT2.mono ?_
    rintro e wz ⟨rfl,q1,q2⟩
    have F6:Hid (ZB wz wz bb (m+1)):=(qD.out.1 wz ((q2.block bb HK.out.2).trans HK.out.1)).1
    have F7:Hid (∀ W,Keep (λb=>b=bb) wz W->PN w1 W g (n+1) db nb V' bad' bf):=λW hk=>q1.turn (Nat.le_of_lt qD.out.2.1) qD.out.2.2.2 (λe=>e) HW.out hk
    clear HT2 q1 q2 HK
    go_wp2
    go_loopw [19] (λx wq=>∃ (i:Nat),i<=m+1/\x=.int .i64 i/\Hid (ZB wz wq bb (m+1))) (λx _=>m+1-(intOf x).toNat)
    case atStart=>exact⟨0,Nat.zero_le _,rfl,F6.out⟩
    case round =>
     obtain⟨i,hi,rfl,hR⟩:=hrel
     by_cases hlt:i<m+1
     .obtain⟨x,hx⟩:=hR.out.cell i hlt
      have hf:=hR.out.free i
      have PS:Hid (∀ y,ZB wz (wr.setCell ⟨bb,i,none⟩ (.int .u8 y)) bb (m+1)):=λy=>hR.out.set i y
      clear hR
      go_wp2
      exact⟨⟨i+1,by omega,by go_num,PS.out _⟩,by simp[intOf];omega⟩
     .have PU:Hid (PN w1 wr g (n+1) db nb V' bad' bf):=F7.out wr hR.out.keep
      clear hR F7 F6
      go_wp2
      go_ret
      exact GU PU.out (Nat.le_refl _) (λ_=>rfl)
  all_goals
   cases lt
   all_goals
    go_enter Al.func18,Tryz.ntmps18
    go_wp2_with fail
    refine(HS.out _).mono ?_
    rintro e wa ⟨rfl,rfl⟩
    go_wp2_with fail
    refine(lU s (m+1) _ (by omega)).mono ?_
    rintro e w5 ⟨ba,Dg,bl,rfl,hbk⟩
    obtain⟨bb,rfl,qZ,ru,hbd,hbl,hwr⟩:=lV HL HN.out hn hbk (by omega) (by omega) l
    have o1:=hbk.dx.cell (p:=⟨w.heap.size,1,none⟩) (by simp)
    simp at o1
    have qD:Hid ((∀ W:World,W.heap[bb]?=w5.heap[bb]?->ZB W W bb (m+1)/\bL W (some ⟨bb,0,none⟩) bl)/\w.heap.size<bb/\bl.length=m+1/\bb<w5.heap.size):=⟨hbd,qZ,hbl,ru⟩
    clear hbk qZ ru hbd hbl
    go_wp2_with fail
    refine hwr.mono ?_
    rintro e wb ⟨c,V',bad',rfl,q1,q2,q3,q4,q5,q6⟩
    obtain⟨rfl,rfl,rfl,-⟩:c=1/\V'=V/\bad'=bad/\True:=by
     have hk:fK g l (m+1)=1:=if_pos (by omega)
     rw[hk] at q6
     rcases q6 with ⟨_,e1,e2,e3⟩|⟨e,_⟩
     .exact⟨e1,e2,e3,trivial⟩
     .cases e
    rw[J9]
    have HT2:=HT _ wb q1
    have HK:Hid (wb.heap[bb]?=w5.heap[bb]?/\bb<wb.heap.size):=⟨q2,q4⟩
    clear HT q1 q2 q3 q4 q5 q6 hwr o1
    go_wp2_with fail
    refine(HE1 _).mono ?_
    rintro e wc ⟨rfl,rfl⟩
    go_wp2_with fail
    refine HT2.mono ?_
    rintro e wz ⟨rfl,q1,q2⟩
    have F6:Hid (ZB wz wz bb (m+1)):=(qD.out.1 wz ((q2.block bb HK.out.2).trans HK.out.1)).1
    have F7:Hid (∀ W,Keep (λb=>b=bb) wz W->PN w1 W g (n+1) db nb V' bad' bf):=λW hk=>q1.turn (Nat.le_of_lt qD.out.2.1) qD.out.2.2.2 (λe=>e) HW.out hk
    clear HT2 q1 q2 HK
    go_wp2
    go_loopw [19] (λx wq=>∃ (i:Nat),i<=m+1/\x=.int .i64 i/\Hid (ZB wz wq bb (m+1))) (λx _=>m+1-(intOf x).toNat)
    case atStart=>exact⟨0,Nat.zero_le _,rfl,F6.out⟩
    case round =>
     obtain⟨i,hi,rfl,hR⟩:=hrel
     by_cases hlt:i<m+1
     .obtain⟨x,hx⟩:=hR.out.cell i hlt
      have hf:=hR.out.free i
      have PS:Hid (∀ y,ZB wz (wr.setCell ⟨bb,i,none⟩ (.int .u8 y)) bb (m+1)):=λy=>hR.out.set i y
      clear hR
      go_wp2
      exact⟨⟨i+1,by omega,by go_num,PS.out _⟩,by simp[intOf];omega⟩
     .have PU:Hid (PN w1 wr g (n+1) db nb V' bad' bf):=F7.out wr hR.out.keep
      clear hR F7 F6
      go_wp2
      go_ret
      exact GU PU.out (Nat.le_refl _) (λ_=>rfl)
theorem uq(HL:Lib){w1 w:World}{g:Gm}{n db nb cap:Nat}{V:Nat->List Nat}{bad bf:Nat}(h:PN w1 w g n db nb V bad bf)(hn:n<=100000000000000)(hY0:24<=g.Y)(hY:g.Y<=277)(s:Int)(j:Nat)(hs:¬s.tmod 17=16)(hj:j<g.L)(hL:g.L<=256)(PE:w1.heap.size<=nb) :
 Calls (PB prog false) 18 #[.pointer (some ⟨db,0,none⟩),.slice (some ⟨nb,0,none⟩) g.L cap,.agg #[.int .i64 1,.int .i64 (j:Nat),.int .i64 s],.bool (Lt g bad)] w λe w'=>NJ e w1 w' g n db nb bad bf:=by
 have hw1:=h.szr
 have HW:Hid (w1.heap.size<=w.heap.size):=hw1
 obtain⟨m,hm⟩:∃ m,g.Y-21=m:=⟨_,rfl⟩
 have HS:Hid (∀ o,Calls (PB prog false) 13 #[.pointer (some ⟨db,0,none⟩)] (w.alloc o) λe w'=>e=.returned (.int .i64 (m:Nat))/\w'=w.alloc o):=λo=>by rw[<-hm];exact mK (h.begin (aC w o))
 have hm1:3<=m:=by omega
 have hm2:m<=256:=by omega
 have HM:Hid (g.Y-21=m):=hm
 have HN:Hid (PN w1 w g n db nb V bad bf):=h
 have hs1:(s.tmod 17==16)=false:=by simpa using hs
 have h0:¬((j:Int)<0):=by omega
 have h1:¬((g.L:Int)<=(j:Int)):=by omega
 have hk0:fK g (j:Int) m=0:=by unfold fK;rw[if_neg (by simp;omega),if_neg (by omega)]
 clear h hw1 hm hY hY0
 by_cases hb:g.spare<bad
 .have hlt:Lt g bad=true:=decide_eq_true hb
  rw[hlt]
  have HE:=λW=>cO 9 9 true W (by simp)
  rw[A8] at HE
  go_enter Al.func18,Tryz.ntmps18
  go_wp2_with fail
  refine(HS.out _).mono ?_
  rintro e wa ⟨rfl,rfl⟩
  go_wp2_with fail
  refine(lU s (m) _ (by omega)).mono ?_
  rintro e w5 ⟨ba,Dg,bl,rfl,hbk⟩
  obtain⟨bb,rfl,qZ,ru,hbd,hbl,hwr⟩:=lV HL HN.out hn hbk (by omega) (by omega) (j:Nat)
  have o1:=hbk.dx.cell (p:=⟨w.heap.size,1,none⟩) (by simp)
  simp at o1
  have qD:Hid ((∀ W:World,W.heap[bb]?=w5.heap[bb]?->ZB W W bb (m)/\bL W (some ⟨bb,0,none⟩) bl)/\w.heap.size<bb/\bl.length=m/\bb<w5.heap.size):=⟨hbd,qZ,hbl,ru⟩
  clear hbk qZ ru hbd hbl
  go_wp2_with fail
  refine hwr.mono ?_
  rintro e wb ⟨c,V',bad',rfl,q1,q2,q3,q4,q5,q6⟩
  obtain⟨rfl,rfl,rfl,-⟩:c=9/\V'=V/\bad'=bad/\True:=by
   rw[hk0] at q6
   rcases q6 with ⟨e,_⟩|⟨_,⟨_,e1,e2,e3⟩|⟨e,_⟩⟩
   .exact absurd rfl e
   .exact⟨e1,e2,e3,trivial⟩
   .exact absurd hb e
  rw[A8]
  have HT2:=fI q1
  rw[hlt] at HT2
  have HK:Hid (wb.heap[bb]?=w5.heap[bb]?/\bb<wb.heap.size):=⟨q2,q4⟩
  clear q1 q2 q3 q4 q5 q6 hwr o1 hlt
  go_wp2_with fail
  refine(HE _).mono ?_
  rintro e wc ⟨rfl,rfl⟩
  go_wp2_with fail
  refine HT2.mono ?_
  rintro e wz ⟨rfl,q1,q2⟩
  have F6:Hid (ZB wz wz bb m):=(qD.out.1 wz ((q2.block bb HK.out.2).trans HK.out.1)).1
  have F7:Hid (∀ W,Keep (λb=>b=bb) wz W->PN w1 W g (n+1) db nb V' bad' bf):=λW hk=>q1.turn (Nat.le_of_lt qD.out.2.1) qD.out.2.2.2 (λe=>e) HW.out hk
  clear HT2 q1 q2 HK
  go_wp2
  go_loopw [19] (λx wq=>∃ (i:Nat),i<=m/\x=.int .i64 i/\Hid (ZB wz wq bb (m))) (λx _=>m-(intOf x).toNat)
  case atStart=>exact⟨0,Nat.zero_le _,rfl,F6.out⟩
  case round =>
   obtain⟨i,hi,rfl,hR⟩:=hrel
   by_cases hlt:i<m
   .obtain⟨x,hx⟩:=hR.out.cell i hlt
    have hf:=hR.out.free i
    have PS:Hid (∀ y,ZB wz (wr.setCell ⟨bb,i,none⟩ (.int .u8 y)) bb (m)):=λy=>hR.out.set i y
    clear hR
    go_wp2
    exact⟨⟨i+1,by omega,by go_num,PS.out _⟩,by simp[intOf];omega⟩
   .have PU:Hid (PN w1 wr g (n+1) db nb V' bad' bf):=F7.out wr hR.out.keep
    clear hR F7 F6
    go_wp2
    go_ret
    exact GU PU.out (Nat.le_refl _) (λ_=>rfl)
 .have hlt:Lt g bad=false:=decide_eq_false hb
  rw[hlt]
  go_enter Al.func18,Tryz.ntmps18
  go_wp2_with fail
  refine(HS.out _).mono ?_
  rintro e wa ⟨rfl,rfl⟩
  go_wp2_with fail
  refine(lU s (m) _ (by omega)).mono ?_
  rintro e w5 ⟨ba,Dg,bl,rfl,hbk⟩
  obtain⟨bb,rfl,qZ,ru,hbd,hbl,hwr⟩:=lV HL HN.out hn hbk (by omega) (by omega) (j:Nat)
  have o1:=hbk.dx.cell (p:=⟨w.heap.size,1,none⟩) (by simp)
  simp at o1
  have qD:Hid ((∀ W:World,W.heap[bb]?=w5.heap[bb]?->ZB W W bb (m)/\bL W (some ⟨bb,0,none⟩) bl)/\w.heap.size<bb/\bl.length=m/\bb<w5.heap.size):=⟨hbd,qZ,hbl,ru⟩
  clear hbk qZ ru hbd hbl
  go_wp2_with fail
  refine hwr.mono ?_
  rintro e wb ⟨c,V',bad',rfl,q1,q2,q3,q4,q5,q6⟩
  rw[hk0,Int.toNat_natCast] at q6
  rcases (q6.resolve_left (λe=>e.1 rfl)).2 with ⟨e,_⟩|⟨_,hle,⟨rfl,rfl,hb2⟩|⟨rfl,rfl,hb2⟩⟩
  .exact absurd e hb
  .have HE:=λW=>cO 0 0 true W (by simp)
   rw[bW] at HE ⊢
   have HT2:=fI q1
   rw[show Lt g bad'=false from decide_eq_false hb2] at HT2
   have ob:=(q3 1).trans o1
   have HK:Hid (wb.heap[bb]?=w5.heap[bb]?/\bb<wb.heap.size/\w.heap.size<wb.heap.size):=⟨q2,q4,q5⟩
   clear q1 q2 q3 q4 q5 q6 hwr o1 hlt
   go_wp2_with fail
   refine(HE _).mono ?_
   rintro e wc ⟨rfl,rfl⟩
   go_wp2_with fail
   refine HT2.mono ?_
   rintro e wd ⟨rfl,q1,q2⟩
   have hbd:=qD.out.1 wd ((q2.block bb HK.out.2.1).trans HK.out.1)
   have od:=(q2.cell (p:=⟨w.heap.size,1,none⟩) HK.out.2.2).trans ob
   obtain⟨⟨v,hv⟩,hf,hnb⟩:=Df q1 hj
   have HSL:Hid ((∃ v,wd.cell? ⟨nb,j,none⟩=some v)/\wd.frozen? ⟨nb,j,none⟩=false/\nb<wd.heap.size/\bb<wd.heap.size/\w.heap.size<wd.heap.size):=⟨⟨v,hv⟩,hf,hnb,Nat.lt_of_lt_of_le HK.out.2.1 q2.size,Nat.lt_of_lt_of_le HK.out.2.2 q2.size⟩
   have HQ1:Hid (PX w1 w wd w5.heap.size (λ_=>False) g (n+1) db nb (upd V j bl) V bad' bf):=q1
   have HBW:Hid (wd.heap[bb]?=w5.heap[bb]?):=(q2.block bb HK.out.2.1).trans HK.out.1
   have HLS:Hid (bL wd (some ⟨bb,0,none⟩) bl/\ZB wd wd bb m):=⟨hbd.2,hbd.1⟩
   have acf:=HSL.out.2.2.2.1
   have hwl:=HSL.out.2.2.2.2
   clear HT2 q1 q2 ob HE hbd HK
   go_upto_region 22 with fail
   go_cut [] (λwx=>Hid (∃ ab,ab≠bb/\PX w1 w wx w5.heap.size (λb=>b=ab) g (n+1) db nb (upd V j bl) (upd V j bl) bad' bf/\wx.heap[bb]?=wd.heap[bb]?))
   case first =>
    go_region_law ((refine PO (by rfl) (.tmp 120) (.tmp 121) (by rfl) wd.heap.size (by simp[Act.eval]) (heap_alloc_new wd _) bb Dg m bl (by simp[Act.eval]) (oL (T:=λ_=>False) (((Keep.refl _ wd).alloc _).drew) HLS.out.1 (λ_ _ _ e=>e)) qD.out.2.2.1 (by omega) (by omega) ?_;intro ab fq w9 hl9 hge acg hk9;have hk8:Keep (λb=>b=wd.heap.size) wd w9:=(((Keep.refl _ wd).alloc _).drew).trans hk9;have WH:Below wd.heap.size wd w9:=hk8.below (Nat.le_refl _) (λb e=>Nat.le_of_eq e.symm);have hv9:=(WH.cell (p:=⟨nb,j,none⟩) hnb).trans hv;have hf9:=(WH.frozen (p:=⟨nb,j,none⟩) hnb).trans hf;have od9:=(WH.cell (p:=⟨w.heap.size,1,none⟩) hwl).trans od;have HG9:Hid (Below wd.heap.size wd w9/\wd.heap.size<=ab/\ab<w9.heap.size/\bL w9 (some ⟨ab,0,none⟩) bl/\w9.cell? ⟨nb,j,none⟩=some v):=⟨WH,hge,acg,hl9,hv9⟩;clear hk9 hk8 WH hge acg hl9))
    all_goals (try go_wp2_with fail)
    all_goals
     go_meet
     obtain⟨g1,g2,g3,g4,g5⟩:=HG9.out
     refine⟨ab,by omega,?_,?_⟩
     .refine PX.PL HQ1.out hj (by rw[qD.out.2.2.1,HM.out]) g1 g2 g3 ((Keep.refl _ _).set1 _ _) (by rw[HM.out];exact World.cell?_setCell_same _ _ _ g5) (λi hi=>World.cell?_setCell_other _ _ _ _ (λe=>hi (by cases e;rfl))) (λi=>by simp) g4 PE
     .have hne:bb≠nb:=by have:=qD.out.2.1;have:=X7 HQ1.out;omega
      exact(((Keep.refl (λb=>b=nb) w9).set1 _ _).block bb (Nat.lt_of_lt_of_le acf g1.size) hne).trans (g1.block bb acf)
   case rest =>
   obtain⟨wz,rfl⟩:∃ wz,wz=wc:=⟨_,rfl⟩
   obtain⟨ab,hab,hpx,hblk⟩:=hcut.out
   have F6:Hid (ZB wz wz bb m):=(qD.out.1 wz (hblk.trans HBW.out)).1
   have F7:Hid (∀ W,Keep (λb=>b=bb) wz W->PN w1 W g (n+1) db nb (upd V j bl) bad' bf):=λW hk=>hpx.turn (Nat.le_of_lt qD.out.2.1) qD.out.2.2.2 (λe=>hab e.symm) HW.out hk
   clear hcut hpx hblk HQ1 HLS HSL hv hf hnb od
   go_wp2
   go_loopw [19] (λx wq=>∃ (i:Nat),i<=m/\x=.int .i64 i/\Hid (ZB wz wq bb (m))) (λx _=>m-(intOf x).toNat)
   case atStart=>exact⟨0,Nat.zero_le _,rfl,F6.out⟩
   case round =>
    obtain⟨i,hi,rfl,hR⟩:=hrel
    by_cases hlt:i<m
    .obtain⟨x,hx⟩:=hR.out.cell i hlt
     have hf:=hR.out.free i
     have PS:Hid (∀ y,ZB wz (wr.setCell ⟨bb,i,none⟩ (.int .u8 y)) bb (m)):=λy=>hR.out.set i y
     clear hR
     go_wp2
     exact⟨⟨i+1,by omega,by go_num,PS.out _⟩,by simp[intOf];omega⟩
    .have PU:Hid (PN w1 wr g (n+1) db nb (upd V j bl) bad' bf):=F7.out wr hR.out.keep
     clear hR F7 F6
     go_wp2
     go_ret
     exact GU PU.out hle (λe=>absurd e hb)
  .have HE:=λW=>cO 9 0 false W (by simp)
   have HE2:=λW=>cO 9 9 true W (by simp)
   rw[A8] at HE HE2 ⊢
   have HT2:=fI q1
   rw[show Lt g bad'=true from decide_eq_true hb2] at HT2
   have HK:Hid (wb.heap[bb]?=w5.heap[bb]?/\bb<wb.heap.size):=⟨q2,q4⟩
   clear q1 q2 q3 q4 q5 q6 hwr o1 hlt
   go_wp2_with fail
   refine(HE _).mono ?_
   rintro e wc ⟨rfl,rfl⟩
   go_wp2_with fail
   refine HT2.mono ?_
   rintro e wz ⟨rfl,q1,q2⟩
   have F6:Hid (ZB wz wz bb m):=(qD.out.1 wz ((q2.block bb HK.out.2).trans HK.out.1)).1
   have F7:Hid (∀ W,Keep (λb=>b=bb) wz W->PN w1 W g (n+1) db nb V' bad' bf):=λW hk=>q1.turn (Nat.le_of_lt qD.out.2.1) qD.out.2.2.2 (λe=>e) HW.out hk
   clear HT2 q1 q2 HK
   go_wp2_with fail
   refine(HE2 _).mono ?_
   rintro e we ⟨rfl,rfl⟩
   obtain⟨wz,rfl⟩:∃ wz,wz=we:=⟨_,rfl⟩
   go_wp2
   go_loopw [19] (λx wq=>∃ (i:Nat),i<=m/\x=.int .i64 i/\Hid (ZB wz wq bb (m))) (λx _=>m-(intOf x).toNat)
   case atStart=>exact⟨0,Nat.zero_le _,rfl,F6.out⟩
   case round =>
    obtain⟨i,hi,rfl,hR⟩:=hrel
    by_cases hlt:i<m
    .obtain⟨x,hx⟩:=hR.out.cell i hlt
     have hf:=hR.out.free i
     have PS:Hid (∀ y,ZB wz (wr.setCell ⟨bb,i,none⟩ (.int .u8 y)) bb (m)):=λy=>hR.out.set i y
     clear hR
     go_wp2
     exact⟨⟨i+1,by omega,by go_num,PS.out _⟩,by simp[intOf];omega⟩
    .have PU:Hid (PN w1 wr g (n+1) db nb V' bad' bf):=F7.out wr hR.out.keep
     clear hR F7 F6
     go_wp2
     go_ret
     exact GU PU.out hle (λe=>absurd e hb)
